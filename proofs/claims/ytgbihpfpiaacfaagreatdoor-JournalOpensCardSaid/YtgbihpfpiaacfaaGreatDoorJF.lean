/- What one segment's records say: read, of one segment that is whole and sure. -/
import Derived.Test.YtgbihpfpiaacfaaGreatDoorJG
set_option linter.unusedVariables false
set_option linter.unusedSimpArgs false
set_option maxRecDepth 100000
namespace Go.Proofs.YtgbihpfpiaacfaaGreatDoor
open Go.RowKit Go.Shelf Go.WideMaps Go.Maps
attribute [local go_sem] Oper.semAt_some

set_option maxHeartbeats 6400000 in
theorem read_in (n : Nat) (hn : 4 ≤ n) (w : World) (B q d : Nat) (s : DS) (most sz : Int) (l : Nat) (h : JK w B q d s most (l : Int) l sz) (hl : 1 ≤ l ∧ l < 100) (hf : fnd s (sg l) = 0) (bs : List Nat) (hx : (fval s (sg l)).b = bi bs) (hb : Rc.Byt bs) (hlen : bs.length ≤ 600)
    (hw : Rc.takes (Rc.recs bs) = bs.length) (hs : (fval s (sg l)).s = (bs.length : Int)) (hfs : ∀ x ∈ s.l, x.b.length ≤ 100000000) (g cap : Nat) (hg : w.cell? ⟨g, 0, none⟩ = some (.int .i64 (l : Int))) :
    CallsIn Fence.wide n Tryz.prog 39 #[.pointer (some ⟨q, 0, none⟩), .slice (some ⟨g, 0, none⟩) 1 cap] w fun e w' => ∃ v, e = .returned (.tuple #[v, .int .i64 0]) ∧ Says w' w.heap.size v ((Rc.recs bs).map (·.2)) ∧ JK w' B q d s most l l bs.length ∧ Far (Lh d s q) w w' := by
  have h1 : 1 ≤ n := by omega
  have hro : Fence.wide.round = none := rfl
  obtain ⟨W0, hW0⟩ : ∃ z, (w.alloc (.cells #[.slice none 0 0] 30)).alloc (.cells #[.int .i64 0] 3) = z := ⟨_, rfl⟩
  have b1 := vstep w (.cells #[.slice none 0 0] 30)
  have b2 := vstep (w.alloc (.cells #[.slice none 0 0] 30)) (.cells #[.int .i64 0] 3)
  have n1 := heap_alloc_new w (.cells #[.slice none 0 0] 30)
  have n2 := heap_alloc_new (w.alloc (.cells #[.slice none 0 0] 30)) (.cells #[.int .i64 0] 3)
  have n1 := (b2.block _ (lt_of_block n1)).trans n1
  rw [World.size_alloc] at n2
  have B0 := Lib.hid (b1.trans (b2.mono b1.size))
  rw [hW0] at n1 n2 B0
  have N1 := Lib.hid n1
  have N2 := Lib.hid n2
  have HJ := Lib.hid h
  have J0 := Lib.hid (h.step B0.out)
  have HG := Lib.hid hg
  have g0 := (B0.out.cell (p := ⟨g, 0, none⟩) (World.block_lt_of_cell? w _ hg)).trans hg
  have HW := Lib.hid hW0
  have k1 : W0.cell? ⟨w.heap.size, 0, none⟩ = some (.slice none 0 0) := (cell_of_row _ _ _ _ _ _ N1.out).trans rfl
  have k2 : W0.cell? ⟨w.heap.size + 1, 0, none⟩ = some (.int .i64 0) := (cell_of_row _ _ _ _ _ _ N2.out).trans rfl
  have z2 : W0.frozen? ⟨w.heap.size + 1, 0, none⟩ = false := frozen_of_row _ _ _ _ _ N2.out
  clear b1 b2 n1 n2 hW0 h hg
  refine callsIn_of_wp_marks Tryz.func39 rfl trivial ?_ hro
  simp only [Tryz.ntmps39, List.size_toArray, List.length_cons, List.length_nil, Nat.reduceAdd, Nat.reduceSub, Array.replicate_succ, Array.replicate_zero, List.push_toArray, List.append_toArray, List.nil_append, List.cons_append]
  gi_wp2_with fail
  rw [HW.out]
  refine wpIn_loop_rounds 2 ?_
  rw [roundsIn_succ]
  have NA := Lib.hid (fun W => callsIn_wide (n := n - 1).2 (name_any W l hl.2 hl.1))
  have FS := Lib.hid (fnd_some hf)
  have RD := Lib.hid (fun W (hb : Below W0.heap.size W0 W) => callsIn_wide (n := n - 1).2 (read_any W B d s (J0.out.dk.step hb) (Nat.le_trans J0.out.size hb.size) (sg l) (by have := sg_size hl.2; unfold maxLen; omega) hfs))
  rw [hf, hx, bi_flat, bi_len] at RD
  have c0 : W0.cell? ⟨q, 0, none⟩ = some (pv d) := (cell_of_row _ _ _ _ _ _ J0.out.box).trans rfl
  clear hf hx hfs
  gi_wp2_with fail
  refine wpIn_mono (Q := fun ex a' w' => match ex with
    | .normal => ∃ ra rc, a' = { tmps := #[.pointer (some ⟨q, 0, none⟩), .slice (some ⟨g, 0, none⟩) 1 cap, undef, undef, .slice none 0 0, .int .i64 0, .pointer (some ⟨w.heap.size, 0, none⟩), .int .i64 0, .pointer (some ⟨w.heap.size + 1, 0, none⟩), undef, .int .i64 (l : Int), .slice ra bs.length rc, .int .i64 0, undef, undef, .slice (some ⟨g, 0, none⟩) 1 cap, .int .i64 1, .int .i64 0, .bool true, .pointer (some ⟨g, 0, none⟩), .int .i64 (l : Int), .tuple #[.slice ra bs.length rc, .int .i64 0], .pointer (some ⟨q, 0, none⟩), .pointer (some ⟨q, 0, none⟩), .pointer (some ⟨q, 0, none⟩), pv d, .int .i64 (l : Int), .string (sg l), .tuple #[.slice ra bs.length rc, .int .i64 0], .slice ra bs.length rc, .int .i64 0, undef, undef, undef, undef, undef, undef, undef, undef, undef, undef, undef, undef, undef, undef, undef, undef, undef, undef, undef, undef, undef, undef, undef, undef, undef, undef, undef, undef, undef, undef, undef, undef, undef, undef, undef, undef, undef, undef], defers := [] } ∧ Hid (w'.ownsRow W0.heap.size 5 1 (.slice ra bs.length rc) bs.length (Rc.u8s bs) ∧ Below W0.heap.size W0 w')
    | _ => False) ?_ (fun ex a' w6 hp => ?_)
  · gi_region_with (first
      | (refine ⟨trivial, ?_⟩; refine (NA.out _).mono ?_; rintro e wz ⟨rfl, hwz⟩; subst hwz)
      | (refine ⟨trivial, ?_⟩; refine (RD.out _ (by first | exact Below.refl _ _ | exact (Below.refl _ _).drew)).mono ?_; rintro e w6 ⟨rv, rfl, ho6, hb6⟩; obtain ⟨ra, rc, rfl⟩ := own_shapeK ho6; have H6 := Lib.hid (show w6.ownsRow W0.heap.size 5 1 (.slice ra bs.length rc) bs.length (Rc.u8s bs) ∧ Below W0.heap.size W0 w6 from ⟨ho6, by first | exact hb6 | exact (Below.refl W0.heap.size W0).drew.trans hb6⟩); clear ho6 hb6))
    all_goals exact ⟨ra, rc, rfl, H6⟩
  cases ex with
  | normal =>
    obtain ⟨ra, rc, rfl, H6⟩ := hp
    have N16 := Lib.hid ((H6.out.2.block _ (lt_of_block N1.out)).trans N1.out)
    have N26 := Lib.hid ((H6.out.2.block _ (lt_of_block N2.out)).trans N2.out)
    have k16 : w6.cell? ⟨w.heap.size, 0, none⟩ = some (.slice none 0 0) := (cell_of_row _ _ _ _ _ _ N16.out).trans rfl
    have k26 : w6.cell? ⟨w.heap.size + 1, 0, none⟩ = some (.int .i64 0) := (cell_of_row _ _ _ _ _ _ N26.out).trans rfl
    have z26 : w6.frozen? ⟨w.heap.size + 1, 0, none⟩ = false := frozen_of_row _ _ _ _ _ N26.out
    have LB := Lib.hid (Rc.own_lies H6.out.1)
    -- the store of 0 leaves the box as it was
    have SS : w6.setCell ⟨w.heap.size + 1, 0, none⟩ (.int .i64 0) = w6 := by
      have := setRow_self w6 (w.heap.size + 1) #[.int .i64 0] 3 (0, 0) N26.out
      rw [setCell_eq_setRow w6 (w.heap.size + 1) 0 #[.int .i64 0] 3 (0, 0) (.int .i64 0) N26.out]
      exact this
    have ALL := Lib.hid (callsIn_wide (n := n - 1).2 (Rc.all_any w6 _ bs LB.out (by omega)))
    clear k1 k2 z2 c0 g0 NA RD
    have B6 := Lib.hid (B0.out.trans (H6.out.2.mono B0.out.size))
    have kq := fun W => func_nil12 w6.heap.size W
    have Z6 := Lib.hid (show w.heap.size + 1 < w6.heap.size from lt_of_block N26.out)
    gi_wp2_with fail
    refine ⟨trivial, ?_⟩
    refine ALL.out.mono ?_
    rintro e w7 ⟨r, rfl, hc, hLI, hs7, hb7⟩
    have hRd : Rc.Rd w6.heap.size w7.heap.size w6.heap.size bs w7 := ⟨Nat.le_refl _, hs7, r, hc, hLI⟩
    have B7 := Lib.hid (B6.out.trans (hb7.mono B6.out.size))
    have I0 : RI w w7.heap.size w.heap.size (Rc.recs bs) 0 w7 := ⟨[], .slice none 0 0, ⟨(hb7.block _ (lt_of_block N16.out)).trans N16.out, World.ownsRow_nil _ _ _ _, rfl, fun j u p hu _ => (by simp at hu), (hb7.block _ (lt_of_block N26.out)).trans N26.out, B7.out, Nat.le_refl _⟩⟩
    have Z7 := Lib.hid (show w6.heap.size < w7.heap.size from hs7)
    have TK := Lib.hid hw
    have SET := Lib.hid hs
    clear ALL k16 k26 z26 SS hc hLI hs7 hb7 hw hs
    gi_wp2_with fail
    clear kq
    refine Rc.range_all (by omega) hb (by omega) rfl hRd rfl (RI w w7.heap.size w.heap.size (Rc.recs bs)) (RI.own B7.out.size) I0
      (fun kk vv => { tmps := #[.pointer (some ⟨q, 0, none⟩), .slice (some ⟨g, 0, none⟩) 1 cap, undef, undef, .slice none 0 0, .int .i64 0, .pointer (some ⟨w.heap.size, 0, none⟩), .int .i64 (bs.length : Int), .pointer (some ⟨w.heap.size + 1, 0, none⟩), undef, .int .i64 (l : Int), .slice ra bs.length rc, .int .i64 0, .int .i64 (kk : Int), vv, .slice (some ⟨g, 0, none⟩) 1 cap, .int .i64 1, .int .i64 0, .bool true, .pointer (some ⟨g, 0, none⟩), .int .i64 (l : Int), .tuple #[.slice ra bs.length rc, .int .i64 0], .pointer (some ⟨q, 0, none⟩), .pointer (some ⟨q, 0, none⟩), .pointer (some ⟨q, 0, none⟩), pv d, .int .i64 (l : Int), .string (sg l), .tuple #[.slice ra bs.length rc, .int .i64 0], .slice ra bs.length rc, .int .i64 0, .int .i64 0, .bool false, undef, .slice ra bs.length rc, .int .i64 (bs.length : Int), .slice ra bs.length rc, .func (.func 72) #[] #[.pointer (some ⟨w6.heap.size, 0, none⟩)], .int .i64 (kk : Int), vv, undef, undef, undef, undef, undef, undef, undef, undef, undef, undef, undef, undef, undef, undef, undef, undef, undef, undef, undef, undef, undef, undef, undef, undef, undef, undef, undef, undef, undef], defers := [] }) ?assign ?body ?done
    case assign =>
      intro ll kk v W K hK
      gi_wp2
      exact hK
    case body =>
      rintro ll i p ao c W00 W hI0 hKc hfr hI hget hL
      obtain ⟨vs, ov, R1⟩ := hI
      obtain ⟨vs0, ov0, R0⟩ := hI0
      have eo : ov0 = ov := by
        have := hKc _ _ R0.b1 rfl
        rw [R1.b1] at this
        injection this with this
        injection this with this _ _
        simpa using this.symm
      subst eo
      have hfr2 : ∀ ad, ao = some ad → ov0.ownBlock ≠ some ad.block := fun ad e e2 => by
        have h1 := (R0.row.lt _ e2).2
        have h2 := hfr ad e
        omega
      obtain ⟨oa, oc, eov⟩ := own_shapeK R1.row
      have RR := Lib.hid R1
      have HLx := Lib.hid hL
      have HFR := Lib.hid hfr2
      have HGT := Lib.hid hget
      have PA := Lib.hid (show p.1 = Rc.takes ((Rc.recs bs).take i) from by have := rec_at _ 0 bs i p hget; rw [Nat.zero_add] at this; exact this)
      have TS := Lib.hid (takes_snoc hget)
      have TL := Lib.hid (show Rc.takes ((Rc.recs bs).take (i + 1)) ≤ 600 from by
        have h1 := Rc.takes_append ((Rc.recs bs).take (i + 1)) ((Rc.recs bs).drop (i + 1))
        rw [List.take_append_drop, TK.out] at h1
        omega)
      have LV := Lib.hid (show vs.length ≤ 600 from by
        rw [R1.len]
        have h2 : ∀ L : List (Nat × List Nat), L.length ≤ Rc.takes L := fun L => by
          induction L with
          | nil => exact Nat.zero_le _
          | cons x L ih => show L.length + 1 ≤ x.2.length + 8 + Rc.takes L; omega
        have h3 := h2 ((Rc.recs bs).take (i + 1))
        rw [List.length_take] at h3
        have h4 := (List.getElem?_eq_some_iff.1 hget).1
        have := TL.out
        omega)
      have SZC := Lib.hid (fun W => CallsIn.inRound ll (callsIn_wide (n := n - 1 - 1 - 1).2 (Rc.size_nat W p.2.length (by have := TL.out; have := TS.out; omega))))
      have x0 : W.cell? ⟨w.heap.size, 0, none⟩ = some ov0 := (cell_of_row _ _ _ _ _ _ R1.b1).trans rfl
      rw [eov] at x0
      have HX := Lib.hid (heap_alloc_new W (.cells #[.slice ao p.2.length c] 39))
      have OX := Lib.hid (own_belowK R1.row (vstep W (.cells #[.slice ao p.2.length c] 39)))
      have EX := Lib.hid (show w7.heap.size ≤ (W.alloc (.cells #[.slice ao p.2.length c] 39)).heap.size from Nat.le_trans R1.size (vstep W _).size)
      have TV : ((p.1 : Int) + ((p.2.length : Int) + 8)) = ((Rc.takes ((Rc.recs bs).take (i + 1)) : Nat) : Int) := by rw [TS.out, PA.out]; omega
      have HTV := Lib.hid TV
      clear hKc hfr hL hget R1 R0 hfr2 hRd I0 TV
      have hd1 : 1 ≤ n - 1 - 1 := by omega
      gi_wp2_with (first
        | (gi_at_builtin; go_loud (refine wpListIn_pushV rfl (.tmp 40) (.tmp 42) rfl w7.heap.size ov0 vs (.slice ao p.2.length c) W.heap.size (by rw [eov]; rfl) rfl HX.out rfl OX.out (by have := LV.out; omega) EX.out ?_; intro v3 W3 hown hgr hsp; have RP := Lib.hid (RJ.push (lo := w6.heap.size) (t := (p.1 : Int) + ((p.2.length : Int) + 8)) RR.out HGT.out (Nat.le_refl _) Z6.out B7.out.size HLx.out HFR.out hown hgr hsp HTV.out); rw [show (vs ++ [Value.slice ao p.2.length c]).length = vs.length + 1 from by simp] at hown; obtain ⟨va3, vc3, rfl⟩ := own_shapeK hown; have x3 := (cell_of_row _ _ _ _ _ _ RP.out.1).trans (show (#[ov0] : Array Value)[0]? = some ov0 from rfl); rw [eov] at x3; have f3 := frozen_of_row (j := 0) _ _ _ _ RP.out.1; have x4 := (cell_of_row _ _ _ _ _ _ RP.out.2.1).trans (show (#[Value.int .i64 ((Rc.takes ((Rc.recs bs).take i) : Nat) : Int)] : Array Value)[0]? = some _ from rfl); have f4 := frozen_of_row (j := 0) _ _ _ _ RP.out.2.1; clear hown hgr hsp)))
      have hwv : wrap64 ((p.1 : Int) + ((p.2.length : Int) + 8)) = (p.1 : Int) + ((p.2.length : Int) + 8) := by
        have h1 := HTV.out
        have h2 := TL.out
        unfold wrap64
        omega
      have RQ := Lib.hid RP.out.2.2
      refine ⟨trivial, ?_⟩
      refine (SZC.out _).mono ?_
      rintro e W4 ⟨rfl, hW4⟩
      subst hW4
      gi_wp2
      exact ⟨RQ.out.2.2, RQ.out.2.1, RQ.out.1⟩
    case done =>
      rintro D W hD hI hK
      obtain ⟨vs, ov, R1⟩ := hI
      have JW := Lib.hid (HJ.out.step R1.bel)
      have RR := Lib.hid R1
      have c3 : W.cell? ⟨q, 3, none⟩ = some (.int .i64 (l : Int)) := (cell_of_row _ _ _ _ _ _ JW.out.box).trans rfl
      have hll : ¬ ((l : Int) < (l : Int)) := by omega
      have TT := Lib.hid (show Rc.takes ((Rc.recs bs).take (Rc.recs bs).length) = bs.length from by rw [List.take_length]; exact TK.out)
      have b2 := R1.b2
      rw [TT.out] at b2
      have y1 : W.cell? ⟨w.heap.size + 1, 0, none⟩ = some (.int .i64 (bs.length : Int)) := (cell_of_row _ _ _ _ _ _ b2).trans rfl
      obtain ⟨oa, oc, eov⟩ := own_shapeK R1.row
      have c4 : W.cell? ⟨q, 4, none⟩ = some (.int .i64 sz) := (cell_of_row _ _ _ _ _ _ JW.out.box).trans rfl
      have f4 := frozen_of_row (j := 4) _ _ _ _ JW.out.box
      have JS := Lib.hid (JW.out.sized (bs.length : Int))
      have hq : q ≠ w.heap.size := by have := HJ.out.lt; omega
      have hbox : (W.setCell ⟨q, 4, none⟩ (.int .i64 (bs.length : Int))).heap[w.heap.size]? = some (.cells #[ov] 30 (0, 0)) := (Below.heap_setCell W ⟨q, 4, none⟩ (.int .i64 (bs.length : Int)) w.heap.size (by show ¬ (w.heap.size = q); omega)).trans R1.b1
      have y0 : (W.setCell ⟨q, 4, none⟩ (.int .i64 (bs.length : Int))).cell? ⟨w.heap.size, 0, none⟩ = some ov := (cell_of_row _ _ _ _ _ _ hbox).trans rfl
      rw [eov] at y0
      have hKW : (W.setCell ⟨q, 4, none⟩ (.int .i64 (bs.length : Int))).heap[D]? = some (.deferred (some [])) := (Below.heap_setCell W ⟨q, 4, none⟩ (.int .i64 (bs.length : Int)) D (fun e => by
        have e : D = q := e
        subst e
        rw [JW.out.box] at hK
        cases hK)).trans hK
      have HKW := Lib.hid hKW
      have EOV := Lib.hid eov
      have SE := Lib.hid (fun W' (hb : Below (W.setCell ⟨q, 4, none⟩ (.int .i64 (bs.length : Int))).heap.size (W.setCell ⟨q, 4, none⟩ (.int .i64 (bs.length : Int))) W') => callsIn_wide (n := n - 1).2 (settle_ok W' B q d s most (l : Int) l bs.length (JS.out.step hb) hl _ FS.out.1 SET.out))
      clear hRd I0 R1 hK hKW hbox
      gi_wp2_with fail
      rw [roundsIn_succ]
      gi_wp2_with fail
      obtain ⟨W8, hW8⟩ : ∃ z, W.setCell ⟨q, 4, none⟩ (.int .i64 (bs.length : Int)) = z := ⟨_, rfl⟩
      have FW := Lib.hid (show Far (Lh d s q) w W8 from by
        rw [← hW8]
        exact (Far.of_below (P := Lh d s q) (show Below w.heap.size w W from RR.out.bel)).trans (far_set W q 4 _) (fun _ _ e => .inr e))
      rw [hW8] at JS y0 HKW SE ⊢
      clear c3 c4 f4 y1 b2
      refine wpIn_mono (Q := fun ex a' w' => match ex with
        | .normal => (∀ W', (results Tryz.f39 a'.tmps).run Tryz.prog W' = .ok (.tuple #[ov, .int .i64 0]) W') ∧ a'.defers = [{ target := .collected D, args := #[] }] ∧ Hid (Below W8.heap.size W8 w')
        | _ => False) ?_ (fun ex a' w9 hp => ?_)
      · gi_region_with (refine ⟨trivial, ?_⟩; refine (SE.out _ (by first | exact Below.refl _ _ | exact (Below.refl _ _).drew)).mono ?_; rintro e wz ⟨rfl, hwz⟩; subst hwz)
        all_goals exact ⟨fun W' => by rw [EOV.out]; simp [results, Tryz.f39, go_sem, Act.put], rfl, Lib.hid (Below.refl _ _).drew⟩
      · cases ex with
        | normal =>
          obtain ⟨hr, hdf, hb9⟩ := hp
          obtain ⟨tm, df⟩ := a'
          dsimp only at hr hdf
          subst hdf
          gi_wp2
          have K9 := (hb9.out.block D (Array.getElem?_eq_some_iff.1 HKW.out).1).trans HKW.out
          have DW := Lib.hid (show w.heap.size ≤ D from by have := B7.out.size; omega)
          have JT := Lib.hid (JS.out.step hb9.out)
          refine ⟨by simp, .inl ⟨_, _, rfl, run_takeDeferred K9, ?_⟩⟩
          have hSY := RJ.done RR.out JW.out.box (by have := HJ.out.lt; have := B7.out.size; omega) B7.out.size (by rw [hW8]; exact hb9.out) K9
          have hfD : Far (fun k => k = D) w9 (w9.putObj D (.deferred none)) := Far.of_grown (grownBy_putObj' w9 D (.deferred none)) (fun k e => by cases e; rfl)
          have hJX : JK (w9.putObj D (.deferred none)) B q d s most (l : Int) l bs.length := ⟨JT.out.dk.still hfD (fun k hk e => by have := (HJ.out.dk.base k hk).2; have := DW.out; omega), (hfD.block q JT.out.lt (fun e => by have := HJ.out.lt; have := DW.out; omega)).trans JT.out.box, JT.out.nq, JT.out.bq⟩
          exact ⟨_, hr _, ov, rfl, hSY, hJX, ((FW.out.trans (Far.of_below (P := fun _ => False) hb9.out) (fun _ _ e => e.elim)).trans hfD (fun k hk e => by have := DW.out; omega))⟩
        | ret => exact hp.elim
        | exit id => exact hp.elim
        | goto t => exact hp.elim
        | panic ch => exact hp.elim
        | outgrown => exact hp.elim
  | ret => exact hp.elim
  | exit id => exact hp.elim
  | goto t => exact hp.elim
  | panic ch => exact hp.elim
  | outgrown => exact hp.elim
end Go.Proofs.YtgbihpfpiaacfaaGreatDoor
