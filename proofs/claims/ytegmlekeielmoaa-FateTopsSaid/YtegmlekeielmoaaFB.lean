/- Fate's All, Top; the ways of no table. Made by genfb13.py. -/
import Derived.Test.YtegmlekeielmoaaFA
set_option linter.unusedVariables false
set_option maxRecDepth 100000
namespace Go.Proofs.Ytegmlekeielmoaa
open Go.RowKit Go.WideMaps Go.Maps

def isF (l : List Rw) (k : Int) (s : Sp) : Bool := decide (fateF l s.1 s.2 = k)
def allF (l : List Rw) (k : Int) : List Sp := (nodesF l).filter (isF l k)
theorem all_yes {ks : List Sp} {l : List Rw} {k : Int} {i : Nat} {s : Sp} (h : ks[i]? = some s) (hq : fateF l s.1 s.2 = k) : (ks.take (i + 1)).filter (isF l k) = (ks.take i).filter (isF l k) ++ [s] := by
  rw [take_snoc h, List.filter_append]
  simp [isF, hq]
theorem all_not {ks : List Sp} {l : List Rw} {k : Int} {i : Nat} {s : Sp} (h : ks[i]? = some s) (hq : fateF l s.1 s.2 ≠ k) : (ks.take (i + 1)).filter (isF l k) = (ks.take i).filter (isF l k) := by
  rw [take_snoc h, List.filter_append]
  simp [isF, hq]
theorem LiesK.sp {w : World} {ao : Option Addr} {n cap : Nat} {l : List Sp} (h : LiesK encS 2 w (.slice ao n cap) l) {i : Nat} (hi : i < n) : ∃ g o s1 s2, ao = some ⟨g, o, none⟩ ∧ l[i]? = some (s1, s2) ∧ g < w.heap.size ∧ w.cell? ⟨g, o + i * 2, none⟩ = some (.int .i64 s1) ∧ w.cell? ⟨g, o + i * 2 + 1, none⟩ = some (.int .i64 s2) := by
  obtain ⟨g, o, x, rfl, hx, hg, hc⟩ := h.at' hi
  exact ⟨g, o, x.1, x.2, rfl, hx, hg, hc 0 _ rfl, hc 1 _ rfl⟩
theorem nodes_ok {l : List Rw} (h : ∀ x ∈ l, x.ok) {s : Sp} (hs : s ∈ nodesF l) : I64 s.1 ∧ I64 s.2 := by
  obtain ⟨x, hx, rfl⟩ := List.mem_map.1 hs
  exact ⟨(h x hx).1, (h x hx).2.1⟩
set_option maxHeartbeats 6400000 in
theorem all_any (w : World) (p b : Nat) (l : List Rw) (h : TabI w p b l) (hl : l.length < 100000) (k : Int) :
    Calls Try.prog 35 #[.pointer (some ⟨p, 0, none⟩), .int .i64 k] w fun e w' => ∃ v, e = .returned v ∧ w'.ownsRow w.heap.size 24 2 v (allF l k).length ((allF l k).flatMap encS) ∧ Below w.heap.size w w' := by
  obtain ⟨i0, hi9, hz0, hz1, hz2⟩ := info_parts info24
  have ND := Lib.hid (nodes_any w p b l h hl)
  have OF := Lib.hid (fun W (hb : Below w.heap.size w W) t r ht hr => of_any W p b l (h.step hb) t r ht hr)
  have OK := Lib.hid h.map.oks
  have NL := Lib.hid (show (nodesF l).length < 100000 from by unfold nodesF; rw [List.length_map]; exact hl)
  have HO := Lib.hid (fun s (hs : s ∈ nodesF l) => nodes_ok OK.out hs)
  clear h hl OK
  unfold allF
  generalize nodesF l = ks at *
  go_enter Try.func35, Try.ntmps35
  go_wp2_with fail
  refine ND.out.mono ?_
  rintro e w1 ⟨u, rfl, ho, hb⟩
  have SK := Lib.hid (own_liesK encS_len ho)
  have B1 := Lib.hid hb
  obtain ⟨ua, uc, rfl⟩ := own_shapeK ho
  clear ho hb ND
  have hlm := NL.out
  go_wp2
  go_loopw [5, 11] (fun ov kv wr => ∃ i : Nat, kv = .int .i64 i ∧ i ≤ ks.length ∧ Hid (wr.ownsRow w1.heap.size 24 2 ov ((ks.take i).filter (isF l k)).length (((ks.take i).filter (isF l k)).flatMap encS) ∧ Below w1.heap.size w1 wr)) (fun _ kv _ => ks.length - (intOf kv).toNat)
  case atStart => exact ⟨0, rfl, Nat.zero_le _, Lib.hid ⟨World.ownsRow_nil _ _ _ _, Below.refl _ _⟩⟩
  case round =>
    obtain ⟨i, rfl, hi, hK⟩ := hrel
    obtain ⟨oa, oc, rfl⟩ := own_shapeK hK.out.1
    have O0 := Lib.hid hK.out.1
    have K0 := Lib.hid hK.out.2
    have LN := Lib.hid (show ((ks.take i).filter (isF l k)).length ≤ ks.length from Nat.le_trans (List.length_filter_le _ _) (by rw [List.length_take]; omega))
    clear hK
    by_cases hlt : i < ks.length
    · obtain ⟨g, o, s1, s2, rfl, hx, hg, a0, a1⟩ := (SK.out.step K0.out).sp hlt
      have HX := Lib.hid hx
      have HI := Lib.hid (HO.out _ (List.mem_of_getElem? hx))
      dsimp only at HI
      have BX := Lib.hid (vstep wr (.cells #[.int .i64 s1, .int .i64 s2] 24))
      have S2 := Lib.hid (StAt.new wr s1 s2)
      have O2 := Lib.hid (own_belowK O0.out BX.out)
      have K2 := Lib.hid (K0.out.trans (BX.out.mono K0.out.size))
      clear hx hg
      go_upto_region 5 with (fail)
      obtain ⟨g2, hg2⟩ : ∃ k, wr.heap.size = k := ⟨_, rfl⟩
      rw [hg2] at S2 ⊢
      generalize (wr.alloc (.cells #[.int .i64 s1, .int .i64 s2] 24)) = w2 at *
      clear hg2 BX O0 K0 a0 a1
      have O1 := Lib.hid (OF.out w2 (B1.out.trans (K2.out.mono B1.out.size)) s1 s2 HI.out.1 HI.out.2)
      obtain ⟨c1, c2⟩ := S2.out.cells
      by_cases hq : fateF l s1 s2 = k
      · have NX := Lib.hid (all_yes HX.out (l := l) (k := k) hq)
        have t0 := beqb_ _ _ hq
        clear hq
        generalize (ks.take i).filter (isF l k) = js at *
        generalize fateF l s1 s2 = fv at *
        go_wp2_with fail
        refine O1.out.mono ?_
        rintro e w3 ⟨rfl, hb⟩
        have S3 := Lib.hid (S2.out.step hb)
        have O3 := Lib.hid (own_belowK O2.out hb)
        have K3 := Lib.hid (K2.out.trans (hb.mono K2.out.size))
        clear hb c1 c2 O1 O2 K2 S2
        obtain ⟨c1, c2⟩ := S3.out.cells
        have O5 := Lib.hid (own_belowK O3.out (vstep w3 (.cells #[.int .i64 s1, .int .i64 s2] 24)))
        have H5 := Lib.hid (show (w3.alloc (.cells #[.int .i64 s1, .int .i64 s2] 24)).heap[w3.heap.size]? = some (.cells (encS (s1, s2)).toArray 24 (0, 0)) from heap_alloc_new w3 _)
        have Q5 := Lib.hid (And.intro (show js.length + 1 ≤ maxLen from by have := LN.out; unfold maxLen; omega) (And.intro (show (js.length + 1) * 16 ≤ 140737488355328 from by have := LN.out; omega) (show w1.heap.size ≤ (w3.alloc (.cells #[.int .i64 s1, .int .i64 s2] 24)).heap.size from by have := K3.out.size; simp; omega)))
        go_wp2_with (at_builtin; refine wpList_pushK rfl (.tmp 20) (.tmp 22) 43 rfl encS_len (by decide) encS_one w1.heap.size 24 i0 (.agg #[.int .i64 0, .int .i64 0]) 16 Try.u43 hi9 hz0 hz1 hz2 rfl (.slice oa js.length oc) js (s1, s2) w3.heap.size rfl rfl H5.out O5.out Q5.out.1 Q5.out.2.1 Q5.out.2.2 ?_; intro v6 w6 hown hgr; have O6 := Lib.hid hown; have K6 := Lib.hid (push_okG K3.out O3.out (Nat.le_refl _) hgr); clear hown hgr)
        go_roundw
        case rel => exact ⟨i + 1, by go_num, by omega, Lib.hid ⟨by rw [NX.out]; exact O6.out, K6.out⟩⟩
        case measure => simp [intOf]; omega
      · have NX := Lib.hid (all_not HX.out (l := l) (k := k) hq)
        have t0 := bneb_ _ _ hq
        clear hq
        generalize (ks.take i).filter (isF l k) = js at *
        generalize fateF l s1 s2 = fv at *
        go_wp2_with fail
        refine O1.out.mono ?_
        rintro e w3 ⟨rfl, hb⟩
        have O3 := Lib.hid (own_belowK O2.out hb)
        have K3 := Lib.hid (K2.out.trans (hb.mono K2.out.size))
        clear hb c1 c2 O1 O2 K2 S2
        go_wp2
        go_roundw
        case rel => exact ⟨i + 1, by go_num, by omega, Lib.hid ⟨by rw [NX.out]; exact O3.out, K3.out⟩⟩
        case measure => simp [intOf]; omega
    · have FIN := Lib.hid (show wr.ownsRow w.heap.size 24 2 (.slice oa ((ks.take i).filter (isF l k)).length oc) (ks.filter (isF l k)).length ((ks.filter (isF l k)).flatMap encS) ∧ Below w.heap.size w wr from by
        have h := O0.out
        rw [show ks.take i = ks from List.take_of_length_le (by omega)] at h ⊢
        exact ⟨own_less h B1.out.size, B1.out.trans (K0.out.mono B1.out.size)⟩)
      clear O0
      go_wp2
      go_returns
      exact ⟨_, rfl, FIN.out.1, FIN.out.2⟩
def topF (l : List Rw) : Nat → Int → Int → Int × Int
  | 0, t, r => (t, r)
  | k + 1, t, r => if fateF l t r = 3 then (match getF l t r with | some x => topF l k x.pt x.pr | none => (t, r)) else (t, r)
theorem fate_some {l : List Rw} {t r : Int} (h : fateF l t r = 3) : ∃ x, getF l t r = some x := by
  unfold fateF at h
  cases hg : getF l t r with
  | none => rw [hg] at h; cases h
  | some x => exact ⟨x, rfl⟩
/-- The way up of Top: the node's box, the result's. -/
structure UpT (w W : World) (p b : Nat) (l : List Rw) (t r : Int) : Prop where
  bel : Below w.heap.size w W
  tab : TabI W p b l
  one : StAt W w.heap.size t r
  two : StAt W (w.heap.size + 1) 0 0
theorem UpT.step {w W W' : World} {p b : Nat} {l : List Rw} {t r : Int} (h : UpT w W p b l t r) (hb : Below W.heap.size W W') : UpT w W' p b l t r := ⟨h.bel.trans (hb.mono h.bel.size), h.tab.step hb, h.one.step hb, h.two.step hb⟩
theorem UpT.set {w W : World} {p b : Nat} {l : List Rw} {t r : Int} (h : UpT w W p b l t r) (hp : p < w.heap.size) (hb : b < w.heap.size) (t' r' : Int) : UpT w (sets2 W w.heap.size (.int .i64 t') (.int .i64 r')) p b l t' r' := by
  have k : Below w.heap.size W (sets2 W w.heap.size (.int .i64 t') (.int .i64 r')) := ((Below.refl _ W).setCell (p := ⟨w.heap.size, 0, none⟩) (Nat.le_refl _) _).setCell (p := ⟨w.heap.size, 1, none⟩) (Nat.le_refl _) _
  have kg : W.grownBy (sets2 W w.heap.size (.int .i64 t') (.int .i64 r')) (some w.heap.size) := ⟨k.os, k.tape, k.output, k.size, fun i _ hi => by
    unfold sets2
    rw [Below.heap_setCell _ _ _ _ (fun e => hi (by rw [e])), Below.heap_setCell _ _ _ _ (fun e => hi (by rw [e]))]⟩
  refine ⟨h.bel.trans k, h.tab.grown kg (fun e => by injection e; omega) (fun e => by injection e; omega), ?_, (kg.block _ (lt_of_block h.two) (fun e => by injection e; omega)).trans h.two⟩
  exact row_setC (j := 1) (u := .int .i64 r') (row_setC (j := 0) (u := .int .i64 t') h.one)
theorem UpT.out {w W : World} {p b : Nat} {l : List Rw} {t r : Int} (h : UpT w W p b l t r) : StAt (sets2 W (w.heap.size + 1) (.int .i64 t) (.int .i64 r)) (w.heap.size + 1) t r ∧ Below w.heap.size w (sets2 W (w.heap.size + 1) (.int .i64 t) (.int .i64 r)) :=
  ⟨row_setC (j := 1) (u := .int .i64 r) (row_setC (j := 0) (u := .int .i64 t) h.two), (h.bel.setCell (p := ⟨w.heap.size + 1, 0, none⟩) (Nat.le_succ _) _).setCell (p := ⟨w.heap.size + 1, 1, none⟩) (Nat.le_succ _) _⟩
set_option maxHeartbeats 6400000 in
theorem top_any (w : World) (p b : Nat) (l : List Rw) (h : TabI w p b l) (hl : l.length < 1000000) (t r : Int) (ht : I64 t) (hr : I64 r) :
    Calls Try.prog 40 #[.pointer (some ⟨p, 0, none⟩), .agg #[.int .i64 t, .int .i64 r]] w fun e w' => e = .returned (.agg #[.int .i64 (topF l l.length t r).1, .int .i64 (topF l l.length t r).2]) ∧ Below w.heap.size w w' := by
  have B1 := vstep w (.cells #[.int .i64 t, .int .i64 r] 24)
  have B2 := vstep (w.alloc (.cells #[.int .i64 t, .int .i64 r] 24)) (.cells #[.int .i64 0, .int .i64 0] 24)
  have U0 := Lib.hid (show UpT w ((w.alloc (.cells #[.int .i64 t, .int .i64 r] 24)).alloc (.cells #[.int .i64 0, .int .i64 0] 24)) p b l t r from ⟨B1.trans (B2.mono B1.size), (h.step B1).step B2, (StAt.new w t r).step B2, by have := StAt.new (w.alloc (.cells #[.int .i64 t, .int .i64 r] 24)) 0 0; rwa [World.size_alloc] at this⟩)
  obtain ⟨W0, hW0⟩ : ∃ y, (w.alloc (.cells #[.int .i64 t, .int .i64 r] 24)).alloc (.cells #[.int .i64 0, .int .i64 0] 24) = y := ⟨_, rfl⟩
  rw [hW0] at U0
  have HW := Lib.hid hW0
  have LN := Lib.hid (len_any W0 p b l U0.out.tab)
  have HP := Lib.hid (And.intro h.plt h.blt)
  have OK := Lib.hid h.map.oks
  have RS := Lib.hid h.map.rise
  have HT := Lib.hid (And.intro ht hr)
  clear B1 B2 hW0 h ht hr
  obtain ⟨res, hres⟩ : ∃ x, topF l l.length t r = x := ⟨_, rfl⟩
  rw [hres]
  have HR := Lib.hid hres
  clear hres
  go_enter Try.func40, Try.ntmps40
  go_upto_region 1 with (fail)
  rw [HW.out]
  go_wp2_with fail
  refine LN.out.mono ?_
  rintro e w1 ⟨rfl, rfl⟩
  go_wp2
  go_loopw [9] (fun kv wr => ∃ (i : Nat) (t' r' : Int), kv = .int .i64 i ∧ i ≤ l.length ∧ Hid (UpT w wr p b l t' r' ∧ I64 t' ∧ I64 r' ∧ topF l (l.length - i) t' r' = res)) (fun kv _ => l.length - (intOf kv).toNat)
  case atStart => exact ⟨0, t, r, rfl, Nat.zero_le _, Lib.hid ⟨U0.out, HT.out.1, HT.out.2, HR.out⟩⟩
  case round =>
    obtain ⟨i, t', r', rfl, hi, hJ⟩ := hrel
    have UJ := Lib.hid hJ.out.1
    have HT2 := Lib.hid (And.intro hJ.out.2.1 hJ.out.2.2.1)
    have EJ := Lib.hid hJ.out.2.2.2
    clear hJ U0
    by_cases hlt : i < l.length
    · have EJ := Lib.hid (show (if fateF l t' r' = 3 then (match getF l t' r' with | some x => topF l (l.length - (i + 1)) x.pt x.pr | none => (t', r')) else (t', r')) = res from by have := EJ.out; rw [show l.length - i = (l.length - (i + 1)) + 1 by omega] at this; exact this)
      have OF := Lib.hid (of_any wr p b l UJ.out.tab t' r' HT2.out.1 HT2.out.2)
      obtain ⟨c1, c2⟩ := UJ.out.one.cells
      by_cases hf : fateF l t' r' = 3
      · obtain ⟨x, hg⟩ := fate_some hf
        have hxm := ((get_some RS.out).1 hg).1
        have XO := Lib.hid (OK.out x hxm)
        have EJ := Lib.hid (show topF l (l.length - (i + 1)) x.pt x.pr = res from by have := EJ.out; rw [if_pos hf, hg] at this; exact this)
        rw [hf] at OF
        have GT := Lib.hid (fun W (hb : Below wr.heap.size wr W) => get_any W p b l (UJ.out.step hb).tab t' r' HT2.out.1 HT2.out.2)
        rw [show gv l t' r' = .agg #[.int .i64 x.pt, .int .i64 x.pr, .string x.nm, .bool x.d] from by unfold gv; rw [hg]] at GT
        clear hf hg hxm
        go_wp2_with fail
        refine OF.out.mono ?_
        rintro e w2 ⟨rfl, hb⟩
        have U2 := Lib.hid (UJ.out.step hb)
        have GT2 := Lib.hid (GT.out w2 hb)
        clear hb c1 c2 GT OF UJ
        obtain ⟨c1, c2⟩ := U2.out.one.cells
        go_wp2_with fail
        refine GT2.out.mono ?_
        rintro e w3 ⟨rfl, hb⟩
        have U3 := Lib.hid ((U2.out.step hb).step (vstep w3 (.cells #[.int .i64 x.pt, .int .i64 x.pr, .string x.nm, .bool x.d] 34)))
        have N3 := Lib.hid (EnAt.new w3 x.pt x.pr x.nm x.d)
        have NE := Lib.hid (show w3.heap.size ≠ w.heap.size from by have := lt_of_block (U2.out.step hb).one; omega)
        clear hb c1 c2 GT2 U2
        go_upto_region 5 with (fail)
        obtain ⟨g3, hg3⟩ : ∃ k, w3.heap.size = k := ⟨_, rfl⟩
        rw [hg3] at N3 NE ⊢
        generalize w3.alloc (.cells #[.int .i64 x.pt, .int .i64 x.pr, .string x.nm, .bool x.d] 34) = w4 at *
        clear hg3
        obtain ⟨d0, d1, d2, d3⟩ := N3.out.cells
        obtain ⟨c1, c2⟩ := U3.out.one.cells
        obtain ⟨f1, f2⟩ := U3.out.one.free
        go_upto_region 6 with (fail)
        obtain ⟨w5, hw5⟩ : ∃ y, sets2 w4 w.heap.size (.int .i64 x.pt) (.int .i64 x.pr) = y := ⟨_, rfl⟩
        have U5 := Lib.hid (show UpT w w5 p b l x.pt x.pr from by rw [← hw5]; exact U3.out.set HP.out.1 HP.out.2 _ _)
        unfold sets2 at hw5
        rw [hw5]
        clear hw5 d0 d1 d2 d3 c1 c2 f1 f2
        go_wp2
        go_roundw
        case rel => exact ⟨i + 1, x.pt, x.pr, by go_num, by omega, Lib.hid ⟨U5.out, XO.out.2.2.1, XO.out.2.2.2, EJ.out⟩⟩
        case measure => simp [intOf]; omega
      · have EK := Lib.hid (show (t', r') = res from by have := EJ.out; rw [if_neg hf] at this; exact this)
        clear EJ
        have EJ := Lib.hid EK.out
        clear EK
        have t0 := nneb_ _ _ hf
        clear hf
        generalize fateF l t' r' = fv at *
        go_wp2_with fail
        refine OF.out.mono ?_
        rintro e w2 ⟨rfl, hb⟩
        have U2 := Lib.hid (UJ.out.step hb)
        clear hb c1 c2 OF UJ
        obtain ⟨c1, c2⟩ := U2.out.one.cells
        obtain ⟨e1, e2⟩ := U2.out.two.cells
        obtain ⟨f1, f2⟩ := U2.out.two.free
        have UO := Lib.hid U2.out.out
        go_wp2
        obtain ⟨w9, hw9⟩ : ∃ y, sets2 w2 (w.heap.size + 1) (.int .i64 t') (.int .i64 r') = y := ⟨_, rfl⟩
        rw [hw9] at UO
        unfold sets2 at hw9
        rw [hw9]
        clear hw9 c1 c2 e1 e2 f1 f2
        obtain ⟨d0, d1⟩ := UO.out.1.cells
        refine bodyPost_ret (by simp [results, Try.results40, go_sem, d0, d1]; try rfl) rfl ?_
        exact ⟨by rw [← EJ.out], UO.out.2⟩
    · have EJ := Lib.hid (show (t', r') = res from by have := EJ.out; rw [show l.length - i = 0 by omega] at this; exact this)
      have U2 := Lib.hid UJ.out
      clear UJ
      obtain ⟨c1, c2⟩ := U2.out.one.cells
      obtain ⟨e1, e2⟩ := U2.out.two.cells
      obtain ⟨f1, f2⟩ := U2.out.two.free
      have UO := Lib.hid U2.out.out
      go_wp2
      obtain ⟨w9, hw9⟩ : ∃ y, sets2 wr (w.heap.size + 1) (.int .i64 t') (.int .i64 r') = y := ⟨_, rfl⟩
      rw [hw9] at UO
      unfold sets2 at hw9
      rw [hw9]
      clear hw9 c1 c2 e1 e2 f1 f2
      obtain ⟨d0, d1⟩ := UO.out.1.cells
      refine bodyPost_ret (by simp [results, Try.results40, go_sem, d0, d1]; try rfl) rfl ?_
      exact ⟨by rw [← EJ.out], UO.out.2⟩
theorem of_dead (w : World) (u : Value) (h : Dead w u) (t r : Int) : Calls Try.prog 37 #[u, .agg #[.int .i64 t, .int .i64 r]] w fun e w' => e = .returned (.int .i64 0) ∧ Below w.heap.size w w' := by
  have B1 := vstep w (.cells #[.int .i64 t, .int .i64 r] 24)
  have D := Lib.hid (h.step B1)
  have S1 := Lib.hid (StAt.new w t r)
  obtain ⟨W0, hW0⟩ : ∃ y, w.alloc (.cells #[.int .i64 t, .int .i64 r] 24) = y := ⟨_, rfl⟩
  rw [hW0] at D B1 S1
  have B := Lib.hid B1
  have HW := Lib.hid hW0
  have G := Lib.hid (get_dead W0 u D.out t r)
  clear B1 hW0 h
  go_enter Try.func37, Try.ntmps37
  go_upto_region 1 with (fail)
  rw [HW.out]
  obtain ⟨c1, c2⟩ := S1.out.cells
  go_wp2_with fail
  refine G.out.mono ?_
  rintro e w1 ⟨rfl, hb⟩
  have B2 := Lib.hid (B.out.trans (hb.mono B.out.size))
  clear hb c1 c2
  go_wp2
  go_returns
  exact ⟨rfl, B2.out.trans ((vstep w1 _).mono B2.out.size)⟩
theorem all_dead (w : World) (u : Value) (h : Dead w u) (k : Int) : Calls Try.prog 35 #[u, .int .i64 k] w fun e w' => e = .returned (.slice none 0 0) ∧ Below w.heap.size w w' := by
  have ND := Lib.hid (nodes_dead w u h)
  clear h
  go_enter Try.func35, Try.ntmps35
  go_wp2_with fail
  refine ND.out.mono ?_
  rintro e w1 ⟨rfl, hb⟩
  have B1 := Lib.hid hb
  clear hb
  go_wp2
  go_loopw [5, 11] (fun ov kv wr => ov = .slice none 0 0 ∧ kv = .int .i64 0 ∧ wr = w1) (fun _ kv _ => 0)
  case atStart => exact ⟨rfl, rfl, rfl⟩
  case round =>
    obtain ⟨rfl, rfl, rfl⟩ := hrel
    go_wp2
    go_returns
    exact ⟨rfl, B1.out⟩
structure DeT (w W : World) (t r : Int) : Prop where
  bel : Below w.heap.size w W
  one : StAt W w.heap.size t r
  two : StAt W (w.heap.size + 1) 0 0
theorem DeT.step {w W W' : World} {t r : Int} (h : DeT w W t r) (hb : Below W.heap.size W W') : DeT w W' t r := ⟨h.bel.trans (hb.mono h.bel.size), h.one.step hb, h.two.step hb⟩
theorem DeT.out {w W : World} {t r : Int} (h : DeT w W t r) : StAt (sets2 W (w.heap.size + 1) (.int .i64 t) (.int .i64 r)) (w.heap.size + 1) t r ∧ Below w.heap.size w (sets2 W (w.heap.size + 1) (.int .i64 t) (.int .i64 r)) :=
  ⟨row_setC (j := 1) (u := .int .i64 r) (row_setC (j := 0) (u := .int .i64 t) h.two), (h.bel.setCell (p := ⟨w.heap.size + 1, 0, none⟩) (Nat.le_succ _) _).setCell (p := ⟨w.heap.size + 1, 1, none⟩) (Nat.le_succ _) _⟩
set_option maxHeartbeats 1600000 in
theorem top_dead (w : World) (u : Value) (h : Dead w u) (t r : Int) : Calls Try.prog 40 #[u, .agg #[.int .i64 t, .int .i64 r]] w fun e w' => e = .returned (.agg #[.int .i64 t, .int .i64 r]) ∧ Below w.heap.size w w' := by
  have B1 := vstep w (.cells #[.int .i64 t, .int .i64 r] 24)
  have B2 := vstep (w.alloc (.cells #[.int .i64 t, .int .i64 r] 24)) (.cells #[.int .i64 0, .int .i64 0] 24)
  have U0 := Lib.hid (show DeT w ((w.alloc (.cells #[.int .i64 t, .int .i64 r] 24)).alloc (.cells #[.int .i64 0, .int .i64 0] 24)) t r from ⟨B1.trans (B2.mono B1.size), (StAt.new w t r).step B2, by have := StAt.new (w.alloc (.cells #[.int .i64 t, .int .i64 r] 24)) 0 0; rwa [World.size_alloc] at this⟩)
  have D := Lib.hid ((h.step B1).step B2)
  obtain ⟨W0, hW0⟩ : ∃ y, (w.alloc (.cells #[.int .i64 t, .int .i64 r] 24)).alloc (.cells #[.int .i64 0, .int .i64 0] 24) = y := ⟨_, rfl⟩
  rw [hW0] at U0 D
  have HW := Lib.hid hW0
  have LN := Lib.hid (len_dead W0 u D.out)
  obtain ⟨res, EJ⟩ : ∃ res : Int × Int, Hid ((t, r) = res) := ⟨_, Lib.hid rfl⟩
  rw [show (Value.agg #[.int .i64 t, .int .i64 r]) = .agg #[.int .i64 (t, r).1, .int .i64 (t, r).2] from rfl]
  clear B1 B2 hW0 h
  go_enter Try.func40, Try.ntmps40
  go_upto_region 1 with (fail)
  rw [HW.out]
  go_wp2_with fail
  refine LN.out.mono ?_
  rintro e w1 ⟨rfl, hb⟩
  have U1 := Lib.hid (U0.out.step hb)
  clear hb
  go_wp2
  go_loopw [9] (fun kv wr => kv = .int .i64 0 ∧ wr = w1) (fun kv _ => 0)
  case atStart => exact ⟨rfl, rfl⟩
  case round =>
    obtain ⟨rfl, rfl⟩ := hrel
    have U2 := Lib.hid U1.out
    obtain ⟨c1, c2⟩ := U2.out.one.cells
    obtain ⟨e1, e2⟩ := U2.out.two.cells
    obtain ⟨f1, f2⟩ := U2.out.two.free
    have UO := Lib.hid U2.out.out
    go_wp2
    obtain ⟨w9, hw9⟩ : ∃ y, sets2 wr (w.heap.size + 1) (.int .i64 t) (.int .i64 r) = y := ⟨_, rfl⟩
    rw [hw9] at UO
    unfold sets2 at hw9
    rw [hw9]
    clear hw9 c1 c2 e1 e2 f1 f2
    obtain ⟨d0, d1⟩ := UO.out.1.cells
    refine bodyPost_ret (by simp [results, Try.results40, go_sem, d0, d1]; try rfl) rfl ?_
    exact ⟨rfl, UO.out.2⟩
end Go.Proofs.Ytegmlekeielmoaa
