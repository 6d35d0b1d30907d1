/- Did, Ops, Base, of any tree whose 'have' is known. -/
import Derived.Test.YtkmeceoilighiaaEC
set_option linter.unusedVariables false
set_option linter.unusedSimpArgs false
set_option maxRecDepth 100000
namespace Go.Proofs.Ytkmeceoilighiaa
open Go.RowKit Go.Shelf
open Tb (Rw setF dropF getF aboveF Rise TabI TM LiesK TOut)
attribute [local go_sem ↓] fld0 fld1 fld2

def didF (S : List Stp) (t r : Int) : Bool := hasO (S.map (·.o)) t r && ((S[posF (S.map (·.o)) t r]?).map (·.did)).getD false
theorem has_pos {S : List Stp} (hu : RiseO (S.map (·.o))) {t r : Int} (h : hasO (S.map (·.o)) t r = true) : posF (S.map (·.o)) t r < S.length := by
  have h1 := pos_le (S.map (·.o)) t r
  rw [List.length_map] at h1
  rcases Nat.lt_or_ge (posF (S.map (·.o)) t r) S.length with h2 | h2
  · exact h2
  · have := has_end hu (show posF (S.map (·.o)) t r = (S.map (·.o)).length by rw [List.length_map]; omega)
    rw [h] at this; cases this
theorem box77 {W : World} {g : Nat} {u : Option Addr} {ft fr : Int} {a : Option Addr} {n c : Nat} (h : W.heap[g]? = some (.cells #[.pointer u, .int .i64 ft, .int .i64 fr, .slice a n c] 77 (0, 0))) :
    W.cell? ⟨g, 0, none⟩ = some (.pointer u) ∧ W.cell? ⟨g, 1, none⟩ = some (.int .i64 ft) ∧ W.cell? ⟨g, 2, none⟩ = some (.int .i64 fr) ∧ W.cell? ⟨g, 3, none⟩ = some (.slice a n c) := by
  refine ⟨?_, ?_, ?_, ?_⟩ <;> (rw [cell_of_row _ _ _ _ _ _ h]; rfl)
/-- The box of a stamp, then that of what have told. -/
structure SB (w W : World) (k : Nat) (t r : Int) (u : Option Addr) (ft fr : Int) (a : Option Addr) (n c : Nat) : Prop where
  bel : Below w.heap.size w W
  st : W.heap[w.heap.size]? = some (.cells #[.int .i64 t, .int .i64 r] 24 (0, 0))
  gr : W.heap[k]? = some (.cells #[.pointer u, .int .i64 ft, .int .i64 fr, .slice a n c] 77 (0, 0))
theorem SB.step {w W W' : World} {k : Nat} {t r : Int} {u : Option Addr} {ft fr : Int} {a : Option Addr} {n c : Nat} (h : SB w W k t r u ft fr a n c) (hb : Below W.heap.size W W') : SB w W' k t r u ft fr a n c :=
  ⟨h.bel.trans (hb.mono h.bel.size), (hb.block _ (pl_lt h.st)).trans h.st, (hb.block _ (pl_lt h.gr)).trans h.gr⟩
theorem SB.cells {w W : World} {k : Nat} {t r : Int} {u : Option Addr} {ft fr : Int} {a : Option Addr} {n c : Nat} (h : SB w W k t r u ft fr a n c) : (W.cell? ⟨w.heap.size, 0, none⟩ = some (.int .i64 t) ∧ W.cell? ⟨w.heap.size, 1, none⟩ = some (.int .i64 r)) ∧
    W.cell? ⟨k, 0, none⟩ = some (.pointer u) ∧ W.cell? ⟨k, 1, none⟩ = some (.int .i64 ft) ∧ W.cell? ⟨k, 2, none⟩ = some (.int .i64 fr) ∧ W.cell? ⟨k, 3, none⟩ = some (.slice a n c) :=
  ⟨⟨by rw [cell_of_row _ _ _ _ _ _ h.st]; rfl, by rw [cell_of_row _ _ _ _ _ _ h.st]; rfl⟩, box77 h.gr⟩
theorem SB.new {w w1 : World} {t r : Int} {u : Option Addr} {ft fr : Int} {a : Option Addr} {n c : Nat} (hb : Below (w.alloc (.cells #[.int .i64 t, .int .i64 r] 24)).heap.size (w.alloc (.cells #[.int .i64 t, .int .i64 r] 24)) w1) :
    SB w (w1.alloc (.cells #[.pointer u, .int .i64 ft, .int .i64 fr, .slice a n c] 77)) w1.heap.size t r u ft fr a n c := by
  have b1 := pl_vstep w (.cells #[.int .i64 t, .int .i64 r] 24)
  have n1 := heap_alloc_new w (.cells #[.int .i64 t, .int .i64 r] 24)
  have b2 := pl_vstep w1 (.cells #[.pointer u, .int .i64 ft, .int .i64 fr, .slice a n c] 77)
  have n2 := (hb.block _ (pl_lt n1)).trans n1
  exact ⟨(b1.trans (hb.mono b1.size)).trans (b2.mono (b1.trans (hb.mono b1.size)).size), (b2.block _ (pl_lt n2)).trans n2, heap_alloc_new w1 _⟩
set_option maxHeartbeats 1600000 in
theorem did_of (w : World) (X : Value) (u : Option Addr) (ft fr : Int) (a : Option Addr) (n c : Nat) (S : List Stp) (t r : Int) (H : Have w X u ft fr a n c) (hS : LiesK stc1 15 w (.slice a n c) S) (hu : RiseO (S.map (·.o))) (hl : S.length ≤ 100000) :
    Calls Try.prog 19 #[X, .agg #[.int .i64 t, .int .i64 r]] w fun e w' => e = .returned (.bool (didF S t r)) ∧ Below w.heap.size w w' := by
  have hb := pl_vstep w (.cells #[.int .i64 t, .int .i64 r] 24)
  have HB := Lib.hid hb
  have NS := Lib.hid (fun w1 hb => @SB.new w w1 t r u ft fr a n c hb)
  have H := Lib.hid (H.step hb)
  have HS := Lib.hid hS
  have HU := Lib.hid hu
  have hn : S.length = n := by obtain ⟨ao, cap, e, _⟩ := hS; injection e with _ e _; exact e.symm
  have HD := Lib.hid (show didF S t r = (hasO (S.map (·.o)) t r && ((S[posF (S.map (·.o)) t r]?).map (·.did)).getD false) from rfl)
  have HP := Lib.hid (@has_pos S hu t r)
  have PL := Lib.hid (fun W (hW : Below w.heap.size w W) => place_of W u ft fr a n c S t r (hS.step hW) hu hl)
  obtain ⟨ps, hps⟩ : ∃ z, posF (S.map (·.o)) t r = z := ⟨_, rfl⟩
  obtain ⟨hs, hhs⟩ : ∃ z, hasO (S.map (·.o)) t r = z := ⟨_, rfl⟩
  rw [hps, hhs] at PL HD HP
  clear hb hS hu hps hhs
  go_enter Try.func19, Try.ntmps19
  go_wp2_with fail
  refine (H.out _ (Below.refl _ _)).mono ?_
  rintro e w1 ⟨rfl, hb⟩
  have K := Lib.hid (NS.out w1 hb)
  clear hb
  go_upto_region 2 with (fail)
  generalize w1.alloc (.cells #[.pointer u, .int .i64 ft, .int .i64 fr, .slice a n c] 77) = w2 at K ⊢
  obtain ⟨k, hk⟩ : ∃ z, w1.heap.size = z := ⟨_, rfl⟩
  rw [hk] at K ⊢
  clear hk
  obtain ⟨⟨s0, s1⟩, g0, g1, g2, g3⟩ := K.out.cells
  go_wp2_with fail
  refine (PL.out w2 K.out.bel).mono ?_
  rintro e w3 ⟨rfl, hb⟩
  have K3 := Lib.hid (K.out.step hb)
  clear hb s0 s1 g0 g1 g2 g3 K
  obtain ⟨⟨s0, s1⟩, g0, g1, g2, g3⟩ := K3.out.cells
  cases hs with
  | false =>
    go_wp2
    go_returns
    exact ⟨by rw [HD.out]; rfl, K3.out.bel⟩
  | true =>
    have hp := HP.out rfl
    obtain ⟨g, o, s, rfl, hx, hg, hc⟩ := lies_elt (HS.out.step K3.out.bel) (i := ps) (by omega)
    have c9 := hc 9 (.bool s.did) rfl
    have p0 : (0 : Int) ≤ (ps : Int) := by omega
    have p1 : (ps : Int) < (n : Int) := by omega
    have HE := Lib.hid (show didF S t r = s.did by rw [HD.out, hx]; rfl)
    clear hc hx HD HP hp
    go_wp2
    go_returns
    exact ⟨by rw [HE.out]; rfl, K3.out.bel⟩
set_option maxHeartbeats 1600000 in
theorem base_of (w : World) (X : Value) (u : Option Addr) (ft fr : Int) (a : Option Addr) (n c : Nat) (S : List Stp) (T : List Rw) (H : Have w X u ft fr a n c) (G : Clones w u T) (hS : LiesK stc1 15 w (.slice a n c) S) (hl : T.length + S.length < 100000) (hok : ∀ s ∈ S, s.ok) :
    Calls Try.prog 29 #[X] w fun e w' => ∃ q b, e = .returned (.pointer (some ⟨q, 0, none⟩)) ∧ TabI w' q b (S.foldr undoF T) ∧ w.heap.size ≤ q ∧ w.heap.size ≤ b ∧ Below w.heap.size w w' := by
  have H := Lib.hid H
  have G := Lib.hid G
  have BK := Lib.hid (fun W (hW : Below w.heap.size w W) p b (h : TabI W p b T) => back_any W p b T u ft fr a n c 0 S h (hS.step hW) (Nat.zero_le _) hl hok)
  rw [List.drop_zero] at BK
  clear hS
  go_enter Try.func29, Try.ntmps29
  go_wp2_with fail
  refine (H.out _ (Below.refl _ _)).mono ?_
  rintro e w1 ⟨rfl, hb⟩
  have B1 := Lib.hid hb
  clear hb
  go_upto_region 2 with (fail)
  have N2 := Lib.hid (heap_alloc_new w1 (.cells #[.pointer u, .int .i64 ft, .int .i64 fr, .slice a n c] 77))
  have B2 := Lib.hid (B1.out.trans ((pl_vstep w1 (.cells #[.pointer u, .int .i64 ft, .int .i64 fr, .slice a n c] 77)).mono B1.out.size))
  generalize w1.alloc (.cells #[.pointer u, .int .i64 ft, .int .i64 fr, .slice a n c] 77) = w2 at N2 B2 ⊢
  obtain ⟨k, hk⟩ : ∃ z, w1.heap.size = z := ⟨_, rfl⟩
  rw [hk] at N2 ⊢
  have hk0 : w.heap.size ≤ k := by rw [← hk]; exact B1.out.size
  clear hk
  obtain ⟨g0, g1, g2, g3⟩ := box77 N2.out
  go_wp2_with fail
  refine (G.out w2 B2.out).mono ?_
  rintro e w3 ⟨q, b, rfl, h1, h2, h3, hb⟩
  have T3 := Lib.hid h1
  have Z3 := Lib.hid (show w.heap.size ≤ q ∧ w.heap.size ≤ b from ⟨Nat.le_trans B2.out.size h2, Nat.le_trans B2.out.size h3⟩)
  have N3 := Lib.hid ((hb.block _ (pl_lt N2.out)).trans N2.out)
  have B3 := Lib.hid (B2.out.trans (hb.mono B2.out.size))
  clear h1 h2 h3 hb g0 g1 g2 g3
  obtain ⟨g0, g1, g2, g3⟩ := box77 N3.out
  go_wp2_with fail
  refine (BK.out w3 B3.out q b T3.out).mono ?_
  rintro e w4 ⟨rfl, ho⟩
  have F := Lib.hid (show TabI w4 q b (S.foldr undoF T) ∧ Below w.heap.size w w4 from ⟨ho.tab, B3.out.grown ho.grow B3.out.size (fun k e => by injection e with e; subst e; exact Z3.out.2)⟩)
  clear ho g0 g1 g2 g3
  go_wp2
  go_returns
  exact ⟨q, b, rfl, F.out.1, Z3.out.1, Z3.out.2, F.out.2⟩
theorem cs9_flat : ∀ l : List O, cs9 l = l.flatMap oc
  | [] => rfl
  | o :: l => by show oc o ++ cs9 l = _; rw [cs9_flat l, List.flatMap_cons]
theorem take_snocS {l : List Stp} {i : Nat} {x : Stp} (h : l[i]? = some x) : (l.take (i + 1)).map (·.o) = (l.take i).map (·.o) ++ [x.o] := by
  rw [Tb.take_snoc h, List.map_append]; rfl
set_option maxHeartbeats 3200000 in
theorem ops_of (w : World) (X : Value) (u : Option Addr) (ft fr : Int) (a : Option Addr) (n c : Nat) (S : List Stp) (H : Have w X u ft fr a n c) (hS : LiesK stc1 15 w (.slice a n c) S) (hl : S.length ≤ 100000) :
    Calls Try.prog 27 #[X] w fun e w' => ∃ v, e = .returned v ∧ w'.ownsRow w.heap.size 34 9 v (S.map (·.o)).length ((S.map (·.o)).flatMap oc) ∧ Below w.heap.size w w' := by
  obtain ⟨i0, hi0, hz0, hs0, hb0⟩ := info_parts info25
  have H := Lib.hid H
  have hn : S.length = n := by obtain ⟨ao, cap, e, _⟩ := hS; injection e with _ e _; exact e.symm
  have HS := Lib.hid hS
  clear hS
  go_enter Try.func27, Try.ntmps27
  go_wp2_with fail
  refine (H.out _ (Below.refl _ _)).mono ?_
  rintro e w1 ⟨rfl, hb⟩
  have B1 := Lib.hid hb
  clear hb
  go_wp2_with fail
  go_loopw [3, 10] (fun ov kv wr => ∃ i : Nat, kv = .int .i64 i ∧ i ≤ n ∧ Hid (wr.ownsRow w.heap.size 34 9 ov ((S.take i).map (·.o)).length (((S.take i).map (·.o)).flatMap oc) ∧ Below w.heap.size w wr)) (fun _ kv _ => n - (intOf kv).toNat)
  case atStart => exact ⟨0, rfl, Nat.zero_le _, Lib.hid ⟨World.ownsRow_nil _ _ _ _, B1.out⟩⟩
  case round =>
    obtain ⟨i, rfl, hi, hK⟩ := hrel
    obtain ⟨oa, ocp, rfl⟩ := Tb.own_shapeK hK.out.1
    have O0 := Lib.hid hK.out.1
    have K0 := Lib.hid hK.out.2
    have LN := Lib.hid (show ((S.take i).map (·.o)).length ≤ 100000 from by rw [List.length_map, List.length_take]; omega)
    clear hK
    by_cases hlt : i < n
    · obtain ⟨g, o, s, rfl, hx, hg, hc⟩ := lies_elt (HS.out.step K0.out) (i := i) (by omega)
      have NX := Lib.hid (take_snocS hx)
      have LX := Lib.hid (@ldS wr g (o + i * 15) s hc)
      obtain ⟨⟨t, r, q, nt, nr, pt, pr, nm, d⟩, did, had, wt, wr', wn, wd⟩ := s
      unfold stV stCells at LX
      dsimp only at LX NX
      have hk0 : (0 : Int) ≤ (i : Int) := by omega
      have hk1 : (i : Int) < (n : Int) := by omega
      have hd : decide ((i : Int) < (n : Int)) = true := decide_eq_true hk1
      generalize (S.take i).map (·.o) = ks at *
      have B5 := Lib.hid (pl_vstep wr (.cells #[.int .i64 t, .int .i64 r, .int .i64 q, .int .i64 nt, .int .i64 nr, .int .i64 pt, .int .i64 pr, .string nm, .bool d, .bool did, .bool had, .int .i64 wt, .int .i64 wr', .string wn, .bool wd] 89))
      have N5 := Lib.hid (heap_alloc_new wr (.cells #[.int .i64 t, .int .i64 r, .int .i64 q, .int .i64 nt, .int .i64 nr, .int .i64 pt, .int .i64 pr, .string nm, .bool d, .bool did, .bool had, .int .i64 wt, .int .i64 wr', .string wn, .bool wd] 89))
      clear hc hx
      go_upto_region 5 with (first
        | (refine Ve.wpList_load_arr rfl (.tmp 12) 89 rfl (.pointer (some ⟨g, o + i * 15, none⟩)) _ rfl LX.out ?_))
      have O5 := Lib.hid (Tb.own_belowK O0.out B5.out)
      have K5 := Lib.hid (K0.out.trans (B5.out.mono K0.out.size))
      generalize wr.alloc (.cells #[.int .i64 t, .int .i64 r, .int .i64 q, .int .i64 nt, .int .i64 nr, .int .i64 pt, .int .i64 pr, .string nm, .bool d, .bool did, .bool had, .int .i64 wt, .int .i64 wr', .string wn, .bool wd] 89) = w5 at N5 O5 K5 ⊢
      clear B5 LX
      have cc : ∀ (j : Nat) (v : Value), ((#[.int .i64 t, .int .i64 r, .int .i64 q, .int .i64 nt, .int .i64 nr, .int .i64 pt, .int .i64 pr, .string nm, .bool d, .bool did, .bool had, .int .i64 wt, .int .i64 wr', .string wn, .bool wd] : Array Value))[j]? = some v → w5.cell? ⟨wr.heap.size, j, none⟩ = some v := fun j v hv => (cell_of_row _ _ _ _ _ _ N5.out).trans hv
      have d0 := cc 0 (.int .i64 t) rfl; have d1 := cc 1 (.int .i64 r) rfl; have d2 := cc 2 (.int .i64 q) rfl; have d3 := cc 3 (.int .i64 nt) rfl; have d4 := cc 4 (.int .i64 nr) rfl
      have d5 := cc 5 (.int .i64 pt) rfl; have d6 := cc 6 (.int .i64 pr) rfl; have d7 := cc 7 (.string nm) rfl; have d8 := cc 8 (.bool d) rfl
      have B6 := Lib.hid (pl_vstep w5 (.cells #[.int .i64 t, .int .i64 r, .int .i64 q, .int .i64 nt, .int .i64 nr, .int .i64 pt, .int .i64 pr, .string nm, .bool d] 34))
      have H6 := Lib.hid (show (w5.alloc (.cells #[.int .i64 t, .int .i64 r, .int .i64 q, .int .i64 nt, .int .i64 nr, .int .i64 pt, .int .i64 pr, .string nm, .bool d] 34)).heap[w5.heap.size]? = some (.cells (oc ⟨t, r, q, nt, nr, pt, pr, nm, d⟩).toArray 34 (0, 0)) from heap_alloc_new w5 _)
      have O6 := Lib.hid (Tb.own_belowK O5.out B6.out)
      have Q6 := Lib.hid (And.intro (show ks.length + 1 ≤ maxLen from by have := LN.out; unfold maxLen; omega) (And.intro (show (ks.length + 1) * 80 ≤ 140737488355328 from by have := LN.out; omega) (show w.heap.size ≤ (w5.alloc (.cells #[.int .i64 t, .int .i64 r, .int .i64 q, .int .i64 nt, .int .i64 nr, .int .i64 pt, .int .i64 pr, .string nm, .bool d] 34)).heap.size from by have := K5.out.size; simp; omega)))
      clear cc N5 B6
      go_wp2_with (at_builtin; refine Tb.wpList_pushK rfl (.tmp 14) (.tmp 17) 30 rfl oc_len (by decide) oc_one w.heap.size 34 i0 _ 80 Try.u27 hi0 hz0 hs0 hb0 rfl (.slice oa ks.length ocp) ks ⟨t, r, q, nt, nr, pt, pr, nm, d⟩ w5.heap.size rfl rfl H6.out O6.out Q6.out.1 Q6.out.2.1 Q6.out.2.2 ?_; intro v7 w7 hown hgr; have O7 := Lib.hid hown; have K7 := Lib.hid (Tb.push_okG K5.out O5.out (Nat.le_refl _) hgr); clear hown hgr)
      clear d0 d1 d2 d3 d4 d5 d6 d7 d8
      rw [← NX.out] at O7
      obtain ⟨oa7, oc7, rfl⟩ := Tb.own_shapeK O7.out
      have FIN := Lib.hid (And.intro O7.out K7.out)
      go_wp2
      go_roundw
      case rel => exact ⟨i + 1, by go_num, by omega, FIN⟩
      case measure => simp [intOf]; omega
    · have ei : i = n := by omega
      subst ei
      have hd : decide ((i : Int) < (i : Int)) = false := by simp
      have FN := Lib.hid (show S.take i = S from by rw [← hn, List.take_length])
      rw [FN.out] at O0
      go_wp2
      go_returns
      have O1 := O0.out
      rw [List.length_map, hn] at O1
      exact ⟨_, rfl, O1, K0.out⟩
end Go.Proofs.Ytkmeceoilighiaa
