/- Whole. -/
import Derived.Test.YtpklcddfoegogaaReE
import Derived.RegionIn
set_option linter.unusedVariables false
namespace Go.Proofs.Ytpklcddfoegogaa
open Go.RowKit Go.Shelf
attribute [local go_sem] Oper.semAt_some

/-- Where the last record ends. -/
def fin (pre : List It) : Nat := pre.foldl (fun _ x => x.1.1 + x.1.2.2.1 + 8) 0
theorem fin_snoc (pre : List It) (x : It) : fin (pre ++ [x]) = x.1.1 + x.1.2.2.1 + 8 := by unfold fin; rw [List.foldl_append]; rfl
def fin' (l : List (Nat × Nat)) : Nat := l.foldl (fun _ x => x.1 + x.2 + 8) 0
theorem fin_sh (pre : List It) : fin pre = fin' (pre.map sh) := by
  unfold fin fin' sh
  rw [List.foldl_map]
theorem fin'_cons (a : Nat) (x : Nat × Nat) (l : List (Nat × Nat)) : (x :: l).foldl (fun _ x => x.1 + x.2 + 8) a = l.foldl (fun _ x => x.1 + x.2 + 8) (x.1 + x.2 + 8) := rfl
theorem fin_recs : ∀ (n at_ : Nat) (bs : List Nat), bs.length ≤ n → (shr (recsAt at_ bs)).foldl (fun _ x => x.1 + x.2 + 8) at_ = at_ + takes (recsAt at_ bs)
  | n, at_, bs, hn => by
    by_cases h : (fst bs).2.2 = 0
    · have hl := fst_len h
      rw [recsAt_ok h]
      match n, hn with
      | 0, hn => omega
      | n + 1, hn =>
        have ih := fin_recs n (at_ + (fst bs).2.1) (bs.drop (fst bs).2.1) (by rw [List.length_drop]; omega)
        show (shr (recsAt (at_ + (fst bs).2.1) (bs.drop (fst bs).2.1))).foldl _ (at_ + (fst bs).1.length + 8) = at_ + ((fst bs).1.length + 8 + takes _)
        rw [show at_ + (fst bs).1.length + 8 = at_ + (fst bs).2.1 by omega, ih]
        omega
    · rw [recsAt_no h]; rfl
theorem KeepRow.setCell {lo hi : Nat} (W : World) (b j : Nat) (v : Value) (h : b < lo) : KeepRow lo hi W (W.setCell ⟨b, j, none⟩ v) := fun k h1 h2 o ho _ => (Below.heap_setCell W ⟨b, j, none⟩ v k (by show k ≠ b; omega)).trans ho
theorem KeepRow.refl {lo hi : Nat} (W : World) : KeepRow lo hi W W := fun _ _ _ _ h _ => h

theorem ca_l {W : World} {a : Addr} {v : Value} (o : Obj) (h : W.cell? a = some v) : (W.alloc o).cell? a = some v := cell_kept h (World.grownBy_alloc W o none) (fun r e => by cases e)
theorem fa_l {W : World} {a : Addr} {v : Value} (o : Obj) (h : W.cell? a = some v) (hf : W.frozen? a = false) : (W.alloc o).frozen? a = false := (frozen_kept h (World.grownBy_alloc W o none) (fun r e => by cases e)).trans hf
theorem cn_l (W : World) (v : Value) (t : TypeId) : (W.alloc (.cells #[v] t)).cell? ⟨W.heap.size, 0, none⟩ = some v ∧ (W.alloc (.cells #[v] t)).frozen? ⟨W.heap.size, 0, none⟩ = false := by
  have h := heap_alloc_new W (.cells #[v] t)
  exact ⟨cell_of_one h, frozen_of_row _ _ _ _ _ h⟩
theorem two_set {W : World} {a b : Nat} (hab : a ≠ b) {x y u v : Value} (hc : W.cell? ⟨a, 0, none⟩ = some x) (hf : W.frozen? ⟨a, 0, none⟩ = false) (hc2 : W.cell? ⟨b, 0, none⟩ = some y) (hf2 : W.frozen? ⟨b, 0, none⟩ = false) :
    ((W.setCell ⟨a, 0, none⟩ u).setCell ⟨b, 0, none⟩ v).cell? ⟨a, 0, none⟩ = some u ∧ ((W.setCell ⟨a, 0, none⟩ u).setCell ⟨b, 0, none⟩ v).frozen? ⟨a, 0, none⟩ = false ∧
    ((W.setCell ⟨a, 0, none⟩ u).setCell ⟨b, 0, none⟩ v).cell? ⟨b, 0, none⟩ = some v ∧ ((W.setCell ⟨a, 0, none⟩ u).setCell ⟨b, 0, none⟩ v).frozen? ⟨b, 0, none⟩ = false := by
  have e1 : (W.setCell ⟨a, 0, none⟩ u).cell? ⟨b, 0, none⟩ = some y := (World.cell?_of_block (Below.heap_setCell W ⟨a, 0, none⟩ _ b (by show b ≠ a; omega))).trans hc2
  exact ⟨(World.cell?_of_block (Below.heap_setCell _ ⟨b, 0, none⟩ _ a (by show a ≠ b; omega))).trans (World.cell?_setCell_same' W ⟨a, 0, none⟩ u (by rw [hc]; rfl)), by rw [World.frozen?_setCell, World.frozen?_setCell]; exact hf,
    World.cell?_setCell_same' _ ⟨b, 0, none⟩ v (by rw [e1]; rfl), by rw [World.frozen?_setCell, World.frozen?_setCell]; exact hf2⟩

set_option maxRecDepth 100000 in
set_option maxHeartbeats 2000000 in
theorem whole_in (n : Nat) (hn : 4 ≤ n) (w : World) (v : Value) (bs : List Nat) (h : Lies w v bs) (hb : Byt bs) (hl : bs.length ≤ 200000) :
    CallsIn Fence.wide n Try.prog 15 #[v] w fun e w' => e = .returned (.tuple #[.int .i64 ((recs bs).length : Int), .int .i64 (takes (recs bs) : Int)]) ∧ Below w.heap.size w w' := by
  have h1 : 1 ≤ n := by omega
  have hro : Fence.wide.round = none := rfl
  have H := Lib.hid h
  obtain ⟨ao, cap, rfl, _⟩ := h
  obtain ⟨W0, hW0⟩ : ∃ W0, (w.alloc (.cells #[.int .i64 0] 3)).alloc (.cells #[.int .i64 0] 3) = W0 := ⟨_, rfl⟩
  have B0 : Below w.heap.size w W0 := by rw [← hW0]; exact ((Below.refl _ _).alloc (Nat.le_refl _) _).alloc (by simp) _
  have z0 : W0.heap.size = w.heap.size + 2 := by rw [← hW0]; simp
  have c0 : W0.cell? ⟨w.heap.size, 0, none⟩ = some (.int .i64 0) ∧ W0.frozen? ⟨w.heap.size, 0, none⟩ = false := by
    rw [← hW0]
    have := cn_l w (.int .i64 0) 3
    exact ⟨ca_l _ this.1, fa_l _ this.1 this.2⟩
  have c1 : W0.cell? ⟨w.heap.size + 1, 0, none⟩ = some (.int .i64 0) ∧ W0.frozen? ⟨w.heap.size + 1, 0, none⟩ = false := by
    rw [← hW0]
    have := cn_l (w.alloc (.cells #[.int .i64 0] 3)) (.int .i64 0) 3
    simpa only [World.size_alloc] using this
  have A := Lib.hid (callsIn_wide (n := n - 1).2 (all_any W0 _ bs (H.out.later B0) hl))
  have HW := Lib.hid hW0
  have HZ := Lib.hid z0
  have HC0 := Lib.hid c0
  have HC1 := Lib.hid c1
  have HB0 := Lib.hid B0
  clear hW0 z0 c0 c1 B0
  refine callsIn_of_wp_marks Try.func15 rfl trivial ?_ hro
  simp only [Try.ntmps15, List.size_toArray, List.length_cons, List.length_nil, Nat.reduceAdd, Nat.reduceSub, Array.replicate_succ, Array.replicate_zero, List.push_toArray, List.append_toArray, List.nil_append, List.cons_append]
  gi_wp2_with fail
  rw [HW.out]
  refine ⟨trivial, ?_⟩
  refine A.out.mono ?_
  rintro e w1 ⟨r, rfl, hc, hL, hs, hb1⟩
  rw [HZ.out] at hc hL hs ⊢
  have hk0 : w1.cell? ⟨w.heap.size, 0, none⟩ = some (.int .i64 0) := (hb1.cell (p := ⟨w.heap.size, 0, none⟩) (by rw [HZ.out]; show w.heap.size < _; omega)).trans HC0.out.1
  have hk0' : w1.frozen? ⟨w.heap.size, 0, none⟩ = false := (hb1.frozen (p := ⟨w.heap.size, 0, none⟩) (by rw [HZ.out]; show w.heap.size < _; omega)).trans HC0.out.2
  have hk1 : w1.cell? ⟨w.heap.size + 1, 0, none⟩ = some (.int .i64 0) := (hb1.cell (p := ⟨w.heap.size + 1, 0, none⟩) (by rw [HZ.out]; show w.heap.size + 1 < _; omega)).trans HC1.out.1
  have hk1' : w1.frozen? ⟨w.heap.size + 1, 0, none⟩ = false := (hb1.frozen (p := ⟨w.heap.size + 1, 0, none⟩) (by rw [HZ.out]; show w.heap.size + 1 < _; omega)).trans HC1.out.2
  have hB1 : Below w.heap.size w w1 := HB0.out.trans (hb1.mono (by rw [HZ.out]; omega))
  have hRd : Rd (w.heap.size + 2) w1.heap.size (w.heap.size + 2) bs w1 := ⟨Nat.le_refl _, hs, r, hc, hL⟩
  gi_wp2_with fail
  refine wpIn_rangeFunc_ownF hro h1 (gf := 22) (lb := #[.pointer (some ⟨w.heap.size + 2, 0, none⟩)]) rfl trivial (enters_of Try.func22 (by kernel_rfl) rfl)
    (all_stops (n - 1) (by omega) (w.heap.size + 2) w1.heap.size (w.heap.size + 2) bs hb hl w1 hRd) (fun h k => KeepRow.trans h k) (fun W l o o' _ h hc _ => KeepRow.putObj W l o o' h hc) (Below.refl _ _) (fun _ => rfl)
    (fun pre W => (W.cell? ⟨w.heap.size, 0, none⟩ = some (.int .i64 (pre.length : Int)) ∧ W.frozen? ⟨w.heap.size, 0, none⟩ = false ∧ W.cell? ⟨w.heap.size + 1, 0, none⟩ = some (.int .i64 (fin pre : Int)) ∧ W.frozen? ⟨w.heap.size + 1, 0, none⟩ = false) ∧ Below w.heap.size w W)
    (fun _ _ _ => False)
    (OwnFrom.and (Own.from (fun s A B row hs hg hr => ⟨cell_kept hs.1 hg hr, (frozen_kept hs.1 hg hr).trans hs.2.1, cell_kept hs.2.2.1 hg hr, (frozen_kept hs.2.2.1 hg hr).trans hs.2.2.2⟩) _) (ownFrom_below (Nat.le_refl _) (by omega)))
    (fun _ _ _ _ _ hs _ _ => hs)
    ⟨⟨hk0, hk0', hk1, hk1'⟩, hB1⟩
    (fun x => { tmps := #[.slice ao bs.length cap, undef, .int .i64 0, .int .i64 0, .pointer (some ⟨w.heap.size, 0, none⟩), .pointer (some ⟨w.heap.size + 1, 0, none⟩), .int .i64 (x.1.1 : Int), .slice x.1.2.1 x.1.2.2.1 x.1.2.2.2, .slice ao bs.length cap, .func (.func 22) #[] #[.pointer (some ⟨w.heap.size + 2, 0, none⟩)], .int .i64 (x.1.1 : Int), .slice x.1.2.1 x.1.2.2.1 x.1.2.2.2, undef, undef, undef, undef, undef, undef, undef, undef, undef], defers := [] }) ?assign ?body ?done ?stop
  case assign =>
    intro l x W K hK
    gi_wp2
    exact hK
  case body =>
    rintro l pre ⟨⟨at_, a2, m, c2⟩, b1, b2⟩ W ⟨⟨d0, d0', d1, d1'⟩, hB⟩ hN
    dsimp only at b1 b2 ⊢
    have hp2 : pre.length ≤ 200000 := by omega
    have Z := Lib.hid (fun W => CallsIn.inRound l (callsIn_wide (n := n - 1 - 1 - 1).2 (size_nat W m (by omega))))
    have T2 := Lib.hid (fun (u v : Value) => two_set (u := u) (v := v) (show w.heap.size ≠ w.heap.size + 1 by omega) d0 d0' d1 d1')
    have hd : 1 ≤ n - 1 - 1 := by omega
    clear hk0 hk0' hk1 hk1' hN
    gi_wp2_with fail
    refine ⟨trivial, ?_⟩
    refine (Z.out _).mono ?_
    rintro e w3 ⟨rfl, rfl⟩
    gi_wp2
    have T3 := T2.out (.int .i64 ((pre.length : Int) + 1)) (.int .i64 ((at_ : Int) + ((m : Int) + 8)))
    refine ⟨(KeepsOthers.setCell _ _ _).trans (KeepsOthers.setCell _ _ _), (KeepRow.setCell _ _ _ _ (by omega)).trans (KeepRow.setCell _ _ _ _ (by omega)), ⟨?_, T3.2.1, ?_, T3.2.2.2⟩, (hB.setCell (p := ⟨w.heap.size, 0, none⟩) (Nat.le_refl _) _).setCell (p := ⟨w.heap.size + 1, 0, none⟩) (by simp) _⟩
    · rw [T3.1, List.length_append]; rfl
    · rw [T3.2.2.1, fin_snoc]
      dsimp only
      rw [show ((at_ + m + 8 : Nat) : Int) = (at_ : Int) + ((m : Int) + 8) by omega]
  case done =>
    rintro D ys W hD hS ⟨⟨d0, d0', d1, d1'⟩, hB⟩ hK
    have e1 : ys.length = (recs bs).length := by
      have := congrArg List.length hS
      unfold shr at this
      simpa using this
    have e2 : fin ys = takes (recs bs) := by
      rw [fin_sh, hS]
      have := fin_recs bs.length 0 bs (Nat.le_refl _)
      rw [Nat.zero_add] at this
      exact this
    rw [e1] at d0
    rw [e2] at d1
    have hD2 : w1.heap.size ≤ D := hD
    clear hk0 hk0' hk1 hk1' e1 e2 hS
    gi_wp2
    gi_region
    gi_wp2
    have hK' : W.drew.heap[D]? = some (Obj.deferred (some [])) := hK
    refine ⟨by simp, .inl ⟨_, _, rfl, run_takeDeferred hK', ?_⟩⟩
    refine ⟨.tuple #[.int .i64 ((recs bs).length : Int), .int .i64 (takes (recs bs) : Int)], ?_, rfl, hB.drew.trans (belowK_b (w := w) (Nat.le_refl _) W.drew D _ _ (by omega) hK' rfl rfl)⟩
    simp [results, Try.f15, go_sem]
  case stop =>
    rintro D c pre W _ _ h _
    exact h.elim

theorem whole_any (w : World) (v : Value) (bs : List Nat) (h : Lies w v bs) (hb : Byt bs) (hl : bs.length ≤ 200000) :
    Calls Try.prog 15 #[v] w fun e w' => e = .returned (.tuple #[.int .i64 ((recs bs).length : Int), .int .i64 (takes (recs bs) : Int)]) ∧ Below w.heap.size w w' :=
  callsIn_wide.1 (whole_in 4 (Nat.le_refl _) w v bs h hb hl)
end Go.Proofs.Ytpklcddfoegogaa
