/- Slices of ops, built; the law's long. -/
import Derived.Test.YtifeakmbeaflgaaDoorOK
import Derived.Test.YtifeakmbeaflgaaDoorOL2
import Derived.Test.YtifeakmbeaflgaaDoorOJ
import Derived.Deep.RegionHeld3
set_option linter.unusedVariables false
namespace Go.Proofs.YtifeakmbeaflgaaDoor
open Go.RowKit

theorem olies_new (W : World) (l : List O) (c : Array Value) (hc : c.toList = cs9 l) (hm : l.length ≤ maxLen) : OLies (W.alloc (.cells c 25)) (.slice (some ⟨W.heap.size, 0, none⟩) l.length l.length) l := by
  refine ⟨_, l.length, rfl, Nat.le_refl _, hm, (fun h => by cases h), fun b hb _ => ?_⟩
  cases hb
  refine ⟨W.heap.size, 0, rfl, by simp, fun j p hj i u hi => ?_⟩
  have hi9 : i < 9 := by have := (List.getElem?_eq_some_iff.1 hi).1; rwa [oc_len] at this
  rw [cell_of_row _ _ _ _ _ _ (heap_alloc_new W _), Nat.zero_add, ← Array.getElem?_toList, hc, cs9_get l j p hj i hi9]
  exact hi
abbrev arr2 (a b : O) : Array Value := #[.int .i64 a.t, .int .i64 a.r, .int .i64 a.q, .int .i64 a.nt, .int .i64 a.nr, .int .i64 a.pt, .int .i64 a.pr, .string a.nm, .bool a.d, .int .i64 b.t, .int .i64 b.r, .int .i64 b.q, .int .i64 b.nt, .int .i64 b.nr, .int .i64 b.pt, .int .i64 b.pr, .string b.nm, .bool b.d]
theorem bs_op2 (W : World) (a b : O) : (Instr.buildSlice 27 2 #[(0, .agg #[.int .i64 a.t, .int .i64 a.r, .int .i64 a.q, .int .i64 a.nt, .int .i64 a.nr, .int .i64 a.pt, .int .i64 a.pr, .string a.nm, .bool a.d]), (1, .agg #[.int .i64 b.t, .int .i64 b.r, .int .i64 b.q, .int .i64 b.nt, .int .i64 b.nr, .int .i64 b.pt, .int .i64 b.pr, .string b.nm, .bool b.d])]).run Tryd.prog W = .ok (.slice (some ⟨W.heap.size, 0, none⟩) 2 2) (W.alloc (.cells (arr2 a b) 25)) := by go_simp
theorem two_op (W : World) (a b : O) : OLies (W.alloc (.cells (arr2 a b) 25)) (.slice (some ⟨W.heap.size, 0, none⟩) 2 2) [a, b] := olies_new W [a, b] (arr2 a b) rfl (by unfold maxLen; simp)
noncomputable def longO (l : List O) : Bool := @decide ((∃ (i : Nat) (o : O), i < 100 ∧ l[i]? = some o ∧ 300 < o.nm.size) ∨ 70 < l.length) (Classical.propDecidable _)
theorem longO_yes {l : List O} (i : Nat) (o : O) (hi : i < 100) (h : l[i]? = some o) (hs : 300 < o.nm.size) : longO l = true := by
  unfold longO; exact @decide_eq_true _ (Classical.propDecidable _) (.inl ⟨i, o, hi, h, hs⟩)
theorem longO_no {l : List O} (h : longO l = false) : l.length ≤ 70 ∧ ∀ o ∈ l, o.nm.size ≤ 300 := by
  unfold longO at h
  have h := @of_decide_eq_false _ (Classical.propDecidable _) h
  have hl : l.length ≤ 70 := Nat.not_lt.1 (fun c => h (.inr c))
  refine ⟨hl, fun o ho => Nat.not_lt.1 (fun c => ?_)⟩
  obtain ⟨i, hi⟩ := List.mem_iff_getElem?.1 ho
  exact h (.inl ⟨i, o, by have := (List.getElem?_eq_some_iff.1 hi).1; omega, hi, c⟩)
theorem longO_end {l : List O} (h : ∀ (i : Nat) (o : O), i < 100 → l[i]? = some o → o.nm.size ≤ 300) : longO l = decide (70 < l.length) := by
  unfold longO
  by_cases c : 70 < l.length
  · rw [@decide_eq_true _ (Classical.propDecidable _) (.inr c), decide_eq_true c]
  · rw [@decide_eq_false _ (Classical.propDecidable _) (fun e => e.elim (fun ⟨i, o, hi, ho, hs⟩ => by have := h i o hi ho; omega) c), decide_eq_false c]
set_option maxRecDepth 100000 in
set_option maxHeartbeats 1600000 in
theorem long_any (w : World) (v : Value) (l : List O) (h : OLies w v l) :
    Calls Tryd.prog 8 #[v] w fun e w' => e = .returned (.bool (longO l)) ∧ w = w' := by
  have hlm := h.len
  have H := Lib.hid h
  obtain ⟨ao, cap, rfl⟩ := h.shape
  clear h
  go_enter Tryd.func8, Tryd.ntmps8
  go_wp2
  go_loop [3] (fun kv => ∃ i : Nat, kv = .int .i64 i ∧ i ≤ l.length ∧ i ≤ 100 ∧ Hid (∀ (j : Nat) (o : O), j < i → l[j]? = some o → o.nm.size ≤ 300)) (fun kv => l.length - (intOf kv).toNat)
  case atStart => exact ⟨0, rfl, Nat.zero_le _, Nat.zero_le _, Lib.hid (fun j o h => absurd h (Nat.not_lt_zero _))⟩
  case round =>
    obtain ⟨i, rfl, hi, hi2, hJ⟩ := hrel
    by_cases hlt : i < l.length
    · by_cases h100 : i < 100
      · obtain ⟨g, o, p, rfl, hp, hg, hc⟩ := H.out.at' hlt
        have c7 := hc.2.2.2.2.2.2.2.1
        clear hc hg
        by_cases hs : 300 < p.nm.size
        · have E := Lib.hid (longO_yes i p h100 hp hs)
          clear hp hJ
          go_wp2
          go_returns
          exact ⟨ret_b' (by first | exact E.out | (rw [E.out]; first | exact (decide_eq_true (by omega)).symm | exact (decide_eq_false (by omega)).symm)), rfl⟩
        · have HJ := Lib.hid (show ∀ (j : Nat) (o : O), j < i + 1 → l[j]? = some o → o.nm.size ≤ 300 from fun j o hj ho => by
            by_cases e : j = i
            · subst e; rw [hp] at ho; injection ho with ho; subst ho; omega
            · exact hJ.out j o (by omega) ho)
          clear hp hJ
          go_wp2
          go_round
          case rel => exact ⟨i + 1, by go_num, by omega, by omega, HJ⟩
          case measure => simp [intOf]; omega
      · have E := Lib.hid (longO_end (l := l) (fun j o hj ho => hJ.out j o (by omega) ho))
        clear hJ
        have t1 : decide ((i : Int) < 100) = false := by simp; omega
        by_cases h70 : 70 < l.length
        · rw [decide_eq_true h70] at E
          go_wp2
          go_returns
          exact ⟨ret_b' (by first | exact E.out | (rw [E.out]; first | exact (decide_eq_true (by omega)).symm | exact (decide_eq_false (by omega)).symm)), rfl⟩
        · omega
    · have E := Lib.hid (longO_end (l := l) (fun j o hj ho => hJ.out j o (by have := (List.getElem?_eq_some_iff.1 ho).1; omega) ho))
      clear hJ
      by_cases h70 : 70 < l.length
      · rw [decide_eq_true h70] at E
        go_wp2
        go_returns
        exact ⟨ret_b' (by first | exact E.out | (rw [E.out]; first | exact (decide_eq_true (by omega)).symm | exact (decide_eq_false (by omega)).symm)), rfl⟩
      · rw [decide_eq_false h70] at E
        go_wp2
        go_returns
        exact ⟨ret_b' (by first | exact E.out | (rw [E.out]; first | exact (decide_eq_true (by omega)).symm | exact (decide_eq_false (by omega)).symm)), rfl⟩
end Go.Proofs.YtifeakmbeaflgaaDoor
