/- Slices of truths: start, onward, oneByte. -/
import Derived.Test.YtgiiddcjepjgcaaDoorPS
import Derived.Deep.OwnRows
import Derived.Laws.OwnMore
set_option linter.unusedVariables false
namespace Go.Proofs.YtgiiddcjepjgcaaDoor
open Go.RowKit

theorem info4 : (Tryd.prog.info? 4).map (fun i => (i.zero, i.size, i.bytes)) = some (some (.bool false), 1, 1) := by kernel_rfl
def rowB (n : Nat) (f : Nat → Bool) : List Value := (List.range n).map fun i => Value.bool (f i)
theorem rowB_len (n : Nat) (f : Nat → Bool) : (rowB n f).length = n := by unfold rowB; simp
theorem rowB_get (n : Nat) (f : Nat → Bool) (i : Nat) (h : i < n) : (rowB n f)[i]? = some (.bool (f i)) := by
  unfold rowB
  rw [List.getElem?_map, List.getElem?_range h]
  rfl
def updB (f : Nat → Bool) (k : Nat) (b : Bool) : Nat → Bool := fun i => if i = k then b else f i
theorem rowB_set (n : Nat) (f : Nat → Bool) (k : Nat) (b : Bool) : (rowB n f).set k (.bool b) = rowB n (updB f k b) := by
  refine List.ext_getElem? fun i => ?_
  rw [List.getElem?_set, rowB_len]
  by_cases hi : i < n
  · rw [rowB_get n f i hi, rowB_get n (updB f k b) i hi]
    unfold updB
    by_cases e : k = i
    · subst e
      rw [if_pos rfl, if_pos hi, if_pos rfl]
    · rw [if_neg e, if_neg (fun q => e q.symm)]
  · have h1 : (rowB n f)[i]? = none := List.getElem?_eq_none (by rw [rowB_len]; omega)
    have h2 : (rowB n (updB f k b))[i]? = none := List.getElem?_eq_none (by rw [rowB_len]; omega)
    rw [h1, h2]
    by_cases e : k = i
    · subst e
      rw [if_pos rfl, if_neg hi]
    · rw [if_neg e]
theorem rowB_congr {n : Nat} {f g : Nat → Bool} (h : ∀ i, i < n → f i = g i) : rowB n f = rowB n g := by
  unfold rowB
  exact List.map_congr_left fun i hi => by rw [h i (List.mem_range.1 hi)]
/-- Where an own truth lies, and what a store there makes. -/
theorem own_bool {W : World} {B n : Nat} {v : Value} {f : Nat → Bool} (h : W.ownsRow B 4 1 v n (rowB n f)) (hn : 0 < n) : ∃ g cap, v = .slice (some ⟨g, 0, none⟩) n cap ∧ B ≤ g ∧ g < W.heap.size ∧ ∀ i, i < n → W.cell? ⟨g, i, none⟩ = some (.bool (f i)) ∧ W.frozen? ⟨g, i, none⟩ = false ∧
    ∀ b : Bool, (W.setCell ⟨g, i, none⟩ (.bool b)).ownsRow B 4 1 v n (rowB n (updB f i b)) := by
  have h0 := h
  rcases h.2 with ⟨_, e⟩ | ⟨g, cap, cur, rfl, hB, hg, _⟩
  · omega
  · refine ⟨g, cap, rfl, hB, lt_of_block hg, fun i hi => ⟨?_, h0.frozenAt _, fun b => ?_⟩⟩
    · rw [h0.cellAt i (by omega), rowB_get n f i hi]
    · have := (h0.stored i (.bool b)).1
      rw [rowB_set] at this
      exact this
theorem made_own (W : World) (n : Nat) (hn : n ≤ 1000000) : (W.alloc (.cells (madeCells #[.bool false] n) 4)).ownsRow W.heap.size 4 1 (.slice (some ⟨W.heap.size, 0, none⟩) n n) n (rowB n (fun _ => false)) := by
  refine ⟨by rw [rowB_len, Nat.mul_one], .inr ⟨W.heap.size, n, _, rfl, Nat.le_refl _, heap_alloc_new W _, Nat.le_refl _, by unfold maxLen; omega, by rw [size_madeCells, Nat.mul_one], ?_⟩⟩
  rw [List.take_of_length_le (by rw [Array.length_toList, size_madeCells]; omega)]
  unfold madeCells rowB
  rw [Array.toList_map, Array.toList_range]
  refine List.map_congr_left fun i _ => ?_
  show #[Value.bool false][i % 1]! = _
  rw [Nat.mod_one]
  rfl
set_option maxRecDepth 100000 in
set_option maxHeartbeats 1600000 in
theorem start_any (w : World) (n : Nat) (hn : n ≤ 10000) : Calls Tryd.prog 24 #[.int .i64 (n : Int)] w fun e w' => ∃ r, e = .returned r ∧ w'.ownsRow w.heap.size 4 1 r (n + 1) (rowB (n + 1) (fun i => i == 0)) ∧ Below w.heap.size w w' := by
  obtain ⟨m, hm⟩ : ∃ m, n + 1 = m := ⟨_, rfl⟩
  have hmk := fun W => run_make_row' (P := Tryd.prog) 40 4 (.bool false) 1 Tryd.underlying40 info4 rfl .i64 .i64 m (by omega) (by omega) W
  have e1 : (n : Int) + 1 = (m : Int) := by omega
  have e2 : IntKind.i64.wrap ((n : Int) + 1) = (m : Int) := by rw [IntKind.wrap_i64]; omega
  have e3 : wrap64 ((n : Int) + 1) = (m : Int) := by unfold wrap64; omega
  have e4 : IntKind.i64.wrap (m : Int) = (m : Int) := by rw [IntKind.wrap_i64]; omega
  have MO := Lib.hid (made_own w m (by omega))
  have BA := Lib.hid (show Below w.heap.size w (w.alloc (.cells (madeCells #[.bool false] m) 4)) from vstep w _)
  obtain ⟨W1, hW1⟩ : ∃ y, w.alloc (.cells (madeCells #[.bool false] m) 4) = y := ⟨_, rfl⟩
  rw [hW1] at MO BA
  have HW1 := Lib.hid hW1
  obtain ⟨g, cap, hv, hB, hg, hc⟩ := own_bool MO.out (by omega)
  injection hv with hv1 hv2 hv3
  injection hv1 with hv1
  injection hv1 with hv1
  subst hv1 hv3
  obtain ⟨c0, f0, st⟩ := hc 0 (by omega)
  have ST := Lib.hid (st true)
  have hm0 : (0 : Int) < (m : Int) := by omega
  have HM := Lib.hid hm
  clear hm hW1 hc st hv2
  go_enter Tryd.func24, Tryd.ntmps24
  go_upto_region 2 with (fail)
  rw [HW1.out]
  clear hmk e1 e2 e3 e4
  go_wp2
  go_returns
  refine ⟨_, rfl, ?_, BA.out.setCell (p := ⟨w.heap.size, 0, none⟩) (Nat.le_refl _) _⟩
  rw [HM.out]
  have e : rowB m (updB (fun _ => false) 0 true) = rowB m (fun i => i == 0) := rowB_congr fun i _ => by
    unfold updB
    by_cases e : i = 0
    · rw [if_pos e, e]; rfl
    · rw [if_neg e]; exact (beq_eq_false_iff_ne.2 e).symm
  rw [← e]
  exact ST.out
end Go.Proofs.YtgiiddcjepjgcaaDoor
