/- Slices of two, and of three, vectors, built. -/
import Derived.Test.YtiljmkglmanddaaDoorVI
import Derived.Great.BuildSlice
set_option linter.unusedVariables false
namespace Go.Proofs.YtiljmkglmanddaaDoor
open Go.RowKit

theorem fold_set (off : Nat) : ∀ (l : List Value) (k : Nat) (cs : List Value), off + k + l.length ≤ cs.length →
    (l.zipIdx k).foldl (fun (c : Array Value) (p : Value × Nat) => c.setIfInBounds (off + p.2) p.1) cs.toArray = (cs.take (off + k) ++ l ++ cs.drop (off + k + l.length)).toArray
  | [], k, cs, h => by simp
  | x :: r, k, cs, h => by
    simp only [List.length_cons] at h
    rw [List.zipIdx_cons, List.foldl_cons, List.setIfInBounds_toArray, fold_set off r (k + 1) _ (by rw [List.length_set]; omega)]
    congr 1
    apply List.ext_getElem?
    intro j
    simp only [List.getElem?_append, List.length_append, List.length_take, List.length_set, List.length_cons, List.getElem?_take, List.getElem?_drop, List.getElem?_set, List.getElem?_cons]
    have e : off + (k + 1) = off + k + 1 := by omega
    rw [e]
    by_cases h1 : j < off + k
    · simp only [show j < min (off + k + 1) cs.length by omega, show j < min (off + k + 1) cs.length + r.length by omega, show j < min (off + k) cs.length by omega, show j < min (off + k) cs.length + (r.length + 1) by omega, show j < off + k + 1 by omega, show off + k ≠ j by omega, h1, if_true, if_false]
    · by_cases h2 : j = off + k
      · subst h2
        simp only [show off + k < min (off + k + 1) cs.length by omega, show off + k < min (off + k + 1) cs.length + r.length by omega, show ¬ off + k < min (off + k) cs.length by omega, show off + k < min (off + k) cs.length + (r.length + 1) by omega, show off + k < off + k + 1 by omega, show off + k < cs.length by omega, if_true, if_false]
        rw [if_pos (by omega)]
      · by_cases h3 : j < off + k + 1 + r.length
        · simp only [show ¬ j < min (off + k + 1) cs.length by omega, show j < min (off + k + 1) cs.length + r.length by omega, show ¬ j < min (off + k) cs.length by omega, show j < min (off + k) cs.length + (r.length + 1) by omega, if_true, if_false]
          rw [if_neg (by omega)]
          congr 1
          omega
        · simp only [show ¬ j < min (off + k + 1) cs.length by omega, show ¬ j < min (off + k + 1) cs.length + r.length by omega, show ¬ j < min (off + k) cs.length by omega, show ¬ j < min (off + k) cs.length + (r.length + 1) by omega, if_false]
          rw [if_neg (by omega)]
          congr 1
          omega
theorem fill_step (l : List Int) (hl : l.length = 64) (i : Nat) (cs : List Value) (hc : i * 64 + 64 ≤ cs.length) (rest : List (Nat × Value)) :
    Instr.fill (fun i => some (i * 64, 64)) cs.toArray ((i, vw l) :: rest) = Instr.fill (fun i => some (i * 64, 64)) (cs.take (i * 64) ++ l.map (Value.int .i64) ++ cs.drop (i * 64 + 64)).toArray rest := by
  have hs : (vw l).cells = (l.map (Value.int .i64)).toArray := rfl
  have h := fold_set (i * 64) (l.map (Value.int .i64)) 0 cs (by rw [List.length_map, hl]; omega)
  rw [List.length_map, hl] at h
  rw [Instr.fill]
  simp only [hs, List.size_toArray, List.length_map, hl]
  rw [if_neg (by simp; omega)]
  congr 1
  simpa using h
theorem fill_next (l : List Int) (hl : l.length = 64) (i : Nat) (P R : List Value) (hP : P.length = i * 64) (hR : 64 ≤ R.length) (rest : List (Nat × Value)) :
    Instr.fill (fun i => some (i * 64, 64)) (P ++ R).toArray ((i, vw l) :: rest) = Instr.fill (fun i => some (i * 64, 64)) (P ++ l.map (Value.int .i64) ++ R.drop 64).toArray rest := by
  rw [fill_step l hl i (P ++ R) (by rw [List.length_append]; omega), ← hP, List.take_left', List.drop_append, List.drop_of_length_le (by omega), List.nil_append, Nat.add_sub_cancel_left]
  rfl
theorem fill_two (a b : List Int) (ha : a.length = 64) (hb : b.length = 64) (Z : List Value) (hZ : Z.length = 128) :
    Instr.fill (fun i => some (i * 64, 64)) Z.toArray [(0, vw a), (1, vw b)] = some (va (a ++ b)) := by
  have h1 := fill_next a ha 0 [] Z rfl (by omega) [(1, vw b)]
  rw [List.nil_append, List.nil_append] at h1
  rw [h1, fill_next b hb 1 _ _ (by rw [List.length_map, ha]) (by rw [List.length_drop]; omega), List.drop_drop, List.drop_of_length_le (by omega), List.append_nil, Instr.fill]
  unfold va
  rw [List.map_append]
theorem fill_three (a b c : List Int) (ha : a.length = 64) (hb : b.length = 64) (hc : c.length = 64) (Z : List Value) (hZ : Z.length = 192) :
    Instr.fill (fun i => some (i * 64, 64)) Z.toArray [(0, vw a), (1, vw b), (2, vw c)] = some (va (a ++ b ++ c)) := by
  have h1 := fill_next a ha 0 [] Z rfl (by omega) [(1, vw b), (2, vw c)]
  rw [List.nil_append, List.nil_append] at h1
  rw [h1, fill_next b hb 1 _ _ (by rw [List.length_map, ha]) (by rw [List.length_drop]; omega), List.drop_drop,
    fill_next c hc 2 _ _ (by rw [List.length_append, List.length_map, List.length_map, ha, hb]) (by rw [List.length_drop]; omega), List.drop_drop, List.drop_of_length_le (by omega), List.append_nil, Instr.fill]
  unfold va
  rw [List.map_append, List.map_append]
theorem u60_24 : Tryd.prog.underlying 60 = some (.slice 24) := by kernel_rfl
theorem zeros_len (n : Nat) (z : Value) : ((Array.range n).map (z.cells[· % z.cells.size]!)) = (((Array.range n).map (z.cells[· % z.cells.size]!)).toList).toArray := by rw [Array.toArray_toList]
set_option maxRecDepth 100000 in
theorem build_two (W : World) (a b : List Int) (ha : a.length = 64) (hb : b.length = 64) :
    (Instr.buildSlice 60 2 #[(0, vw a), (1, vw b)]).run Tryd.prog W = .ok (.slice (some ⟨W.heap.size, 0, none⟩) 2 2) (W.alloc (.cells (va (a ++ b)) 24)) := by
  cases hq : Tryd.prog.info? 24 with
  | none => have := z24; unfold Z64 at this; rw [hq] at this; cases this
  | some ie =>
    have := z24
    unfold Z64 at this
    rw [hq] at this
    injection this with h
    injection h with h1 h2
    refine run_buildSlice W 60 24 2 _ _ ie (vw zs) u60_24 hq h1 (by rw [h2]; omega) (by rw [h2]; omega) ?_
    rw [h2, zeros_len]
    exact fill_two a b ha hb _ (by simp)
set_option maxRecDepth 100000 in
theorem build_three (W : World) (a b c : List Int) (ha : a.length = 64) (hb : b.length = 64) (hc : c.length = 64) :
    (Instr.buildSlice 60 3 #[(0, vw a), (1, vw b), (2, vw c)]).run Tryd.prog W = .ok (.slice (some ⟨W.heap.size, 0, none⟩) 3 3) (W.alloc (.cells (va (a ++ b ++ c)) 24)) := by
  cases hq : Tryd.prog.info? 24 with
  | none => have := z24; unfold Z64 at this; rw [hq] at this; cases this
  | some ie =>
    have := z24
    unfold Z64 at this
    rw [hq] at this
    injection this with h
    injection h with h1 h2
    refine run_buildSlice W 60 24 3 _ _ ie (vw zs) u60_24 hq h1 (by rw [h2]; omega) (by rw [h2]; omega) ?_
    rw [h2, zeros_len]
    exact fill_three a b c ha hb hc _ (by simp)
theorem range_in {W : World} {g : Nat} {l pre post : List Int} (h : W.heap[g]? = some (.cells (va (pre ++ l ++ post)) 24 (0, 0))) : W.rangeAt g pre.length (l.map (Value.int .i64)) := by
  intro j v hj
  rw [cell_of_row _ _ _ _ _ _ h]
  unfold va
  rw [List.getElem?_toArray, List.map_append, List.map_append, List.append_assoc, List.getElem?_append_right (by simp), List.length_map, Nat.add_sub_cancel_left, List.getElem?_append_left (List.getElem?_eq_some_iff.1 hj).1]
  exact hj
theorem two_at {W : World} {g : Nat} {a b : List Int} (ha : a.length = 64) (hb : b.length = 64) (h : W.heap[g]? = some (.cells (va (a ++ b)) 24 (0, 0))) : VecsAt W (.slice (some ⟨g, 0, none⟩) 2 2) [a, b] := by
  refine ⟨g, 0, 2, rfl, (Array.getElem?_eq_some_iff.1 h).1, fun j l hj => ?_⟩
  match j, hj with
  | 0, hj => injection hj with hj; subst hj; exact ⟨ha, by have := range_in (pre := []) (l := a) (post := b) (by simpa using h); simpa using this⟩
  | 1, hj => injection hj with hj; subst hj; exact ⟨hb, by have := range_in (pre := a) (l := b) (post := []) (by simpa using h); rw [ha] at this; simpa using this⟩
  | j + 2, hj => simp at hj
theorem three_at {W : World} {g : Nat} {a b c : List Int} (ha : a.length = 64) (hb : b.length = 64) (hc : c.length = 64) (h : W.heap[g]? = some (.cells (va (a ++ b ++ c)) 24 (0, 0))) : VecsAt W (.slice (some ⟨g, 0, none⟩) 3 3) [a, b, c] := by
  refine ⟨g, 0, 3, rfl, (Array.getElem?_eq_some_iff.1 h).1, fun j l hj => ?_⟩
  match j, hj with
  | 0, hj => injection hj with hj; subst hj; exact ⟨ha, by have := range_in (pre := []) (l := a) (post := b ++ c) (by simpa using h); simpa using this⟩
  | 1, hj => injection hj with hj; subst hj; exact ⟨hb, by have := range_in (pre := a) (l := b) (post := c) h; rw [ha] at this; simpa using this⟩
  | 2, hj => injection hj with hj; subst hj; exact ⟨hc, by have := range_in (pre := a ++ b) (l := c) (post := []) (by simpa using h); rw [List.length_append, ha, hb] at this; simpa using this⟩
  | j + 3, hj => simp at hj
end Go.Proofs.YtiljmkglmanddaaDoor
