/- Slices of strings; Same of the reference. -/
import Derived.Test.YtgiiddcjepjgcaaDoorRNumW
import Derived.Test.YtgiiddcjepjgcaaDoorLater
import Derived.Deep.QuietTactic
import Derived.OwnWalk
import Derived.Deep.Cut
set_option linter.unusedVariables false
namespace Go.Proofs.YtgiiddcjepjgcaaDoor
open Go.RowKit

theorem lt_of_block {w : World} {b : Nat} {o : Obj} (h : w.heap[b]? = some o) : b < w.heap.size := (Array.getElem?_eq_some_iff.1 h).1
def strs (l : List ByteArray) : List Value := l.map Value.string
theorem strs_length (l : List ByteArray) : (strs l).length = l.length := List.length_map _
theorem strs_append (l m : List ByteArray) : strs (l ++ m) = strs l ++ strs m := List.map_append
theorem strs_get (l : List ByteArray) (j : Nat) : (strs l)[j]? = (l[j]?).map Value.string := List.getElem?_map
/-- A slice that holds these strings, wherever. -/
def SLies (w : World) (v : Value) (l : List ByteArray) : Prop := ∃ ao cap, v = .slice ao l.length cap ∧ l.length ≤ cap ∧ cap ≤ maxLen ∧ (ao = none → cap = 0) ∧
  ∀ (i : Nat) s, l[i]? = some s → ∃ g o, ao = some ⟨g, o, none⟩ ∧ g < w.heap.size ∧ w.cell? ⟨g, o + i, none⟩ = some (.string s)
theorem SLies.len {w : World} {v : Value} {l : List ByteArray} (h : SLies w v l) : l.length ≤ 9223372036854775807 := by
  obtain ⟨ao, cap, rfl, h1, h2, _⟩ := h
  unfold maxLen at h2
  omega
theorem SLies.step {w w' : World} {v : Value} {l : List ByteArray} (h : SLies w v l) (hb : Below w.heap.size w w') : SLies w' v l := by
  obtain ⟨ao, cap, rfl, h1, h2, h3, h4⟩ := h
  refine ⟨ao, cap, rfl, h1, h2, h3, fun i s hs => ?_⟩
  obtain ⟨g, o, e, hg, hc⟩ := h4 i s hs
  exact ⟨g, o, e, Nat.lt_of_lt_of_le hg hb.size, (hb.cell (p := ⟨g, o + i, none⟩) hg).trans hc⟩
theorem SLies.take {w : World} {ao : Option Addr} {n cap : Nat} {l : List ByteArray} (h : SLies w (.slice ao n cap) l) (k : Nat) (hk : k ≤ n) : SLies w (.slice ao k cap) (l.take k) := by
  obtain ⟨ao', cap', e, h1, h2, h3, h4⟩ := h
  injection e with e1 e2 e3
  subst e1 e2 e3
  have hl : (l.take k).length = k := by rw [List.length_take]; omega
  refine ⟨ao, cap, by rw [hl], by omega, h2, h3, fun i s hs => h4 i s ?_⟩
  rw [List.getElem?_take] at hs
  split at hs
  · exact hs
  · cases hs
theorem SLies.at' {w : World} {ao : Option Addr} {n cap : Nat} {l : List ByteArray} (h : SLies w (.slice ao n cap) l) {i : Nat} (hi : i < n) : ∃ g o s, ao = some ⟨g, o, none⟩ ∧ l[i]? = some s ∧ g < w.heap.size ∧ w.cell? ⟨g, o + i, none⟩ = some (.string s) := by
  obtain ⟨ao', cap', e, h1, h2, h3, h4⟩ := h
  injection e with e1 e2 e3
  subst e1 e2 e3
  obtain ⟨s, hs⟩ : ∃ s, l[i]? = some s := ⟨_, List.getElem?_eq_getElem hi⟩
  obtain ⟨g, o, e, hg, hc⟩ := h4 i s hs
  exact ⟨g, o, s, e, hs, hg, hc⟩
theorem own_slies {w : World} {B : Nat} {v : Value} {l : List ByteArray} (h : w.ownsRow B 9 1 v l.length (strs l)) : SLies w v l := by
  rcases h.2 with ⟨rfl, hn⟩ | ⟨g, cap, cur, rfl, hB, hg, hn, hm, hs, ht⟩
  · have : l = [] := List.eq_nil_of_length_eq_zero hn
    subst this
    exact ⟨none, 0, rfl, Nat.le_refl _, Nat.zero_le _, fun _ => rfl, fun i s hs => by simp at hs⟩
  · refine ⟨_, cap, rfl, hn, hm, (fun h => by cases h), fun i s hi => ⟨g, 0, rfl, lt_of_block hg, ?_⟩⟩
    have := h.cells (g := g) rfl i (.string s) (by rw [strs_get, hi]; rfl)
    rwa [show (⟨g, 0, none⟩ : Addr).add i = ⟨g, 0 + i, none⟩ from by unfold Addr.add; split <;> simp_all] at this
theorem addr0 (g o i : Nat) : (⟨g, o, none⟩ : Addr).add i = ⟨g, o + i, none⟩ := by unfold Addr.add; split <;> simp_all
theorem info9 : (Tryd.prog.info? 9).map (fun i => (i.zero, i.size, i.bytes)) = some (some (.string ⟨#[]⟩), 1, 16) := by kernel_rfl
theorem app1_below {w w' w3 : World} {v : Value} {E k b : Nat} {xs : List Value} {o : Obj} (hb4 : Below w.heap.size w w') (ho3 : w'.ownsRow b E 1 v k xs) (hb : w.heap.size ≤ b)
    (hg : (w'.alloc o).grownBy w3 v.ownBlock) : Below w.heap.size w w3 :=
  (hb4.alloc hb4.size o).grown hg (by have := hb4.size; simp; omega) (fun j hj => Nat.le_trans hb (ho3.lt j hj).1)
theorem own_kept {w w' : World} {B e n size : Nat} {v : Value} {xs : List Value} (h : w.ownsRow B e size v n xs) (hb : Below w.heap.size w w') : w'.ownsRow B e size v n xs :=
  h.kept (row := none) ⟨hb.os, hb.tape, hb.output, hb.size, fun k hk _ => hb.block k hk⟩ (by cases h : v.ownBlock <;> simp)
theorem own_shape {w : World} {B e size n : Nat} {v : Value} {xs : List Value} (h : w.ownsRow B e size v n xs) : ∃ ao cap, v = .slice ao n cap := by
  rcases h.2 with ⟨rfl, rfl⟩ | ⟨g, cap, cur, rfl, _⟩
  · exact ⟨_, _, rfl⟩
  · exact ⟨_, _, rfl⟩
theorem one_new (w : World) (v : Value) (T : TypeId) : ∀ j u, [v][j]? = some u → (w.alloc (.cells #[v] T)).cell? ((⟨w.heap.size, 0, none⟩ : Addr).add j) = some u := by
  intro j u hj
  match j, hj with
  | 0, hj =>
    injection hj with hj
    rw [addr0, cell_of_row _ _ _ _ _ _ (heap_alloc_new w _), ← hj]
    rfl
  | j + 1, hj => simp at hj
theorem slies_new (w : World) (l : List ByteArray) (hl : l.length ≤ 1000) : SLies (w.alloc (.cells (strs l).toArray 9)) (.slice (some ⟨w.heap.size, 0, none⟩) l.length l.length) l := by
  refine ⟨_, _, rfl, Nat.le_refl _, by unfold maxLen; omega, (fun h => by cases h), fun i s hs => ⟨_, _, rfl, by simp, ?_⟩⟩
  rw [cell_of_row _ _ _ _ _ _ (heap_alloc_new w _), Nat.zero_add]
  simp [strs_get, hs]
theorem slies_nil (w : World) : SLies w (.slice none 0 0) [] := ⟨none, 0, rfl, Nat.le_refl _, Nat.zero_le _, fun _ => rfl, fun i s hs => by simp at hs⟩
theorem vstep (W : World) (o : Obj) : Below W.heap.size W (W.alloc o) := (Below.refl _ _).alloc (Nat.le_refl _) _
theorem mem_take_idx {l : List ByteArray} {i : Nat} {x : ByteArray} (h : x ∈ l.take i) : ∃ j, j < i ∧ l[j]? = some x := by
  obtain ⟨j, hj⟩ := List.mem_iff_getElem?.1 h
  rw [List.getElem?_take] at hj
  split at hj
  · exact ⟨j, by assumption, hj⟩
  · cases hj
theorem idx_mem_take {l : List ByteArray} {i j : Nat} {x : ByteArray} (hj : j < i) (h : l[j]? = some x) : x ∈ l.take i := List.mem_iff_getElem?.2 ⟨j, by rw [List.getElem?_take, if_pos hj]; exact h⟩
theorem ne_list {a b : ByteArray} (h : a.data.toList ≠ b.data.toList) : a ≠ b := fun e => h (by rw [e])
set_option maxRecDepth 100000 in
set_option maxHeartbeats 1600000 in
theorem rsame_any (w : World) (v1 v2 : Value) (l : List ByteArray) (h1 : SLies w v1 l) (h2 : SLies w v2 l) :
    Calls Tryd.prog 12 #[v1, v2] w fun e w' => e = .returned (.bool true) ∧ Below w.heap.size w w' := by
  have H1 := Lib.hid h1
  have H2 := Lib.hid h2
  have hl := h1.len
  obtain ⟨a1, p1, rfl, -⟩ := h1
  obtain ⟨a2, p2, rfl, -⟩ := h2
  go_enter Tryd.func12, Tryd.ntmps12
  go_wp2
  go_loopw [5] (fun kv wr => ∃ k : Nat, kv = .int .i64 k ∧ k ≤ l.length ∧ ∃ n, wr = w.drewN n) (fun kv _ => l.length - (intOf kv).toNat)
  case atStart => exact ⟨0, rfl, Nat.zero_le _, 0, rfl⟩
  case round =>
    obtain ⟨k, rfl, hk, n, rfl⟩ := hrel
    by_cases hlt : k < l.length
    · obtain ⟨g1, o1, x, rfl, hx, _, c1⟩ := H1.out.at' hlt
      obtain ⟨g2, o2, y, rfl, hy, _, c2⟩ := H2.out.at' hlt
      rw [hx] at hy
      injection hy with hy
      subst hy
      have t1 := tl_eq (a := x) rfl
      clear hx
      go_wp2
      go_quiet (fail)
      go_wp2
      go_roundw
      case rel => exact ⟨k + 1, by go_num, by omega, _, rfl⟩
      case measure => simp [intOf]; omega
    · go_wp2
      go_returns
      exact ⟨rfl, ⟨rfl, rfl, rfl, Nat.le_refl _, fun _ _ => rfl⟩⟩
end Go.Proofs.YtgiiddcjepjgcaaDoor
