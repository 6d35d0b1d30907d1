/- Slices of strings: Has, Index, Contains. -/
import Derived.Test.YtkkeemhbokpngaaDoorUM
import Derived.Test.YtkkeemhbokpngaaDoorLater
import Derived.Deep.QuietTactic
set_option linter.unusedVariables false
namespace Go.Proofs.YtkkeemhbokpngaaDoor
open Go.RowKit

theorem lt_of_block {w : World} {b : Nat} {o : Obj} (h : w.heap[b]? = some o) : b < w.heap.size := (Array.getElem?_eq_some_iff.1 h).1
def strs (l : List ByteArray) : List Value := l.map Value.string
theorem strs_length (l : List ByteArray) : (strs l).length = l.length := List.length_map _
theorem strs_append (l m : List ByteArray) : strs (l ++ m) = strs l ++ strs m := List.map_append
theorem strs_get (l : List ByteArray) (j : Nat) : (strs l)[j]? = (l[j]?).map Value.string := List.getElem?_map
/-- A slice that holds these strings, wherever. -/
def SLies (w : World) (v : Value) (l : List ByteArray) : Prop := ∃ ao cap, v = .slice ao l.length cap ∧ l.length ≤ cap ∧ cap ≤ maxLen ∧ (ao = none → cap = 0) ∧
  ∀ (i : Nat) s, l[i]? = some s → ∃ g o, ao = some ⟨g, o, none⟩ ∧ g < w.heap.size ∧ w.cell? ⟨g, o + i, none⟩ = some (.string s)
theorem SLies.len {w : World} {v : Value} {l : List ByteArray} (h : SLies w v l) : l.length ≤ 9223372036854775807 := by
  obtain ⟨ao, cap, rfl, h1, h2, _⟩ := h
  unfold maxLen at h2
  omega
theorem SLies.step {w w' : World} {v : Value} {l : List ByteArray} (h : SLies w v l) (hb : Below w.heap.size w w') : SLies w' v l := by
  obtain ⟨ao, cap, rfl, h1, h2, h3, h4⟩ := h
  refine ⟨ao, cap, rfl, h1, h2, h3, fun i s hs => ?_⟩
  obtain ⟨g, o, e, hg, hc⟩ := h4 i s hs
  exact ⟨g, o, e, Nat.lt_of_lt_of_le hg hb.size, (hb.cell (p := ⟨g, o + i, none⟩) hg).trans hc⟩
theorem SLies.take {w : World} {ao : Option Addr} {n cap : Nat} {l : List ByteArray} (h : SLies w (.slice ao n cap) l) (k : Nat) (hk : k ≤ n) : SLies w (.slice ao k cap) (l.take k) := by
  obtain ⟨ao', cap', e, h1, h2, h3, h4⟩ := h
  injection e with e1 e2 e3
  subst e1 e2 e3
  have hl : (l.take k).length = k := by rw [List.length_take]; omega
  refine ⟨ao, cap, by rw [hl], by omega, h2, h3, fun i s hs => h4 i s ?_⟩
  rw [List.getElem?_take] at hs
  split at hs
  · exact hs
  · cases hs
theorem SLies.at' {w : World} {ao : Option Addr} {n cap : Nat} {l : List ByteArray} (h : SLies w (.slice ao n cap) l) {i : Nat} (hi : i < n) : ∃ g o s, ao = some ⟨g, o, none⟩ ∧ l[i]? = some s ∧ g < w.heap.size ∧ w.cell? ⟨g, o + i, none⟩ = some (.string s) := by
  obtain ⟨ao', cap', e, h1, h2, h3, h4⟩ := h
  injection e with e1 e2 e3
  subst e1 e2 e3
  obtain ⟨s, hs⟩ : ∃ s, l[i]? = some s := ⟨_, List.getElem?_eq_getElem hi⟩
  obtain ⟨g, o, e, hg, hc⟩ := h4 i s hs
  exact ⟨g, o, s, e, hs, hg, hc⟩
theorem own_slies {w : World} {B : Nat} {v : Value} {l : List ByteArray} (h : w.ownsRow B 9 1 v l.length (strs l)) : SLies w v l := by
  rcases h.2 with ⟨rfl, hn⟩ | ⟨g, cap, cur, rfl, hB, hg, hn, hm, hs, ht⟩
  · have : l = [] := List.eq_nil_of_length_eq_zero hn
    subst this
    exact ⟨none, 0, rfl, Nat.le_refl _, Nat.zero_le _, fun _ => rfl, fun i s hs => by simp at hs⟩
  · refine ⟨_, cap, rfl, hn, hm, (fun h => by cases h), fun i s hi => ⟨g, 0, rfl, lt_of_block hg, ?_⟩⟩
    have := h.cells (g := g) rfl i (.string s) (by rw [strs_get, hi]; rfl)
    rwa [show (⟨g, 0, none⟩ : Addr).add i = ⟨g, 0 + i, none⟩ from by unfold Addr.add; split <;> simp_all] at this
theorem mem_take_succ {l : List ByteArray} {k : Nat} {x s : ByteArray} (hx : l[k]? = some x) (hn : s ∉ l.take k) (hne : s ≠ x) : s ∉ l.take (k + 1) := by
  obtain ⟨hl, he⟩ := List.getElem?_eq_some_iff.1 hx
  rw [List.take_succ_eq_append_getElem hl, he]
  intro hm
  rcases List.mem_append.1 hm with h | h
  · exact hn h
  · exact hne (List.mem_singleton.1 h)
set_option maxRecDepth 100000 in
set_option maxHeartbeats 1600000 in
theorem rhas_any (w : World) (v : Value) (l : List ByteArray) (s : ByteArray) (h : SLies w v l) :
    Calls Tryd.prog 14 #[v, .string s] w fun e w' => e = .returned (.bool (memB l s)) ∧ w = w' := by
  have H := Lib.hid h
  have hl := h.len
  obtain ⟨ao, cap, rfl, -⟩ := h
  go_enter Tryd.func14, Tryd.ntmps14
  go_wp2
  go_loop [5] (fun kv => ∃ k : Nat, kv = .int .i64 k ∧ k ≤ l.length ∧ Hid (s ∉ l.take k)) (fun kv => l.length - (intOf kv).toNat)
  case atStart => exact ⟨0, rfl, Nat.zero_le _, Lib.hid (by simp)⟩
  case round =>
    obtain ⟨k, rfl, hk, hN⟩ := hrel
    by_cases hlt : k < l.length
    · obtain ⟨g, o, x, rfl, hx, hg, hc⟩ := H.out.at' hlt
      by_cases e : x = s
      · have t1 := tl_eq e
        have HM := Lib.hid (show memB l s = true from memB_true (by rw [← e]; exact List.mem_iff_getElem?.2 ⟨k, hx⟩))
        clear hx e hg
        go_wp2
        go_returns
        exact ⟨by rw [HM.out]; rfl, rfl⟩
      · have t1 := tl_ne e
        have HM := Lib.hid (mem_take_succ hx hN.out (fun h => e h.symm))
        clear hx e hg
        go_wp2
        go_round
        case rel => exact ⟨k + 1, by go_num, by omega, HM⟩
        case measure => simp [intOf]; omega
    · have HM := Lib.hid (show memB l s = false from memB_false (by have := hN.out; rwa [show k = l.length by omega, List.take_length] at this))
      go_wp2
      go_returns
      exact ⟨by rw [HM.out]; rfl, rfl⟩
set_option maxRecDepth 100000 in
set_option maxHeartbeats 1600000 in
theorem index_any (w : World) (v : Value) (l : List ByteArray) (s : ByteArray) (h : SLies w v l) :
    Calls Tryd.prog 24 #[v, .string s] w fun e w' => ∃ x : Int, e = .returned (.int .i64 x) ∧ (0 ≤ x ↔ s ∈ l) ∧ w = w' := by
  have H := Lib.hid h
  have hl := h.len
  obtain ⟨ao, cap, rfl, -⟩ := h
  go_enter Tryd.func24, Tryd.ntmps24
  go_wp2
  go_loop [8] (fun kv => ∃ k : Nat, kv = .int .i64 k ∧ k ≤ l.length ∧ Hid (s ∉ l.take k)) (fun kv => l.length - (intOf kv).toNat)
  case atStart => exact ⟨0, rfl, Nat.zero_le _, Lib.hid (by simp)⟩
  case round =>
    obtain ⟨k, rfl, hk, hN⟩ := hrel
    by_cases hlt : k < l.length
    · obtain ⟨g, o, x, rfl, hx, hg, hc⟩ := H.out.at' hlt
      by_cases e : s = x
      · have t1 := tl_eq e
        have HM := Lib.hid (show s ∈ l from by rw [e]; exact List.mem_iff_getElem?.2 ⟨k, hx⟩)
        clear hx e hg
        go_wp2
        go_returns
        exact ⟨_, rfl, ⟨fun _ => HM.out, fun _ => by omega⟩, rfl⟩
      · have t1 := tl_ne e
        have HM := Lib.hid (mem_take_succ hx hN.out e)
        clear hx e hg
        go_wp2
        go_round
        case rel => exact ⟨k + 1, by go_num, by omega, HM⟩
        case measure => simp [intOf]; omega
    · have HM := Lib.hid (show s ∉ l from by have := hN.out; rwa [show k = l.length by omega, List.take_length] at this)
      go_wp2
      go_returns
      exact ⟨_, rfl, ⟨fun h => by omega, fun h => absurd h HM.out⟩, rfl⟩
set_option maxRecDepth 100000 in
set_option maxHeartbeats 1600000 in
theorem contains_any (w : World) (v : Value) (l : List ByteArray) (s : ByteArray) (h : SLies w v l) :
    Calls Tryd.prog 18 #[v, .string s] w fun e w' => e = .returned (.bool (memB l s)) ∧ w = w' := by
  have X := Lib.hid (index_any w v l s h)
  obtain ⟨ao, cap, rfl, -⟩ := h
  go_enter Tryd.func18, Tryd.ntmps18
  go_wp2_with fail
  refine X.out.mono ?_
  rintro e w1 ⟨x, rfl, hx, rfl⟩
  have HX := Lib.hid hx
  clear hx
  by_cases hm : 0 ≤ x
  · go_wp2
    go_returns
    exact ⟨by rw [memB_true (HX.out.1 hm)]; first | rfl | (simp; omega), rfl⟩
  · go_wp2
    go_returns
    exact ⟨by rw [memB_false (fun h => absurd (HX.out.2 h) (by omega))]; first | rfl | (simp; omega), rfl⟩
end Go.Proofs.YtkkeemhbokpngaaDoor
