/- Unlike names: plain facts. -/
import Derived.Test.YtkkeemhbokpngaaDoorApartM
set_option linter.unusedVariables false
namespace Go.Proofs.YtkkeemhbokpngaaDoor
open Go.RowKit

theorem pigeon {α : Type} [DecidableEq α] : ∀ (l U : List α), l.Nodup → (∀ x ∈ l, x ∈ U) → l.length ≤ U.length
  | [], U, _, _ => Nat.zero_le _
  | x :: l, U, hn, h => by
    have hx := h x (List.mem_cons_self ..)
    obtain ⟨h1, h2⟩ := List.nodup_cons.1 hn
    have ih := pigeon l (U.erase x) h2 (fun y hy => (List.mem_erase_of_ne (fun e => h1 (by rw [← e]; exact hy))).2 (h y (List.mem_cons_of_mem _ hy)))
    rw [List.length_erase_of_mem hx] at ih
    have := List.length_pos_of_mem hx
    simp only [List.length_cons]
    omega
noncomputable def sfx (s : ByteArray) (k : Nat) : ByteArray := Classical.choose (suff_is s (k : Int))
theorem sfx_is (s : ByteArray) (k : Nat) : SuffIs s (k : Int) (sfx s k) := Classical.choose_spec (suff_is s (k : Int))
theorem sfx_inj {s : ByteArray} {k n : Nat} (hk : k ≤ 9223372036854775807) (hn : n ≤ 9223372036854775807) (hk2 : 2 ≤ k) (hn2 : 2 ≤ n) (h : sfx s k = sfx s n) : k = n := by
  have h1 := sfx_is s k
  rw [h] at h1
  have := suff_inj (k := (k : Int)) (n := (n : Int)) (by omega) (by omega) (by omega) (by omega) h1 (sfx_is s n)
  omega
def FreeAt (U : List ByteArray) (s : ByteArray) (k : Nat) : Prop := 2 ≤ k ∧ sfx s k ∉ U ∧ ∀ j, 2 ≤ j → j < k → sfx s j ∈ U
theorem free_one {U : List ByteArray} {s : ByteArray} {k n : Nat} (h : FreeAt U s k) (h' : FreeAt U s n) : k = n := by
  rcases Nat.lt_trichotomy k n with e | e | e
  · exact absurd (h'.2.2 k h.1 e) h.2.1
  · exact e
  · exact absurd (h.2.2 n h'.1 e) h'.2.1
theorem free_mem {U V : List ByteArray} {s : ByteArray} {k : Nat} (h : FreeAt U s k) (hm : ∀ x, x ∈ U → x ∈ V) (hn : sfx s k ∉ V) : FreeAt V s k := ⟨h.1, hn, fun j a b => hm _ (h.2.2 j a b)⟩
theorem run_nodup (s : ByteArray) : ∀ n, n ≤ 1000000 → ((List.range n).map fun j => sfx s (j + 2)).Nodup := by
  intro n hn
  refine List.pairwise_map.2 ?_
  refine List.Pairwise.imp_of_mem ?_ (List.nodup_range (n := n))
  intro a b ha hb hab e
  have h1 := List.mem_range.1 ha
  have h2 := List.mem_range.1 hb
  have := sfx_inj (by omega) (by omega) (by omega) (by omega) e
  omega
theorem all_in (U : List ByteArray) (s : ByteArray) : ∀ n, (∀ j, 2 ≤ j → j < n + 2 → sfx s j ∈ U) → n ≤ 1000000 → n ≤ U.length := by
  intro n h hn
  have := @pigeon _ (fun _ _ => Classical.propDecidable _) _ U (run_nodup s n hn) (fun x hx => by
    obtain ⟨j, hj, rfl⟩ := List.mem_map.1 hx
    have := List.mem_range.1 hj
    exact h _ (by omega) (by omega))
  simpa using this
theorem free_search (U : List ByteArray) (s : ByteArray) : ∀ n, (∃ k, k ≤ n + 1 ∧ FreeAt U s k) ∨ (∀ j, 2 ≤ j → j < n + 2 → sfx s j ∈ U)
  | 0 => .inr fun j h1 h2 => by omega
  | n + 1 => by
    rcases free_search U s n with ⟨k, hk, h⟩ | h
    · exact .inl ⟨k, by omega, h⟩
    · by_cases hx : sfx s (n + 2) ∈ U
      · refine .inr fun j h1 h2 => ?_
        by_cases e : j = n + 2
        · rw [e]; exact hx
        · exact h j h1 (by omega)
      · exact .inl ⟨n + 2, by omega, by omega, hx, h⟩
theorem free_some (U : List ByteArray) (s : ByteArray) (hU : U.length ≤ 1000) : ∃ k, k ≤ U.length + 2 ∧ FreeAt U s k := by
  rcases free_search U s (U.length + 1) with ⟨k, hk, h⟩ | h
  · exact ⟨k, by omega, h⟩
  · have := all_in U s (U.length + 1) h (by omega)
    omega
/-- The least number whose suffix is free. -/
noncomputable def least (U : List ByteArray) (s : ByteArray) : Nat := by
  classical
  exact if h : ∃ k, FreeAt U s k then Classical.choose h else 0
theorem least_is {U : List ByteArray} {s : ByteArray} {k : Nat} (h : FreeAt U s k) : least U s = k := by
  unfold least
  rw [dif_pos ⟨k, h⟩]
  exact free_one (Classical.choose_spec (⟨k, h⟩ : ∃ k, FreeAt U s k)) h
theorem least_free (U : List ByteArray) (s : ByteArray) (hU : U.length ≤ 1000) : FreeAt U s (least U s) := by
  obtain ⟨k, _, h⟩ := free_some U s hU
  rw [least_is h]
  exact h
theorem least_le (U : List ByteArray) (s : ByteArray) (hU : U.length ≤ 1000) : least U s ≤ U.length + 2 := by
  obtain ⟨k, h1, h⟩ := free_some U s hU
  rw [least_is h]
  exact h1
def KeptAt (raw taken : List ByteArray) (i : Nat) (s : ByteArray) : Prop := s ∉ taken ∧ s ∉ raw.take i
noncomputable def keptB (raw taken : List ByteArray) (i : Nat) (s : ByteArray) : Bool := @decide (KeptAt raw taken i s) (Classical.propDecidable _)
theorem keptB_true {raw taken : List ByteArray} {i : Nat} {s : ByteArray} (h : KeptAt raw taken i s) : keptB raw taken i s = true := by unfold keptB; exact @decide_eq_true _ (Classical.propDecidable _) h
theorem keptB_false {raw taken : List ByteArray} {i : Nat} {s : ByteArray} (h : ¬ KeptAt raw taken i s) : keptB raw taken i s = false := by unfold keptB; exact @decide_eq_false _ (Classical.propDecidable _) h
noncomputable def memB (l : List ByteArray) (s : ByteArray) : Bool := @decide (s ∈ l) (Classical.propDecidable _)
theorem memB_true {l : List ByteArray} {s : ByteArray} (h : s ∈ l) : memB l s = true := by unfold memB; exact @decide_eq_true _ (Classical.propDecidable _) h
theorem memB_false {l : List ByteArray} {s : ByteArray} (h : s ∉ l) : memB l s = false := by unfold memB; exact @decide_eq_false _ (Classical.propDecidable _) h
noncomputable def nx (raw taken out : List ByteArray) (i : Nat) (s : ByteArray) : ByteArray := if keptB raw taken i s then s else sfx s (least (taken ++ raw ++ out) s)
noncomputable def tell (raw taken : List ByteArray) : Nat → List ByteArray
  | 0 => []
  | i + 1 => tell raw taken i ++ (match raw[i]? with | some s => [nx raw taken (tell raw taken i) i s] | none => [])
theorem tell_succ {raw taken : List ByteArray} {i : Nat} {s : ByteArray} (h : raw[i]? = some s) : tell raw taken (i + 1) = tell raw taken i ++ [nx raw taken (tell raw taken i) i s] := by
  show tell raw taken i ++ (match raw[i]? with | some s => [nx raw taken (tell raw taken i) i s] | none => []) = _
  rw [h]
theorem tell_len (raw taken : List ByteArray) : ∀ i, i ≤ raw.length → (tell raw taken i).length = i
  | 0, _ => rfl
  | i + 1, h => by
    rw [tell_succ (List.getElem?_eq_getElem (show i < raw.length by omega)), List.length_append, tell_len raw taken i (by omega)]
    rfl
theorem tell_take (raw taken : List ByteArray) : ∀ n i, i ≤ n → n ≤ raw.length → (tell raw taken n).take i = tell raw taken i
  | 0, i, hi, _ => by
    have : i = 0 := by omega
    subst this
    rfl
  | n + 1, i, hi, hn => by
    by_cases e : i = n + 1
    · subst e
      exact List.take_of_length_le (by rw [tell_len raw taken _ hn]; exact Nat.le_refl _)
    · rw [tell_succ (List.getElem?_eq_getElem (show n < raw.length by omega)), List.take_append_of_le_length (by rw [tell_len raw taken n (by omega)]; omega)]
      exact tell_take raw taken n i (by omega) (by omega)
theorem tell_at (raw taken : List ByteArray) {n i : Nat} {s : ByteArray} (hi : i < n) (hn : n ≤ raw.length) (hs : raw[i]? = some s) : (tell raw taken n)[i]? = some (nx raw taken (tell raw taken i) i s) := by
  have h := tell_take raw taken n (i + 1) hi hn
  have h2 : ((tell raw taken n).take (i + 1))[i]? = (tell raw taken n)[i]? := by rw [List.getElem?_take, if_pos (by omega)]
  rw [← h2, h, tell_succ hs, List.getElem?_append_right (by rw [tell_len raw taken i (by omega)]; exact Nat.le_refl _), tell_len raw taken i (by omega), Nat.sub_self]
  rfl
/-- What is told is no number's suffix that is used, or stands there and is kept. -/
theorem nx_cases (raw taken : List ByteArray) (i : Nat) (s : ByteArray) (hi : i ≤ raw.length) (hr : raw.length ≤ 300) (ht : taken.length ≤ 300) :
    (KeptAt raw taken i s ∧ nx raw taken (tell raw taken i) i s = s) ∨ (¬ KeptAt raw taken i s ∧ ∃ k, FreeAt (taken ++ raw ++ tell raw taken i) s k ∧ nx raw taken (tell raw taken i) i s = sfx s k ∧ k ≤ 1000) := by
  have hU : (taken ++ raw ++ tell raw taken i).length ≤ 900 := by
    rw [List.length_append, List.length_append, tell_len raw taken i hi]; omega
  by_cases h : KeptAt raw taken i s
  · exact .inl ⟨h, by unfold nx; rw [keptB_true h, if_pos rfl]⟩
  · refine .inr ⟨h, _, least_free _ s (by omega), by unfold nx; rw [keptB_false h, if_neg (by decide)], ?_⟩
    have := least_le (taken ++ raw ++ tell raw taken i) s (by omega)
    omega
theorem told_not_taken {raw taken : List ByteArray} {n i : Nat} {s : ByteArray} (hi : i < n) (hn : n ≤ raw.length) (hr : raw.length ≤ 300) (ht : taken.length ≤ 300) (hs : (tell raw taken n)[i]? = some s) : s ∉ taken := by
  obtain ⟨x, hx⟩ : ∃ x, raw[i]? = some x := ⟨_, List.getElem?_eq_getElem (by omega)⟩
  rw [tell_at raw taken hi hn hx] at hs
  injection hs with hs
  rw [← hs]
  rcases nx_cases raw taken i x (by omega) hr ht with ⟨h1, h2⟩ | ⟨h1, k, h2, h3, _⟩
  · rw [h2]; exact h1.1
  · rw [h3]; exact fun e => h2.2.1 (by simp [e])
theorem mem_take_idx {l : List ByteArray} {i : Nat} {x : ByteArray} (h : x ∈ l.take i) : ∃ j, j < i ∧ l[j]? = some x := by
  obtain ⟨j, hj⟩ := List.mem_iff_getElem?.1 h
  rw [List.getElem?_take] at hj
  split at hj
  · exact ⟨j, by assumption, hj⟩
  · cases hj
theorem idx_mem_take {l : List ByteArray} {i j : Nat} {x : ByteArray} (hj : j < i) (h : l[j]? = some x) : x ∈ l.take i := List.mem_iff_getElem?.2 ⟨j, by rw [List.getElem?_take, if_pos hj]; exact h⟩
theorem told_unlike {raw taken : List ByteArray} {n i : Nat} {s : ByteArray} (hi : i < n) (hn : n ≤ raw.length) (hr : raw.length ≤ 300) (ht : taken.length ≤ 300) (hs : (tell raw taken n)[i]? = some s) : s ∉ (tell raw taken n).take i := by
  obtain ⟨x, hx⟩ : ∃ x, raw[i]? = some x := ⟨_, List.getElem?_eq_getElem (by omega)⟩
  rw [tell_at raw taken hi hn hx] at hs
  injection hs with hs
  rw [← hs, tell_take raw taken n i (by omega) hn]
  rcases nx_cases raw taken i x (by omega) hr ht with ⟨h1, h2⟩ | ⟨h1, k, h2, h3, _⟩
  · rw [h2]
    intro hm
    obtain ⟨j, hj⟩ := List.mem_iff_getElem?.1 hm
    have hji : j < i := by
      have := (List.getElem?_eq_some_iff.1 hj).1
      rwa [tell_len raw taken i (by omega)] at this
    obtain ⟨y, hy⟩ : ∃ y, raw[j]? = some y := ⟨_, List.getElem?_eq_getElem (by omega)⟩
    rw [tell_at raw taken hji (by omega) hy] at hj
    injection hj with hj
    rcases nx_cases raw taken j y (by omega) hr ht with ⟨g1, g2⟩ | ⟨g1, k, g2, g3, _⟩
    · rw [g2] at hj
      exact h1.2 (idx_mem_take hji (by rw [hy, hj]))
    · rw [g3] at hj
      exact g2.2.1 (by rw [hj]; simp [List.mem_iff_getElem?.2 ⟨i, hx⟩])
  · rw [h3]; exact fun e => h2.2.1 (by simp [e])
theorem told_kept {raw taken : List ByteArray} {n i : Nat} {x s : ByteArray} (hi : i < n) (hn : n ≤ raw.length) (hr : raw.length ≤ 300) (ht : taken.length ≤ 300) (hx : raw[i]? = some x) (hs : (tell raw taken n)[i]? = some s) : KeptAt raw taken i x ↔ s = x := by
  rw [tell_at raw taken hi hn hx] at hs
  injection hs with hs
  rw [← hs]
  rcases nx_cases raw taken i x (by omega) hr ht with ⟨h1, h2⟩ | ⟨h1, k, h2, h3, _⟩
  · exact ⟨fun _ => h2, fun _ => h1⟩
  · refine ⟨fun h => absurd h h1, fun h => ?_⟩
    rw [h3] at h
    exact absurd (by rw [h]; simp [List.mem_iff_getElem?.2 ⟨i, hx⟩]) h2.2.1
/-- Each name that stands there is told, or taken. -/
theorem first_at {l : List ByteArray} {i : Nat} {x : ByteArray} (h : l[i]? = some x) : ∃ j, j ≤ i ∧ l[j]? = some x ∧ x ∉ l.take j := by
  induction i using Nat.strongRecOn with
  | ind i ih =>
    by_cases hm : x ∈ l.take i
    · obtain ⟨j, hj, hx⟩ := mem_take_idx hm
      obtain ⟨k, h1, h2⟩ := ih j hj hx
      exact ⟨k, by omega, h2⟩
    · exact ⟨i, Nat.le_refl _, h, hm⟩
theorem told_all {raw taken : List ByteArray} {i : Nat} {x : ByteArray} (hr : raw.length ≤ 300) (ht : taken.length ≤ 300) (hx : raw[i]? = some x) : x ∈ tell raw taken raw.length ∨ x ∈ taken := by
  by_cases h : x ∈ taken
  · exact .inr h
  · obtain ⟨j, _, hj, hn⟩ := first_at hx
    have hlt := (List.getElem?_eq_some_iff.1 hj).1
    refine .inl (List.mem_iff_getElem?.2 ⟨j, ?_⟩)
    rw [tell_at raw taken hlt (Nat.le_refl _) hj]
    rcases nx_cases raw taken j x (by omega) hr ht with ⟨h1, h2⟩ | ⟨h1, _⟩
    · rw [h2]
    · exact absurd ⟨h, hn⟩ h1
theorem told_names {raw taken : List ByteArray} {n i : Nat} {s : ByteArray} (hi : i < n) (hn : n ≤ raw.length) (hr : raw.length ≤ 300) (ht : taken.length ≤ 300) (hc : ∀ x ∈ raw, CheckIs x 0) (hs : (tell raw taken n)[i]? = some s) : CheckIs s 0 := by
  obtain ⟨x, hx⟩ : ∃ x, raw[i]? = some x := ⟨_, List.getElem?_eq_getElem (by omega)⟩
  have hcx := hc x (List.mem_iff_getElem?.2 ⟨i, hx⟩)
  rw [tell_at raw taken hi hn hx] at hs
  injection hs with hs
  rw [← hs]
  rcases nx_cases raw taken i x (by omega) hr ht with ⟨h1, h2⟩ | ⟨h1, k, h2, h3, hk⟩
  · rw [h2]; exact hcx
  · rw [h3]; exact suff_check (k := (k : Int)) (by omega) hcx (sfx_is x k)
end Go.Proofs.YtkkeemhbokpngaaDoor
