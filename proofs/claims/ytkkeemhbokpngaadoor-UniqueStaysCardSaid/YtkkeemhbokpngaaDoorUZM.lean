/- One more name, that is neither told nor taken: plain facts. -/
import Derived.Test.YtkkeemhbokpngaaDoorUX
set_option linter.unusedVariables false
namespace Go.Proofs.YtkkeemhbokpngaaDoor
open Go.RowKit

def ins (l : List ByteArray) (k : Nat) (s : ByteArray) : List ByteArray := l.take k ++ s :: l.drop k
theorem ins_len (l : List ByteArray) (k : Nat) (s : ByteArray) : (ins l k s).length = l.length + 1 := by
  unfold ins
  rw [List.length_append, List.length_cons, List.length_take, List.length_drop]
  omega
theorem ins_mem (l : List ByteArray) (k : Nat) (s y : ByteArray) : y ∈ ins l k s ↔ y ∈ l ∨ y = s := by
  unfold ins
  rw [List.mem_append, List.mem_cons]
  constructor
  · rintro (h | h | h)
    · exact .inl (List.mem_of_mem_take h)
    · exact .inr h
    · exact .inl (List.mem_of_mem_drop h)
  · rintro (h | h)
    · rw [← List.take_append_drop k l, List.mem_append] at h
      exact h.elim .inl (fun q => .inr (.inr q))
    · exact .inr (.inl h)
theorem ins_lo (l : List ByteArray) {k i : Nat} (s : ByteArray) (hk : k ≤ l.length) (h : i < k) : (ins l k s)[i]? = l[i]? := by
  unfold ins
  rw [List.getElem?_append_left (by rw [List.length_take]; omega), List.getElem?_take, if_pos h]
theorem ins_at (l : List ByteArray) {k : Nat} (s : ByteArray) (hk : k ≤ l.length) : (ins l k s)[k]? = some s := by
  unfold ins
  rw [List.getElem?_append_right (by rw [List.length_take]; omega), List.length_take, show k - min k l.length = 0 by omega]
  rfl
theorem ins_hi (l : List ByteArray) {k j : Nat} (s : ByteArray) (hk : k ≤ l.length) (h : k ≤ j) : (ins l k s)[j + 1]? = l[j]? := by
  unfold ins
  rw [List.getElem?_append_right (by rw [List.length_take]; omega), List.length_take, show j + 1 - min k l.length = (j - k) + 1 by omega, List.getElem?_cons_succ, List.getElem?_drop]
  congr 1
  omega
theorem ins_take_lo (l : List ByteArray) {k i : Nat} (s : ByteArray) (hk : k ≤ l.length) (h : i ≤ k) : (ins l k s).take i = l.take i := by
  unfold ins
  rw [List.take_append_of_le_length (by rw [List.length_take]; omega), List.take_take, show min i k = i by omega]
theorem ins_take_hi (l : List ByteArray) {k j : Nat} (s : ByteArray) (hk : k ≤ l.length) (h : k ≤ j) : (ins l k s).take (j + 1) = ins (l.take j) k s := by
  unfold ins
  rw [List.take_append, List.length_take, show j + 1 - min k l.length = (j - k) + 1 by omega, List.take_succ_cons, List.take_take, List.take_take, List.drop_take, show min (j + 1) k = k by omega, show min k j = k by omega]
theorem nx_more {raw more taken out out' : List ByteArray} {i j : Nat} {x s : ByteArray} (hkeep : KeptAt more taken i x ↔ KeptAt raw taken j x) (hm : ∀ y, y ∈ taken ++ more ++ out' ↔ y ∈ taken ++ raw ++ out ∨ y = s)
    (hne : nx raw taken out j x ≠ s) (hlen : (taken ++ raw ++ out).length ≤ 1000) : nx more taken out' i x = nx raw taken out j x := by
  by_cases h : KeptAt raw taken j x
  · rw [nx_kept (keptB_true (hkeep.2 h)), nx_kept (keptB_true h)]
  · have hf := least_free (taken ++ raw ++ out) x hlen
    have e := nx_free (keptB_false h) hf
    rw [e] at hne ⊢
    exact nx_free (keptB_false (fun q => h (hkeep.1 q))) ⟨hf.1, (fun q => ((hm _).1 q).elim hf.2.1 hne), fun a b c => (hm _).2 (.inl (hf.2.2 a b c))⟩
theorem not_raw {raw taken : List ByteArray} {s : ByteArray} (hr : raw.length ≤ 30) (ht : taken.length ≤ 30) (hs : s ∉ tell raw taken raw.length) (hst : s ∉ taken) : s ∉ raw := fun q => by
  obtain ⟨i, hi⟩ := List.mem_iff_getElem?.1 q
  exact (told_all (by omega) (by omega) hi).elim hs hst
theorem told_ne {raw taken : List ByteArray} {s : ByteArray} (hs : s ∉ tell raw taken raw.length) {j : Nat} {x : ByteArray} (hx : raw[j]? = some x) : nx raw taken (tell raw taken j) j x ≠ s := fun e => by
  have hj := (List.getElem?_eq_some_iff.1 hx).1
  exact hs (List.mem_iff_getElem?.2 ⟨j, by rw [tell_at raw taken hj (Nat.le_refl _) hx, e]⟩)
theorem tell_lo {raw taken : List ByteArray} {s : ByteArray} {k : Nat} (hk : k ≤ raw.length) (hr : raw.length ≤ 30) (ht : taken.length ≤ 30) (hs : s ∉ tell raw taken raw.length) : ∀ i, i ≤ k → tell (ins raw k s) taken i = tell raw taken i
  | 0, _ => rfl
  | i + 1, hi => by
    have hx : raw[i]? = some raw[i] := List.getElem?_eq_getElem (by omega)
    have hx' : (ins raw k s)[i]? = some raw[i] := by rw [ins_lo raw s hk (by omega)]; exact hx
    rw [tell_succ hx', tell_succ hx, tell_lo hk hr ht hs i (by omega)]
    congr 2
    have hl := tell_len raw taken i (by omega)
    refine nx_more (s := s) ?_ (fun y => ?_) (told_ne hs hx) (by rw [List.length_append, List.length_append, hl]; omega)
    · unfold KeptAt
      rw [ins_take_lo raw s hk (by omega)]
    · simp only [List.mem_append, ins_mem]
      constructor
      · rintro ((q | q | q) | q)
        · exact .inl (.inl (.inl q))
        · exact .inl (.inl (.inr q))
        · exact .inr q
        · exact .inl (.inr q)
      · rintro (((q | q) | q) | q)
        · exact .inl (.inl q)
        · exact .inl (.inr (.inl q))
        · exact .inr q
        · exact .inl (.inr (.inr q))
section
variable {raw taken : List ByteArray} {s : ByteArray} {k : Nat} (hk : k ≤ raw.length) (hr : raw.length ≤ 30) (ht : taken.length ≤ 30) (hs : s ∉ tell raw taken raw.length) (hst : s ∉ taken)
include hk hr ht hs hst
theorem kept_new : KeptAt (ins raw k s) taken k s := ⟨hst, by
  rw [ins_take_lo raw s hk (Nat.le_refl _)]
  exact fun q => not_raw hr ht hs hst (List.mem_of_mem_take q)⟩
theorem tell_hi : ∀ j, k ≤ j → j ≤ raw.length → tell (ins raw k s) taken (j + 1) = ins (tell raw taken j) k s
  | j, hkj, hj => by
    by_cases e : j = k
    · subst e
      rw [tell_succ (ins_at raw s hk), nx_kept (keptB_true (kept_new hk hr ht hs hst)), tell_lo hk hr ht hs j (Nat.le_refl _)]
      unfold ins
      have hl := tell_len raw taken j hj
      rw [List.take_of_length_le (by omega), List.drop_of_length_le (by omega)]
    · obtain ⟨m, rfl⟩ : ∃ m, j = m + 1 := ⟨j - 1, by omega⟩
      have hx : raw[m]? = some raw[m] := List.getElem?_eq_getElem (by omega)
      have hx' : (ins raw k s)[m + 1]? = some raw[m] := by rw [ins_hi raw s hk (by omega)]; exact hx
      have ih := tell_hi m (by omega) (by omega)
      have hl := tell_len raw taken m (by omega)
      have hnr := not_raw hr ht hs hst
      have hxr : raw[m] ∈ raw := List.getElem_mem _
      have en : nx (ins raw k s) taken (ins (tell raw taken m) k s) (m + 1) raw[m] = nx raw taken (tell raw taken m) m raw[m] := by
        refine nx_more (s := s) ?_ (fun y => ?_) (told_ne hs hx) (by rw [List.length_append, List.length_append, hl]; omega)
        · unfold KeptAt
          rw [ins_take_hi raw s hk (by omega), ins_mem]
          exact ⟨fun q => ⟨q.1, fun r => q.2 (.inl r)⟩, fun q => ⟨q.1, fun r => r.elim q.2 (fun e => hnr (by rw [← e]; exact hxr))⟩⟩
        · simp only [List.mem_append, ins_mem]
          constructor
          · rintro ((q | q | q) | q | q)
            · exact .inl (.inl (.inl q))
            · exact .inl (.inl (.inr q))
            · exact .inr q
            · exact .inl (.inr q)
            · exact .inr q
          · rintro (((q | q) | q) | q)
            · exact .inl (.inl q)
            · exact .inl (.inr (.inl q))
            · exact .inr (.inl q)
            · exact .inl (.inr (.inr q))
      rw [tell_succ hx', ih, en, tell_succ hx]
      unfold ins
      rw [List.take_append_of_le_length (by omega), List.drop_append_of_le_length (by omega), List.append_assoc, List.cons_append]
theorem tell_ins : tell (ins raw k s) taken (raw.length + 1) = ins (tell raw taken raw.length) k s := tell_hi hk hr ht hs hst raw.length hk (Nat.le_refl _)
end
end Go.Proofs.YtkkeemhbokpngaaDoor
