/- Suffixes tell numbers apart: plain facts on what Suffixed and Base tell. -/
import Derived.Test.YtkkeemhbokpngaaDoorSuff
import Derived.Lib.LastIndexByte
set_option linter.unusedVariables false
namespace Go.Proofs.YtkkeemhbokpngaaDoor
open Go.RowKit

theorem dec_no (u : Nat) (c : UInt8) (hc : ¬ (48 ≤ c.toNat ∧ c.toNat ≤ 57)) : ∀ x ∈ Lib.decDigits u, x ≠ c := by
  intro x hx e
  have h := List.all_eq_true.1 (dd_all u) x hx
  rw [e] at h
  unfold isD at h
  simp only [Bool.and_eq_true, decide_eq_true_eq] at h
  exact hc h
theorem at_list (t : ByteArray) (i : Nat) (l : List UInt8) (ht : t.data.toList = l) (h : i < l.length) : t.data[i]! = l[i]'h := by
  subst ht
  have h' : i < t.data.size := by simpa using h
  rw [getElem!_pos t.data i h', Array.getElem_toList]
theorem size_list (t : ByteArray) : t.data.toList.length = t.size := by rw [Array.length_toList]; rfl

theorem last_mark (t : ByteArray) (p d : List UInt8) (ht : t.data.toList = p ++ 126 :: d) (hd : ∀ x ∈ d, x ≠ 126) : Lib.lastIdx t 126 t.size = p.length := by
  have hsz : t.size = p.length + 1 + d.length := by
    rw [← size_list, ht]; simp; omega
  have hmid : t.data[p.length]! = 126 := by
    rw [at_list t p.length _ ht (by simp)]
    simp
  have hafter : ∀ i, p.length < i → i < t.size → ((t.data[i]!).toNat : Int) ≠ 126 := by
    intro i h1 h2 h3
    rw [at_list t i _ ht (by simp; omega)] at h3
    have e : (p ++ 126 :: d)[i]? = d[i - (p.length + 1)]? := by
      rw [List.getElem?_append_right (by omega)]
      obtain ⟨m, hm⟩ : ∃ m, i - p.length = m + 1 := ⟨i - p.length - 1, by omega⟩
      rw [hm, List.getElem?_cons_succ]
      congr 1; omega
    have e2 := List.getElem?_eq_getElem (l := p ++ 126 :: d) (i := i) (by simp; omega)
    rw [e] at e2
    have hm := List.mem_of_getElem? e2
    refine hd _ hm (UInt8.toNat_inj.1 ?_)
    have : (126 : UInt8).toNat = 126 := rfl
    omega
  rcases Lib.lastIdx_spec t 126 t.size with ⟨h, hn⟩ | ⟨i, h1, h2, h3, h4⟩
  · exact absurd (by rw [hmid]; rfl) (hn p.length (by omega))
  · rw [h2]
    by_cases hlt : i < p.length
    · exact absurd (by rw [hmid]; rfl) (h4 p.length hlt (by omega))
    · by_cases hgt : p.length < i
      · exact absurd h3 (hafter i hgt h1)
      · omega

theorem decS_list (k : Int) : (decS k).data.toList = Lib.decDigits k.toNat := by unfold decS; simp
theorem ext_list (s : ByteArray) (a b : Nat) : (s.extract a b).data.toList = (s.data.toList.take b).drop a := by
  rw [ByteArray.data_extract, Array.toList_extract, List.extract_eq_drop_take', ]

theorem suff_list {s t : ByteArray} {k : Int} (hk : k ≤ 9223372036854775807) (h : SuffIs s k t) : ∃ p : List UInt8, t.data.toList = p ++ 126 :: Lib.decDigits (max k 2).toNat ∧ (∀ x ∈ p, x ∈ s.data.toList) ∧
    p.length + 1 + (decS (max k 2)).size ≤ 255 ∧ ((s.size : Int) ≤ 254 - ((decS (max k 2)).size : Int) → p = s.data.toList) := by
  obtain ⟨N, j, hN, hj, rfl⟩ := h
  have hsz := decS_size (max k 2) (by omega)
  refine ⟨(s.extract 0 (bd s j)).data.toList, ?_, ?_, ?_, ?_⟩
  · simp only [ByteArray.data_append, Array.toList_append, decS_list, List.append_assoc]
    rfl
  · intro x hx
    rw [ext_list, List.drop_zero] at hx
    exact List.mem_of_mem_take hx
  · rw [ext_list, List.drop_zero, List.length_take]
    rcases hj.2.1 with h0 | h1
    · subst h0; show min 0 _ + 1 + _ ≤ _; omega
    · omega
  · intro hle
    have hjN : j = N := by
      rcases hj.2.2 with h1 | h1
      · exact h1
      · have := bd_le s (j + 1); omega
    rw [hjN, hN.1, ext_list, List.drop_zero, List.take_of_length_le (by rw [size_list]; omega)]

theorem bad_list (s : ByteArray) : BadFrom s 0 ↔ ∃ x ∈ s.data.toList, x.toNat = 47 ∨ x.toNat = 0 := by
  rw [bad_has]
  constructor
  · rintro (⟨j, h1, h2⟩ | ⟨j, h1, h2⟩)
    all_goals
      have h3 : j < s.data.toList.length := by rw [size_list]; exact h1
      have h4 := at_list s j _ rfl h3
      have h5 : s.get! j = s.data[j]! := rfl
      refine ⟨_, List.getElem_mem h3, ?_⟩
      rw [← h4, ← h5]
      omega
  · rintro ⟨x, hx, h⟩
    obtain ⟨j, h3, rfl⟩ := List.getElem_of_mem hx
    have h4 := at_list s j _ rfl h3
    have h5 : s.get! j = s.data[j]! := rfl
    have h6 : j < s.size := by rw [← size_list]; exact h3
    rw [← h4, ← h5] at h
    rcases h with h | h
    · exact .inl ⟨j, h6, h⟩
    · exact .inr ⟨j, h6, h⟩

theorem check_good {s : ByteArray} (h : CheckIs s 0) : ¬ Lits s ∧ ¬ BadFrom s 0 ∧ s.size ≤ 255 := by
  rcases h with h | h | h
  · exact absurd h.2 (by decide)
  · exact absurd h.2.2.2 (by decide)
  · exact ⟨h.1, h.2.1, h.2.2.1⟩

theorem suff_check {s t : ByteArray} {k : Int} (hk : k ≤ 9223372036854775807) (hc : CheckIs s 0) (h : SuffIs s k t) : CheckIs t 0 := by
  obtain ⟨p, e, hp, hl, _⟩ := suff_list hk h
  obtain ⟨g1, g2, g3⟩ := check_good hc
  have hsz : t.size = p.length + 1 + (decS (max k 2)).size := by
    rw [← size_list, e, ← size_list (decS _), decS_list]; simp; omega
  refine .inr (.inr ⟨?_, ?_, by omega, rfl⟩)
  · have hm : (126 : UInt8) ∈ t.data.toList := by rw [e]; simp
    rintro (rfl | rfl | rfl) <;> revert hm <;> decide
  · rw [bad_list] at g2 ⊢
    rintro ⟨x, hx, hb⟩
    rw [e] at hx
    rcases List.mem_append.1 hx with hx | hx
    · exact g2 ⟨x, hp x hx, hb⟩
    · rcases List.mem_cons.1 hx with rfl | hx
      · rcases hb with hb | hb <;> exact absurd hb (by decide)
      · have h2 := List.all_eq_true.1 (dd_all _) x hx
        unfold isD at h2
        simp only [Bool.and_eq_true, decide_eq_true_eq] at h2
        omega

theorem suff_inj {s t : ByteArray} {k n : Int} (hk : k ≤ 9223372036854775807) (hn : n ≤ 9223372036854775807) (hk2 : 2 ≤ k) (hn2 : 2 ≤ n) (h : SuffIs s k t) (h' : SuffIs s n t) : k = n := by
  obtain ⟨p, e, _, _, _⟩ := suff_list hk h
  obtain ⟨p', e', _, _, _⟩ := suff_list hn h'
  have l1 := last_mark t p _ e (dec_no _ _ (by decide))
  have l2 := last_mark t p' _ e' (dec_no _ _ (by decide))
  have hl : p.length = p'.length := by omega
  rw [e] at e'
  obtain ⟨_, e3⟩ := List.append_inj e' hl
  injection e3 with _ e4
  have v1 := dd_val (max k 2).toNat
  have v2 := dd_val (max n 2).toNat
  rw [e4, v2] at v1
  omega

end Go.Proofs.YtkkeemhbokpngaaDoor
