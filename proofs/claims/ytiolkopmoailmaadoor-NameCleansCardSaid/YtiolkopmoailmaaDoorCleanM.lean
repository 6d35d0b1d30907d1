/- What a cleaned text is: plain facts. -/
import Derived.Test.YtiolkopmoailmaaDoorApartM
set_option linter.unusedVariables false
namespace Go.Proofs.YtiolkopmoailmaaDoor
open Go.RowKit

def clB (x : Nat) : Int := if x = 47 ∨ x = 0 then 95 else x
def cl (s : ByteArray) : List Int := s.data.toList.map fun b => clB b.toNat
def clT (s : ByteArray) : ByteArray := strOfNums (cl s)
theorem cl_length (s : ByteArray) : (cl s).length = s.size := by unfold cl; rw [List.length_map, size_list]
theorem clB_bd (x : Nat) (h : x < 256) : 0 ≤ clB x ∧ clB x < 256 := by unfold clB; split <;> omega
theorem clB_ok (x : Nat) : clB x ≠ 47 ∧ clB x ≠ 0 := by unfold clB; split <;> omega
theorem clB_same (x : Nat) (h : ¬ (x = 47 ∨ x = 0)) : clB x = x := by unfold clB; rw [if_neg h]
theorem clT_size (s : ByteArray) : (clT s).size = s.size := by unfold clT; rw [strOfNums_size, cl_length]
theorem clT_list (s : ByteArray) : (clT s).data.toList = s.data.toList.map fun b => UInt8.ofNat (clB b.toNat).toNat := by
  unfold clT cl
  rw [strOfNums_data, List.map_map]
  rfl
theorem clT_ok (s : ByteArray) : ∀ x ∈ (clT s).data.toList, x.toNat ≠ 47 ∧ x.toNat ≠ 0 := by
  intro x hx
  rw [clT_list] at hx
  obtain ⟨b, _, rfl⟩ := List.mem_map.1 hx
  have h1 := clB_bd b.toNat (UInt8.toNat_lt _)
  have h2 := clB_ok b.toNat
  rw [UInt8.toNat_ofNat']
  omega
theorem clT_same {s : ByteArray} (h : ¬ BadFrom s 0) : clT s = s := by
  apply ba_ext
  rw [clT_list]
  rw [bad_list] at h
  refine (List.map_congr_left (g := id) ?_).trans (List.map_id _)
  intro b hb
  rw [clB_same _ (fun c => h ⟨b, hb, c⟩)]
  apply UInt8.toNat_inj.1
  have := UInt8.toNat_lt b
  rw [UInt8.toNat_ofNat']
  show (b.toNat : Int).toNat % 2 ^ 8 = b.toNat
  omega

/-- What is cut to fit. -/
def Opn (s o : ByteArray) : Prop := (Lits (clT s) ∧ o = ⟨#[95]⟩ ++ clT s) ∨ (¬ Lits (clT s) ∧ o = clT s)
theorem opn_is (s : ByteArray) : ∃ o, Opn s o := by
  by_cases h : Lits (clT s)
  · exact ⟨_, .inl ⟨h, rfl⟩⟩
  · exact ⟨_, .inr ⟨h, rfl⟩⟩
theorem lits_size {s : ByteArray} (h : Lits s) : s.size ≤ 2 := by rcases h with rfl | rfl | rfl <;> decide
theorem lits_of_size {s : ByteArray} (h : s.size = 0) : Lits s := by
  left
  cases s with | mk d => exact congrArg ByteArray.mk (Array.eq_empty_of_size_eq_zero h)
theorem opn_good {s o : ByteArray} (h : Opn s o) : ¬ Lits o ∧ (∀ x ∈ o.data.toList, x.toNat ≠ 47 ∧ x.toNat ≠ 0) ∧ 1 ≤ o.size ∧ o.size ≤ s.size + 1 := by
  rcases h with ⟨h, rfl⟩ | ⟨h, rfl⟩
  · refine ⟨?_, ?_, ?_, ?_⟩
    · rcases h with h | h | h <;> rw [h] <;> rintro (c | c | c) <;> exact absurd (congrArg (fun b : ByteArray => b.data.toList) c) (by decide)
    · intro x hx
      rw [ByteArray.data_append, Array.toList_append] at hx
      rcases List.mem_append.1 hx with hx | hx
      · have : x = 95 := by simpa using hx
        subst this; decide
      · exact clT_ok s x hx
    · rw [ByteArray.size_append]; show 1 ≤ 1 + _; omega
    · rw [ByteArray.size_append, clT_size]; show 1 + _ ≤ _; omega
  · refine ⟨h, clT_ok s, ?_, by rw [clT_size]; omega⟩
    rcases Nat.eq_zero_or_pos (clT s).size with h0 | h0
    · exact absurd (lits_of_size h0) h
    · exact h0

def CleanIs (s c : ByteArray) : Prop := ∃ o N j, Opn s o ∧ IsN o N ∧ IsFit o N 255 j ∧ c = o.extract 0 (bd o j)
theorem clean_is (s : ByteArray) : ∃ c, CleanIs s c := by
  obtain ⟨o, ho⟩ := opn_is s
  obtain ⟨N, hN⟩ := isN_exists o
  obtain ⟨j, hj⟩ := isFit_exists (s := o) (N := N) 255
  exact ⟨_, o, N, j, ho, hN, hj, rfl⟩

theorem fit_whole {o : ByteArray} {N j : Nat} (hN : IsN o N) (hj : IsFit o N 255 j) (h : o.size ≤ 255) : o.extract 0 (bd o j) = o := by
  have hjN : j = N := by
    rcases hj.2.2 with h1 | h1
    · exact h1
    · have := bd_le o (j + 1); omega
  apply ba_ext
  rw [hjN, hN.1, ext_list, List.drop_zero, List.take_of_length_le (by rw [size_list]; omega)]
theorem fit_big {o : ByteArray} {N j : Nat} (hN : IsN o N) (hj : IsFit o N 255 j) (h : 255 < o.size) : 252 ≤ bd o j := by
  rcases hj.2.2 with h1 | h1
  · rw [h1, hN.1]; omega
  · by_cases hlt : j < N
    · have h2 := isN_succ hN hlt
      have h3 := wid_four o (bd o j)
      omega
    · have hjN : j = N := by have := hj.1; omega
      rw [hjN, hN.1]; omega
theorem fit_le {o : ByteArray} {N j : Nat} (hj : IsFit o N 255 j) : bd o j ≤ 255 := by
  rcases hj.2.1 with h0 | h1
  · subst h0; show 0 ≤ 255; omega
  · omega

theorem clean_check {s c : ByteArray} (h : CleanIs s c) : CheckIs c 0 := by
  obtain ⟨o, N, j, ho, hN, hj, rfl⟩ := h
  obtain ⟨g1, g2, g3, g4⟩ := opn_good ho
  have hsz : (o.extract 0 (bd o j)).size ≤ 255 := by
    have := fit_le hj
    simp only [ByteArray.size_extract]; omega
  refine .inr (.inr ⟨?_, ?_, hsz, rfl⟩)
  · by_cases hb : o.size ≤ 255
    · rw [fit_whole hN hj hb]; exact g1
    · intro hl
      have h2 := lits_size hl
      have h3 := fit_big hN hj (by omega)
      have h4 := bd_le o j
      simp only [ByteArray.size_extract] at h2
      omega
  · rw [bad_list]
    rintro ⟨x, hx, hb⟩
    rw [ext_list, List.drop_zero] at hx
    have := g2 x (List.mem_of_mem_take hx)
    omega
theorem clean_same {s c : ByteArray} (h : CleanIs s c) (hc : CheckIs s 0) : c = s := by
  obtain ⟨o, N, j, ho, hN, hj, rfl⟩ := h
  obtain ⟨g1, g2, g3⟩ := check_good hc
  have e := clT_same g2
  have : o = s := by
    rcases ho with ⟨h, _⟩ | ⟨_, h⟩
    · rw [e] at h; exact absurd h g1
    · rw [h, e]
  subst this
  exact fit_whole hN hj g3
theorem clean_ne {s c : ByteArray} (h : CleanIs s c) : c.toList.isEmpty = false := by
  have h1 := (check_good (clean_check h)).1
  rw [ByteArray.toList_eq]
  cases hd : c.data.toList with
  | nil => exact absurd (.inl (ba_ext hd)) h1
  | cons a t => rfl
end Go.Proofs.YtiolkopmoailmaaDoor
