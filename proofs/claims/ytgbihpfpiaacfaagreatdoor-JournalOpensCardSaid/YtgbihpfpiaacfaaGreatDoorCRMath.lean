/- Records, as lists of bytes: what stands first, and all that stand there (plain: nothing of the program). -/
import Derived.Test.YtgbihpfpiaacfaaGreatDoorCSumM
set_option linter.unusedVariables false
namespace Go.Proofs.YtgbihpfpiaacfaaGreatDoor.Rc

instance (l : List Nat) : Decidable (Sealed l) := by unfold Sealed; infer_instance

/-- The number that four bytes are. -/
def n4 : List Nat → Nat
  | a :: b :: c :: d :: _ => a + 256 * b + 65536 * c + 16777216 * d
  | _ => 0
/-- A record. -/
def rec (b : List Nat) : List Nat := seal' (le4 b.length ++ b)
/-- What stands first: what it says, how many bytes it takes, an error's number. -/
def fst (bs : List Nat) : List Nat × Nat × Nat :=
  if bs.length < 4 then ([], 0, 3) else if 65536 < n4 bs then ([], 0, 6) else if bs.length < n4 bs + 8 then ([], 0, 3)
  else if Sealed (bs.take (n4 bs + 8)) then ((bs.take (n4 bs + 4)).drop 4, n4 bs + 8, 0) else ([], 0, 5)

theorem fst_ok {bs : List Nat} (h : (fst bs).2.2 = 0) : 4 ≤ bs.length ∧ n4 bs ≤ 65536 ∧ n4 bs + 8 ≤ bs.length ∧ Sealed (bs.take (n4 bs + 8)) ∧ fst bs = ((bs.take (n4 bs + 4)).drop 4, n4 bs + 8, 0) ∧ ((bs.take (n4 bs + 4)).drop 4).length = n4 bs := by
  unfold fst at h ⊢
  by_cases h1 : bs.length < 4
  · rw [if_pos h1] at h; cases h
  · by_cases h2 : 65536 < n4 bs
    · rw [if_neg h1, if_pos h2] at h; cases h
    · by_cases h3 : bs.length < n4 bs + 8
      · rw [if_neg h1, if_neg h2, if_pos h3] at h; cases h
      · by_cases h4 : Sealed (bs.take (n4 bs + 8))
        · refine ⟨by omega, by omega, by omega, h4, by rw [if_neg h1, if_neg h2, if_neg h3, if_pos h4], ?_⟩
          rw [List.length_drop, List.length_take]; omega
        · rw [if_neg h1, if_neg h2, if_neg h3, if_neg h4] at h; cases h
theorem fst_len {bs : List Nat} (h : (fst bs).2.2 = 0) : (fst bs).2.1 = (fst bs).1.length + 8 ∧ (fst bs).2.1 ≤ bs.length ∧ (fst bs).1.length ≤ 65536 := by
  obtain ⟨h1, h2, h3, h4, h5, h6⟩ := fst_ok h
  rw [h5]
  exact ⟨by rw [h6], h3, by rw [h6]; exact h2⟩
theorem fst_bad {bs : List Nat} (h : (fst bs).2.2 ≠ 0) : (fst bs).1 = [] ∧ (fst bs).2.1 = 0 := by
  unfold fst at h ⊢
  by_cases h1 : bs.length < 4
  · rw [if_pos h1]; exact ⟨rfl, rfl⟩
  · by_cases h2 : 65536 < n4 bs
    · rw [if_neg h1, if_pos h2]; exact ⟨rfl, rfl⟩
    · by_cases h3 : bs.length < n4 bs + 8
      · rw [if_neg h1, if_neg h2, if_pos h3]; exact ⟨rfl, rfl⟩
      · by_cases h4 : Sealed (bs.take (n4 bs + 8))
        · rw [if_neg h1, if_neg h2, if_neg h3, if_pos h4] at h; exact absurd rfl h
        · rw [if_neg h1, if_neg h2, if_neg h3, if_neg h4]; exact ⟨rfl, rfl⟩

/-- All that stand there: each with where it begins. -/
def recsF : Nat → Nat → List Nat → List (Nat × List Nat)
  | 0, _, _ => []
  | k + 1, at_, bs => if (fst bs).2.2 = 0 then (at_, (fst bs).1) :: recsF k (at_ + (fst bs).2.1) (bs.drop (fst bs).2.1) else []
def recs (bs : List Nat) : List (Nat × List Nat) := recsF (bs.length + 1) 0 bs
theorem recsF_enough : ∀ (k m at_ : Nat) (bs : List Nat), bs.length < k → bs.length < m → recsF k at_ bs = recsF m at_ bs
  | 0, _, _, _, h, _ => by omega
  | _ + 1, 0, _, _, _, h => by omega
  | k + 1, m + 1, at_, bs, h1, h2 => by
    show (if _ then _ else _) = (if _ then _ else _)
    by_cases h : (fst bs).2.2 = 0
    · rw [if_pos h, if_pos h]
      have hl := fst_len h
      rw [recsF_enough k m _ _ (by rw [List.length_drop]; omega) (by rw [List.length_drop]; omega)]
    · rw [if_neg h, if_neg h]
/-- From a place on. -/
def recsAt (at_ : Nat) (bs : List Nat) : List (Nat × List Nat) := recsF (bs.length + 1) at_ bs
theorem recsAt_ok {at_ : Nat} {bs : List Nat} (h : (fst bs).2.2 = 0) : recsAt at_ bs = (at_, (fst bs).1) :: recsAt (at_ + (fst bs).2.1) (bs.drop (fst bs).2.1) := by
  unfold recsAt
  have hl := fst_len h
  show (if _ then _ else _) = _
  rw [if_pos h, recsF_enough bs.length ((bs.drop (fst bs).2.1).length + 1) _ _ (by rw [List.length_drop]; omega) (by omega)]
theorem recsAt_no {at_ : Nat} {bs : List Nat} (h : (fst bs).2.2 ≠ 0) : recsAt at_ bs = [] := by
  unfold recsAt
  show (if _ then _ else _) = _
  rw [if_neg h]
/-- How many bytes records take. -/
def takes : List (Nat × List Nat) → Nat
  | [] => 0
  | p :: r => p.2.length + 8 + takes r
theorem takes_append : ∀ (l m : List (Nat × List Nat)), takes (l ++ m) = takes l + takes m
  | [], m => by simp [takes]
  | p :: l, m => by simp [takes, takes_append l m]; omega
theorem recsAt_takes : ∀ (n at_ : Nat) (bs : List Nat), bs.length ≤ n → takes (recsAt at_ bs) ≤ bs.length
  | n, at_, bs, hn => by
    by_cases h : (fst bs).2.2 = 0
    · have hl := fst_len h
      rw [recsAt_ok h]
      match n, hn with
      | 0, hn => omega
      | n + 1, hn =>
        have := recsAt_takes n (at_ + (fst bs).2.1) (bs.drop (fst bs).2.1) (by rw [List.length_drop]; omega)
        rw [List.length_drop] at this
        show (fst bs).1.length + 8 + _ ≤ _
        omega
    · rw [recsAt_no h]; exact Nat.zero_le _

theorem n4_le4 (n : Nat) (b : List Nat) (h : n < 4294967296) : n4 (le4 n ++ b) = n := by
  show n % 256 + 256 * _ + 65536 * _ + 16777216 * _ = n
  omega
theorem rec_length (b : List Nat) : (rec b).length = b.length + 8 := by
  unfold rec
  rw [seal_length, List.length_append]
  show 4 + b.length + 4 = _
  omega
theorem rec_byt {b : List Nat} (h : ∀ x ∈ b, x < 256) : ∀ x ∈ rec b, x < 256 := by
  refine seal_lt fun x hx => ?_
  rcases List.mem_append.1 hx with hx | hx
  · exact le4_lt _ x hx
  · exact h x hx
/-- A record is read as it was, whatever stands behind. -/
theorem fst_rec (b c : List Nat) (h : b.length ≤ 65536) : fst (rec b ++ c) = (b, b.length + 8, 0) := by
  have e : n4 (rec b ++ c) = b.length := by
    unfold rec seal'
    rw [List.append_assoc, List.append_assoc]
    exact n4_le4 _ _ (by omega)
  have hl : (rec b ++ c).length = b.length + 8 + c.length := by rw [List.length_append, rec_length]
  have ht : (rec b ++ c).take (b.length + 8) = rec b := List.take_left' (rec_length b)
  have ht2 : ((rec b ++ c).take (b.length + 4)).drop 4 = b := by
    unfold rec seal'
    rw [List.append_assoc, List.take_left' (by rw [List.length_append]; show 4 + _ = _; omega)]
    rfl
  unfold fst
  rw [e, if_neg (by omega), if_neg (by omega), if_neg (by omega), ht, if_pos (show Sealed (rec b) from sealed_seal _), ht2]
end Go.Proofs.YtgbihpfpiaacfaaGreatDoor.Rc
