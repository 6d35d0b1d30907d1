/- Strings in order; stamps in order; plain. Of no program. -/
import Derived.WalkKit
set_option linter.unusedVariables false
namespace Go.Proofs.YtgbihpfpiaacfaaGreatDoor
open Go.RowKit

/-! ### strings in order -/
theorem ltL_irrefl : ∀ l : List UInt8, Op.bytesLess l l = false
  | [] => rfl
  | a :: l => by
    have := ltL_irrefl l
    simp [Op.bytesLess, this]
theorem ltL_trans : ∀ {a b c : List UInt8}, Op.bytesLess a b = true → Op.bytesLess b c = true → Op.bytesLess a c = true
  | a, b, [], _, h => by cases b <;> simp [Op.bytesLess] at h
  | a, [], c, h, _ => by cases a <;> simp [Op.bytesLess] at h
  | [], _ :: _, _ :: _, _, _ => rfl
  | x :: a, y :: b, z :: c, h1, h2 => by
    have ih := @ltL_trans a b c
    simp only [Op.bytesLess, Bool.or_eq_true, Bool.and_eq_true, decide_eq_true_eq, beq_iff_eq] at h1 h2 ⊢
    rcases h1 with h1 | ⟨rfl, h1⟩
    · rcases h2 with h2 | ⟨rfl, h2⟩
      · exact .inl (UInt8.lt_trans h1 h2)
      · exact .inl h1
    · rcases h2 with h2 | ⟨rfl, h2⟩
      · exact .inl h2
      · exact .inr ⟨rfl, ih h1 h2⟩
theorem ltL_total : ∀ {a b : List UInt8}, Op.bytesLess a b = false → Op.bytesLess b a = false → a = b
  | [], [], _, _ => rfl
  | [], _ :: _, h, _ => by simp [Op.bytesLess] at h
  | _ :: _, [], _, h => by simp [Op.bytesLess] at h
  | x :: a, y :: b, h1, h2 => by
    have ih := @ltL_total a b
    simp only [Op.bytesLess, Bool.or_eq_false_iff, Bool.and_eq_false_iff, decide_eq_false_iff_not] at h1 h2
    have e : x = y := by
      have h3 := h1.1
      have h4 := h2.1
      rw [UInt8.not_lt] at h3 h4
      exact UInt8.le_antisymm h4 h3
    subst e
    have k1 := h1.2.resolve_left (by simp)
    have k2 := h2.2.resolve_left (by simp)
    rw [ih k1 k2]
def ltB (s t : ByteArray) : Bool := Op.bytesLess s.toList t.toList
theorem ba_toList : ∀ {s t : ByteArray}, s.toList = t.toList → s = t := by
  intro s t h
  have e : ∀ u : ByteArray, u.toList = u.data.toList := fun u => by
    have := @ByteArray.toList_eq u
    first | exact this | simpa using this
  rw [e, e] at h
  cases s; cases t
  simp at h
  subst h
  rfl
theorem ltB_irrefl (s : ByteArray) : ltB s s = false := ltL_irrefl _
theorem ltB_trans {a b c : ByteArray} (h : ltB a b = true) (h2 : ltB b c = true) : ltB a c = true := ltL_trans h h2
theorem ltB_total {a b : ByteArray} (h : ltB a b = false) (h2 : ltB b a = false) : a = b := ba_toList (ltL_total h h2)
theorem ltB_asymm {a b : ByteArray} (h : ltB a b = true) : ltB b a = false := by
  cases h2 : ltB b a with
  | false => rfl
  | true => have := ltB_trans h h2; rw [ltB_irrefl] at this; cases this
end Go.Proofs.YtgbihpfpiaacfaaGreatDoor

