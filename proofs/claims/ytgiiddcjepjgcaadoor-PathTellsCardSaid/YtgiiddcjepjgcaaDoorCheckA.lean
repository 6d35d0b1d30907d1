/- Whether a text is a name: name.Check goes by runes, the reference by bytes. -/
import Derived.Test.YtgiiddcjepjgcaaDoorRNumW
import Derived.Shelf.GgClosure.StringsIndexFunc
import Derived.Shelf.GgClosure.StringsIndexFuncTop
import Derived.Shelf.GgClosure.StringsRunes
set_option linter.unusedVariables false
namespace Go.Proofs.YtgiiddcjepjgcaaDoor
open Go.RowKit

def badN (c : Nat) : Bool := decide (c = 47 ∨ c = 0)
/-- A bad byte at some place from a place on. -/
def BadFrom (s : ByteArray) (p : Nat) : Prop := ∃ j, p ≤ j ∧ j < s.size ∧ badN (s.get! j).toNat = true

theorem dec_high (n b0 b1 b2 b3 : Nat) (h : 128 ≤ b0) : 128 ≤ (Lib.decodeN n b0 b1 b2 b3).1 ∧ 1 ≤ (Lib.decodeN n b0 b1 b2 b3).2 ∧ (2 ≤ (Lib.decodeN n b0 b1 b2 b3).2 → 128 ≤ b1) ∧ (3 ≤ (Lib.decodeN n b0 b1 b2 b3).2 → 128 ≤ b2) ∧ (4 ≤ (Lib.decodeN n b0 b1 b2 b3).2 → 128 ≤ b3) ∧ (Lib.decodeN n b0 b1 b2 b3).2 ≤ 4 := by
  unfold Lib.decodeN
  rw [if_neg (by omega)]
  repeat' split
  all_goals (simp only; refine ⟨by omega, by omega, fun _ => by omega, fun _ => by omega, fun _ => by omega, by omega⟩)

theorem idx_bad (s : ByteArray) : ∀ (f p : Nat), s.size - p ≤ f → (0 ≤ Lib.idxFuncFrom badN true s f p ↔ BadFrom s p)
  | 0, p, h => by
    constructor
    · intro h1; simp [Lib.idxFuncFrom] at h1
    · rintro ⟨j, h1, h2, _⟩; omega
  | f + 1, p, h => by
    unfold Lib.idxFuncFrom
    by_cases hp : p < s.size
    · rw [if_pos hp]
      have hd := Lib.decode_at s p
      by_cases hb : (s.get! p).toNat < 128
      · have e : Utf8.decode s p = ((s.get! p).toNat, 1) := by rw [hd]; unfold Lib.decodeN; rw [if_pos hb]
        rw [e]
        simp only
        cases hc : badN (s.get! p).toNat with
        | true => rw [if_pos rfl]; exact ⟨fun _ => ⟨p, Nat.le_refl _, hp, hc⟩, fun _ => by omega⟩
        | false =>
          rw [if_neg (by decide), idx_bad s f (p + 1) (by omega)]
          constructor
          · rintro ⟨j, h1, h2, h3⟩; exact ⟨j, by omega, h2, h3⟩
          · rintro ⟨j, h1, h2, h3⟩
            refine ⟨j, ?_, h2, h3⟩
            rcases Nat.eq_or_lt_of_le h1 with rfl | h'
            · rw [hc] at h3; cases h3
            · omega
      · have D := dec_high (s.size - p) (s.get! p).toNat (s.get! (p + 1)).toNat (s.get! (p + 2)).toNat (s.get! (p + 3)).toNat (by omega)
        rw [← hd] at D
        generalize Utf8.decode s p = d at D
        obtain ⟨r, wd⟩ := d
        simp only at D ⊢
        obtain ⟨D1, D2, D3, D4, D5, D6⟩ := D
        have hr : badN r = false := by unfold badN; simp; omega
        rw [hr, if_neg (by decide), idx_bad s f (p + wd) (by omega)]
        constructor
        · rintro ⟨j, h1, h2, h3⟩; exact ⟨j, by omega, h2, h3⟩
        · rintro ⟨j, h1, h2, h3⟩
          refine ⟨j, ?_, h2, h3⟩
          rcases Nat.lt_or_ge j (p + wd) with h' | h'
          · exfalso
            have hbj : 128 ≤ (s.get! j).toNat := by
              rcases (show j = p ∨ j = p + 1 ∨ j = p + 2 ∨ j = p + 3 by omega) with rfl | rfl | rfl | rfl
              · omega
              · exact D3 (by omega)
              · exact D4 (by omega)
              · exact D5 (by omega)
            unfold badN at h3
            simp at h3
            omega
          · exact h'
    · rw [if_neg hp]
      constructor
      · intro h1; simp at h1
      · rintro ⟨j, h1, h2, _⟩; omega

set_option maxRecDepth 100000 in
set_option maxHeartbeats 400000 in
theorem lit_any (w : World) (x : Nat) : Calls Tryd.prog 33 #[.int .i32 x] w fun e w' => e = .returned (.bool (badN x)) ∧ w = w' := by
  have hcase : (x = 47 ∧ badN x = true) ∨ (x ≠ 47 ∧ x = 0 ∧ badN x = true) ∨ (x ≠ 47 ∧ x ≠ 0 ∧ badN x = false) := by
    unfold badN
    by_cases h1 : x = 47 <;> by_cases h2 : x = 0 <;> simp [h1, h2]
  rcases hcase with ⟨h1, h⟩ | ⟨h1, h2, h⟩ | ⟨h1, h2, h⟩
  · subst h1
    go_enter Tryd.func33, Tryd.ntmps33
    go_wp2
    go_returns
    exact ⟨rfl, rfl⟩
  · subst h2
    go_enter Tryd.func33, Tryd.ntmps33
    go_wp2
    go_returns
    exact ⟨rfl, rfl⟩
  · have t1 := bneb_ (x : Int) 47 (by omega)
    have t2 := bneb_ (x : Int) 0 (by omega)
    have E := Lib.hid h
    clear h h1 h2
    go_enter Tryd.func33, Tryd.ntmps33
    go_wp2
    go_returns
    exact ⟨ret_b E.out.symm, rfl⟩
end Go.Proofs.YtgiiddcjepjgcaaDoor
