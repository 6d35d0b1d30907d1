/- Digits, and the number of them; a stamp's text, cut at its point. -/
import Derived.Test.YtiljmkglmanddaaDoorCut
set_option linter.unusedVariables false
namespace Go.Proofs.YtiljmkglmanddaaDoor
open Go.RowKit

theorem dd_small {u : Nat} (h : u < 10) : Lib.decDigits u = [UInt8.ofNat (48 + u)] := Lib.decDigits_one h
theorem dd_big {u : Nat} (h : ¬ u < 10) : Lib.decDigits u = Lib.decDigits (u / 10) ++ [UInt8.ofNat (48 + u % 10)] := by
  conv => lhs; rw [Lib.decDigits, dif_neg h]
theorem dig_nat (k : Nat) (h : k < 10) : (UInt8.ofNat (48 + k)).toNat = 48 + k := by rw [UInt8.toNat_ofNat']; omega
theorem dd_all : ∀ u : Nat, (Lib.decDigits u).all isD = true := by
  intro u
  induction u using Nat.strongRecOn with
  | ind u ih =>
    by_cases h : u < 10
    · rw [dd_small h]
      simp only [List.all_cons, List.all_nil, Bool.and_true, isD, dig_nat u h]
      simp; omega
    · rw [dd_big h, List.all_append, ih (u / 10) (by omega)]
      simp only [List.all_cons, List.all_nil, Bool.and_true, isD, dig_nat (u % 10) (by omega)]
      simp; omega
theorem dd_val : ∀ u : Nat, val (Lib.decDigits u) = u := by
  intro u
  induction u using Nat.strongRecOn with
  | ind u ih =>
    by_cases h : u < 10
    · rw [dd_small h]
      show 10 * 0 + ((UInt8.ofNat (48 + u)).toNat - 48) = u
      rw [dig_nat u h]; omega
    · rw [dd_big h, val_snoc, ih (u / 10) (by omega), dig_nat (u % 10) (by omega)]; omega
theorem dd_ne (u : Nat) : Lib.decDigits u ≠ [] := by
  by_cases h : u < 10
  · rw [dd_small h]; simp
  · rw [dd_big h]; simp
theorem dd_len : ∀ (k u : Nat), u < 10 ^ k → 1 ≤ k → (Lib.decDigits u).length ≤ k
  | 0, _, _, h => by omega
  | k + 1, u, h, _ => by
    by_cases hs : u < 10
    · rw [dd_small hs]; simp
    · rw [dd_big hs]
      have hk : 1 ≤ k := by
        rcases Nat.eq_zero_or_pos k with rfl | h'
        · simp at h; omega
        · exact h'
      have := dd_len k (u / 10) (by rw [Nat.div_lt_iff_lt_mul (by omega)]; rwa [Nat.pow_succ] at h) hk
      simp only [List.length_append, List.length_cons, List.length_nil]; omega
theorem dd_head : ∀ u : Nat, 1 ≤ u → (Lib.decDigits u).head? ≠ some 48 := by
  intro u
  induction u using Nat.strongRecOn with
  | ind u ih =>
    intro h1 hc
    by_cases h : u < 10
    · rw [dd_small h] at hc
      simp only [List.head?_cons, Option.some.injEq] at hc
      have := congrArg UInt8.toNat hc
      rw [dig_nat u h] at this
      have e : (48 : UInt8).toNat = 48 := rfl
      omega
    · rw [dd_big h] at hc
      have := ih (u / 10) (by omega) (by omega)
      cases hd : Lib.decDigits (u / 10) with
      | nil => exact dd_ne _ hd
      | cons a t => rw [hd] at hc this; simp at hc this; exact this hc
theorem num_dd (u : Nat) (h : u < 10 ^ 18) : numOf (Lib.decDigits u) = some u := by
  unfold numOf
  rw [if_neg, dd_val]
  rintro (c | c | c | ⟨c, c2⟩)
  · have := dd_ne u
    exact this (List.eq_nil_of_length_eq_zero (by omega))
  · have := dd_len 18 u h (by omega); omega
  · exact c (dd_all u)
  · rcases Nat.eq_zero_or_pos u with rfl | hu
    · rw [dd_small (by omega)] at c; simp at c
    · exact dd_head u hu c2

theorem idx_here : ∀ (a b : List UInt8) (c : UInt8), (∀ x ∈ a, x ≠ c) → Lib.indexByte (a ++ c :: b) c = a.length
  | [], b, c, _ => by simp [Lib.indexByte]
  | x :: a, b, c, h => by
    have hx := h x (List.mem_cons_self ..)
    have ih := idx_here a b c (fun y hy => h y (List.mem_cons_of_mem _ hy))
    show (if x == c then 0 else if Lib.indexByte (a ++ c :: b) c == -1 then -1 else Lib.indexByte (a ++ c :: b) c + 1) = _
    rw [if_neg (by simpa using hx), ih, if_neg (by simp)]
    simp

theorem dec_nodot (u : Nat) : ∀ x ∈ Lib.decDigits u, x ≠ 46 := by
  intro x hx hc
  have := List.all_eq_true.1 (dd_all u) x hx
  rw [hc] at this
  simp [isD] at this

theorem ba_ext {a b : ByteArray} (h : a.data.toList = b.data.toList) : a = b := by
  cases a with | mk x => cases b with | mk y => exact congrArg ByteArray.mk (Array.ext' h)

end Go.Proofs.YtiljmkglmanddaaDoor
