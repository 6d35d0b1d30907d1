/- Bytes as one number: what a sum makes of bits that are turned. Of no program. -/
import Derived.Test.YtlhicojbpjdbaaaSumM
set_option linter.unusedVariables false
namespace Go.Proofs.Ytlhicojbpjdbaaa
open Go

/-- Bytes as a number, the lowest first. -/
def vl : List Nat → Nat
  | [] => 0
  | x :: l => x + 256 * vl l
theorem add_xor (x v : Nat) (h : x < 256) : x + 256 * v = x ^^^ (256 * v) := by
  apply Nat.eq_of_testBit_eq
  intro i
  have e : 256 * v + x = 2 ^ 8 * v + x := rfl
  rw [Nat.testBit_xor, Nat.add_comm, e, Nat.testBit_two_pow_mul_add v (show x < 2 ^ 8 from h), show 256 * v = 2 ^ 8 * v from rfl, Nat.testBit_two_pow_mul]
  by_cases hi : i < 8
  · rw [if_pos hi]
    simp [show ¬ (8 ≤ i) by omega]
  · rw [if_neg hi]
    have : x.testBit i = false := Nat.testBit_lt_two_pow (Nat.lt_of_lt_of_le h (by
      have : 2 ^ 8 ≤ 2 ^ i := Nat.pow_le_pow_right (by omega) (by omega)
      exact this))
    rw [this]
    simp [show 8 ≤ i by omega]
theorem mul_xor (a b k : Nat) : 2 ^ k * (a ^^^ b) = (2 ^ k * a) ^^^ (2 ^ k * b) := by
  apply Nat.eq_of_testBit_eq
  intro i
  rw [Nat.testBit_xor, Nat.testBit_two_pow_mul, Nat.testBit_two_pow_mul, Nat.testBit_two_pow_mul, Nat.testBit_xor]
  by_cases hi : k ≤ i <;> simp [hi]
theorem stn_mul : ∀ (k q : Nat), stn k (2 ^ k * q) = q
  | 0, q => by show 2 ^ 0 * q = q; omega
  | k + 1, q => by
    have e : 2 ^ (k + 1) * q = 2 * (2 ^ k * q) := by rw [Nat.pow_succ, Nat.mul_comm (2 ^ k) 2, Nat.mul_assoc]
    show stn k (st (2 ^ (k + 1) * q)) = q
    rw [e]
    have : st (2 * (2 ^ k * q)) = 2 ^ k * q := by
      unfold st
      rw [if_neg (by omega), Nat.mul_div_cancel_left _ (by omega)]
    rw [this, stn_mul k q]
theorem reg_vl : ∀ (l : List Nat) (r : Nat), (∀ x ∈ l, x < 256) → reg r l = stn (8 * l.length) (r ^^^ vl l)
  | [], r, _ => by
    show reg r [] = stn (8 * 0) (r ^^^ 0)
    rw [Nat.mul_zero, Nat.xor_zero]
    rfl
  | x :: l, r, h => by
    have hx := h x (List.mem_cons_self ..)
    have ih := reg_vl l (bst r x) (fun y hy => h y (List.mem_cons_of_mem _ hy))
    have e1 : (x :: l).length = l.length + 1 := rfl
    have e2 : vl (x :: l) = x + 256 * vl l := rfl
    have e3 : stn 8 (256 * vl l) = vl l := stn_mul 8 (vl l)
    have e4 : bst r x = stn 8 (r ^^^ x) := rfl
    rw [reg_cons, ih, e1, e2, show 8 * (l.length + 1) = 8 + 8 * l.length by omega, stn_add, add_xor x _ hx, ← Nat.xor_assoc, stn_xor 8, e3, e4]
theorem vl_append : ∀ (l m : List Nat), vl (l ++ m) = vl l + 256 ^ l.length * vl m
  | [], m => by simp [vl]
  | x :: l, m => by
    show x + 256 * vl (l ++ m) = (x + 256 * vl l) + 256 ^ (l.length + 1) * vl m
    rw [vl_append l m, Nat.pow_succ, Nat.mul_add, Nat.add_assoc, ← Nat.mul_assoc, Nat.mul_comm (256 ^ l.length) 256]
theorem vl_le4 (v : Nat) (h : v < 4294967296) : vl (le4 v) = v := by
  show v % 256 + 256 * (v / 256 % 256 + 256 * (v / 65536 % 256 + 256 * (v / 16777216 % 256 + 256 * 0))) = v
  omega

/-- All sealed bytes come to one register. -/
theorem sealed_reg (l : List Nat) (h : ∀ x ∈ l, x < 256) : Sealed l → reg 4294967295 l = stn 32 4294967295 := by
  rintro ⟨h4, e⟩
  have ht : ∀ x ∈ l.take (l.length - 4), x < 256 := fun x hx => h x (List.mem_of_mem_take hx)
  generalize l.take (l.length - 4) = t at *
  have hr := reg_lt t 4294967295 (by omega) ht
  have hm := more_lt 0 t
  rw [← e]
  unfold seal'
  rw [reg_append, reg_vl _ _ (le4_lt _), vl_le4 _ hm]
  have hl : (le4 (more 0 t)).length = 4 := rfl
  rw [hl]
  congr 1
  have hmo : more 0 t = 4294967295 ^^^ reg 4294967295 t := by
    rw [ones_xor _ hr]; rfl
  rw [hmo, Nat.xor_comm 4294967295, ← Nat.xor_assoc, Nat.xor_self, Nat.zero_xor]

theorem pow_dvd_split (n L : Nat) (h : n ≤ 8 * L) : 8 * L = n + (8 * L - n) := by omega
/-- Bits turned within 32 of each other: another register. -/
theorem turned_reg (l l' : List Nat) (n m : Nat) (h : ∀ x ∈ l, x < 256) (h' : ∀ x ∈ l', x < 256) (hl : l'.length = l.length) (hn : n ≤ 8 * l.length) (hm : m < 4294967296) (hm0 : m ≠ 0)
    (hv : vl l' = vl l ^^^ (2 ^ n * m)) : reg 4294967295 l' ≠ reg 4294967295 l := by
  intro e
  rw [reg_vl _ _ h, reg_vl _ _ h', hv, hl, ← Nat.xor_assoc, stn_xor] at e
  generalize stn (8 * l.length) (4294967295 ^^^ vl l) = a at e
  have e2 : stn (8 * l.length) (2 ^ n * m) = 0 := by
    have e3 : a ^^^ (a ^^^ stn (8 * l.length) (2 ^ n * m)) = a ^^^ a := by rw [e]
    rw [← Nat.xor_assoc, Nat.xor_self, Nat.zero_xor] at e3
    exact e3
  rw [pow_dvd_split n l.length hn, stn_add, stn_mul] at e2
  exact hm0 (stn_inj _ m hm e2)
theorem turned_not_sealed (b l' : List Nat) (n m : Nat) (h : ∀ x ∈ b, x < 256) (h' : ∀ x ∈ l', x < 256) (hl : l'.length = (seal' b).length) (hn : n ≤ 8 * (seal' b).length) (hm : m < 4294967296) (hm0 : m ≠ 0)
    (hv : vl l' = vl (seal' b) ^^^ (2 ^ n * m)) : ¬ Sealed l' := by
  intro hs
  refine turned_reg (seal' b) l' n m (seal_lt h) h' hl hn hm hm0 hv ?_
  rw [sealed_reg l' h' hs, sealed_reg _ (seal_lt h) (sealed_seal b)]

/-- One bit of one byte is turned. -/
theorem vl_set : ∀ (l : List Nat) (i j x : Nat), l[i]? = some x → j < 8 → (∀ y ∈ l, y < 256) → vl (l.set i (x ^^^ 2 ^ j)) = vl l ^^^ 2 ^ (8 * i + j)
  | [], i, j, x, h, _, _ => by simp at h
  | y :: l, 0, j, x, h, hj, hl => by
    have : y = x := by simpa using h
    subst this
    have hy := hl y (List.mem_cons_self ..)
    have hp : 2 ^ j < 256 := by
      have : 2 ^ j ≤ 2 ^ 7 := Nat.pow_le_pow_right (by omega) (by omega)
      omega
    have hx : y ^^^ 2 ^ j < 256 := Nat.xor_lt_two_pow (n := 8) hy hp
    show (y ^^^ 2 ^ j) + 256 * vl l = (y + 256 * vl l) ^^^ 2 ^ (8 * 0 + j)
    rw [add_xor _ _ hx, add_xor _ _ hy, Nat.mul_zero, Nat.zero_add, Nat.xor_assoc, Nat.xor_assoc, Nat.xor_comm (2 ^ j)]
  | y :: l, i + 1, j, x, h, hj, hl => by
    have hy := hl y (List.mem_cons_self ..)
    have ih := vl_set l i j x (by simpa using h) hj (fun z hz => hl z (List.mem_cons_of_mem _ hz))
    show y + 256 * vl (l.set i (x ^^^ 2 ^ j)) = (y + 256 * vl l) ^^^ 2 ^ (8 * (i + 1) + j)
    rw [ih, add_xor _ _ hy, add_xor _ _ hy]
    have e : 256 * (vl l ^^^ 2 ^ (8 * i + j)) = (256 * vl l) ^^^ (256 * 2 ^ (8 * i + j)) := mul_xor _ _ 8
    have e2 : 256 * 2 ^ (8 * i + j) = 2 ^ (8 * (i + 1) + j) := by
      rw [show 256 = 2 ^ 8 from rfl, ← Nat.pow_add]; congr 1; omega
    rw [e, e2, Nat.xor_assoc]
/-- One more bit of the mask. -/
theorem mask_step (m k n : Nat) : 2 ^ n * (m % 2 ^ (k + 1)) = (2 ^ n * (m % 2 ^ k)) ^^^ (if m / 2 ^ k % 2 = 1 then 2 ^ (n + k) else 0) := by
  apply Nat.eq_of_testBit_eq
  intro i
  rw [Nat.testBit_xor, Nat.testBit_two_pow_mul, Nat.testBit_two_pow_mul, Nat.testBit_mod_two_pow, Nat.testBit_mod_two_pow]
  have hb : m.testBit k = decide (m / 2 ^ k % 2 = 1) := by
    rw [Nat.testBit_eq_decide_div_mod_eq]
  by_cases hi : n ≤ i
  · by_cases hk : i - n = k
    · have hik : i = n + k := by omega
      by_cases h1 : m / 2 ^ k % 2 = 1
      · rw [if_pos h1, hk, hb, hik, Nat.testBit_two_pow_self]
        simp [h1]
      · rw [if_neg h1, hk, hb, Nat.zero_testBit]
        simp [h1]
    · have h2 : (if m / 2 ^ k % 2 = 1 then 2 ^ (n + k) else 0).testBit i = false := by
        split
        · rw [Nat.testBit_two_pow]; simp; omega
        · exact Nat.zero_testBit _
      rw [h2]
      by_cases h3 : i - n < k
      · simp [hi, h3, show i - n < k + 1 by omega]
      · simp [hi, h3, show ¬ (i - n < k + 1) by omega]
  · have h2 : (if m / 2 ^ k % 2 = 1 then 2 ^ (n + k) else 0).testBit i = false := by
      split
      · rw [Nat.testBit_two_pow]; simp; omega
      · exact Nat.zero_testBit _
    rw [h2]
    simp [hi]
end Go.Proofs.Ytlhicojbpjdbaaa
