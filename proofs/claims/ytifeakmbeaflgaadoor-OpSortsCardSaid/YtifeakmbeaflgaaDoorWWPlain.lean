/- Numbers as bytes of seven bits: the bytes of a number, and what is read of bytes. Of no program. -/
import Derived.WalkKit
import Derived.Lib.Hide
set_option linter.unusedVariables false
namespace Go.Proofs.YtifeakmbeaflgaaDoor.Wi

/-- The bytes of a number. -/
def nb (n : Nat) : List Int := if n < 128 then [(n : Int)] else ((n % 128 + 128 : Nat) : Int) :: nb (n / 128)
termination_by n
decreasing_by omega
theorem nb_small {n : Nat} (h : n < 128) : nb n = [(n : Int)] := by rw [nb, if_pos h]
theorem nb_big {n : Nat} (h : ¬ n < 128) : nb n = ((n % 128 + 128 : Nat) : Int) :: nb (n / 128) := by rw [nb, if_neg h]
theorem nb_len : ∀ (k n : Nat), n < 128 ^ k → 1 ≤ k → (nb n).length ≤ k
  | 0, _, _, h => by omega
  | k + 1, n, h, _ => by
    by_cases hs : n < 128
    · rw [nb_small hs]; simp
    · rw [nb_big hs]
      have hk : 1 ≤ k := by
        rcases Nat.eq_zero_or_pos k with rfl | h'
        · simp at h; omega
        · exact h'
      have := nb_len k (n / 128) (by rw [Nat.div_lt_iff_lt_mul (by omega)]; rwa [Nat.pow_succ] at h) hk
      simp only [List.length_cons]; omega
theorem nb_len9 (n : Nat) (h : n ≤ 9223372036854775807) : (nb n).length ≤ 9 := by
  have e : (128 : Nat) ^ 9 = 9223372036854775808 := by decide
  exact nb_len 9 n (by rw [e]; omega) (by omega)
/-- A truth's, a stamp's bytes; a text's. -/
def fb (b : Bool) : List Int := if b then [1] else [0]
def strI (s : ByteArray) : List Int := s.data.toList.map fun c => (c.toNat : Int)
theorem strI_len (s : ByteArray) : (strI s).length = s.size := by unfold strI; rw [List.length_map, Array.length_toList]; rfl
def tb (s : ByteArray) : List Int := nb s.size ++ strI s
def stb (a b : Int) : List Int := nb a.toNat ++ nb b.toNat
end Go.Proofs.YtifeakmbeaflgaaDoor.Wi
