/- name.Number at every text: its number, or none. -/
import Derived.Test.YtgnnpfainoppeaaDoorVE
import Derived.Test.YtgnnpfainoppeaaDoorRows
import Derived.ChangeAlike
import Derived.Laws.RangeAny
import Derived.Lib.OthersKept
import Derived.Lib.DecodeN
set_option linter.unusedVariables false
namespace Go.Proofs.YtgnnpfainoppeaaDoor.Ve
open Go.RowKit

/-- A byte as a digit's worth. -/
def isD (c : UInt8) : Bool := 48 ≤ c.toNat && c.toNat ≤ 57
def val (l : List UInt8) : Nat := l.foldl (fun n c => 10 * n + (c.toNat - 48)) 0
theorem val_snoc (l : List UInt8) (c : UInt8) : val (l ++ [c]) = 10 * val l + (c.toNat - 48) := by unfold val; rw [List.foldl_append]; rfl
theorem val_lt : ∀ (l : List UInt8), l.all isD = true → val l < 10 ^ l.length := by
  intro l
  induction hn : l.length generalizing l with
  | zero => intro _; rw [List.eq_nil_of_length_eq_zero hn]; decide
  | succ n ih =>
    intro h
    have hne : l ≠ [] := by intro e; rw [e] at hn; simp at hn
    have e := (List.dropLast_concat_getLast hne).symm
    have hl : l.dropLast.length = n := by rw [List.length_dropLast]; omega
    have hall : l.dropLast.all isD = true := by
      rw [List.all_eq_true] at h ⊢
      exact fun x hx => h x (List.dropLast_subset _ hx)
    have hlast : isD (l.getLast hne) = true := by
      rw [List.all_eq_true] at h
      exact h _ (List.getLast_mem hne)
    have := ih l.dropLast hl hall
    rw [e, val_snoc, Nat.pow_succ]
    unfold isD at hlast
    simp at hlast
    omega

/-- What holds of the bytes that were gone by. -/
structure NumI (s : ByteArray) (k : Nat) (V : Nat) : Prop where
  le : k ≤ s.size
  dig : (s.data.toList.take k).all isD = true
  can : 1 < k → s.data.toList.head? ≠ some 48
  v : V = val (s.data.toList.take k)
theorem NumI.lt {s : ByteArray} {k V : Nat} (h : NumI s k V) (hk : k ≤ 17) : V ≤ 99999999999999999 := by
  have h1 := val_lt _ h.dig
  have h2 : (s.data.toList.take k).length ≤ 17 := by rw [List.length_take]; omega
  have h3 : 10 ^ (s.data.toList.take k).length ≤ 10 ^ 17 := Nat.pow_le_pow_right (by omega) h2
  have e : (10 : Nat) ^ 17 = 100000000000000000 := by decide
  have := h.v
  omega
end Go.Proofs.YtgnnpfainoppeaaDoor.Ve

