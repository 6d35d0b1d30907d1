/- A segment's name, and the number of one. -/
import Derived.Test.YtgbihpfpiaacfaaGreatDoorDI
import Derived.Test.YtgbihpfpiaacfaaGreatDoorShelf
import Derived.Test.YtgbihpfpiaacfaaGreatDoorCReQ
import Derived.Lib.Atoi
set_option linter.unusedVariables false
set_option linter.unusedSimpArgs false
set_option maxRecDepth 100000
namespace Go.Proofs.YtgbihpfpiaacfaaGreatDoor
open Go.RowKit Go.Shelf

theorem dd_small {u : Nat} (h : u < 10) : Lib.decDigits u = [UInt8.ofNat (48 + u)] := Lib.decDigits_one h
theorem dd_two {u : Nat} (h : ¬ u < 10) (h2 : u < 100) : Lib.decDigits u = [UInt8.ofNat (48 + u / 10), UInt8.ofNat (48 + u % 10)] := by
  conv => lhs; rw [Lib.decDigits, dif_neg h]
  rw [dd_small (show u / 10 < 10 by omega)]
  rfl
theorem dig_nat (k : Nat) (h : k < 10) : (UInt8.ofNat (48 + k)).toNat = 48 + k := by rw [UInt8.toNat_ofNat']; omega
theorem dig_val (k : Nat) (h : k < 10) : Lib.digitVal (UInt8.ofNat (48 + k)) = some k := by
  unfold Lib.digitVal
  rw [dig_nat k h, if_pos (by omega), show 48 + k - 48 = k by omega]
theorem dig_ne (k c : Nat) (h : k < 10) (hc : c < 48) : ((UInt8.ofNat (48 + k)) == UInt8.ofNat c) = false := by
  rw [beq_eq_false_iff_ne]
  intro e
  have := congrArg UInt8.toNat e
  rw [dig_nat k h, UInt8.toNat_ofNat'] at this
  omega
theorem atoi_dg {n : Nat} (hn : n < 100) : Lib.atoi (Lib.decDigits n) = some (n : Int) := by
  by_cases h : n < 10
  · rw [dd_small h]
    unfold Lib.atoi
    have a := dig_ne n 45 h (by omega)
    have b := dig_ne n 43 h (by omega)
    show (if (UInt8.ofNat (48 + n) == UInt8.ofNat 45) = true then _ else if (UInt8.ofNat (48 + n) == UInt8.ofNat 43) = true then _ else _) = some (n : Int)
    rw [a, b, if_neg (by simp), if_neg (by simp)]
    have e : Lib.decNat [UInt8.ofNat (48 + n)] = some n := by
      show (match Lib.digitVal (UInt8.ofNat (48 + n)) with | some d => Lib.decFrom (0 * 10 + d) [] | none => none) = some n
      rw [dig_val n h]
      show some (0 * 10 + n) = some n
      rw [Nat.zero_mul, Nat.zero_add]
    rw [e]
    rfl
  · rw [dd_two h hn]
    unfold Lib.atoi
    have a := dig_ne (n / 10) 45 (by omega) (by omega)
    have b := dig_ne (n / 10) 43 (by omega) (by omega)
    show (if (UInt8.ofNat (48 + n / 10) == UInt8.ofNat 45) = true then _ else if (UInt8.ofNat (48 + n / 10) == UInt8.ofNat 43) = true then _ else _) = some (n : Int)
    rw [a, b, if_neg (by simp), if_neg (by simp)]
    have e : Lib.decNat [UInt8.ofNat (48 + n / 10), UInt8.ofNat (48 + n % 10)] = some n := by
      show (match Lib.digitVal (UInt8.ofNat (48 + n / 10)) with | some d => Lib.decFrom (0 * 10 + d) [UInt8.ofNat (48 + n % 10)] | none => none) = some n
      rw [dig_val (n / 10) (by omega)]
      show (match Lib.digitVal (UInt8.ofNat (48 + n % 10)) with | some d => Lib.decFrom ((0 * 10 + n / 10) * 10 + d) [] | none => none) = some n
      rw [dig_val (n % 10) (by omega)]
      show some ((0 * 10 + n / 10) * 10 + n % 10) = some n
      congr 1
      omega
    rw [e]
    rfl
theorem dd_size {n : Nat} (hn : n < 100) : (Lib.decDigits n).length ≤ 2 := by
  by_cases h : n < 10
  · rw [dd_small h]; simp
  · rw [dd_two h hn]; simp
def dg (n : Nat) : ByteArray := ⟨(Lib.decDigits n).toArray⟩
def sg (n : Nat) : ByteArray := ⟨#[108, 111, 103, 46]⟩ ++ dg n
theorem dg_size {n : Nat} (hn : n < 100) : (dg n).size ≤ 2 := by
  show (Lib.decDigits n).toArray.size ≤ 2
  rw [List.size_toArray]
  exact dd_size hn
theorem sg_list (n : Nat) : (sg n).data.toList = [108, 111, 103, 46] ++ Lib.decDigits n := by
  unfold sg dg
  rw [ByteArray.data_append, Array.toList_append]
theorem trim_sg (n : Nat) : Lib.trimPrefix (sg n).data.toList (⟨#[108, 111, 103, 46]⟩ : ByteArray).data.toList = Lib.decDigits n := by
  rw [sg_list]
  rfl
theorem sg_inj {m n : Nat} (hm : m < 100) (hn : n < 100) (h : sg m = sg n) : m = n := by
  have e : Lib.decDigits m = Lib.decDigits n := by rw [← trim_sg m, ← trim_sg n, h]
  have a := atoi_dg hm
  rw [e, atoi_dg hn] at a
  injection a with a
  omega
theorem sg_size {n : Nat} (hn : n < 100) : (sg n).size ≤ 6 := by
  rw [show (sg n).size = (sg n).data.toList.length from by rw [Array.length_toList]; rfl, sg_list, List.length_append]
  have := dd_size hn
  simp
  omega
set_option maxHeartbeats 1600000 in
theorem digits_any (w : World) (n : Nat) (hn : n < 100) : Calls Tryz.prog 51 #[.int .i64 (n : Int)] w fun e w' => e = .returned (.string (dg n)) ∧ w = w' := by
  have I := Lib.hid (Tryz.strconv_Itoa_small n hn w)
  have h0 : max (n : Int) 0 = (n : Int) := by omega
  have h1 : (0 : Int) ≤ (n : Int) := by omega
  go_enter Tryz.func51, Tryz.ntmps51
  go_wp2_with fail
  refine I.out.mono ?_
  rintro e w1 ⟨rfl, rfl⟩
  go_wp2
  go_returns
  exact ⟨rfl, rfl⟩
set_option maxHeartbeats 1600000 in
theorem name_any (w : World) (n : Nat) (hn : n < 100) (h1 : 1 ≤ n) : Calls Tryz.prog 37 #[.int .i64 (n : Int)] w fun e w' => e = .returned (.string (sg n)) ∧ w = w' := by
  have D := Lib.hid (digits_any w n hn)
  have h2 : (1 : Int) ≤ (n : Int) := by omega
  have h3 : max (n : Int) 1 = (n : Int) := by omega
  have h4 : ¬ (9223372036854775807 < 4 + (dg n).size) := by have := dg_size hn; omega
  go_enter Tryz.func37, Tryz.ntmps37
  go_wp2_with fail
  refine D.out.mono ?_
  rintro e w1 ⟨rfl, rfl⟩
  go_wp2
  go_returns
  exact ⟨rfl, rfl⟩
end Go.Proofs.YtgbihpfpiaacfaaGreatDoor
