/- The leaves of the document's own answer: what 'tail' and 'several' of the reference return, at every text and place within it. -/
import Derived.Test.YtkkeemhbokpngaaDoorRows
import Derived.Test.YtkkeemhbokpngaaDoorLPlain
import Derived.WalkKit
import Derived.WalkSpells
import Derived.Lib.Hide
import Derived.Lib.Walk
set_option linter.unusedVariables false
namespace Go.Proofs.YtkkeemhbokpngaaDoor
open Go.RowKit

theorem get_at0 (s : ByteArray) (p : Nat) (h : p < s.size) : s[p]'h = s.get! p := (get_at s p h).symm

set_option maxHeartbeats 400000 in
theorem tail_any (s : ByteArray) (p : Nat) (w : World) (hs : s.size ≤ 1099511627776) (hp : p ≤ 1099511627776) :
    Calls Tryd.prog 35 #[.string s, .int .i64 p] w fun e w' => e = .returned (.int .i64 (tl s p)) ∧ w = w' := by
  by_cases h : s.size ≤ p
  · have e : tl s p = -1 := by unfold tl; rw [if_pos h]
    have E := Lib.hid e; clear e
    go_enter Tryd.func35, Tryd.ntmps35
    go_wp2
    go_ret
    rw [E.out]; exact ⟨rfl, rfl⟩
  · have hlt : p < s.size := by omega
    have gb := get_at0 s p hlt
    have hb : (s.get! p).toNat < 256 := UInt8.toNat_lt _
    by_cases g : (s.get! p).toNat / 64 = 2
    · have e : tl s p = ((s.get! p).toNat % 64 : Nat) := by unfold tl; rw [if_neg h, if_pos g]
      have E := Lib.hid e; clear e
      go_enter Tryd.func35, Tryd.ntmps35
      go_wp2
      go_ret
      rw [E.out]; exact ⟨by simp, rfl⟩
    · have e : tl s p = -1 := by unfold tl; rw [if_neg h, if_neg g]
      have E := Lib.hid e; clear e
      have g' : ((((s.get! p).toNat : Int) / 64) != 2) = true := by rw [bne_iff_ne]; omega
      clear g
      go_enter Tryd.func35, Tryd.ntmps35
      go_wp2
      go_ret
      rw [E.out]; exact ⟨rfl, rfl⟩

theorem sev_step (s : ByteArray) (p k i : Nat) (x t : Int) (h : tl s (p + i) = t) (ht : ¬ t < 0) : sev s p (k + 1) i x = sev s p k (i + 1) (64 * x + t) := by
  show (if tl s (p + i) < 0 then -1 else sev s p k (i + 1) (64 * x + tl s (p + i))) = _
  rw [h, if_neg ht]
theorem sev_stop (s : ByteArray) (p k i : Nat) (x t : Int) (h : tl s (p + i) = t) (ht : t < 0) : sev s p (k + 1) i x = -1 := by
  show (if tl s (p + i) < 0 then -1 else sev s p k (i + 1) (64 * x + tl s (p + i))) = _
  rw [h, if_pos ht]

set_option maxHeartbeats 400000 in
theorem several_any (s : ByteArray) (p n : Nat) (x0 : Int) (w : World) (hs : s.size ≤ 1099511627776) (hp : p ≤ 1099511627000) (hn1 : 1 ≤ n) (hn : n ≤ 4) (h0 : 0 ≤ x0) (h1 : x0 < 32) :
    Calls Tryd.prog 30 #[.string s, .int .i64 p, .int .i64 n, .int .i64 x0] w fun e w' => e = .returned (.int .i64 (sev s p (n - 1) 1 x0)) ∧ w = w' := by
  go_enter Tryd.func30, Tryd.ntmps30
  go_wp2
  go_loop [9, 10] (fun xv iv => ∃ (j : Nat) (x : Int), 1 ≤ j ∧ j ≤ n ∧ iv = .int .i64 j ∧ xv = .int .i64 x ∧ 0 ≤ x ∧ ((j = 1 ∧ x < 32) ∨ (j = 2 ∧ x < 2048) ∨ (j = 3 ∧ x < 131072) ∨ (j = 4 ∧ x < 8388608)) ∧ sev s p (n - j) j x = sev s p (n - 1) 1 x0) (fun _ iv => n - (intOf iv).toNat)
  case atStart => exact ⟨1, x0, by omega, by omega, rfl, rfl, h0, .inl ⟨rfl, h1⟩, rfl⟩
  case round =>
    obtain ⟨j, x, hj1, hj, rfl, rfl, hx0, hx, he⟩ := hrel
    have hx64 : x < 8388608 := by omega
    by_cases hlt : j < n
    · obtain ⟨t, ht⟩ : ∃ t, tl s (p + j) = t := ⟨_, rfl⟩
      have tb := tl_bd s (p + j)
      have c18 := tail_any s (p + j)
      rw [ht] at tb c18
      obtain ⟨d, hd⟩ : ∃ d, n - j = d + 1 := ⟨n - j - 1, by omega⟩
      by_cases hneg : t < 0
      · have st := sev_stop s p d j x t ht hneg
        rw [← hd, he] at st
        have E := Lib.hid st
        clear st hd ht he
        have C := Lib.hid c18
        clear c18
        go_wp2_with fail
        refine (C.out _ hs (by omega)).mono ?_
        rintro e w' ⟨rfl, rfl⟩
        go_wp2_with fail
        go_ret
        rw [E.out]; exact ⟨rfl, rfl⟩
      · have st := sev_step s p d j x t ht hneg
        rw [← hd, he, show d = n - (j + 1) by omega] at st
        have E := Lib.hid st
        clear st hd ht he
        have C := Lib.hid c18
        clear c18
        have hx2 : 0 ≤ 64 * x := by omega
        go_wp2_with fail
        refine (C.out _ hs (by omega)).mono ?_
        rintro e w' ⟨rfl, rfl⟩
        go_wp2_with fail
        go_round
        case rel => exact ⟨j + 1, 64 * x + t, by omega, by omega, by go_num, by go_num, by omega, by omega, E.out.symm⟩
        case measure => simp [intOf]; omega
    · obtain rfl : j = n := by omega
      have E := Lib.hid he
      clear he
      go_wp2
      go_ret
      rw [← E.out, Nat.sub_self]; exact ⟨rfl, rfl⟩
end Go.Proofs.YtkkeemhbokpngaaDoor
