/- What letter.Count, Right, Fit and Tail return, at every text, by where its pieces begin. -/
import Derived.Test.YtkkeemhbokpngaaDoorLB
import Derived.Test.YtkkeemhbokpngaaDoorBase
import Derived.Lib.OthersKept
import Derived.Laws.RangeAny
set_option linter.unusedVariables false
namespace Go.Proofs.YtkkeemhbokpngaaDoor
open Go.RowKit

theorem ret_str {a b : ByteArray} (h : a = b) : Ending.returned (.string a) = .returned (.string b) := by rw [h]

set_option maxRecDepth 100000 in
set_option maxHeartbeats 400000 in
theorem fit_any (s : ByteArray) (N j : Nat) (m : Int) (w : World) (hs : s.size ≤ 1099511627000) (hN : IsN s N) (hj : IsFit s N m j) :
    Calls Tryd.prog 21 #[.string s, .int .i64 m] w fun e w' => e = .returned (.string (s.extract 0 (bd s j))) ∧ Below w.heap.size w w' := by
  have hNs := isN_le hN
  by_cases hm : (s.size : Int) ≤ m
  · have e : j = N := isFit_eq hj ⟨Nat.le_refl _, .inr (by rw [hN.1]; exact hm), .inl rfl⟩
    have ee : s.extract 0 (bd s j) = s := by rw [e, hN.1]; simp
    have E := Lib.hid ee
    clear e ee hj hN
    go_enter Tryd.func21, Tryd.ntmps21
    go_wp2
    go_ret
    exact ⟨ret_str E.out.symm, Below.refl _ _⟩
  · have HN := Lib.hid hN
    have HJ := Lib.hid hj
    clear hN hj
    have hle : decide ((s.size : Int) ≤ m) = false := by simpa using hm
    go_enter Tryd.func21, Tryd.ntmps21
    go_wp2
    go_loopw [5, 6] (fun en _ wr => ∃ k : Nat, k ≤ N ∧ en = .int .i64 (bd s (k - 1) : Nat) ∧ (k = 0 ∨ (bd s (k - 1) : Int) ≤ m) ∧ wr = World.iter w s (bd s k)) (fun _ _ wr => s.size - wr.iterPos w.heap.size)
    case atStart => exact ⟨0, Nat.zero_le _, rfl, .inl rfl, rfl⟩
    case round =>
      obtain ⟨k, hk, rfl, hkm, rfl⟩ := hrel
      have hb1 := bd_le s (k - 1)
      by_cases hlt : k < N
      · have hp := HN.out.2 k hlt
        have hnx := fun ty => run_next_any (P := Tryd.prog) w s (bd s k) ty hp
        have hb := isN_succ HN.out hlt
        have hw := wid_pos s (bd s k)
        have hbx : bd s k + (Utf8.decode s (bd s k)).2 = bd s (k + 1) := hb.symm
        rw [hbx] at hnx
        have hbl : bd s k < bd s (k + 1) := by omega
        clear hb hbx hw
        have hr : (Utf8.decode s (bd s k)).1 ≤ 1114111 := rn_le s (bd s k)
        generalize (Utf8.decode s (bd s k)).1 = r at *
        by_cases hg : m < (bd s k : Int)
        · have e : j = k - 1 := isFit_eq HJ.out ⟨by omega, by
            rcases hkm with h | h
            · left; omega
            · exact .inr h, by
            right
            by_cases h0 : k = 0
            · subst h0
              have := bd_step s 0
              simp only [Nat.zero_sub, Nat.zero_add] at *
              omega
            · rw [show k - 1 + 1 = k by omega]; exact hg⟩
          have E := Lib.hid e
          clear e
          go_wp2
          go_ret
          exact ⟨by rw [E.out]; rfl, (Below.refl _ _).alloc (Nat.le_refl _) _⟩
        · have hg' : (bd s k : Int) ≤ m := by omega
          go_wp2
          go_roundw
          case rel => exact ⟨k + 1, by omega, rfl, .inr hg', rfl⟩
          case measure => simp; omega
      · obtain rfl : k = N := by omega
        have hbe := HN.out.1
        have hp : ¬ bd s k < s.size := by omega
        have hnx := fun ty => run_next_end (P := Tryd.prog) w s (bd s k) ty hp
        have e : j = k - 1 := isFit_eq HJ.out ⟨by omega, by
            rcases hkm with h | h
            · left; omega
            · exact .inr h, by
            by_cases h0 : k = 0
            · left; omega
            · right; rw [show k - 1 + 1 = k by omega, hbe]; omega⟩
        have E := Lib.hid e
        clear e hbe
        go_wp2
        go_ret
        exact ⟨by rw [E.out]; rfl, (Below.refl _ _).alloc (Nat.le_refl _) _⟩

end Go.Proofs.YtkkeemhbokpngaaDoor
