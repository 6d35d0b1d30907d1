/- What letter.Count, Right, Fit and Tail return, at every text, by where its pieces begin. -/
import Derived.Test.YtkkdecppdbkmjaaWalkC
set_option linter.unusedVariables false
namespace Go.Proofs.Ytkkdecppdbkmjaa
open Go.RowKit

set_option maxRecDepth 100000 in
set_option maxHeartbeats 400000 in
theorem count_any (s : ByteArray) (N : Nat) (w : World) (hs : s.size ≤ 1099511627000) (hN : IsN s N) :
    Calls Try.prog 9 #[.string s] w fun e w' => e = .returned (.int .i64 N) ∧ Below w.heap.size w w' := by
  have hNs := isN_le hN
  have HN := Lib.hid hN
  clear hN
  go_enter Try.func9, Try.ntmps9
  go_wp2
  go_loopw [3] (fun n wr => ∃ k : Nat, k ≤ N ∧ n = .int .i64 k ∧ wr = World.iter w s (bd s k)) (fun _ wr => s.size - wr.iterPos w.heap.size)
  case atStart => exact ⟨0, Nat.zero_le _, rfl, rfl⟩
  case round =>
    obtain ⟨k, hk, rfl, rfl⟩ := hrel
    by_cases hlt : k < N
    · have hp := HN.out.2 k hlt
      have hnx := fun ty => run_next_any (P := Try.prog) w s (bd s k) ty hp
      have hb := isN_succ HN.out hlt
      have hw := wid_pos s (bd s k)
      have hbx : bd s k + (Utf8.decode s (bd s k)).2 = bd s (k + 1) := hb.symm
      rw [hbx] at hnx
      have hbl : bd s k < bd s (k + 1) := by omega
      clear hb hbx hw
      have hr : (Utf8.decode s (bd s k)).1 ≤ 1114111 := rn_le s (bd s k)
      generalize (Utf8.decode s (bd s k)).1 = r at *
      go_wp2
      go_roundw
      case rel => exact ⟨k + 1, by omega, by go_num, rfl⟩
      case measure => simp; omega
    · obtain rfl : k = N := by omega
      have hp : ¬ bd s k < s.size := by rw [HN.out.1]; omega
      have hnx := fun ty => run_next_end (P := Try.prog) w s (bd s k) ty hp
      go_wp2
      go_ret
      exact ⟨rfl, (Below.refl _ _).alloc (Nat.le_refl _) _⟩

theorem ret_str {a b : ByteArray} (h : a = b) : Ending.returned (.string a) = .returned (.string b) := by rw [h]

set_option maxRecDepth 100000 in
set_option maxHeartbeats 400000 in
theorem fit_any (s : ByteArray) (N j : Nat) (m : Int) (w : World) (hs : s.size ≤ 1099511627000) (hN : IsN s N) (hj : IsFit s N m j) :
    Calls Try.prog 13 #[.string s, .int .i64 m] w fun e w' => e = .returned (.string (s.extract 0 (bd s j))) ∧ Below w.heap.size w w' := by
  have hNs := isN_le hN
  by_cases hm : (s.size : Int) ≤ m
  · have e : j = N := isFit_eq hj ⟨Nat.le_refl _, .inr (by rw [hN.1]; exact hm), .inl rfl⟩
    have ee : s.extract 0 (bd s j) = s := by rw [e, hN.1]; simp
    have E := Lib.hid ee
    clear e ee hj hN
    go_enter Try.func13, Try.ntmps13
    go_wp2
    go_ret
    exact ⟨ret_str E.out.symm, Below.refl _ _⟩
  · have HN := Lib.hid hN
    have HJ := Lib.hid hj
    clear hN hj
    have hle : decide ((s.size : Int) ≤ m) = false := by simpa using hm
    go_enter Try.func13, Try.ntmps13
    go_wp2
    go_loopw [5, 6] (fun en _ wr => ∃ k : Nat, k ≤ N ∧ en = .int .i64 (bd s (k - 1) : Nat) ∧ (k = 0 ∨ (bd s (k - 1) : Int) ≤ m) ∧ wr = World.iter w s (bd s k)) (fun _ _ wr => s.size - wr.iterPos w.heap.size)
    case atStart => exact ⟨0, Nat.zero_le _, rfl, .inl rfl, rfl⟩
    case round =>
      obtain ⟨k, hk, rfl, hkm, rfl⟩ := hrel
      have hb1 := bd_le s (k - 1)
      by_cases hlt : k < N
      · have hp := HN.out.2 k hlt
        have hnx := fun ty => run_next_any (P := Try.prog) w s (bd s k) ty hp
        have hb := isN_succ HN.out hlt
        have hw := wid_pos s (bd s k)
        have hbx : bd s k + (Utf8.decode s (bd s k)).2 = bd s (k + 1) := hb.symm
        rw [hbx] at hnx
        have hbl : bd s k < bd s (k + 1) := by omega
        clear hb hbx hw
        have hr : (Utf8.decode s (bd s k)).1 ≤ 1114111 := rn_le s (bd s k)
        generalize (Utf8.decode s (bd s k)).1 = r at *
        by_cases hg : m < (bd s k : Int)
        · have e : j = k - 1 := isFit_eq HJ.out ⟨by omega, by
            rcases hkm with h | h
            · left; omega
            · exact .inr h, by
            right
            by_cases h0 : k = 0
            · subst h0
              have := bd_step s 0
              simp only [Nat.zero_sub, Nat.zero_add] at *
              omega
            · rw [show k - 1 + 1 = k by omega]; exact hg⟩
          have E := Lib.hid e
          clear e
          go_wp2
          go_ret
          exact ⟨by rw [E.out]; rfl, (Below.refl _ _).alloc (Nat.le_refl _) _⟩
        · have hg' : (bd s k : Int) ≤ m := by omega
          go_wp2
          go_roundw
          case rel => exact ⟨k + 1, by omega, rfl, .inr hg', rfl⟩
          case measure => simp; omega
      · obtain rfl : k = N := by omega
        have hbe := HN.out.1
        have hp : ¬ bd s k < s.size := by omega
        have hnx := fun ty => run_next_end (P := Try.prog) w s (bd s k) ty hp
        have e : j = k - 1 := isFit_eq HJ.out ⟨by omega, by
            rcases hkm with h | h
            · left; omega
            · exact .inr h, by
            by_cases h0 : k = 0
            · left; omega
            · right; rw [show k - 1 + 1 = k by omega, hbe]; omega⟩
        have E := Lib.hid e
        clear e hbe
        go_wp2
        go_ret
        exact ⟨by rw [E.out]; rfl, (Below.refl _ _).alloc (Nat.le_refl _) _⟩

set_option maxRecDepth 100000 in
set_option maxHeartbeats 400000 in
theorem ltail_any (s : ByteArray) (N j : Nat) (m : Int) (w : World) (hs : s.size ≤ 1099511627000) (hN : IsN s N) (hj : IsTail s N m j) :
    Calls Try.prog 15 #[.string s, .int .i64 m] w fun e w' => e = .returned (.string (s.extract (bd s j) s.size)) ∧ Below w.heap.size w w' := by
  have hNs := isN_le hN
  have HN := Lib.hid hN
  have HJ := Lib.hid hj
  clear hN hj
  go_enter Try.func15, Try.ntmps15
  go_wp2
  go_loopw [5] (fun _ wr => ∃ k : Nat, k ≤ N ∧ (k = 0 ∨ m < (s.size : Int) - (bd s (k - 1) : Nat)) ∧ wr = World.iter w s (bd s k)) (fun _ wr => s.size - wr.iterPos w.heap.size)
  case atStart => exact ⟨0, Nat.zero_le _, .inl rfl, rfl⟩
  case round =>
    obtain ⟨k, hk, hkm, rfl⟩ := hrel
    by_cases hlt : k < N
    · have hp := HN.out.2 k hlt
      have hnx := fun ty => run_next_any (P := Try.prog) w s (bd s k) ty hp
      have hb := isN_succ HN.out hlt
      have hw := wid_pos s (bd s k)
      have hbx : bd s k + (Utf8.decode s (bd s k)).2 = bd s (k + 1) := hb.symm
      rw [hbx] at hnx
      have hbl : bd s k < bd s (k + 1) := by omega
      clear hb hbx hw
      have hr : (Utf8.decode s (bd s k)).1 ≤ 1114111 := rn_le s (bd s k)
      generalize (Utf8.decode s (bd s k)).1 = r at *
      by_cases hg : (s.size : Int) - (bd s k : Int) ≤ m
      · have e : j = k := isTail_eq HJ.out ⟨hk, .inr hg, hkm⟩
        have E := Lib.hid e
        clear e hkm
        go_wp2
        go_ret
        exact ⟨by rw [E.out]; rfl, (Below.refl _ _).alloc (Nat.le_refl _) _⟩
      · clear hkm
        go_wp2
        go_roundw
        case rel => exact ⟨k + 1, by omega, .inr (by rw [Nat.add_sub_cancel]; omega), rfl⟩
        case measure => simp; omega
    · obtain rfl : k = N := by omega
      have hbe := HN.out.1
      have hp : ¬ bd s k < s.size := by omega
      have hnx := fun ty => run_next_end (P := Try.prog) w s (bd s k) ty hp
      have e : j = k := isTail_eq HJ.out ⟨hk, .inl rfl, hkm⟩
      have ee : s.extract (bd s j) s.size = ⟨#[]⟩ := by rw [e, hbe]; simp; rfl
      have E := Lib.hid ee
      clear e ee hbe hkm
      go_wp2
      go_ret
      exact ⟨by rw [E.out]; rfl, (Below.refl _ _).alloc (Nat.le_refl _) _⟩

theorem field29 (a b c : Value) (W : World) : (Instr.field 29 (.agg #[a, b, c]) 1).run Try.prog W = .ok b W := by kernel_rfl
attribute [local go_sem ↓] field29

/-- Is each piece a letter? -/
def IsRight (s : ByteArray) (N : Nat) (b : Bool) : Prop := b = true ↔ ∀ k, k < N → ¬ (rn s (bd s k) = 65533 ∧ wid s (bd s k) = 1)
def RightTo (s : ByteArray) (k : Nat) : Prop := ∀ i, i < k → ¬ (rn s (bd s i) = 65533 ∧ wid s (bd s i) = 1)

theorem iterB {w wr : World} {s : ByteArray} {p : Nat} (hi : wr.heap[w.heap.size]? = some (.stringIter s p)) {w' : World} (hb : Below wr.heap.size wr w') : w'.heap[w.heap.size]? = some (.stringIter s p) :=
  (hb.block _ (Array.getElem?_eq_some_iff.1 hi).1).trans hi

set_option maxRecDepth 100000 in
set_option maxHeartbeats 400000 in
theorem right_any (s : ByteArray) (N : Nat) (b : Bool) (w : World) (hs : s.size ≤ 1099511627000) (hN : IsN s N) (hb : IsRight s N b) :
    Calls Try.prog 11 #[.string s] w fun e w' => e = .returned (.bool b) ∧ Below w.heap.size w w' := by
  have hNs := isN_le hN
  have HN := Lib.hid hN
  have HB := Lib.hid hb
  clear hN hb
  go_enter Try.func11, Try.ntmps11
  go_wp2
  go_loopw [3, 4] (fun _ _ wr => ∃ k : Nat, k ≤ N ∧ RightTo s k ∧ wr.heap[w.heap.size]? = some (.stringIter s (bd s k)) ∧ Below w.heap.size w wr) (fun _ _ wr => s.size - wr.iterPos w.heap.size)
  case atStart => exact ⟨0, Nat.zero_le _, fun i hi => absurd hi (Nat.not_lt_zero _), World.iter_heap w s 0, (Below.refl _ _).alloc (Nat.le_refl _) _⟩
  case round =>
    obtain ⟨k, hk, hR, hi, hbw⟩ := hrel
    by_cases hlt : k < N
    · have hp := HN.out.2 k hlt
      have hnx := fun ty => Lib.run_next_any_at (P := Try.prog) wr w.heap.size s (bd s k) ty hi hp
      have hb := isN_succ HN.out hlt
      have hw := wid_pos s (bd s k)
      have hbx : bd s k + (Utf8.decode s (bd s k)).2 = bd s (k + 1) := hb.symm
      rw [hbx] at hnx
      have hbl : bd s k < bd s (k + 1) := by omega
      clear hb hbx hw
      have hr : rn s (bd s k) ≤ 1114111 := rn_le s (bd s k)
      have hrx : (Utf8.decode s (bd s k)).1 = rn s (bd s k) := rfl
      rw [hrx] at hnx
      clear hrx
      have hi2 := Lib.iterAt_heap wr w.heap.size s (bd s k) (bd s (k + 1)) hi
      have hbw2 := Lib.below_iterAt hbw (k := w.heap.size) (Nat.le_refl _) s (bd s (k + 1))
      have hip : wr.iterPos w.heap.size = bd s k := by simp [World.iterPos, hi]
      obtain ⟨W, hW⟩ : ∃ W, wr.iterAt w.heap.size s (bd s (k + 1)) = W := ⟨_, rfl⟩
      rw [hW] at hnx hi2 hbw2
      have c12 : ∀ w, Calls Try.prog 12 #[.string s, .int .i64 (bd s k : Nat)] w fun e w' => e = .returned (.agg #[.int .i64 (bd s k : Nat), .int .i64 (wid s (bd s k)), .int .i64 (rn s (bd s k))]) ∧ Below w.heap.size w w' := fun w => next_in s (bd s k) w hs hp
      have C := Lib.hid c12
      have RT := Lib.hid hR
      have HI2 := Lib.hid hi2
      have HIP := Lib.hid hip
      clear c12 hR hi hbw hW hi2 hip
      generalize hx : rn s (bd s k) = x at *
      have HX := Lib.hid hx
      clear hx
      by_cases h5 : x = 65533
      · have t5 := eqb (x : Int) 65533 (by omega)
        generalize hy : wid s (bd s k) = y at *
        have HY := Lib.hid hy
        clear hy
        by_cases h1 : y = 1
        · have e : b = false := by
            cases hbb : b
            · rfl
            · exact absurd ⟨HX.out.trans h5, HY.out.trans h1⟩ (HB.out.1 hbb k hlt)
          have E := Lib.hid e
          have t1 := eqb (y : Int) 1 (by omega)
          clear e h1 h5
          go_wp2_with fail
          refine (C.out _).mono ?_
          rintro e w' ⟨rfl, hb3⟩
          go_wp2
          go_ret
          exact ⟨by rw [E.out]; rfl, hbw2.trans (hb3.mono hbw2.size)⟩
        · have t1 := neb (y : Int) 1 (by omega)
          have hR2 : RightTo s (k + 1) := fun i hi => by
            by_cases c : i = k
            · subst c; exact fun g => h1 (HY.out.symm.trans g.2)
            · exact RT.out i (by omega)
          have RT2 := Lib.hid hR2
          clear hR2 h1 h5
          go_wp2_with fail
          refine (C.out _).mono ?_
          rintro e w' ⟨rfl, hb3⟩
          go_wp2
          have hi3 := iterB HI2.out hb3
          go_roundw
          case rel => exact ⟨k + 1, by omega, RT2.out, hi3, hbw2.trans (hb3.mono hbw2.size)⟩
          case measure => rw [HIP.out, show w'.iterPos w.heap.size = bd s (k + 1) by simp [World.iterPos, hi3]]; omega
      · have t5 := neb (x : Int) 65533 (by omega)
        have hR2 : RightTo s (k + 1) := fun i hi => by
          by_cases c : i = k
          · subst c; exact fun g => h5 (HX.out.symm.trans g.1)
          · exact RT.out i (by omega)
        have RT2 := Lib.hid hR2
        clear hR2 h5
        go_wp2
        go_roundw
        case rel => exact ⟨k + 1, by omega, RT2.out, HI2.out, hbw2⟩
        case measure => rw [HIP.out, show W.iterPos w.heap.size = bd s (k + 1) by simp [World.iterPos, HI2.out]]; omega
    · obtain rfl : k = N := by omega
      have hp : ¬ bd s k < s.size := by rw [HN.out.1]; omega
      have hnx := fun ty => Lib.run_next_end_at (P := Try.prog) wr w.heap.size s (bd s k) ty hi hp
      have E := Lib.hid (HB.out.2 hR)
      clear hR
      go_wp2
      go_ret
      exact ⟨by rw [E.out]; rfl, hbw⟩
end Go.Proofs.Ytkkdecppdbkmjaa
