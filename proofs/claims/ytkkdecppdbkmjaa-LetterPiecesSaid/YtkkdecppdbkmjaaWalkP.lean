/- LetterPieces returns true at every text and number. -/
import Derived.Test.YtkkdecppdbkmjaaWalkG
import Derived.LoopTactic
import Derived.Deep.Cut
set_option linter.unusedVariables false
namespace Go.Proofs.Ytkkdecppdbkmjaa
open Go.RowKit

set_option maxRecDepth 100000 in
set_option maxHeartbeats 400000 in
theorem lpieces_far (s : ByteArray) (m : Int) (w : World) (hs : 400 < s.size) (hm : s.size ≤ 9223372036854775807) :
    Calls Try.prog 3 #[.string s, .int .i64 m] w fun e w' => e = .returned (.bool true) ∧ Below w.heap.size w w' := by
  go_enter Try.func3, Try.ntmps3
  go_wp2_with fail
  refine (awake_any _).mono ?_
  rintro e w' ⟨rfl, hb⟩
  go_wp2_with fail
  go_ret
  exact ⟨rfl, hb⟩

/-- Whether the first k pieces are letters, as the law gathers it. -/
def rgt (s : ByteArray) : Nat → Bool
  | 0 => true
  | k + 1 => rgt s k && (rn s (bd s k) != 65533 || wid s (bd s k) == 3)
theorem rgt_to (s : ByteArray) : ∀ k, rgt s k = true ↔ ∀ i, i < k → ¬ (rn s (bd s i) = 65533 ∧ wid s (bd s i) = 1)
  | 0 => ⟨fun _ i hi => absurd hi (Nat.not_lt_zero _), fun _ => rfl⟩
  | k + 1 => by
    have ih := rgt_to s k
    have hx := rn_wrong s (bd s k)
    show (rgt s k && (rn s (bd s k) != 65533 || wid s (bd s k) == 3)) = true ↔ _
    rw [Bool.and_eq_true, Bool.or_eq_true, bne_iff_ne, beq_iff_eq, ih]
    constructor
    · rintro ⟨h1, h2⟩ i hi
      by_cases c : i = k
      · subst c; omega
      · exact h1 i (by omega)
    · intro h
      refine ⟨fun i hi => h i (by omega), ?_⟩
      have := h k (by omega)
      omega
theorem rgt_is (s : ByteArray) (N : Nat) : IsRight s N (rgt s N) := rgt_to s N

theorem own_form {w : World} {base N : Nat} {E : TypeId} {xs : List Value} {v : Value} (h : w.ownsRow base E 3 v N xs) :
    ∃ a cap, v = .slice a N cap ∧ N ≤ cap ∧ cap ≤ maxLen ∧ (0 < N → ∃ g, a = some ⟨g, 0, none⟩ ∧ w.ownsRow base E 3 (.slice (some ⟨g, 0, none⟩) N cap) N xs) := by
  rcases own_split h with ⟨h1, h2⟩ | ⟨g, cap, h1, h2, h3, h4, h5, h6⟩
  · exact ⟨none, 0, by rw [h1, h2], by omega, by unfold maxLen; omega, fun h => by omega⟩
  · exact ⟨_, cap, h1, h3, h4, fun _ => ⟨g, rfl, h2⟩⟩

theorem next_out (s : ByteArray) (m : Int) (w : World) (hs : s.size ≤ 1099511627000) (hin : ¬ (0 ≤ m ∧ m < s.size)) (h1 : -9223372036854775808 ≤ m) (h2 : m ≤ 9223372036854775807) :
    Calls Try.prog 12 #[.string s, .int .i64 m] w fun e w' => e = .returned (.agg #[.int .i64 0, .int .i64 0, .int .i64 0]) ∧ Below w.heap.size w w' := by
  by_cases h0 : m < 0
  · exact next_neg s m w hs h0 h1
  · exact next_far s m w hs (by omega) h2

theorem later_cell {W : World} {g j : Nat} {c : Array Value} {t : TypeId} {v : Value} (h : W.heap[g]? = some (.cells c t (0, 0))) (hv : c[j]? = some v) : ∀ x : Later W, x.w.cell? ⟨g, j, none⟩ = some v := fun x => by
  rw [x.below.cell (p := ⟨g, j, none⟩) (Array.getElem?_eq_some_iff.1 h).1, cell_of_row _ _ _ _ _ _ h, hv]

set_option maxRecDepth 100000 in
set_option maxHeartbeats 1600000 in
theorem lpieces_near (s : ByteArray) (m : Int) (w : World) (hs : s.size ≤ 400) (hm1 : -9223372036854775808 ≤ m) (hm2 : m ≤ 9223372036854775807) :
    Calls Try.prog 3 #[.string s, .int .i64 m] w fun e w' => e = .returned (.bool true) ∧ Below w.heap.size w w' := by
  obtain ⟨N, hN⟩ := isN_exists s
  have hNs := isN_le hN
  have C7 := Lib.hid (fun w => pieces_any s N w (by omega) hN)
  have C8 := Lib.hid (fun w => rpieces_any s N w (by omega) hN)
  have C9 := Lib.hid (fun w => count_any s N w (by omega) hN)
  have C11 := Lib.hid (fun w => right_any s N (rgt s N) w (by omega) hN (rgt_is s N))
  have HN := Lib.hid hN
  have hd4 : decide (400 < (s.size : Int)) = false := by simp; omega
  clear hN
  go_enter Try.func3, Try.ntmps3
  go_wp2_with fail
  refine (C7.out _).mono ?_
  rintro e w1 ⟨v1, rfl, hown1, hb1⟩
  obtain ⟨a1, cap1, rfl, hc1, hx1, hf1⟩ := own_form hown1
  have HF1 := Lib.hid hf1
  clear hown1 hf1
  go_wp2_with fail
  refine (C8.out _).mono ?_
  rintro e w2 ⟨v2, rfl, hown2, hb2⟩
  obtain ⟨a2, cap2, rfl, hc2, hx2, hf2⟩ := own_form hown2
  have HF2 := Lib.hid hf2
  clear hown2 hf2
  go_wp2_with fail
  refine (C9.out _).mono ?_
  rintro e w3 ⟨rfl, hb3⟩
  go_wp2_with fail
  go_loopw [7, 8] (fun rv iv wr => ∃ k q : Nat, k ≤ N ∧ iv = .int .i64 k ∧ rv = .bool (rgt s k) ∧ wr = w3.drewN q) (fun _ iv _ => N - (intOf iv).toNat)
  case atStart => exact ⟨0, 0, Nat.zero_le _, rfl, rfl, rfl⟩
  case round =>
    obtain ⟨k, q, hk, rfl, rfl, rfl⟩ := hrel
    by_cases hlt : k < N
    · obtain ⟨g1, rfl, ho1⟩ := HF1.out (by omega)
      obtain ⟨g2, rfl, ho2⟩ := HF2.out (by omega)
      have hp1 := ownsRow_below (ownsRow_below ho1 hb2) hb3
      have hp2 := ownsRow_below ho2 hb3
      obtain ⟨p0, p1, p2⟩ := pc_get s N k hlt
      have a0 := own_cell hp1 p0
      have a1 := own_cell hp1 p1
      have a2 := own_cell hp1 p2
      have b0 := own_cell hp2 p0
      have b1 := own_cell hp2 p1
      have b2 := own_cell hp2 p2
      have hlt' : (k : Int) < (N : Int) := by omega
      have hrs : rgt s (k + 1) = (rgt s k && (rn s (bd s k) != 65533 || wid s (bd s k) == 3)) := rfl
      have hxr := rn_le s (bd s k)
      have hyr := wid_four s (bd s k)
      clear p0 p1 p2 ho1 ho2 hp1 hp2
      generalize rn s (bd s k) = x at *
      generalize wid s (bd s k) = y at *
      generalize bd s k = z at *
      cases hb : rgt s k
      · rw [hb, Bool.false_and] at hrs
        have HR := Lib.hid hrs
        clear hrs hb
        go_wp2_with fail
        go_quiet (fail)
        go_wp2
        go_roundw
        case rel => exact ⟨k + 1, q + nq, by omega, by go_num, by rw [HR.out], by simp⟩
        case measure => simp [intOf]; omega
      · rw [hb, Bool.true_and] at hrs
        by_cases hx : x = 65533
        · have hy : Hid (rgt s (k + 1) = (y == 3)) := by
            have e : (x != 65533) = false := by simp [hx]
            rw [e, Bool.false_or] at hrs
            exact hrs
          have t5 : ((x : Int) != 65533) = false := by simp; omega
          clear hrs hb hx
          by_cases h3 : y = 3
          · have e : (y == 3) = true := by simp [h3]
            have t3 := eqb (y : Int) 3 (by omega)
            have HR := Lib.hid (hy.out.trans e)
            clear e h3 hy
            go_wp2_with fail
            go_quiet (fail)
            go_wp2
            go_roundw
            case rel => exact ⟨k + 1, q + nq, by omega, by go_num, by rw [HR.out], by simp⟩
            case measure => simp [intOf]; omega
          · have e : (y == 3) = false := by simp [h3]
            have t3 := neb (y : Int) 3 (by omega)
            have HR := Lib.hid (hy.out.trans e)
            clear e h3 hy
            go_wp2_with fail
            go_quiet (fail)
            go_wp2
            go_roundw
            case rel => exact ⟨k + 1, q + nq, by omega, by go_num, by rw [HR.out], by simp⟩
            case measure => simp [intOf]; omega
        · have HR : Hid (rgt s (k + 1) = true) := by
            have e : (x != 65533) = true := by simp [hx]
            rw [e, Bool.true_or] at hrs
            exact hrs
          have t5 : ((x : Int) != 65533) = true := by rw [bne_iff_ne]; omega
          clear hrs hb hx
          go_wp2_with fail
          go_quiet (fail)
          go_wp2
          go_roundw
          case rel => exact ⟨k + 1, q + nq, by omega, by go_num, by rw [HR.out], by simp⟩
          case measure => simp [intOf]; omega
    · obtain rfl : k = N := by omega
      have hbw3 := chain (chain (chain hb1 hb2) hb3) (show Below w3.heap.size w3 (w3.drewN q) from ⟨rfl, rfl, rfl, Nat.le_refl _, fun _ _ => rfl⟩)
      obtain ⟨W, hW⟩ : ∃ W, w3.drewN q = W := ⟨_, rfl⟩
      rw [hW] at hbw3
      generalize rgt s k = b at *
      by_cases hin : 0 ≤ m ∧ m < s.size
      · obtain ⟨p, rfl⟩ := Int.eq_ofNat_of_zero_le hin.1
        have hp : p < s.size := by omega
        have g1 : decide ((p : Int) ≥ 0) = true := by simp
        have C10 := Lib.hid (fun w => rnext_any s p w (by omega) hp)
        have C12 := Lib.hid (fun w => next_in s p w (by omega) hp)
        have hpv : pcv s p = .agg #[.int .i64 p, .int .i64 (wid s p), .int .i64 (rn s p)] := rfl
        rw [hpv] at C10 C12
        clear hpv
        generalize wid s p = y at *
        generalize rn s p = x at *
        go_upto_region 16 with (fail)
        clear hW
        go_wp2_with fail
        refine (C10.out _).mono ?_
        rintro e W4 ⟨rfl, hb4⟩
        have hsz4 : W.heap.size < W4.heap.size := by have := hb4.size; simp at this; omega
        have hh : W4.heap[W.heap.size]? = some (.cells #[.int .i64 0, .int .i64 0, .int .i64 0] 29 (0, 0)) := (hb4.block _ (by simp)).trans (heap_alloc_new W _)
        have hb5 : Below W.heap.size W W4 := chain ((Below.refl _ W).alloc (Nat.le_refl _) _) hb4
        have d0 : W4.cell? ⟨W.heap.size, 0, none⟩ = some (.int .i64 0) := by rw [cell_of_row _ _ _ _ _ _ hh]; rfl
        have d1 : W4.cell? ⟨W.heap.size, 1, none⟩ = some (.int .i64 0) := by rw [cell_of_row _ _ _ _ _ _ hh]; rfl
        have d2 : W4.cell? ⟨W.heap.size, 2, none⟩ = some (.int .i64 0) := by rw [cell_of_row _ _ _ _ _ _ hh]; rfl
        have f0 := frozen_of_row _ _ 0 _ _ hh
        have f1 := frozen_of_row _ _ 1 _ _ hh
        have f2 := frozen_of_row _ _ 2 _ _ hh
        obtain ⟨W5, hW5⟩ : ∃ W5, ((((W4.setCell ⟨W.heap.size, 0, none⟩ (.int .i64 p)).setCell ⟨W.heap.size, 1, none⟩ (.int .i64 y)).setCell ⟨W.heap.size, 2, none⟩ (.int .i64 x)).alloc (.cells #[.int .i64 p, .int .i64 y, .int .i64 x] 30)) = W5 := ⟨_, rfl⟩
        have hh5 : W5.heap[W.heap.size]? = some (.cells #[.int .i64 p, .int .i64 y, .int .i64 x] 29 (0, 0)) := by
          rw [← hW5]
          exact (Below.heap_alloc _ _ _ (by simpa [World.setCell] using hsz4)).trans (row_setCell (row_setCell (row_setCell hh)))
        have hb6 : Below W.heap.size W W5 := by
          rw [← hW5]
          exact (((hb5.setCell (by simp) _).setCell (by simp) _).setCell (by simp) _).alloc (by simp [World.setCell]; omega) _
        have e0 := later_cell hh5 (j := 0) rfl
        have e1 := later_cell hh5 (j := 1) rfl
        have e2 := later_cell hh5 (j := 2) rfl
        clear hh hh5 hb4
        go_upto_region 18 with (fail)
        clear hW5 d0 d1 d2 f0 f1 f2 hb5
        refine wp_region_later (by kernel_rfl) (by kernel_rfl) ?_
        repeat (go_big_quiet_step (first
          | (go_at_call 11; with_reducible exact later_call (C11.out _))
          | (go_at_call 12; with_reducible exact later_call (C12.out _))
          | (go_at_call 6; with_reducible exact later_call (awake_any _))))
        refine wpQuiet_nil ?_
        intro _ hw'
        obtain ⟨xl, hw''⟩ := hw'
        subst hw''
        go_wp2
        go_ret
        exact ⟨rfl, chain (chain hbw3 hb6) xl.below⟩
      · have C12 := Lib.hid (fun w => next_out s m w (by omega) hin hm1 hm2)
        have hh5 : (W.alloc (.cells #[.int .i64 0, .int .i64 0, .int .i64 0] 29)).heap[W.heap.size]? = some (.cells #[.int .i64 0, .int .i64 0, .int .i64 0] 29 (0, 0)) := heap_alloc_new W _
        have hb6 : Below W.heap.size W (W.alloc (.cells #[.int .i64 0, .int .i64 0, .int .i64 0] 29)) := (Below.refl _ _).alloc (Nat.le_refl _) _
        have e0 := later_cell hh5 (j := 0) rfl
        have e1 := later_cell hh5 (j := 1) rfl
        have e2 := later_cell hh5 (j := 2) rfl
        clear hh5
        rcases (show m < 0 ∨ (¬ m < 0 ∧ (s.size : Int) ≤ m) by omega) with hneg | ⟨hneg, hfar⟩
        · clear hin
          go_upto_region 18 with (fail)
          clear hW
          refine wp_region_later (by kernel_rfl) (by kernel_rfl) ?_
          repeat (go_big_quiet_step (first
            | (go_at_call 11; with_reducible exact later_call (C11.out _))
            | (go_at_call 12; with_reducible exact later_call (C12.out _))
            | (go_at_call 6; with_reducible exact later_call (awake_any _))))
          refine wpQuiet_nil ?_
          intro _ hw'
          obtain ⟨xl, hw''⟩ := hw'
          subst hw''
          go_wp2
          go_ret
          exact ⟨rfl, chain (chain hbw3 hb6) xl.below⟩
        · have hn1 : 0 ≤ m := by omega
          clear hin
          go_upto_region 18 with (fail)
          clear hW
          refine wp_region_later (by kernel_rfl) (by kernel_rfl) ?_
          repeat (go_big_quiet_step (first
            | (go_at_call 11; with_reducible exact later_call (C11.out _))
            | (go_at_call 12; with_reducible exact later_call (C12.out _))
            | (go_at_call 6; with_reducible exact later_call (awake_any _))))
          refine wpQuiet_nil ?_
          intro _ hw'
          obtain ⟨xl, hw''⟩ := hw'
          subst hw''
          go_wp2
          go_ret
          exact ⟨rfl, chain (chain hbw3 hb6) xl.below⟩
end Go.Proofs.Ytkkdecppdbkmjaa
