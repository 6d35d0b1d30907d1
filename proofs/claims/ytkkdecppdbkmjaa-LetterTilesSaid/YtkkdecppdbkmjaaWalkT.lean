/- LetterTiles returns true at every text and number. -/
import Derived.Test.YtkkdecppdbkmjaaWalkG
import Derived.LoopTactic
import Derived.Deep.Cut
set_option linter.unusedVariables false
namespace Go.Proofs.Ytkkdecppdbkmjaa
open Go.RowKit

set_option maxRecDepth 100000 in
set_option maxHeartbeats 400000 in
theorem tiles_far (s : ByteArray) (m : Int) (w : World) (hs : 400 < s.size) (hm : s.size ≤ 9223372036854775807) :
    Calls Try.prog 5 #[.string s, .int .i64 m] w fun e w' => e = .returned (.bool true) ∧ Below w.heap.size w w' := by
  go_enter Try.func5, Try.ntmps5
  go_wp2_with fail
  refine (awake_any _).mono ?_
  rintro e w' ⟨rfl, hb⟩
  go_wp2_with fail
  go_ret
  exact ⟨rfl, hb⟩

/-- What 'min(max(most, 0), len(s))' is. -/
def clampN (s : ByteArray) (m : Int) : Int := min (max m 0) (s.size : Int)

theorem isFit_clamp {s : ByteArray} {N j : Nat} {m : Int} (hN : IsN s N) (h : IsFit s N m j) : IsFit s N (clampN s m) j := by
  obtain ⟨h1, h2, h3⟩ := h
  have hb := bd_le s j
  have hb1 := bd_le s (j + 1)
  have h0 : bd s 0 = 0 := rfl
  refine ⟨h1, ?_, ?_⟩
  · rcases h2 with h2 | h2
    · exact .inl h2
    · right; unfold clampN; omega
  · rcases h3 with h3 | h3
    · exact .inl h3
    · by_cases hj : j = N
      · exact .inl hj
      · right
        have hp : 0 < bd s (j + 1) := by
          have h4 := isN_bd_lt hN (show j < j + 1 by omega) (by omega)
          omega
        unfold clampN; omega
theorem isTail_clamp {s : ByteArray} {N j : Nat} {m : Int} (hN : IsN s N) (h : IsTail s N m j) : IsTail s N (clampN s m) j := by
  obtain ⟨h1, h2, h3⟩ := h
  have hb := bd_le s j
  refine ⟨h1, ?_, ?_⟩
  · rcases h2 with h2 | h2
    · exact .inl h2
    · right; unfold clampN; omega
  · rcases h3 with h3 | h3
    · exact .inl h3
    · by_cases hj : j = 0
      · exact .inl hj
      · right
        have hp := hN.2 (j - 1) (by omega)
        unfold clampN; omega

/-- The place in the text from which on the last pieces fit, as the law gathers it in k rounds: the text's end as long as none has. -/
def CutTo (s : ByteArray) (N : Nat) (n : Int) (k c : Nat) : Prop :=
  (c = s.size ∧ (k = 0 ∨ n < (s.size : Int) - bd s (k - 1))) ∨ (∃ i, i < k ∧ c = bd s i ∧ bd s i < s.size ∧ IsTail s N n i)
theorem CutTo.le {s : ByteArray} {N : Nat} {n : Int} {k c : Nat} (h : CutTo s N n k c) : c ≤ s.size := by
  rcases h with ⟨h, _⟩ | ⟨i, _, h, h1, _⟩ <;> omega
theorem CutTo.set {s : ByteArray} {N : Nat} {n : Int} {k : Nat} (h : CutTo s N n k s.size) (hk : k < N) (hb : bd s k < s.size) (hn : (s.size : Int) - bd s k ≤ n) : CutTo s N n (k + 1) (bd s k) := by
  rcases h with ⟨_, h⟩ | ⟨i, _, h, h1, _⟩
  · exact .inr ⟨k, by omega, rfl, hb, by omega, .inr hn, h⟩
  · omega
theorem CutTo.pass {s : ByteArray} {N : Nat} {n : Int} {k c : Nat} (h : CutTo s N n k c) (hn : n < (s.size : Int) - bd s k ∨ c ≠ s.size) : CutTo s N n (k + 1) c := by
  rcases h with ⟨h, h'⟩ | ⟨i, hi, h, h1, h2⟩
  · exact .inl ⟨h, .inr (by rw [Nat.add_sub_cancel]; omega)⟩
  · exact .inr ⟨i, by omega, h, h1, h2⟩
theorem CutTo.fin {s : ByteArray} {N : Nat} {n : Int} {c t : Nat} (hN : IsN s N) (h : CutTo s N n N c) (ht : IsTail s N n t) : c = bd s t := by
  rcases h with ⟨h, h'⟩ | ⟨i, hi, h, h1, h2⟩
  · rw [isTail_eq ht ⟨Nat.le_refl _, .inl rfl, h'⟩, hN.1, h]
  · rw [isTail_eq ht h2, h]

set_option maxRecDepth 100000 in
set_option maxHeartbeats 1600000 in
theorem tiles_near (s : ByteArray) (m : Int) (w : World) (hs : s.size ≤ 400) :
    Calls Try.prog 5 #[.string s, .int .i64 m] w fun e w' => e = .returned (.bool true) ∧ Below w.heap.size w w' := by
  obtain ⟨N, hN⟩ := isN_exists s
  obtain ⟨j, hj⟩ := isFit_exists (s := s) (N := N) m
  obtain ⟨t, ht⟩ := isTail_exists (s := s) (N := N) m
  have hNs := isN_le hN
  have C0 := Lib.hid (fun w => pieces_any s N w (by omega) hN)
  have C1 := Lib.hid (fun w => fit_any s N j m w (by omega) hN hj)
  have C3 := Lib.hid (fun w => ltail_any s N t m w (by omega) hN ht)
  have hJ := isFit_clamp hN hj
  have hT := isTail_clamp hN ht
  have HN := Lib.hid hN
  obtain ⟨n, hn⟩ : ∃ n, min (max m 0) (s.size : Int) = n := ⟨_, rfl⟩
  have hn0 : 0 ≤ n := by omega
  have hn1 : n ≤ s.size := by omega
  unfold clampN at hJ hT
  rw [hn] at hJ hT
  have HJ := Lib.hid hJ
  have HT := Lib.hid hT
  have hd4 : decide (400 < (s.size : Int)) = false := by simp; omega
  clear hN hj ht hJ hT
  go_enter Try.func5, Try.ntmps5
  go_wp2_with fail
  refine (C0.out _).mono ?_
  rintro e w1 ⟨v, rfl, hown, hbw⟩
  rcases own_split hown with ⟨rfl, h0⟩ | ⟨g, cap, rfl, ho, hcap, hmax, hg1, hg2⟩
  · have hz : s.size = 0 := by have h := HN.out.1; rw [h0] at h; exact h.symm
    have ex : ∀ a b, s.extract a b = ⟨#[]⟩ := fun a b => by
      apply ByteArray.ext
      apply Array.ext'
      have h2 : s.data.toList = [] := List.length_eq_zero_iff.1 (by simpa using hz)
      simp [h2]
    have D1 := Lib.hid (fun w => by have h := C1.out w; rw [ex] at h; exact h)
    have D3 := Lib.hid (fun w => by have h := C3.out w; rw [ex] at h; exact h)
    have hs0 : s = ⟨#[]⟩ := by rw [← ex 0 s.size]; simp
    subst hs0
    clear hown hn ex hz hd4 C0 C1 C3 HJ HT HN
    go_wp2_with fail
    go_loop [6, 8, 9, 10] (fun av fv cv iv => av = .int .i64 0 ∧ fv = .int .i64 0 ∧ cv = .int .i64 0 ∧ iv = .int .i64 0) (fun _ _ _ _ => 0)
    case atStart => exact ⟨rfl, rfl, rfl, rfl⟩
    case round =>
      obtain ⟨rfl, rfl, rfl, rfl⟩ := hrel
      go_wp2_with fail
      refine wp_region_later (by kernel_rfl) (by kernel_rfl) ?_
      repeat (go_big_quiet_step (first
        | (go_at_call 13; with_reducible exact later_call (D1.out _))
        | (go_at_call 15; with_reducible exact later_call (D3.out _))
        | (go_at_call 6; with_reducible exact later_call (awake_any _))))
      refine wpQuiet_nil ?_
      intro _ hw'
      obtain ⟨xl, hw''⟩ := hw'
      subst hw''
      go_wp2
      go_ret
      exact ⟨rfl, chain hbw xl.below⟩
  · have HO := Lib.hid ho
    clear ho hown
    go_wp2_with fail
    clear hn
    go_loop [6, 8, 9, 10] (fun av fv cv iv => ∃ k f c : Nat, k ≤ N ∧ iv = .int .i64 k ∧ av = .int .i64 (bd s k : Nat) ∧ fv = .int .i64 (bd s f : Nat) ∧ cv = .int .i64 (c : Nat) ∧ f ≤ k ∧ (bd s f : Int) ≤ n ∧ (f = k ∨ n < (bd s (f + 1) : Nat))
        ∧ CutTo s N n k c) (fun _ _ _ iv => N - (intOf iv).toNat)
    case atStart => exact ⟨0, 0, s.size, Nat.zero_le _, rfl, rfl, rfl, rfl, Nat.le_refl _, hn0, .inl rfl, .inl ⟨rfl, .inl rfl⟩⟩
    case round =>
      obtain ⟨k, f, c, hk, rfl, rfl, rfl, rfl, hf1, hf2, hf3, hc⟩ := hrel
      have hbf := bd_le s f
      by_cases hlt : k < N
      · have hpc := pc_get s N k hlt
        have c0 := own_cell HO.out hpc.1
        have c1 := own_cell HO.out hpc.2.1
        have hb := isN_succ HN.out hlt
        have hw := wid_pos s (bd s k)
        have hw4 := wid_four s (bd s k)
        have hbk := HN.out.2 k hlt
        have hbk1 := bd_le s (k + 1)
        generalize wid s (bd s k) = y at *
        clear hpc
        have hbl : bd s k < bd s (k + 1) := by omega
        have hye : (bd s k : Int) + y = (bd s (k + 1) : Nat) := by omega
        have HYE := Lib.hid hye
        clear hb hye
        have hcs : c ≤ s.size := CutTo.le hc
        rcases (show ((s.size : Int) - bd s k ≤ n ∧ c = s.size) ∨ n < (s.size : Int) - bd s k ∨ ((s.size : Int) - bd s k ≤ n ∧ c ≠ s.size) by omega) with ⟨ha, hce⟩ | ha | ⟨ha, hce⟩
        · subst hce
          have CT := Lib.hid (CutTo.set hc hlt hbk ha)
          clear hc
          by_cases hB : (bd s k : Int) + y ≤ n
          · have hB' : ((bd s (k + 1) : Nat) : Int) ≤ n := by rw [← HYE.out]; exact hB
            clear hf3
            go_wp2_with fail
            go_round
            case rel => exact ⟨k + 1, k + 1, _, by omega, by go_num, by rw [← HYE.out], by rw [← HYE.out], rfl, Nat.le_refl _, hB', .inl rfl, CT.out⟩
            case measure => simp [intOf]; omega
          · have hB' : n < ((bd s (k + 1) : Nat) : Int) := by rw [← HYE.out]; omega
            have hf4 : f = k + 1 ∨ n < (bd s (f + 1) : Nat) := by
              rcases hf3 with h | h
              · right; rw [h]; exact hB'
              · exact .inr h
            clear hf3
            have HF := Lib.hid hf4
            clear hf4
            go_wp2_with fail
            go_round
            case rel => exact ⟨k + 1, f, _, by omega, by go_num, by rw [← HYE.out], rfl, rfl, by omega, hf2, HF.out, CT.out⟩
            case measure => simp [intOf]; omega
        · have CT := Lib.hid (CutTo.pass hc (.inl ha))
          clear hc
          by_cases hB : (bd s k : Int) + y ≤ n
          · have hB' : ((bd s (k + 1) : Nat) : Int) ≤ n := by rw [← HYE.out]; exact hB
            clear hf3
            go_wp2_with fail
            go_round
            case rel => exact ⟨k + 1, k + 1, _, by omega, by go_num, by rw [← HYE.out], by rw [← HYE.out], rfl, Nat.le_refl _, hB', .inl rfl, CT.out⟩
            case measure => simp [intOf]; omega
          · have hB' : n < ((bd s (k + 1) : Nat) : Int) := by rw [← HYE.out]; omega
            have hf4 : f = k + 1 ∨ n < (bd s (f + 1) : Nat) := by
              rcases hf3 with h | h
              · right; rw [h]; exact hB'
              · exact .inr h
            clear hf3
            have HF := Lib.hid hf4
            clear hf4
            go_wp2_with fail
            go_round
            case rel => exact ⟨k + 1, f, _, by omega, by go_num, by rw [← HYE.out], rfl, rfl, by omega, hf2, HF.out, CT.out⟩
            case measure => simp [intOf]; omega
        · have CT := Lib.hid (CutTo.pass hc (.inr hce))
          have tc := neb (c : Int) (s.size : Int) (by omega)
          clear hc hce
          by_cases hB : (bd s k : Int) + y ≤ n
          · have hB' : ((bd s (k + 1) : Nat) : Int) ≤ n := by rw [← HYE.out]; exact hB
            clear hf3
            go_wp2_with fail
            go_round
            case rel => exact ⟨k + 1, k + 1, _, by omega, by go_num, by rw [← HYE.out], by rw [← HYE.out], rfl, Nat.le_refl _, hB', .inl rfl, CT.out⟩
            case measure => simp [intOf]; omega
          · have hB' : n < ((bd s (k + 1) : Nat) : Int) := by rw [← HYE.out]; omega
            have hf4 : f = k + 1 ∨ n < (bd s (f + 1) : Nat) := by
              rcases hf3 with h | h
              · right; rw [h]; exact hB'
              · exact .inr h
            clear hf3
            have HF := Lib.hid hf4
            clear hf4
            go_wp2_with fail
            go_round
            case rel => exact ⟨k + 1, f, _, by omega, by go_num, by rw [← HYE.out], rfl, rfl, by omega, hf2, HF.out, CT.out⟩
            case measure => simp [intOf]; omega
      · obtain rfl : k = N := by omega
        have e1 : j = f := isFit_eq HJ.out ⟨hf1, .inr hf2, hf3⟩
        have e2 : c = bd s t := CutTo.fin HN.out hc HT.out
        subst e2
        obtain rfl : f = j := e1.symm
        have htl := bd_le s t
        have hbN := HN.out.1
        have t0 : ((bd s k : Int) == (s.size : Int)) = true := by rw [hbN]; simp
        clear hc hf3 hbN
        have t1 : (bd s k == s.size) = true := by have h := beq_iff_eq.1 t0; exact beq_iff_eq.2 (by omega)
        go_wp2_with fail
        refine wp_region_later (by kernel_rfl) (by kernel_rfl) ?_
        repeat (go_big_quiet_step (first
          | (go_at_call 13; with_reducible exact later_call (C1.out _))
          | (go_at_call 15; with_reducible exact later_call (C3.out _))
          | (go_at_call 6; with_reducible exact later_call (awake_any _))))
        refine wpQuiet_nil ?_
        intro _ hw'
        obtain ⟨xl, hw''⟩ := hw'
        subst hw''
        go_wp2
        go_ret
        exact ⟨rfl, chain hbw xl.below⟩
end Go.Proofs.Ytkkdecppdbkmjaa
