/- First, of both. -/
import Derived.Test.YtgbihpfpiaacfaaGreatDoorCReB
import Derived.Test.YtgbihpfpiaacfaaGreatDoorCSumE
set_option linter.unusedVariables false
namespace Go.Proofs.YtgbihpfpiaacfaaGreatDoor.Rc
open Go.RowKit

/-- What a First leaves. -/
def Firsted (w : World) (x : List Nat) (n e : Nat) (en : Ending) (w' : World) : Prop := ∃ r, en = .returned (.tuple #[r, .int .i64 (n : Int), .int .i64 (e : Int)]) ∧ Lies w' r x ∧ Below w.heap.size w w' ∧ ∀ ad n c, r = .slice (some ad) n c → w.heap.size ≤ ad.block

set_option maxRecDepth 100000 in
set_option maxHeartbeats 400000 in
theorem first_short (w : World) (v : Value) (bs : List Nat) (h : Lies w v bs) (hl : bs.length < 4) : Calls Tryz.prog 73 #[v] w (Firsted w [] 0 3) := by
  obtain ⟨ao, cap, rfl, _⟩ := h
  go_enter Tryz.func73, Tryz.ntmps73
  go_wp2
  go_returns
  exact ⟨_, rfl, Lies.nil _, Below.refl _ _, fun _ _ _ e => by cases e⟩

theorem lies_four {w : World} {v : Value} {bs : List Nat} (h : Lies w v bs) (hl : 4 ≤ bs.length) :
    ∃ g o cap b0 b1 b2 b3, v = .slice (some ⟨g, o, none⟩) bs.length cap ∧ bs.length ≤ cap ∧ cap ≤ maxLen ∧ g < w.heap.size ∧ w.cell? ⟨g, o, none⟩ = some (.int .u8 ((b0 : Nat) : Int)) ∧ w.cell? ⟨g, o + 1, none⟩ = some (.int .u8 ((b1 : Nat) : Int)) ∧ w.cell? ⟨g, o + 2, none⟩ = some (.int .u8 ((b2 : Nat) : Int)) ∧ w.cell? ⟨g, o + 3, none⟩ = some (.int .u8 ((b3 : Nat) : Int)) ∧ n4 bs = b0 + 256 * b1 + 65536 * b2 + 16777216 * b3 ∧ b0 ∈ bs ∧ b1 ∈ bs ∧ b2 ∈ bs ∧ b3 ∈ bs := by
  obtain ⟨ao, cap, e, h1, h2, h3, h4⟩ := h
  cases ao with
  | none => have := (h3 rfl).1; rw [this] at hl; simp at hl
  | some b =>
    obtain ⟨g, o, rfl, hg, hc⟩ := h4 b rfl (ne_of_lt (i := 0) (by omega))
    match bs, hl, hc with
    | b0 :: b1 :: b2 :: b3 :: r, _, hc => exact ⟨g, o, cap, b0, b1, b2, b3, e, h1, h2, hg, by simpa using hc 0 b0 rfl, hc 1 b1 rfl, hc 2 b2 rfl, hc 3 b3 rfl, rfl, by simp, by simp, by simp, by simp⟩

set_option maxRecDepth 100000 in
set_option maxHeartbeats 800000 in
theorem first_big (w : World) (v : Value) (bs : List Nat) (h : Lies w v bs) (hb : Byt bs) (hl : 4 ≤ bs.length) (hl2 : bs.length ≤ 200000) (hn : 65536 < n4 bs) : Calls Tryz.prog 73 #[v] w (Firsted w [] 0 6) := by
  obtain ⟨g, o, cap, b0, b1, b2, b3, rfl, hcap, hmx, hg, c0, c1, c2, c3, he, m0, m1, m2, m3⟩ := lies_four h hl
  have h0 := hb b0 m0
  have h1 := hb b1 m1
  have h2 := hb b2 m2
  have h3 := hb b3 m3
  generalize hN : n4 bs = N at *
  have HN : Hid ((b0 : Int) + (b1 : Int) * 256 + (b2 : Int) * 65536 + (b3 : Int) * 16777216 = (N : Int)) := Lib.hid (by omega)
  have i0 : (0 : Int) < (bs.length : Int) := by omega
  have i1 : (1 : Int) < (bs.length : Int) := by omega
  have i2 : (2 : Int) < (bs.length : Int) := by omega
  have i3 : (3 : Int) < (bs.length : Int) := by omega
  clear he hN hb h m0 m1 m2 m3
  go_enter Tryz.func73, Tryz.ntmps73
  go_wp2
  go_quiet (fail)
  rw [HN.out]
  go_wp2
  go_returns
  exact ⟨_, rfl, Lies.nil _, below_drewN _ _, fun _ _ _ e => by cases e⟩

set_option maxRecDepth 100000 in
set_option maxHeartbeats 800000 in
theorem first_torn (w : World) (v : Value) (bs : List Nat) (h : Lies w v bs) (hb : Byt bs) (hl : 4 ≤ bs.length) (hl2 : bs.length ≤ 200000) (hn : n4 bs ≤ 65536) (hs : bs.length < n4 bs + 8) : Calls Tryz.prog 73 #[v] w (Firsted w [] 0 3) := by
  obtain ⟨g, o, cap, b0, b1, b2, b3, rfl, hcap, hmx, hg, c0, c1, c2, c3, he, m0, m1, m2, m3⟩ := lies_four h hl
  have h0 := hb b0 m0
  have h1 := hb b1 m1
  have h2 := hb b2 m2
  have h3 := hb b3 m3
  generalize hN : n4 bs = N at *
  have HN : Hid ((b0 : Int) + (b1 : Int) * 256 + (b2 : Int) * 65536 + (b3 : Int) * 16777216 = (N : Int)) := Lib.hid (by omega)
  have i0 : (0 : Int) < (bs.length : Int) := by omega
  have i1 : (1 : Int) < (bs.length : Int) := by omega
  have i2 : (2 : Int) < (bs.length : Int) := by omega
  have i3 : (3 : Int) < (bs.length : Int) := by omega
  have Z := Lib.hid (fun W => size_nat W N (by omega))
  clear he hN hb h m0 m1 m2 m3
  go_enter Tryz.func73, Tryz.ntmps73
  go_wp2
  go_quiet (fail)
  rw [HN.out]
  go_wp2_with fail
  refine (Z.out _).mono ?_
  rintro e w1 ⟨rfl, rfl⟩
  go_wp2
  go_returns
  exact ⟨_, rfl, Lies.nil _, below_drewN _ _, fun _ _ _ e => by cases e⟩

set_option maxRecDepth 100000 in
set_option maxHeartbeats 800000 in
theorem first_sum (w : World) (v : Value) (bs : List Nat) (h : Lies w v bs) (hb : Byt bs) (hl : 4 ≤ bs.length) (hl2 : bs.length ≤ 200000) (hn : n4 bs ≤ 65536) (hs : n4 bs + 8 ≤ bs.length) (hno : ¬ Sealed (bs.take (n4 bs + 8))) : Calls Tryz.prog 73 #[v] w (Firsted w [] 0 5) := by
  obtain ⟨g, o, cap, b0, b1, b2, b3, rfl, hcap, hmx, hg, c0, c1, c2, c3, he, m0, m1, m2, m3⟩ := lies_four h hl
  have h0 := hb b0 m0
  have h1 := hb b1 m1
  have h2 := hb b2 m2
  have h3 := hb b3 m3
  generalize hN : n4 bs = N at *
  have HN : Hid ((b0 : Int) + (b1 : Int) * 256 + (b2 : Int) * 65536 + (b3 : Int) * 16777216 = (N : Int)) := Lib.hid (by omega)
  have i0 : (0 : Int) < (bs.length : Int) := by omega
  have i1 : (1 : Int) < (bs.length : Int) := by omega
  have i2 : (2 : Int) < (bs.length : Int) := by omega
  have i3 : (3 : Int) < (bs.length : Int) := by omega
  have Z := Lib.hid (fun W => size_nat W N (by omega))
  have hlt : (bs.take (N + 8)).length = N + 8 := by rw [List.length_take]; omega
  have R := Lib.hid (fun W (hW : Below w.heap.size w W) => open_any W _ (bs.take (N + 8)) ((h.take (N + 8) hs).later hW) (hb.take _) (by rw [hlt]; omega) false ⟨fun h => (by cases h), fun h => absurd h hno⟩)
  have hs2 : N + 8 ≤ cap := by omega
  clear he hN hb h m0 m1 m2 m3 hlt hno
  go_enter Tryz.func73, Tryz.ntmps73
  go_wp2
  go_quiet (fail)
  rw [HN.out]
  go_wp2_with fail
  refine (Z.out _).mono ?_
  rintro e w1 ⟨rfl, rfl⟩
  go_wp2_with fail
  refine (Z.out _).mono ?_
  rintro e w1 ⟨rfl, rfl⟩
  go_wp2_with fail
  refine (R.out _ (below_drewN _ _)).mono ?_
  rintro e w2 ⟨r, rfl, hr⟩
  have B2 := Lib.hid ((below_drewN w nq).trans (hr.2.mono (below_drewN w nq).size))
  obtain ⟨ra, rc, rfl⟩ := own_shape hr.1
  clear hr
  go_wp2
  go_returns
  exact ⟨_, rfl, Lies.nil _, B2.out, fun _ _ _ e => by cases e⟩

theorem lies_from4 {w : World} {g o n rc : Nat} {bs : List Nat} (h : Lies w (.slice (some ⟨g, o, none⟩) (n + 4) rc) bs) : Lies w (.slice (if rc = 4 then some ⟨g, o, none⟩ else some ⟨g, o + 4, none⟩) n (rc - 4)) (bs.drop 4) := by
  have D := h.drop 4 (by omega)
  rw [show n + 4 - 4 = n by omega] at D
  split
  · rename_i e
    obtain ⟨ao, cap, e1, h1, h2, h3, h4⟩ := D
    injection e1 with e1 e2 e3
    have e0 : bs.drop 4 = [] := List.eq_nil_of_length_eq_zero (by omega)
    have : n = 0 := by rw [e0] at e2; simpa using e2
    subst this
    rw [e0]
    exact ⟨_, _, rfl, Nat.zero_le _, by omega, (fun e => by cases e), fun b hb hne => absurd rfl hne⟩
  · exact D

set_option maxRecDepth 100000 in
set_option maxHeartbeats 800000 in
theorem first_ok (w : World) (v : Value) (bs : List Nat) (h : Lies w v bs) (hb : Byt bs) (hl : 4 ≤ bs.length) (hl2 : bs.length ≤ 200000) (hn : n4 bs ≤ 65536) (hs : n4 bs + 8 ≤ bs.length) (hyes : Sealed (bs.take (n4 bs + 8))) : Calls Tryz.prog 73 #[v] w (Firsted w ((bs.take (n4 bs + 4)).drop 4) (n4 bs + 8) 0) := by
  obtain ⟨g, o, cap, b0, b1, b2, b3, rfl, hcap, hmx, hg, c0, c1, c2, c3, he, m0, m1, m2, m3⟩ := lies_four h hl
  have h0 := hb b0 m0
  have h1 := hb b1 m1
  have h2 := hb b2 m2
  have h3 := hb b3 m3
  generalize hN : n4 bs = N at *
  have HN : Hid ((b0 : Int) + (b1 : Int) * 256 + (b2 : Int) * 65536 + (b3 : Int) * 16777216 = (N : Int)) := Lib.hid (by omega)
  have i0 : (0 : Int) < (bs.length : Int) := by omega
  have i1 : (1 : Int) < (bs.length : Int) := by omega
  have i2 : (2 : Int) < (bs.length : Int) := by omega
  have i3 : (3 : Int) < (bs.length : Int) := by omega
  have Z := Lib.hid (fun W => size_nat W N (by omega))
  have hlt : (bs.take (N + 8)).length = N + 8 := by rw [List.length_take]; omega
  have R := Lib.hid (fun W (hW : Below w.heap.size w W) => open_any W _ (bs.take (N + 8)) ((h.take (N + 8) hs).later hW) (hb.take _) (by rw [hlt]; omega) true ⟨fun _ => hyes, fun _ => rfl⟩)
  rw [if_pos rfl, hlt, show N + 8 - 4 = N + 4 by omega, List.take_take, Nat.min_eq_left (by omega)] at R
  have hl4 : (bs.take (N + 4)).length = N + 4 := by rw [List.length_take]; omega
  generalize bs.take (N + 4) = inn at *
  have HL4 := Lib.hid hl4
  have hs2 : N + 8 ≤ cap := by omega
  clear he hN hb h m0 m1 m2 m3 hlt hyes hl4
  go_enter Tryz.func73, Tryz.ntmps73
  go_wp2
  go_quiet (fail)
  rw [HN.out]
  go_wp2_with fail
  refine (Z.out _).mono ?_
  rintro e w1 ⟨rfl, rfl⟩
  go_wp2_with fail
  refine (Z.out _).mono ?_
  rintro e w1 ⟨rfl, rfl⟩
  go_wp2_with fail
  refine (R.out _ (below_drewN _ _)).mono ?_
  rintro e w2 ⟨r, rfl, hr⟩
  have B2 := Lib.hid ((below_drewN w nq).trans (hr.2.mono (below_drewN w nq).size))
  have hL := own_lies hr.1
  obtain ⟨ra, rc, rfl⟩ := own_shape hr.1
  rw [HL4.out] at hL ⊢
  have hL0 := hL
  obtain ⟨ao, cap', e, hk1, hk2, hk3, _⟩ := hL0
  injection e with e1 e2 e3
  subst e1 e3
  cases ra with
  | none => have := HL4.out; rw [(hk3 rfl).1] at this; simp at this
  | some rb =>
    obtain ⟨g2, rfl⟩ : ∃ g2, rb = ⟨g2, 0, none⟩ := by
      rcases hr.1.2 with ⟨h2, _⟩ | ⟨g', cap', cur, e, _⟩
      · cases h2
      · injection e with e1 _ _
        injection e1 with e1
        exact ⟨g', e1⟩
    have HF := Lib.hid (lies_from4 hL)
    have G2 := Lib.hid (show w.heap.size ≤ g2 from (hr.1.lt g2 rfl).1)
    have hrc : N + 4 ≤ rc := by omega
    have j4 : (4 : Int) ≤ (N : Int) + 4 := by omega
    have Z2 := Lib.hid (fun W => (Z.out W).mono (fun e w' (h : _ ∧ W = w') => (⟨h.1, h.2.symm⟩ : e = .returned (.int .i64 ((N : Int) + 8)) ∧ w' = W)))
    clear hr hL hk1 hk3 e2
    go_wp2
    go_quiet ((go_at_call 57; exact Calls.quiet_of_same (Z2.out _)))
    go_wp2
    all_goals
      have HF2 := HF.out
      try simp only [Nat.zero_add] at HF2
      split at HF2
      all_goals first
        | (exfalso; omega)
        | (have e4 : rc = 4 := by assumption
           rw [e4] at HF2
           go_returns; exact ⟨_, rfl, HF2.later (below_drewN _ _), B2.out.trans ((below_drewN _ _).mono B2.out.size), fun ad n c e => by injection e with e _ _; injection e with e; rw [← e]; exact G2.out⟩)
        | (go_returns; exact ⟨_, rfl, HF2.later (below_drewN _ _), B2.out.trans ((below_drewN _ _).mono B2.out.size), fun ad n c e => by injection e with e _ _; injection e with e; rw [← e]; exact G2.out⟩)

theorem first_any (w : World) (v : Value) (bs : List Nat) (h : Lies w v bs) (hb : Byt bs) (hl2 : bs.length ≤ 200000) : Calls Tryz.prog 73 #[v] w (Firsted w (fst bs).1 (fst bs).2.1 (fst bs).2.2) := by
  unfold fst
  by_cases h1 : bs.length < 4
  · rw [if_pos h1]; exact first_short w v bs h h1
  · by_cases h2 : 65536 < n4 bs
    · rw [if_neg h1, if_pos h2]; exact first_big w v bs h hb (by omega) hl2 h2
    · by_cases h3 : bs.length < n4 bs + 8
      · rw [if_neg h1, if_neg h2, if_pos h3]; exact first_torn w v bs h hb (by omega) hl2 (by omega) h3
      · by_cases h4 : Sealed (bs.take (n4 bs + 8))
        · rw [if_neg h1, if_neg h2, if_neg h3, if_pos h4]; exact first_ok w v bs h hb (by omega) hl2 (by omega) (by omega) h4
        · rw [if_neg h1, if_neg h2, if_neg h3, if_neg h4]; exact first_sum w v bs h hb (by omega) hl2 (by omega) (by omega) h4
end Go.Proofs.YtgbihpfpiaacfaaGreatDoor.Rc

