/- The reference's First. -/
import Derived.Test.YtpklcddfoegogaaReE
set_option linter.unusedVariables false
namespace Go.Proofs.Ytpklcddfoegogaa
open Go.RowKit

/-- What the reference's First leaves: what it hands back lay there ahead of it. -/
def Firsted0 (w00 w : World) (x : List Nat) (n e : Nat) (en : Ending) (w' : World) : Prop := ∃ r, en = .returned (.tuple #[r, .int .i64 (n : Int), .int .i64 (e : Int)]) ∧ Lies w00 r x ∧ Below w.heap.size w w'
theorem lies_back {w00 w' : World} {r : Value} {x : List Nat} (h : Lies w' r x) (hf : Far w00 r x) (hb : Below w00.heap.size w00 w') : Lies w00 r x := by
  obtain ⟨ao, cap, rfl, h1, h2, h3, h4⟩ := h
  refine ⟨ao, cap, rfl, h1, h2, h3, fun b hbb hne => ?_⟩
  obtain ⟨k, o, rfl, hk, hc⟩ := h4 b hbb hne
  have hlo := hf _ _ _ (by rw [hbb]) hne
  exact ⟨k, o, rfl, hlo, fun j y hj => (hb.cell (p := ⟨k, o + j, none⟩) hlo).symm.trans (hc j y hj)⟩

theorem lies_fourAt {w : World} {v : Value} {bs : List Nat} {at_ : Nat} (h : Lies w v bs) (hl : 4 ≤ (bs.drop at_).length) :
    ∃ g o cap b0 b1 b2 b3, v = .slice (some ⟨g, o, none⟩) bs.length cap ∧ bs.length ≤ cap ∧ cap ≤ maxLen ∧ g < w.heap.size ∧ w.cell? ⟨g, o + at_, none⟩ = some (.int .u8 ((b0 : Nat) : Int)) ∧ w.cell? ⟨g, o + (at_ + 1), none⟩ = some (.int .u8 ((b1 : Nat) : Int)) ∧ w.cell? ⟨g, o + (at_ + 2), none⟩ = some (.int .u8 ((b2 : Nat) : Int)) ∧ w.cell? ⟨g, o + (at_ + 3), none⟩ = some (.int .u8 ((b3 : Nat) : Int)) ∧ n4 (bs.drop at_) = b0 + 256 * b1 + 65536 * b2 + 16777216 * b3 ∧ b0 ∈ bs ∧ b1 ∈ bs ∧ b2 ∈ bs ∧ b3 ∈ bs := by
  obtain ⟨ao, cap, e, h1, h2, h3, h4⟩ := h
  cases ao with
  | none => have := (h3 rfl).1; rw [this] at hl; simp at hl
  | some b =>
    obtain ⟨g, o, rfl, hg, hc⟩ := h4 b rfl (fun e => by rw [e] at hl; simp at hl)
    have hget : ∀ k, bs[at_ + k]? = (bs.drop at_)[k]? := fun k => by rw [List.getElem?_drop]
    have hmem : ∀ x ∈ bs.drop at_, x ∈ bs := fun x hx => List.mem_of_mem_drop hx
    match hd : bs.drop at_, hl with
    | b0 :: b1 :: b2 :: b3 :: r, _ =>
      rw [hd] at hget hmem
      exact ⟨g, o, cap, b0, b1, b2, b3, e, h1, h2, hg, hc (at_ + 0) b0 (hget 0), hc (at_ + 1) b1 (hget 1), hc (at_ + 2) b2 (hget 2), hc (at_ + 3) b3 (hget 3), rfl, hmem _ (by simp), hmem _ (by simp), hmem _ (by simp), hmem _ (by simp)⟩

set_option maxRecDepth 100000 in
set_option maxHeartbeats 400000 in
theorem rfirst_short (w00 w : World) (v : Value) (bs : List Nat) (at_ : Nat) (h : Lies w00 v bs) (hat : at_ ≤ bs.length) (hl2 : bs.length ≤ 200000) (hl : (bs.drop at_).length < 4) : Calls Try.prog 9 #[v, .int .i64 (at_ : Int)] w (Firsted0 w00 w [] 0 3) := by
  rw [List.length_drop] at hl
  have hd : (bs.length : Int) - (at_ : Int) < 4 := by omega
  have hd0 : (0 : Int) ≤ (bs.length : Int) - (at_ : Int) := by omega
  obtain ⟨ao, cap, rfl, _⟩ := h
  go_enter Try.func9, Try.ntmps9
  go_wp2
  go_returns
  exact ⟨_, rfl, Lies.nil _, Below.refl _ _⟩

/-- A part of it. -/
theorem slice_mid {w : World} {ra : Option Addr} {n rc at_ m : Nat} {bs : List Nat} (h : Lies w (.slice ra n rc) bs) (hat : at_ + m ≤ n) :
    ∃ A, (∀ W, (Instr.slice 22 (.slice ra n rc) (some (.int .i64 (at_ : Int))) (some (.int .i64 ((at_ : Int) + (m : Int)))) none).run Try.prog W = .ok (.slice A m (rc - at_)) W) ∧ Lies w (.slice A m (rc - at_)) ((bs.drop at_).take m) := by
  obtain ⟨A, _, hL⟩ := slice_tail h (at_ := at_) (by omega)
  have hn : bs.length = n := by obtain ⟨_, _, e, _⟩ := h; injection e with _ e _; exact e.symm
  have hcap : n ≤ rc := by obtain ⟨_, _, e, h1, _⟩ := h; injection e with _ _ e; subst e; omega
  refine ⟨if rc = at_ then ra else ra.map (·.add (at_ * 1)), fun W => ?_, ?_⟩
  · rw [run_slice_lh (P := Try.prog) (ht := Try.underlying22) (h0 := by omega) (h1 := by omega) (h2 := by omega)]
    show Result.ok (Value.slice (if rc = at_ then ra else ra.map (·.add (at_ * 1))) (((at_ : Int) + (m : Int)).toNat - at_) (rc - at_)) W = _
    rw [show ((at_ : Int) + (m : Int)).toNat - at_ = m by omega]
  · obtain ⟨A2, hrun, hL2⟩ := slice_tail h (at_ := at_) (by omega)
    have hrun2 := hrun w
    rw [run_slice_l (P := Try.prog) (ht := Try.underlying22) (h0 := by omega) (h1 := by omega)] at hrun2
    have e : (if rc = at_ then ra else ra.map (·.add (at_ * 1))) = A2 := by
      have h2 : Result.ok (Value.slice (if rc = at_ then ra else ra.map (·.add (at_ * 1))) (n - at_) (rc - at_)) w = Result.ok (Value.slice A2 (n - at_) (rc - at_)) w := hrun2
      injection h2 with h2 _
      injection h2
    rw [e]
    exact hL2.take m (by omega)

set_option maxRecDepth 100000 in
set_option maxHeartbeats 800000 in
theorem rfirst_big (w00 w : World) (hX : Below w00.heap.size w00 w) (v : Value) (bs : List Nat) (at_ : Nat) (h00 : Lies w00 v bs) (hb : Byt bs) (hat : at_ ≤ bs.length) (hl : 4 ≤ (bs.drop at_).length) (hl2 : bs.length ≤ 200000) (hn : 65536 < n4 (bs.drop at_)) : Calls Try.prog 9 #[v, .int .i64 (at_ : Int)] w (Firsted0 w00 w [] 0 6) := by
  have h := h00.later hX
  obtain ⟨g, o, cap, b0, b1, b2, b3, rfl, hcap, hmx, hg, c0, c1, c2, c3, he, m0, m1, m2, m3⟩ := lies_fourAt h hl
  have h0 := hb b0 m0
  have h1 := hb b1 m1
  have h2 := hb b2 m2
  have h3 := hb b3 m3
  rw [List.length_drop] at *
  generalize hN : n4 (bs.drop at_) = N at *
  have HN : Hid ((b0 : Int) + 256 * (b1 : Int) + 65536 * (b2 : Int) + 16777216 * (b3 : Int) = (N : Int)) := Lib.hid (by omega)
  have i0 : (at_ : Int) < (bs.length : Int) := by omega
  have i1 : (at_ : Int) + 1 < (bs.length : Int) := by omega
  have i2 : (at_ : Int) + 2 < (bs.length : Int) := by omega
  have i3 : (at_ : Int) + 3 < (bs.length : Int) := by omega
  have ip : (0 : Int) ≤ (at_ : Int) := by omega
  have p1 : (0 : Int) ≤ (at_ : Int) + 1 := by omega
  have p2 : (0 : Int) ≤ (at_ : Int) + 2 := by omega
  have p3 : (0 : Int) ≤ (at_ : Int) + 3 := by omega
  have hat2 : at_ ≤ 200000 := by omega
  have hd : (4 : Int) ≤ (bs.length : Int) - (at_ : Int) := by omega
  clear he hN hb h m0 m1 m2 m3
  have w1 : IntKind.i64.wrap ((at_ : Int) + 1) = (at_ : Int) + 1 := by rw [IntKind.wrap_i64]; omega
  have w2 : IntKind.i64.wrap ((at_ : Int) + 2) = (at_ : Int) + 2 := by rw [IntKind.wrap_i64]; omega
  have w3 : IntKind.i64.wrap ((at_ : Int) + 3) = (at_ : Int) + 3 := by rw [IntKind.wrap_i64]; omega
  have n1 : ((at_ : Int) + 1).toNat = at_ + 1 := by omega
  have n2 : ((at_ : Int) + 2).toNat = at_ + 2 := by omega
  have n3 : ((at_ : Int) + 3).toNat = at_ + 3 := by omega
  go_enter Try.func9, Try.ntmps9
  go_wp2
  go_quiet (fail)
  rw [HN.out]
  clear w1 w2 w3 n1 n2 n3
  go_wp2
  go_returns
  exact ⟨_, rfl, Lies.nil _, below_drewN _ _⟩

set_option maxRecDepth 100000 in
set_option maxHeartbeats 800000 in
theorem rfirst_torn (w00 w : World) (hX : Below w00.heap.size w00 w) (v : Value) (bs : List Nat) (at_ : Nat) (h00 : Lies w00 v bs) (hb : Byt bs) (hat : at_ ≤ bs.length) (hl : 4 ≤ (bs.drop at_).length) (hl2 : bs.length ≤ 200000) (hn : n4 (bs.drop at_) ≤ 65536) (hs : bs.length - at_ < n4 (bs.drop at_) + 8) : Calls Try.prog 9 #[v, .int .i64 (at_ : Int)] w (Firsted0 w00 w [] 0 3) := by
  have h := h00.later hX
  obtain ⟨g, o, cap, b0, b1, b2, b3, rfl, hcap, hmx, hg, c0, c1, c2, c3, he, m0, m1, m2, m3⟩ := lies_fourAt h hl
  have h0 := hb b0 m0
  have h1 := hb b1 m1
  have h2 := hb b2 m2
  have h3 := hb b3 m3
  rw [List.length_drop] at *
  generalize hN : n4 (bs.drop at_) = N at *
  have HN : Hid ((b0 : Int) + 256 * (b1 : Int) + 65536 * (b2 : Int) + 16777216 * (b3 : Int) = (N : Int)) := Lib.hid (by omega)
  have i0 : (at_ : Int) < (bs.length : Int) := by omega
  have i1 : (at_ : Int) + 1 < (bs.length : Int) := by omega
  have i2 : (at_ : Int) + 2 < (bs.length : Int) := by omega
  have i3 : (at_ : Int) + 3 < (bs.length : Int) := by omega
  have ip : (0 : Int) ≤ (at_ : Int) := by omega
  have p1 : (0 : Int) ≤ (at_ : Int) + 1 := by omega
  have p2 : (0 : Int) ≤ (at_ : Int) + 2 := by omega
  have p3 : (0 : Int) ≤ (at_ : Int) + 3 := by omega
  have hat2 : at_ ≤ 200000 := by omega
  have hd : (4 : Int) ≤ (bs.length : Int) - (at_ : Int) := by omega
  have hd2 : (bs.length : Int) - (at_ : Int) < (N : Int) + 8 := by omega
  clear he hN hb h m0 m1 m2 m3
  have w1 : IntKind.i64.wrap ((at_ : Int) + 1) = (at_ : Int) + 1 := by rw [IntKind.wrap_i64]; omega
  have w2 : IntKind.i64.wrap ((at_ : Int) + 2) = (at_ : Int) + 2 := by rw [IntKind.wrap_i64]; omega
  have w3 : IntKind.i64.wrap ((at_ : Int) + 3) = (at_ : Int) + 3 := by rw [IntKind.wrap_i64]; omega
  have n1 : ((at_ : Int) + 1).toNat = at_ + 1 := by omega
  have n2 : ((at_ : Int) + 2).toNat = at_ + 2 := by omega
  have n3 : ((at_ : Int) + 3).toNat = at_ + 3 := by omega
  go_enter Try.func9, Try.ntmps9
  go_wp2
  go_quiet (fail)
  rw [HN.out]
  clear w1 w2 w3 n1 n2 n3
  go_wp2
  go_returns
  exact ⟨_, rfl, Lies.nil _, below_drewN _ _⟩

set_option maxRecDepth 100000 in
set_option maxHeartbeats 800000 in
theorem rfirst_sum (w00 w : World) (hX : Below w00.heap.size w00 w) (v : Value) (bs : List Nat) (at_ : Nat) (h00 : Lies w00 v bs) (hb : Byt bs) (hat : at_ ≤ bs.length) (hl : 4 ≤ (bs.drop at_).length) (hl2 : bs.length ≤ 200000) (hn : n4 (bs.drop at_) ≤ 65536) (hs : n4 (bs.drop at_) + 8 ≤ bs.length - at_) (hno : ¬ Sealed ((bs.drop at_).take (n4 (bs.drop at_) + 8))) : Calls Try.prog 9 #[v, .int .i64 (at_ : Int)] w (Firsted0 w00 w [] 0 5) := by
  have h := h00.later hX
  obtain ⟨g, o, cap, b0, b1, b2, b3, rfl, hcap, hmx, hg, c0, c1, c2, c3, he, m0, m1, m2, m3⟩ := lies_fourAt h hl
  have h0 := hb b0 m0
  have h1 := hb b1 m1
  have h2 := hb b2 m2
  have h3 := hb b3 m3
  rw [List.length_drop] at *
  generalize hN : n4 (bs.drop at_) = N at *
  have HN : Hid ((b0 : Int) + 256 * (b1 : Int) + 65536 * (b2 : Int) + 16777216 * (b3 : Int) = (N : Int)) := Lib.hid (by omega)
  have i0 : (at_ : Int) < (bs.length : Int) := by omega
  have i1 : (at_ : Int) + 1 < (bs.length : Int) := by omega
  have i2 : (at_ : Int) + 2 < (bs.length : Int) := by omega
  have i3 : (at_ : Int) + 3 < (bs.length : Int) := by omega
  have ip : (0 : Int) ≤ (at_ : Int) := by omega
  have p1 : (0 : Int) ≤ (at_ : Int) + 1 := by omega
  have p2 : (0 : Int) ≤ (at_ : Int) + 2 := by omega
  have p3 : (0 : Int) ≤ (at_ : Int) + 3 := by omega
  have hat2 : at_ ≤ 200000 := by omega
  have hd : (4 : Int) ≤ (bs.length : Int) - (at_ : Int) := by omega
  have hd2 : (N : Int) + 8 ≤ (bs.length : Int) - (at_ : Int) := by omega
  obtain ⟨A, hsl, hLm⟩ := slice_mid (m := N + 8) h00 (at_ := at_) (by omega)
  have HX0 := Lib.hid hX
  have hlt : ((bs.drop at_).take (N + 8)).length = N + 8 := by rw [List.length_take, List.length_drop]; omega
  have R := Lib.hid (fun W (hW : Below w.heap.size w W) => ropen_far w00 W (hX.trans (hW.mono hX.size)) _ ((bs.drop at_).take (N + 8)) hLm ((hb.drop _).take _) (by rw [hlt]; omega) false ⟨fun h => (by cases h), fun h => absurd h hno⟩)
  have e5 : (at_ : Int) + ((N + 8 : Nat) : Int) = (at_ : Int) + (N : Int) + 8 := by omega
  rw [e5] at hsl
  clear he hN hb h m0 m1 m2 m3 hlt hno hLm e5
  have w1 : IntKind.i64.wrap ((at_ : Int) + 1) = (at_ : Int) + 1 := by rw [IntKind.wrap_i64]; omega
  have w2 : IntKind.i64.wrap ((at_ : Int) + 2) = (at_ : Int) + 2 := by rw [IntKind.wrap_i64]; omega
  have w3 : IntKind.i64.wrap ((at_ : Int) + 3) = (at_ : Int) + 3 := by rw [IntKind.wrap_i64]; omega
  have n1 : ((at_ : Int) + 1).toNat = at_ + 1 := by omega
  have n2 : ((at_ : Int) + 2).toNat = at_ + 2 := by omega
  have n3 : ((at_ : Int) + 3).toNat = at_ + 3 := by omega
  go_enter Try.func9, Try.ntmps9
  go_wp2
  go_quiet (fail)
  rw [HN.out]
  clear w1 w2 w3 n1 n2 n3
  go_wp2_with fail
  refine (R.out _ (below_drewN _ _)).mono ?_
  rintro e w2 ⟨r, rfl, ⟨hr, hfar⟩, hb2⟩
  have B2 := Lib.hid ((below_drewN w nq).trans (hb2.mono (below_drewN w nq).size))
  obtain ⟨ra, rc, rfl⟩ := lies_shape hr
  clear hr hfar hb2
  go_wp2
  go_returns
  exact ⟨_, rfl, Lies.nil _, B2.out⟩

set_option maxRecDepth 100000 in
set_option maxHeartbeats 800000 in
theorem rfirst_ok (w00 w : World) (hX : Below w00.heap.size w00 w) (v : Value) (bs : List Nat) (at_ : Nat) (h00 : Lies w00 v bs) (hb : Byt bs) (hat : at_ ≤ bs.length) (hl : 4 ≤ (bs.drop at_).length) (hl2 : bs.length ≤ 200000) (hn : n4 (bs.drop at_) ≤ 65536) (hs : n4 (bs.drop at_) + 8 ≤ bs.length - at_) (hyes : Sealed ((bs.drop at_).take (n4 (bs.drop at_) + 8))) : Calls Try.prog 9 #[v, .int .i64 (at_ : Int)] w (Firsted0 w00 w (((bs.drop at_).take (n4 (bs.drop at_) + 4)).drop 4) (n4 (bs.drop at_) + 8) 0) := by
  have h := h00.later hX
  obtain ⟨g, o, cap, b0, b1, b2, b3, rfl, hcap, hmx, hg, c0, c1, c2, c3, he, m0, m1, m2, m3⟩ := lies_fourAt h hl
  have h0 := hb b0 m0
  have h1 := hb b1 m1
  have h2 := hb b2 m2
  have h3 := hb b3 m3
  rw [List.length_drop] at *
  generalize hN : n4 (bs.drop at_) = N at *
  have HN : Hid ((b0 : Int) + 256 * (b1 : Int) + 65536 * (b2 : Int) + 16777216 * (b3 : Int) = (N : Int)) := Lib.hid (by omega)
  have i0 : (at_ : Int) < (bs.length : Int) := by omega
  have i1 : (at_ : Int) + 1 < (bs.length : Int) := by omega
  have i2 : (at_ : Int) + 2 < (bs.length : Int) := by omega
  have i3 : (at_ : Int) + 3 < (bs.length : Int) := by omega
  have ip : (0 : Int) ≤ (at_ : Int) := by omega
  have p1 : (0 : Int) ≤ (at_ : Int) + 1 := by omega
  have p2 : (0 : Int) ≤ (at_ : Int) + 2 := by omega
  have p3 : (0 : Int) ≤ (at_ : Int) + 3 := by omega
  have hat2 : at_ ≤ 200000 := by omega
  have hd : (4 : Int) ≤ (bs.length : Int) - (at_ : Int) := by omega
  have hd2 : (N : Int) + 8 ≤ (bs.length : Int) - (at_ : Int) := by omega
  obtain ⟨A, hsl, hLm⟩ := slice_mid (m := N + 8) h00 (at_ := at_) (by omega)
  have HX0 := Lib.hid hX
  have hlt : ((bs.drop at_).take (N + 8)).length = N + 8 := by rw [List.length_take, List.length_drop]; omega
  have R := Lib.hid (fun W (hW : Below w.heap.size w W) => ropen_far w00 W (hX.trans (hW.mono hX.size)) _ ((bs.drop at_).take (N + 8)) hLm ((hb.drop _).take _) (by rw [hlt]; omega) true ⟨fun _ => hyes, fun _ => rfl⟩)
  rw [if_pos rfl, hlt, show N + 8 - 4 = N + 4 by omega, List.take_take, Nat.min_eq_left (by omega)] at R
  have hl4 : ((bs.drop at_).take (N + 4)).length = N + 4 := by rw [List.length_take, List.length_drop]; omega
  generalize (bs.drop at_).take (N + 4) = inn at *
  have HL4 := Lib.hid hl4
  have e5 : (at_ : Int) + ((N + 8 : Nat) : Int) = (at_ : Int) + (N : Int) + 8 := by omega
  rw [e5] at hsl
  clear he hN hb h m0 m1 m2 m3 hlt hyes hl4 hLm e5
  have w1 : IntKind.i64.wrap ((at_ : Int) + 1) = (at_ : Int) + 1 := by rw [IntKind.wrap_i64]; omega
  have w2 : IntKind.i64.wrap ((at_ : Int) + 2) = (at_ : Int) + 2 := by rw [IntKind.wrap_i64]; omega
  have w3 : IntKind.i64.wrap ((at_ : Int) + 3) = (at_ : Int) + 3 := by rw [IntKind.wrap_i64]; omega
  have n1 : ((at_ : Int) + 1).toNat = at_ + 1 := by omega
  have n2 : ((at_ : Int) + 2).toNat = at_ + 2 := by omega
  have n3 : ((at_ : Int) + 3).toNat = at_ + 3 := by omega
  go_enter Try.func9, Try.ntmps9
  go_wp2
  go_quiet (fail)
  rw [HN.out]
  clear w1 w2 w3 n1 n2 n3
  go_wp2_with fail
  refine (R.out _ (below_drewN _ _)).mono ?_
  rintro e w2 ⟨r, rfl, ⟨hr, hfar⟩, hb2⟩
  have B2 := Lib.hid ((below_drewN w nq).trans (hb2.mono (below_drewN w nq).size))
  obtain ⟨ra, rc, rfl⟩ := lies_shape hr
  have hr0 := lies_back hr hfar (HX0.out.trans (B2.out.mono HX0.out.size))
  rw [HL4.out] at hr0 ⊢
  obtain ⟨A2, hs2, hL2⟩ := slice_tail (at_ := 4) hr0 (by omega)
  have HL2 := Lib.hid hL2
  rw [show N + 4 - 4 = N by omega] at HL2 hs2
  have hs3 : ∀ W, (Instr.slice 22 (.slice ra (N + 4) rc) (some (.int .i64 4)) none none).run Try.prog W = .ok (.slice A2 N (rc - 4)) W := hs2
  clear hr hr0 hfar hb2 hL2 hs2 hsl
  go_wp2
  go_returns
  exact ⟨_, rfl, HL2.out, B2.out⟩

theorem rfirst0_any (w00 w : World) (hX : Below w00.heap.size w00 w) (v : Value) (bs : List Nat) (at_ : Nat) (h : Lies w00 v bs) (hb : Byt bs) (hat : at_ ≤ bs.length) (hl2 : bs.length ≤ 200000) : Calls Try.prog 9 #[v, .int .i64 (at_ : Int)] w (Firsted0 w00 w (fst (bs.drop at_)).1 (fst (bs.drop at_)).2.1 (fst (bs.drop at_)).2.2) := by
  unfold fst
  by_cases h1 : (bs.drop at_).length < 4
  · rw [if_pos h1]; exact rfirst_short w00 w v bs at_ h hat hl2 h1
  · by_cases h2 : 65536 < n4 (bs.drop at_)
    · rw [if_neg h1, if_pos h2]; exact rfirst_big w00 w hX v bs at_ h hb hat (by omega) hl2 h2
    · by_cases h3 : (bs.drop at_).length < n4 (bs.drop at_) + 8
      · rw [if_neg h1, if_neg h2, if_pos h3]; exact rfirst_torn w00 w hX v bs at_ h hb hat (by omega) hl2 (by omega) (by rw [List.length_drop] at h3; exact h3)
      · have h3' : n4 (bs.drop at_) + 8 ≤ bs.length - at_ := by rw [List.length_drop] at h3; omega
        by_cases h4 : Sealed ((bs.drop at_).take (n4 (bs.drop at_) + 8))
        · rw [if_neg h1, if_neg h2, if_neg h3, if_pos h4]; exact rfirst_ok w00 w hX v bs at_ h hb hat (by omega) hl2 (by omega) h3' h4
        · rw [if_neg h1, if_neg h2, if_neg h3, if_neg h4]; exact rfirst_sum w00 w hX v bs at_ h hb hat (by omega) hl2 (by omega) h3' h4

theorem rfirst_any (w : World) (v : Value) (bs : List Nat) (at_ : Nat) (h : Lies w v bs) (hb : Byt bs) (hat : at_ ≤ bs.length) (hl2 : bs.length ≤ 200000) : Calls Try.prog 9 #[v, .int .i64 (at_ : Int)] w (Firsted w (fst (bs.drop at_)).1 (fst (bs.drop at_)).2.1 (fst (bs.drop at_)).2.2) :=
  (rfirst0_any w w (Below.refl _ _) v bs at_ h hb hat hl2).mono fun e w' ⟨r, he, hl, hb⟩ => ⟨r, he, hl.later hb, hb⟩
end Go.Proofs.Ytpklcddfoegogaa
