/- FrameGets, walked. -/
import Derived.Test.YtlhicojbpjdbaaaFrP
import Derived.Test.YtlhicojbpjdbaaaFrM
import Derived.Test.YtlhicojbpjdbaaaFrN
import Derived.Test.YtlhicojbpjdbaaaFrO
set_option linter.unusedVariables false
namespace Go.Proofs.Ytlhicojbpjdbaaa
open Go.RowKit

theorem chk_len {k f t : Int} {n : Nat} (h : chk k f t n = 0) : n ≤ 65536 := by
  unfold chk at h
  split at h
  · omega
  · split at h <;> omega

/-- What a Get leaves. -/
def Gotten (w : World) (k f t : Nat) (body : List Nat) (x : Int) (e : Ending) (w' : World) : Prop := ∃ r, e = .returned (.tuple #[.agg #[.int .i64 (k : Int), .int .i64 (f : Int), .int .i64 (t : Int), r], .int .i64 x]) ∧ Lies w' r body ∧ Below w.heap.size w w'
theorem Gotten.none0 {w w' : World} {e : Ending} {x : Int} (h : e = .returned (.tuple #[.agg #[.int .i64 0, .int .i64 0, .int .i64 0, .slice none 0 0], .int .i64 x]) ∧ Below w.heap.size w w') : Gotten w 0 0 0 [] x e w' := ⟨.slice none 0 0, h.1, Lies.nil _, h.2⟩

theorem both_get (bs : List Nat) (hb : Byt bs) (hl2 : bs.length ≤ 200000) : ∃ (k f t : Nat) (body : List Nat) (x : Int), (∀ W v, Lies W v bs → Calls Try.prog 12 #[v] W (Gotten W k f t body x)) ∧ (∀ W v, Lies W v bs → Calls Try.prog 16 #[v] W (Gotten W k f t body x)) ∧
    (x = 0 → bs = seal' (fb k f t body) ∧ k < 256 ∧ f < 256 ∧ t < 256 ∧ Byt body ∧ chk k f t body.length = 0) := by
  by_cases h8 : bs.length < 8
  · exact ⟨0, 0, 0, [], 3, fun W v h => (get_short W v bs h h8).mono fun _ _ h => .none0 h, fun W v h => (rget_short W v bs h h8).mono fun _ _ h => .none0 h, fun h => by omega⟩
  · by_cases hs : Sealed bs
    · obtain ⟨x0, x1, x2, x3, body, hin⟩ : ∃ x0 x1 x2 x3 body, bs.take (bs.length - 4) = x0 :: x1 :: x2 :: x3 :: body := by
        have hl : 4 ≤ (bs.take (bs.length - 4)).length := by rw [List.length_take]; omega
        match hm : bs.take (bs.length - 4), hl with
        | a :: b :: c :: d :: r, _ => exact ⟨a, b, c, d, r, rfl⟩
      have hbi : Byt (x0 :: x1 :: x2 :: x3 :: body) := by rw [← hin]; exact hb.take _
      by_cases hx : x0 = 1
      · by_cases hc : chk x1 x2 x3 body.length = 0
        · refine ⟨x1, x2, x3, body, 0, fun W v h => get_ok W v bs h hb (by omega) hl2 hs hin hx hc, fun W v h => rget_ok W v bs h hb (by omega) hl2 hs hin hx hc, fun _ => ⟨?_, hbi x1 (by simp), hbi x2 (by simp), hbi x3 (by simp), fun y hy => hbi y (by simp [hy]), hc⟩⟩
          have := hs.2
          rw [hin, hx] at this
          exact this.symm
        · exact ⟨0, 0, 0, [], _, fun W v h => (get_bad W v bs h hb (by omega) hl2 hs hin hx hc).mono fun _ _ h => .none0 h, fun W v h => (rget_bad W v bs h hb (by omega) hl2 hs hin hx hc).mono fun _ _ h => .none0 h, fun h => absurd h hc⟩
      · exact ⟨0, 0, 0, [], 4, fun W v h => (get_form W v bs h hb (by omega) hl2 hs hin hx).mono fun _ _ h => .none0 h, fun W v h => (rget_form W v bs h hb (by omega) hl2 hs hin hx).mono fun _ _ h => .none0 h, fun h => by omega⟩
    · exact ⟨0, 0, 0, [], 5, fun W v h => (get_sum W v bs h hb (by omega) hl2 hs).mono fun _ _ h => .none0 h, fun W v h => (rget_sum W v bs h hb (by omega) hl2 hs).mono fun _ _ h => .none0 h, fun h => by omega⟩

set_option maxRecDepth 100000 in
set_option maxHeartbeats 800000 in
theorem gets_big (w : World) (ao : Option Addr) (n cap : Nat) (h : 500 < n) :
    Calls Try.prog 4 #[.slice ao n cap] w fun e w' => e = .returned (.bool true) ∧ Below w.heap.size w w' := by
  have A := Lib.hid awake_any
  go_enter Try.func4, Try.ntmps4
  go_wp2_with fail
  refine (A.out _).mono ?_
  rintro e w1 ⟨rfl, hb⟩
  have HB := Lib.hid hb
  clear hb
  go_wp2
  go_returns
  exact ⟨rfl, HB.out⟩

set_option maxRecDepth 100000 in
set_option maxHeartbeats 3200000 in
theorem gets_small (w : World) (v : Value) (bs : List Nat) (h : Lies w v bs) (hb : Byt bs) (hl : bs.length ≤ 500) :
    Calls Try.prog 4 #[v] w fun e w' => e = .returned (.bool true) ∧ Below w.heap.size w w' := by
  have A := Lib.hid awake_any
  have hsl := seal_length bs
  obtain ⟨k, f, t, body, x, P1, R1, _⟩ := both_get bs hb (by omega)
  obtain ⟨k', f', t', body', x', P2, R2, E2⟩ := both_get (seal' bs) (seal_byt hb) (by omega)
  have SL := Lib.hid (fun W (hW : Below w.heap.size w W) => rseal_any W v bs (h.later hW) hb (by omega))
  have SM := Lib.hid (fun W v1 v2 h1 h2 => same_any W v1 v2 (seal' bs) h1 h2)
  have A1 := Lib.hid (fun W u u' (hu : Lies W u body) (hu' : Lies W u' body) => are_any W k f t k f t u u' body body hu hu' true (by simp))
  have A2 := Lib.hid (fun W u u' (hu : Lies W u body') (hu' : Lies W u' body') => are_any W k' f' t' k' f' t' u u' body' body' hu hu' true (by simp))
  have PT := Lib.hid (fun (hx : x' = 0) W u (hu : Lies W u body') => by
    have e := E2 hx
    have q := put_any W k' f' t' u body' hu e.2.2.2.2.1 e.2.1 e.2.2.1 e.2.2.2.1 (chk_len e.2.2.2.2.2) e.2.2.2.2.2
    rw [← e.1] at q
    exact q)
  have H := Lib.hid h
  have P1 := Lib.hid P1
  have P2 := Lib.hid P2
  have R1 := Lib.hid R1
  have R2 := Lib.hid R2
  obtain ⟨ao, cap, rfl, _⟩ := h
  generalize seal' bs = ss at *
  have HSL := Lib.hid hsl
  clear hb hsl E2
  go_enter Try.func4, Try.ntmps4
  go_wp2_with fail
  refine (P1.out _ _ H.out).mono ?_
  rintro e w1 ⟨r1, rfl, hr, hb⟩
  have hX := (Below.refl w1.heap.size w1).alloc (Nat.le_refl _) (.cells #[.int .i64 k, .int .i64 f, .int .i64 t, r1] 29)
  have B1 := Lib.hid (hb.trans (hX.mono hb.size))
  have F1 := Lib.hid (heap_alloc_new w1 (.cells #[.int .i64 k, .int .i64 f, .int .i64 t, r1] 29))
  have M1 := Lib.hid (hr.later hX)
  obtain ⟨a1, d1, rfl, _⟩ := hr
  clear hb hX
  go_wp2_with fail
  refine (R1.out _ _ (H.out.later B1.out)).mono ?_
  rintro e w2 ⟨r2, rfl, hr, hb⟩
  have hX := (Below.refl w2.heap.size w2).alloc (Nat.le_refl _) (.cells #[.int .i64 k, .int .i64 f, .int .i64 t, r2] 24)
  have hb := hb.trans (hX.mono hb.size)
  have B2 := Lib.hid (B1.out.trans (hb.mono B1.out.size))
  have F2 := Lib.hid (box_step F1.out hb)
  have M2 := Lib.hid (M1.out.later hb)
  have G2 := Lib.hid (heap_alloc_new w2 (.cells #[.int .i64 k, .int .i64 f, .int .i64 t, r2] 24))
  have N2 := Lib.hid (hr.later hX)
  obtain ⟨a2, d2, rfl, _⟩ := hr
  clear hb hX F1 M1
  go_wp2_with fail
  refine (SL.out _ B2.out).mono ?_
  rintro e w3 ⟨r3, rfl, hr⟩
  have B3 := Lib.hid (B2.out.trans (hr.2.mono B2.out.size))
  have F3 := Lib.hid (box_step F2.out hr.2)
  have M3 := Lib.hid (M2.out.later hr.2)
  have G3 := Lib.hid (box_step G2.out hr.2)
  have N3 := Lib.hid (N2.out.later hr.2)
  have S3 := Lib.hid (own_lies hr.1)
  obtain ⟨a3, d3, rfl⟩ := own_shape hr.1
  rw [HSL.out] at S3 ⊢
  clear hr F2 M2 G2 N2
  go_wp2_with fail
  refine (P2.out _ _ S3.out).mono ?_
  rintro e w4 ⟨r4, rfl, hr, hb⟩
  have hX := (Below.refl w4.heap.size w4).alloc (Nat.le_refl _) (.cells #[.int .i64 k', .int .i64 f', .int .i64 t', r4] 29)
  have hb := hb.trans (hX.mono hb.size)
  have B4 := Lib.hid (B3.out.trans (hb.mono B3.out.size))
  have F4 := Lib.hid (box_step F3.out hb)
  have M4 := Lib.hid (M3.out.later hb)
  have G4 := Lib.hid (box_step G3.out hb)
  have N4 := Lib.hid (N3.out.later hb)
  have S4 := Lib.hid (S3.out.later hb)
  have I4 := Lib.hid (heap_alloc_new w4 (.cells #[.int .i64 k', .int .i64 f', .int .i64 t', r4] 29))
  have J4 := Lib.hid (hr.later hX)
  obtain ⟨a4, d4, rfl, _⟩ := hr
  clear hb hX F3 M3 G3 N3 S3
  go_wp2_with fail
  refine (R2.out _ _ S4.out).mono ?_
  rintro e w5 ⟨r5, rfl, hr, hb⟩
  have hX := (Below.refl w5.heap.size w5).alloc (Nat.le_refl _) (.cells #[.int .i64 k', .int .i64 f', .int .i64 t', r5] 24)
  have hb := hb.trans (hX.mono hb.size)
  have B5 := Lib.hid (B4.out.trans (hb.mono B4.out.size))
  have F5 := Lib.hid (box_step F4.out hb)
  have M5 := Lib.hid (M4.out.later hb)
  have G5 := Lib.hid (box_step G4.out hb)
  have N5 := Lib.hid (N4.out.later hb)
  have S5 := Lib.hid (S4.out.later hb)
  have I5 := Lib.hid (box_step I4.out hb)
  have J5 := Lib.hid (J4.out.later hb)
  have K5 := Lib.hid (heap_alloc_new w5 (.cells #[.int .i64 k', .int .i64 f', .int .i64 t', r5] 24))
  have L5 := Lib.hid (hr.later hX)
  obtain ⟨a5, d5, rfl, _⟩ := hr
  clear hb hX F4 M4 G4 N4 S4 I4 J4
  generalize hW : w5.alloc (.cells #[.int .i64 k', .int .i64 f', .int .i64 t', .slice a5 body'.length d5] 24) = W5 at *
  obtain ⟨⟨c0, c1, c2, c3⟩, _⟩ := box_cells F5.out
  obtain ⟨⟨e0, e1, e2, e3⟩, _⟩ := rbox_cells G5.out
  clear F5 G5
  go_wp2_with fail
  refine (A1.out _ _ _ M5.out N5.out).mono ?_
  rintro e w6 ⟨rfl, hb⟩
  have B6 := Lib.hid (B5.out.trans (hb.mono B5.out.size))
  have S6 := Lib.hid (S5.out.later hb)
  have I6 := Lib.hid (box_step I5.out hb)
  have J6 := Lib.hid (J5.out.later hb)
  have K6 := Lib.hid (box_step K5.out hb)
  have L6 := Lib.hid (L5.out.later hb)
  clear hb c0 c1 c2 c3 e0 e1 e2 e3 M5 N5 S5 I5 J5 K5 L5
  obtain ⟨⟨c0, c1, c2, c3⟩, _⟩ := box_cells I6.out
  obtain ⟨⟨e0, e1, e2, e3⟩, _⟩ := rbox_cells K6.out
  go_wp2_with fail
  refine (A2.out _ _ _ J6.out L6.out).mono ?_
  rintro e w7 ⟨rfl, hb⟩
  have B7 := Lib.hid (B6.out.trans (hb.mono B6.out.size))
  have S7 := Lib.hid (S6.out.later hb)
  have I7 := Lib.hid (box_step I6.out hb)
  have J7 := Lib.hid (J6.out.later hb)
  clear hb c0 c1 c2 c3 e0 e1 e2 e3 S6 I6 J6 K6 L6
  by_cases hx : x' = 0
  · have PT2 := Lib.hid (PT.out hx)
    subst hx
    obtain ⟨⟨c0, c1, c2, c3⟩, _⟩ := box_cells I7.out
    clear PT
    go_wp2_with fail
    refine (PT2.out _ _ J7.out).mono ?_
    rintro e w8 ⟨r8, rfl, hr⟩
    have B8 := Lib.hid (B7.out.trans (hr.2.mono B7.out.size))
    have S8 := Lib.hid (S7.out.later hr.2)
    have T8 := Lib.hid (own_lies hr.1)
    obtain ⟨a8, d8, rfl⟩ := own_shape hr.1
    rw [HSL.out] at T8 ⊢
    clear hr c0 c1 c2 c3
    go_wp2_with fail
    refine (SM.out _ _ _ T8.out S8.out).mono ?_
    rintro e w9 ⟨rfl, hb⟩
    have B9 := Lib.hid (B8.out.trans (hb.mono B8.out.size))
    clear hb
    go_wp2_with fail
    refine (A.out _).mono ?_
    rintro e w10 ⟨rfl, hb⟩
    have B10 := Lib.hid (B9.out.trans (hb.mono B9.out.size))
    clear hb
    go_wp2
    go_returns
    exact ⟨rfl, B10.out⟩
  · have t1 := neb_ x' 0 hx
    clear hx
    go_wp2_with fail
    refine (A.out _).mono ?_
    rintro e w10 ⟨rfl, hb⟩
    have B10 := Lib.hid (B7.out.trans (hb.mono B7.out.size))
    clear hb
    go_wp2
    go_returns
    exact ⟨rfl, B10.out⟩

theorem gets_all (w : World) (v : Value) (bs : List Nat) (h : Lies w v bs) (hb : Byt bs) :
    Calls Try.prog 4 #[v] w fun e w' => e = .returned (.bool true) ∧ Below w.heap.size w w' := by
  by_cases hl : 500 < bs.length
  · obtain ⟨ao, cap, rfl, _⟩ := h
    exact gets_big w ao _ cap hl
  · exact gets_small w v bs h hb (by omega)
end Go.Proofs.Ytlhicojbpjdbaaa
