/- Get of a frame that has its sum. -/
import Derived.Test.YtlhicojbpjdbaaaFrC
import Derived.Deep.RegionHeld3
set_option linter.unusedVariables false
namespace Go.Proofs.Ytlhicojbpjdbaaa
open Go.RowKit

theorem sealed_len {bs : List Nat} {x0 x1 x2 x3 : Nat} {body : List Nat} (h4 : 4 ≤ bs.length) (hin : bs.take (bs.length - 4) = x0 :: x1 :: x2 :: x3 :: body) : bs.length = body.length + 8 := by
  have := congrArg List.length hin
  simp only [List.length_take, List.length_cons] at this
  omega

theorem lies_four {w : World} {ra : Option Addr} {n rc : Nat} {x0 x1 x2 x3 : Nat} {body : List Nat} (h : Lies w (.slice ra n rc) (x0 :: x1 :: x2 :: x3 :: body)) :
    ∃ g o, ra = some ⟨g, o, none⟩ ∧ n = body.length + 4 ∧ n ≤ rc ∧ rc ≤ maxLen ∧ g < w.heap.size ∧ w.cell? ⟨g, o, none⟩ = some (.int .u8 (x0 : Int)) ∧ w.cell? ⟨g, o + 1, none⟩ = some (.int .u8 (x1 : Int)) ∧ w.cell? ⟨g, o + 2, none⟩ = some (.int .u8 (x2 : Int)) ∧ w.cell? ⟨g, o + 3, none⟩ = some (.int .u8 (x3 : Int)) ∧ Lies w (.slice (some ⟨g, o + 4, none⟩) body.length (rc - 4)) body := by
  have H := h
  obtain ⟨ao, cap, e, h1, h2, h3, h4⟩ := h
  injection e with e1 e2 e3
  subst e1 e2 e3
  cases ra with
  | none => have := (h3 rfl).1; simp at this
  | some b =>
    obtain ⟨g, o, rfl, hg, hc⟩ := h4 b rfl (by simp)
    refine ⟨g, o, rfl, by simp, h1, h2, hg, by simpa using hc 0 x0 rfl, hc 1 x1 rfl, hc 2 x2 rfl, hc 3 x3 rfl, ?_⟩
    have D := H.drop 4 (by simp)
    simpa using D

set_option maxRecDepth 100000 in
set_option maxHeartbeats 800000 in
theorem get_form (w : World) (v : Value) (bs : List Nat) (h : Lies w v bs) (hb : Byt bs) (h4 : 4 ≤ bs.length) (hl2 : bs.length ≤ 200000) (hs : Sealed bs) {x0 x1 x2 x3 : Nat} {body : List Nat} (hin : bs.take (bs.length - 4) = x0 :: x1 :: x2 :: x3 :: body) (hx : x0 ≠ 1) :
    Calls Try.prog 12 #[v] w fun e w' => e = .returned (.tuple #[.agg #[.int .i64 0, .int .i64 0, .int .i64 0, .slice none 0 0], .int .i64 4]) ∧ Below w.heap.size w w' := by
  have HX := (Below.refl w.heap.size w).alloc (Nat.le_refl _) (.cells #[.int .i64 0, .int .i64 0, .int .i64 0, .slice none 0 0] 29)
  have hbox := heap_alloc_new w (.cells #[.int .i64 0, .int .i64 0, .int .i64 0, .slice none 0 0] 29)
  have R := open_any _ v bs (h.later HX) hb hl2 true ⟨fun _ => hs, fun _ => rfl⟩
  rw [if_pos rfl] at R
  have hlen := congrArg List.length hin
  rw [show (x0 :: x1 :: x2 :: x3 :: body).length = body.length + 4 from rfl] at hlen
  have R := Lib.hid R
  have HX := Lib.hid HX
  have HB := Lib.hid hbox
  have hl := sealed_len h4 hin
  generalize bs.take (bs.length - 4) = inn at *
  have hx0 : ¬ ((x0 : Int) = 1) := by omega
  obtain ⟨ao, cap, rfl, _⟩ := h
  have h8 : 8 ≤ bs.length := by omega
  have HIN := Lib.hid hin
  clear hbox hl2 hb hin h4 hs hl
  go_enter Try.func12, Try.ntmps12
  go_wp2_with fail
  refine R.out.mono ?_
  rintro e w1 ⟨r, rfl, hr⟩
  have B1 := Lib.hid (HX.out.trans (hr.2.mono HX.out.size))
  have hb2 := (hr.2.block w.heap.size (by simp)).trans HB.out
  obtain ⟨⟨c0, c1, c2, c3⟩, f0, f1, f2, f3⟩ := box_cells hb2
  have hL := own_lies hr.1
  rw [HIN.out] at hL
  obtain ⟨ra, rc, rfl⟩ := own_shape hr.1
  have hl5 : 4 ≤ inn.length := by omega
  obtain ⟨g, o, rfl, hn, hrc, hmx, hg, y0, y1, y2, y3, hD⟩ := lies_four hL
  have HB2 := Lib.hid hb2
  clear hr hb2 hL hD
  go_wp2
  obtain ⟨W5, hW5⟩ : ∃ W5, sets w1 w.heap.size (.int .i64 0) (.int .i64 0) (.int .i64 0) (.slice none 0 0) = W5 := ⟨_, rfl⟩
  have hb5 := sets_row (x' := .int .i64 0) (y' := .int .i64 0) (z' := .int .i64 0) (v' := .slice none 0 0) HB2.out
  have hw5 := sets_below (x := .int .i64 0) (y := .int .i64 0) (z := .int .i64 0) (v := .slice none 0 0) B1.out (Nat.le_refl _)
  rw [hW5] at hb5 hw5
  unfold sets at hW5
  rw [hW5]
  clear hW5 c0 c1 c2 c3 f0 f1 f2 f3
  obtain ⟨⟨d0, d1, d2, d3⟩, _⟩ := box_cells hb5
  refine bodyPost_ret (by simp [results, Try.results12, go_sem, d0, d1, d2, d3]; try rfl) rfl ?_
  exact ⟨rfl, hw5⟩
end Go.Proofs.Ytlhicojbpjdbaaa
