/- Get of a frame that may not be. -/
import Derived.Test.YtlhicojbpjdbaaaFrE
set_option linter.unusedVariables false
namespace Go.Proofs.Ytlhicojbpjdbaaa
open Go.RowKit

set_option maxRecDepth 100000 in
set_option maxHeartbeats 800000 in
theorem get_bad (w : World) (v : Value) (bs : List Nat) (h : Lies w v bs) (hb : Byt bs) (h4 : 4 ≤ bs.length) (hl2 : bs.length ≤ 200000) (hs : Sealed bs) {x0 x1 x2 x3 : Nat} {body : List Nat} (hin : bs.take (bs.length - 4) = x0 :: x1 :: x2 :: x3 :: body) (hx : x0 = 1) (hc : chk x1 x2 x3 body.length ≠ 0) :
    Calls Try.prog 12 #[v] w fun e w' => e = .returned (.tuple #[.agg #[.int .i64 0, .int .i64 0, .int .i64 0, .slice none 0 0], .int .i64 (chk x1 x2 x3 body.length)]) ∧ Below w.heap.size w w' := by
  have HX := (Below.refl w.heap.size w).alloc (Nat.le_refl _) (.cells #[.int .i64 0, .int .i64 0, .int .i64 0, .slice none 0 0] 29)
  have hbox := heap_alloc_new w (.cells #[.int .i64 0, .int .i64 0, .int .i64 0, .slice none 0 0] 29)
  have R := open_any _ v bs (h.later HX) hb hl2 true ⟨fun _ => hs, fun _ => rfl⟩
  rw [if_pos rfl] at R
  have hlen := congrArg List.length hin
  rw [show (x0 :: x1 :: x2 :: x3 :: body).length = body.length + 4 from rfl] at hlen
  have R := Lib.hid R
  have HX := Lib.hid HX
  have HB := Lib.hid hbox
  have hl := sealed_len h4 hin
  have HBI : Hid (Byt (x0 :: x1 :: x2 :: x3 :: body)) := Lib.hid (by rw [← hin]; exact hb.take _)
  generalize bs.take (bs.length - 4) = inn at *
  subst hx
  have C := fun W ao cap => check_any W x1 x2 x3 ao body.length cap
  generalize chk x1 x2 x3 body.length = ce at *
  have C := Lib.hid C
  obtain ⟨ao, cap, rfl, _⟩ := h
  have h8 : 8 ≤ bs.length := by omega
  have HIN := Lib.hid hin
  clear hbox hl2 hb hin h4 hs hl
  go_enter Try.func12, Try.ntmps12
  go_wp2_with fail
  refine R.out.mono ?_
  rintro e w1 ⟨r, rfl, hr⟩
  have B1 := Lib.hid (HX.out.trans (hr.2.mono HX.out.size))
  have hb2 := (hr.2.block w.heap.size (by simp)).trans HB.out
  obtain ⟨⟨c0, c1, c2, c3⟩, f0, f1, f2, f3⟩ := box_cells hb2
  have hL := own_lies hr.1
  rw [HIN.out] at hL
  obtain ⟨ra, rc, rfl⟩ := own_shape hr.1
  have hl5 : 4 ≤ inn.length := by omega
  obtain ⟨g, o, rfl, hn, hrc, hmx, hg, y0, y1, y2, y3, hD⟩ := lies_four hL
  have HB2 := Lib.hid hb2
  have HD := Lib.hid hD
  have n1 := World.new_ne w1 _ y1
  have n2 := World.new_ne w1 _ y2
  have n3 := World.new_ne w1 _ y3
  have j0 : (0 : Int) < (body.length : Int) + 4 := by omega
  have j1 : (1 : Int) < (body.length : Int) + 4 := by omega
  have j2 : (2 : Int) < (body.length : Int) + 4 := by omega
  have j3 : (3 : Int) < (body.length : Int) + 4 := by omega
  have j4 : (4 : Int) ≤ (body.length : Int) + 4 := by omega
  have hHA : Lies w1 (.slice (if rc = 4 then some (⟨g, o, none⟩ : Addr) else some ⟨g, o + 4, none⟩) body.length (rc - 4)) body := by
    split
    · rename_i e
      have e0 : body.length = 0 := by omega
      have e1 : body = [] := List.eq_nil_of_length_eq_zero e0
      subst e1
      exact ⟨_, _, rfl, Nat.zero_le _, by omega, (fun e => by cases e), fun b hb hne => absurd rfl hne⟩
    · exact hD
  have HA := Lib.hid hHA
  have HAb : Hid (∀ ad : Addr, (if rc = 4 then some (⟨g, o, none⟩ : Addr) else some ⟨g, o + 4, none⟩) = some ad → ad.block = g) := Lib.hid (fun ad e => by
    split at e <;> (injection e with e; subst e; rfl))
  have HFar : Hid (g ≠ w.heap.size) := Lib.hid (own_far hr.1)
  have k1 : IntKind.i64.wrap (x1 : Int) = (x1 : Int) := by have := HBI.out x1 (by simp); rw [IntKind.wrap_i64]; omega
  have k2 : IntKind.i64.wrap (x2 : Int) = (x2 : Int) := by have := HBI.out x2 (by simp); rw [IntKind.wrap_i64]; omega
  have k3 : IntKind.i64.wrap (x3 : Int) = (x3 : Int) := by have := HBI.out x3 (by simp); rw [IntKind.wrap_i64]; omega
  clear hr hb2 hL hD hHA
  go_wp2
  go_region_held3 (fun w' => w'.cell? ⟨g, o + 1, none⟩ = some (.int .u8 (x1 : Int)) ∧ w'.cell? ⟨g, o + 2, none⟩ = some (.int .u8 (x2 : Int)) ∧ w'.cell? ⟨g, o + 3, none⟩ = some (.int .u8 (x3 : Int))) (go_keep) (fail)
  generalize (if rc = 4 then some (⟨g, o, none⟩ : Addr) else some ⟨g, o + 4, none⟩) = A at *
  have HFB := Lib.hid (heap_alloc_new w1 (.cells #[.int .i64 (x1 : Int), .int .i64 (x2 : Int), .int .i64 (x3 : Int), .slice A body.length (rc - 4)] 29))
  have B2 := Lib.hid (B1.out.alloc B1.out.size (.cells #[.int .i64 (x1 : Int), .int .i64 (x2 : Int), .int .i64 (x3 : Int), .slice A body.length (rc - 4)] 29)).drew
  have B3 := Lib.hid ((Below.refl w1.heap.size w1).alloc (Nat.le_refl _) (.cells #[.int .i64 (x1 : Int), .int .i64 (x2 : Int), .int .i64 (x3 : Int), .slice A body.length (rc - 4)] 29)).drew
  go_wp2_with fail
  refine (C.out _ _ _).mono ?_
  rintro e w3 ⟨rfl, hb3⟩
  have b3 := B2.out.trans (hb3.mono B2.out.size)
  have hlt : w.heap.size < w1.heap.size := (Array.getElem?_eq_some_iff.1 HB2.out).1
  have hbF := (hb3.block w1.heap.size (by simp)).trans HFB.out
  have hbR := ((hb3.block w.heap.size (by simp; omega)).trans (B3.out.block w.heap.size hlt)).trans HB2.out
  obtain ⟨⟨p0, p1, p2, p3⟩, _⟩ := box_cells hbF
  obtain ⟨⟨c0, c1, c2, c3⟩, f0, f1, f2, f3⟩ := box_cells hbR
  have HL3 := Lib.hid ((HA.out.later B3.out).later hb3)
  have BB := Lib.hid b3
  have HR := Lib.hid hbR
  have hne : w1.heap.size ≠ w.heap.size := by omega
  have hne2 : w.heap.size ≠ w1.heap.size := by omega
  clear b3 hb3 hbF hbR y0 y1 y2 y3 n1 n2 n3
  go_wp2
  obtain ⟨W5, hW5⟩ : ∃ W5, sets w3 w.heap.size (.int .i64 0) (.int .i64 0) (.int .i64 0) (.slice none 0 0) = W5 := ⟨_, rfl⟩
  have hb5 := sets_row (x' := .int .i64 0) (y' := .int .i64 0) (z' := .int .i64 0) (v' := .slice none 0 0) HR.out
  have hw5 := sets_below (x := .int .i64 0) (y := .int .i64 0) (z := .int .i64 0) (v := .slice none 0 0) BB.out (Nat.le_refl _)
  rw [hW5] at hb5 hw5
  unfold sets at hW5
  rw [hW5]
  clear hW5 c0 c1 c2 c3 f0 f1 f2 f3 p0 p1 p2 p3
  obtain ⟨⟨d0, d1, d2, d3⟩, _⟩ := box_cells hb5
  refine bodyPost_ret (by simp [results, Try.results12, go_sem, d0, d1, d2, d3]; try rfl) rfl ?_
  exact ⟨rfl, hw5⟩
end Go.Proofs.Ytlhicojbpjdbaaa
