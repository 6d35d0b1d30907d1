/- The reference's disk: New, step, Used; two texts alike. Made by genrb10.py. -/
import Derived.Test.YtoddofcmdbifpaaRA
import Derived.BigQuiet
set_option linter.unusedVariables false
set_option linter.unusedSimpArgs false
set_option maxRecDepth 100000
namespace Go.Proofs.Ytoddofcmdbifpaa
open Go.RowKit Go.WideMaps Go.Maps

def sets4 (w : World) (b : Nat) (x y z v : Value) : World := (((w.setCell ⟨b, 0, none⟩ x).setCell ⟨b, 1, none⟩ y).setCell ⟨b, 2, none⟩ z).setCell ⟨b, 3, none⟩ v
theorem sets4_row {w : World} {b : Nat} {x : Value} {y z : Int} {v : Bool} {x' : Value} {y' z' : Int} {v' : Bool} (h : RB w b x y z v) : RB (sets4 w b x' (.int .i64 y') (.int .i64 z') (.bool v')) b x' y' z' v' := by
  unfold sets4 RB at *
  exact row_setC (j := 3) (u := .bool v') (row_setC (j := 2) (u := .int .i64 z') (row_setC (j := 1) (u := .int .i64 y') (row_setC (j := 0) (u := x') h)))
theorem sets4_below {w w1 : World} {B b : Nat} {x y z v : Value} (h : Below B w w1) (hb : B ≤ b) : Below B w (sets4 w1 b x y z v) :=
  (((h.setCell (p := ⟨b, 0, none⟩) hb _).setCell (p := ⟨b, 1, none⟩) hb _).setCell (p := ⟨b, 2, none⟩) hb _).setCell (p := ⟨b, 3, none⟩) hb _
theorem RB.free {w : World} {g : Nat} {v : Value} {room lasts : Int} {dn : Bool} (h : RB w g v room lasts dn) : w.frozen? ⟨g, 0, none⟩ = false ∧ w.frozen? ⟨g, 1, none⟩ = false ∧ w.frozen? ⟨g, 2, none⟩ = false ∧ w.frozen? ⟨g, 3, none⟩ = false :=
  ⟨frozen_of_row _ _ _ _ _ h, frozen_of_row _ _ _ _ _ h, frozen_of_row _ _ _ _ _ h, frozen_of_row _ _ _ _ _ h⟩
abbrev rdv (v : Value) (room lasts : Int) (dn : Bool) : Value := .agg #[v, .int .i64 room, .int .i64 lasts, .bool dn]
set_option maxHeartbeats 1600000 in
theorem rnew_any (w : World) (n : Int) (hn : 0 ≤ n ∧ n ≤ 16777216) : Calls Try.prog 7 #[.int .i64 n] w fun e w' => e = .returned (.tuple #[rdv (.slice none 0 0) n (-1) false, .bool true]) ∧ Below w.heap.size w w' := by
  have B1 := vstep w (.cells #[.slice none 0 0, .int .i64 0, .int .i64 0, .bool false] 29)
  have E1 := Lib.hid (RB.new w (.slice none 0 0) 0 0 false)
  obtain ⟨W0, hW0⟩ : ∃ y, w.alloc (.cells #[.slice none 0 0, .int .i64 0, .int .i64 0, .bool false] 29) = y := ⟨_, rfl⟩
  rw [hW0] at B1 E1
  have B := Lib.hid B1
  have HW := Lib.hid hW0
  clear B1 hW0
  have n1 : ¬ n < 0 := by omega
  have n2 : ¬ (16777216 < n) := by omega
  go_enter Try.func7, Try.ntmps7
  go_upto_region 1 with (fail)
  rw [HW.out]
  obtain ⟨e0, e1, e2, e3⟩ := E1.out.cells
  obtain ⟨f0, f1, f2, f3⟩ := E1.out.free
  go_wp2
  clear e0 e1 e2 e3 f0 f1 f2 f3
  obtain ⟨w5, hW5⟩ : ∃ w5, sets4 W0 (w.heap.size) (.slice none 0 0) (.int .i64 (n)) (.int .i64 (-1)) (.bool false) = w5 := ⟨_, rfl⟩
  have hb5 := sets4_row (x' := .slice none 0 0) (y' := n) (z' := -1) (v' := false) E1.out
  have hw5 := sets4_below (x := .slice none 0 0) (y := .int .i64 (n)) (z := .int .i64 (-1)) (v := .bool false) B.out (Nat.le_refl _)
  rw [hW5] at hb5 hw5
  unfold sets4 at hW5
  rw [hW5]
  clear hW5
  obtain ⟨d0, d1, d2, d3⟩ := RB.cells (show RB w5 (w.heap.size) (.slice none 0 0) (n) (-1) false from hb5)
  refine bodyPost_ret (by simp [results, Try.results7, go_sem, d0, d1, d2, d3]; try rfl) rfl ?_
  exact ⟨rfl, hw5⟩
set_option maxHeartbeats 1600000 in
theorem rnew_bad (w : World) (n : Int) (hn : ¬ (0 ≤ n ∧ n ≤ 16777216)) : Calls Try.prog 7 #[.int .i64 n] w fun e w' => e = .returned (.tuple #[rdv (.slice none 0 0) 0 0 false, .bool false]) ∧ Below w.heap.size w w' := by
  have B1 := vstep w (.cells #[.slice none 0 0, .int .i64 0, .int .i64 0, .bool false] 29)
  have E1 := Lib.hid (RB.new w (.slice none 0 0) 0 0 false)
  obtain ⟨W0, hW0⟩ : ∃ y, w.alloc (.cells #[.slice none 0 0, .int .i64 0, .int .i64 0, .bool false] 29) = y := ⟨_, rfl⟩
  rw [hW0] at B1 E1
  have B := Lib.hid B1
  have HW := Lib.hid hW0
  clear B1 hW0
  by_cases n1 : n < 0
  · go_enter Try.func7, Try.ntmps7
    go_upto_region 1 with (fail)
    rw [HW.out]
    obtain ⟨e0, e1, e2, e3⟩ := E1.out.cells
    obtain ⟨f0, f1, f2, f3⟩ := E1.out.free
    go_wp2
    clear e0 e1 e2 e3 f0 f1 f2 f3
    obtain ⟨w5, hW5⟩ : ∃ w5, sets4 W0 (w.heap.size) (.slice none 0 0) (.int .i64 (0)) (.int .i64 (0)) (.bool false) = w5 := ⟨_, rfl⟩
    have hb5 := sets4_row (x' := .slice none 0 0) (y' := 0) (z' := 0) (v' := false) E1.out
    have hw5 := sets4_below (x := .slice none 0 0) (y := .int .i64 (0)) (z := .int .i64 (0)) (v := .bool false) B.out (Nat.le_refl _)
    rw [hW5] at hb5 hw5
    unfold sets4 at hW5
    rw [hW5]
    clear hW5
    obtain ⟨d0, d1, d2, d3⟩ := RB.cells (show RB w5 (w.heap.size) (.slice none 0 0) (0) (0) false from hb5)
    refine bodyPost_ret (by simp [results, Try.results7, go_sem, d0, d1, d2, d3]; try rfl) rfl ?_
    exact ⟨rfl, hw5⟩
  · have n2 : 16777216 < n := by omega
    go_enter Try.func7, Try.ntmps7
    go_upto_region 1 with (fail)
    rw [HW.out]
    obtain ⟨e0, e1, e2, e3⟩ := E1.out.cells
    obtain ⟨f0, f1, f2, f3⟩ := E1.out.free
    go_wp2
    clear e0 e1 e2 e3 f0 f1 f2 f3
    obtain ⟨w5, hW5⟩ : ∃ w5, sets4 W0 (w.heap.size) (.slice none 0 0) (.int .i64 (0)) (.int .i64 (0)) (.bool false) = w5 := ⟨_, rfl⟩
    have hb5 := sets4_row (x' := .slice none 0 0) (y' := 0) (z' := 0) (v' := false) E1.out
    have hw5 := sets4_below (x := .slice none 0 0) (y := .int .i64 (0)) (z := .int .i64 (0)) (v := .bool false) B.out (Nat.le_refl _)
    rw [hW5] at hb5 hw5
    unfold sets4 at hW5
    rw [hW5]
    clear hW5
    obtain ⟨d0, d1, d2, d3⟩ := RB.cells (show RB w5 (w.heap.size) (.slice none 0 0) (0) (0) false from hb5)
    refine bodyPost_ret (by simp [results, Try.results7, go_sem, d0, d1, d2, d3]; try rfl) rfl ?_
    exact ⟨rfl, hw5⟩
/-- A step of the reference's. -/
def rst (lasts : Int) (dn : Bool) : Int × Bool × Bool := if lasts < 0 then (lasts, dn, true) else if lasts = 0 then (lasts, true, false) else (lasts - 1, dn, true)
set_option maxHeartbeats 3200000 in
theorem rstep_any (w : World) (ao : Option Addr) (n c : Nat) (room lasts : Int) (dn : Bool) (hl : lasts ≤ 9223372036854775807) : Calls Try.prog 39 #[rdv (.slice ao n c) room lasts dn] w fun e w' => e = .returned (.tuple #[rdv (.slice ao n c) room (rst lasts dn).1 (rst lasts dn).2.1, .bool (rst lasts dn).2.2]) ∧ Below w.heap.size w w' := by
  unfold rst
  have B1 := vstep w (.cells #[.slice ao n c, .int .i64 room, .int .i64 lasts, .bool dn] 29)
  have B2 := vstep (w.alloc (.cells #[.slice ao n c, .int .i64 room, .int .i64 lasts, .bool dn] 29)) (.cells #[.slice none 0 0, .int .i64 0, .int .i64 0, .bool false] 29)
  have G := Lib.hid ((RB.new w (.slice ao n c) room lasts dn).step B2)
  have E1 := Lib.hid (RB.new (w.alloc (.cells #[.slice ao n c, .int .i64 room, .int .i64 lasts, .bool dn] 29)) (.slice none 0 0) 0 0 false)
  rw [World.size_alloc] at E1
  have B := Lib.hid (B1.trans (B2.mono B1.size))
  obtain ⟨W0, hW0⟩ : ∃ y, (w.alloc (.cells #[.slice ao n c, .int .i64 room, .int .i64 lasts, .bool dn] 29)).alloc (.cells #[.slice none 0 0, .int .i64 0, .int .i64 0, .bool false] 29) = y := ⟨_, rfl⟩
  rw [hW0] at G E1 B
  have HW := Lib.hid hW0
  clear B1 B2 hW0
  by_cases l1 : lasts < 0
  · simp only [l1, if_true]
    go_enter Try.func39, Try.ntmps39
    go_upto_region 1 with (fail)
    rw [HW.out]
    obtain ⟨c0, c1, c2, c3⟩ := G.out.cells
    obtain ⟨h0, h1, h2, h3⟩ := G.out.free
    obtain ⟨e0, e1, e2, e3⟩ := E1.out.cells
    obtain ⟨f0, f1, f2, f3⟩ := E1.out.free
    go_wp2
    clear c0 c1 c2 c3 h0 h1 h2 h3 e0 e1 e2 e3 f0 f1 f2 f3
    obtain ⟨w5, hW5⟩ : ∃ w5, sets4 W0 (w.heap.size + 1) (.slice ao n c) (.int .i64 (room)) (.int .i64 (lasts)) (.bool dn) = w5 := ⟨_, rfl⟩
    have hb5 := sets4_row (x' := .slice ao n c) (y' := room) (z' := lasts) (v' := dn) E1.out
    have hw5 := sets4_below (x := .slice ao n c) (y := .int .i64 (room)) (z := .int .i64 (lasts)) (v := .bool dn) B.out (show w.heap.size ≤ w.heap.size + 1 by omega)
    rw [hW5] at hb5 hw5
    unfold sets4 at hW5
    rw [hW5]
    clear hW5
    obtain ⟨d0, d1, d2, d3⟩ := RB.cells (show RB w5 (w.heap.size + 1) (.slice ao n c) (room) (lasts) dn from hb5)
    refine bodyPost_ret (by simp [results, Try.results39, go_sem, d0, d1, d2, d3]; try rfl) rfl ?_
    exact ⟨rfl, hw5⟩
  · by_cases l2 : lasts = 0
    · subst l2
      simp only [Int.lt_irrefl, if_false, if_true]
      go_enter Try.func39, Try.ntmps39
      go_upto_region 1 with (fail)
      rw [HW.out]
      obtain ⟨c0, c1, c2, c3⟩ := G.out.cells
      obtain ⟨h0, h1, h2, h3⟩ := G.out.free
      obtain ⟨e0, e1, e2, e3⟩ := E1.out.cells
      obtain ⟨f0, f1, f2, f3⟩ := E1.out.free
      go_upto_region 4 with (fail)
      have B3 := Lib.hid (B.out.setCell (p := ⟨w.heap.size, 3, none⟩) (Nat.le_refl _) (.bool true))
      have G3 := Lib.hid (row_setC (j := 3) (u := .bool true) G.out)
      have E3 := Lib.hid (show RB (W0.setCell ⟨w.heap.size, 3, none⟩ (.bool true)) (w.heap.size + 1) (.slice none 0 0) 0 0 false from (heap_setCell_other W0 ⟨w.heap.size, 3, none⟩ (w.heap.size + 1) (.bool true) (by simp)).trans E1.out)
      go_upto_region 5 with (fail)
      obtain ⟨W3, hW3⟩ : ∃ z, W0.setCell ⟨w.heap.size, 3, none⟩ (.bool true) = z := ⟨_, rfl⟩
      rw [hW3] at B3 G3 E3 ⊢
      clear hW3 c0 c1 c2 c3 h0 h1 h2 h3 e0 e1 e2 e3 f0 f1 f2 f3
      obtain ⟨c0, c1, c2, c3⟩ := RB.cells (show RB W3 w.heap.size (.slice ao n c) room (0) true from G3.out)
      obtain ⟨e0, e1, e2, e3⟩ := E3.out.cells
      obtain ⟨f0, f1, f2, f3⟩ := E3.out.free
      go_wp2
      clear c0 c1 c2 c3 e0 e1 e2 e3 f0 f1 f2 f3
      obtain ⟨w5, hW5⟩ : ∃ w5, sets4 W3 (w.heap.size + 1) (.slice ao n c) (.int .i64 (room)) (.int .i64 (0)) (.bool true) = w5 := ⟨_, rfl⟩
      have hb5 := sets4_row (x' := .slice ao n c) (y' := room) (z' := 0) (v' := true) E3.out
      have hw5 := sets4_below (x := .slice ao n c) (y := .int .i64 (room)) (z := .int .i64 (0)) (v := .bool true) B3.out (show w.heap.size ≤ w.heap.size + 1 by omega)
      rw [hW5] at hb5 hw5
      unfold sets4 at hW5
      rw [hW5]
      clear hW5
      obtain ⟨d0, d1, d2, d3⟩ := RB.cells (show RB w5 (w.heap.size + 1) (.slice ao n c) (room) (0) true from hb5)
      refine bodyPost_ret (by simp [results, Try.results39, go_sem, d0, d1, d2, d3]; try rfl) rfl ?_
      exact ⟨rfl, hw5⟩
    · have l3 : (lasts == 0) = false := by simpa using l2
      simp only [l1, l2, if_false]
      go_enter Try.func39, Try.ntmps39
      go_upto_region 1 with (fail)
      rw [HW.out]
      obtain ⟨c0, c1, c2, c3⟩ := G.out.cells
      obtain ⟨h0, h1, h2, h3⟩ := G.out.free
      obtain ⟨e0, e1, e2, e3⟩ := E1.out.cells
      obtain ⟨f0, f1, f2, f3⟩ := E1.out.free
      go_upto_region 6 with (fail)
      have B3 := Lib.hid (B.out.setCell (p := ⟨w.heap.size, 2, none⟩) (Nat.le_refl _) (.int .i64 (lasts - 1)))
      have G3 := Lib.hid (row_setC (j := 2) (u := .int .i64 (lasts - 1)) G.out)
      have E3 := Lib.hid (show RB (W0.setCell ⟨w.heap.size, 2, none⟩ (.int .i64 (lasts - 1))) (w.heap.size + 1) (.slice none 0 0) 0 0 false from (heap_setCell_other W0 ⟨w.heap.size, 2, none⟩ (w.heap.size + 1) (.int .i64 (lasts - 1)) (by simp)).trans E1.out)
      go_upto_region 7 with (fail)
      obtain ⟨W3, hW3⟩ : ∃ z, W0.setCell ⟨w.heap.size, 2, none⟩ (.int .i64 (lasts - 1)) = z := ⟨_, rfl⟩
      rw [hW3] at B3 G3 E3 ⊢
      clear hW3 c0 c1 c2 c3 h0 h1 h2 h3 e0 e1 e2 e3 f0 f1 f2 f3
      obtain ⟨c0, c1, c2, c3⟩ := RB.cells (show RB W3 w.heap.size (.slice ao n c) room (lasts - 1) dn from G3.out)
      obtain ⟨e0, e1, e2, e3⟩ := E3.out.cells
      obtain ⟨f0, f1, f2, f3⟩ := E3.out.free
      go_wp2
      clear c0 c1 c2 c3 e0 e1 e2 e3 f0 f1 f2 f3
      obtain ⟨w5, hW5⟩ : ∃ w5, sets4 W3 (w.heap.size + 1) (.slice ao n c) (.int .i64 (room)) (.int .i64 (lasts - 1)) (.bool dn) = w5 := ⟨_, rfl⟩
      have hb5 := sets4_row (x' := .slice ao n c) (y' := room) (z' := lasts - 1) (v' := dn) E3.out
      have hw5 := sets4_below (x := .slice ao n c) (y := .int .i64 (room)) (z := .int .i64 (lasts - 1)) (v := .bool dn) B3.out (show w.heap.size ≤ w.heap.size + 1 by omega)
      rw [hW5] at hb5 hw5
      unfold sets4 at hW5
      rw [hW5]
      clear hW5
      obtain ⟨d0, d1, d2, d3⟩ := RB.cells (show RB w5 (w.heap.size + 1) (.slice ao n c) (room) (lasts - 1) dn from hb5)
      refine bodyPost_ret (by simp [results, Try.results39, go_sem, d0, d1, d2, d3]; try rfl) rfl ?_
      exact ⟨rfl, hw5⟩
def usedR (l : List Fl) : Nat := usedF l
set_option maxHeartbeats 3200000 in
theorem rused_any (w : World) (v : Value) (l : List Fl) (room lasts : Int) (dn : Bool) (h : RD w v l) (hl : l.length ≤ 100000) (hu : usedF l ≤ 100000000) :
    Calls Try.prog 30 #[rdv v room lasts dn] w fun e w' => e = .returned (.int .i64 (usedF l : Int)) ∧ Below w.heap.size w w' := by
  have B1 := vstep w (.cells #[v, .int .i64 room, .int .i64 lasts, .bool dn] 29)
  have L := Lib.hid (h.step B1)
  have G := Lib.hid (RB.new w v room lasts dn)
  obtain ⟨W0, hW0⟩ : ∃ y, w.alloc (.cells #[v, .int .i64 room, .int .i64 lasts, .bool dn] 29) = y := ⟨_, rfl⟩
  rw [hW0] at L G B1
  have HW := Lib.hid hW0
  have B := Lib.hid B1
  obtain ⟨ao, cap, rfl⟩ := h.1.shape
  have hlm := h.1.len
  have HU := Lib.hid hu
  obtain ⟨res, hres⟩ : ∃ y, usedF l = y := ⟨_, rfl⟩
  rw [hres]
  have HR := Lib.hid hres
  clear h hW0 B1 hres hu
  go_enter Try.func30, Try.ntmps30
  go_upto_region 1 with (fail)
  rw [HW.out]
  obtain ⟨c0, c1, c2, c3⟩ := G.out.cells
  clear c1 c2 c3
  go_wp2_with fail
  go_loopw [3, 4] (fun nv kv wr => ∃ i : Nat, kv = .int .i64 i ∧ nv = .int .i64 (usedF (l.take i) : Int) ∧ i ≤ l.length ∧ Hid (wr = W0)) (fun _ kv _ => l.length - (intOf kv).toNat)
  case atStart => exact ⟨0, rfl, rfl, Nat.zero_le _, Lib.hid rfl⟩
  case round =>
    obtain ⟨i, rfl, rfl, hi, hK⟩ := hrel
    obtain rfl := hK.out
    clear hK
    by_cases hlt : i < l.length
    · obtain ⟨g, o, x, rfl, hx, hg, a0, a1, a2⟩ := rec_at L.out.1 hlt
      have e : l.take (i + 1) = l.take i ++ [x] := by rw [List.take_add_one, hx]; rfl
      have NX := Lib.hid (show usedF (l.take (i + 1)) = usedF (l.take i) + x.b.length from by rw [e, usedF_snoc])
      have le : usedF (l.take i) + x.b.length ≤ 100000000 := by
        have h1 : usedF (l.take (i + 1)) + usedF (l.drop (i + 1)) = usedF l := by
          unfold usedF
          rw [← List.sum_append, ← List.map_append, List.take_append_drop]
        have := HU.out
        have := NX.out
        omega
      obtain ⟨u, hu⟩ : ∃ u, usedF (l.take i) = u := ⟨_, rfl⟩
      obtain ⟨bl, hbl⟩ : ∃ bl, x.b.length = bl := ⟨_, rfl⟩
      rw [hu, hbl] at NX le
      rw [hbl] at a1
      rw [hu]
      clear hx e hu hbl a0 a2
      go_wp2
      go_roundw
      case rel => exact ⟨i + 1, by go_num, by rw [NX.out]; go_num, by omega, Lib.hid (by first | rfl | trivial)⟩
      case measure => simp [intOf]; omega
    · have hge : ¬ ((i : Int) < (l.length : Int)) := by omega
      have hie : l.take i = l := List.take_of_length_le (by omega)
      have EQ := Lib.hid (show usedF (l.take i) = res from by rw [hie]; exact HR.out)
      obtain ⟨u, hu⟩ : ∃ u, usedF (l.take i) = u := ⟨_, rfl⟩
      rw [hu] at EQ ⊢
      clear hu hie
      go_wp2
      go_returns
      exact ⟨by rw [EQ.out]; rfl, B.out⟩
end Go.Proofs.Ytoddofcmdbifpaa
