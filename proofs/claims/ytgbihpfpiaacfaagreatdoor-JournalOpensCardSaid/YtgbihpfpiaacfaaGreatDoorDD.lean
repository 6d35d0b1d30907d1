/- A disk: take, step, find, first, Clone, Read. -/
import Derived.Test.YtgbihpfpiaacfaaGreatDoorDC
import Derived.Test.YtgbihpfpiaacfaaGreatDoorRk
set_option linter.unusedVariables false
set_option linter.unusedSimpArgs false
set_option maxRecDepth 100000
namespace Go.Proofs.YtgbihpfpiaacfaaGreatDoor
open Go.RowKit Go.WideMaps Go.Maps

def tk (s : DS) (n : Int) : Int := if s.ar = true then min n s.lf else n
def aft (s : DS) (n : Int) : DS := if s.ar = true then { s with lf := s.lf - tk s n, dn := decide (tk s n < n) } else s
theorem info_parts {P : Program} {t : TypeId} {z : Value} {n b : Nat} (h : (P.info? t).map (fun i => (i.zero, i.size, i.bytes)) = some (some z, n, b)) : ∃ i, P.info? t = some i ∧ i.zero = some z ∧ i.size = n ∧ i.bytes = b := by
  cases hi : P.info? t with
  | none => rw [hi] at h; simp at h
  | some i =>
    rw [hi] at h
    simp at h
    exact ⟨i, rfl, h.1, h.2.1, h.2.2⟩
theorem info5 : (Tryz.prog.info? 5).map (fun i => (i.zero, i.size, i.bytes)) = some (some (.int .u8 0), 1, 1) := by kernel_rfl
theorem Tryz.u33 : Tryz.prog.underlying 39 = some (.slice 5) := by kernel_rfl
set_option maxHeartbeats 1600000 in
theorem take_any (w : World) (B d : Nat) (s : DS) (h : DK w B d s) (n : Int) (hn : 0 ≤ n ∧ n ≤ 1000000000) : Calls Tryz.prog 49 #[pv d, .int .i64 n] w fun e w' => e = .returned (.int .i64 (tk s n)) ∧ Out B d s (aft s n) w w' := by
  obtain ⟨c0, c1, c2, c3, c4⟩ := h.cells
  have f3 := h.free 3
  have f4 := h.free 4
  have H := Lib.hid h
  have L := Lib.hid h.left
  clear h c0 c1
  unfold aft tk
  cases ha : s.ar <;> rw [ha] at c2
  · go_enter Tryz.func49, Tryz.ntmps49
    go_wp2
    go_returns
    exact ⟨rfl, Out.refl H.out⟩
  · obtain ⟨l1, l2, l3⟩ := L.out
    have l3 := l3 ha
    simp only [if_true]
    go_enter Tryz.func49, Tryz.ntmps49
    go_wp2
    go_returns
    refine ⟨rfl, ?_⟩
    have r1 := row_setC (j := 3) (u := .int .i64 (s.lf - min n s.lf)) H.out.box
    have r2 := row_setC (j := 4) (u := .bool (decide (min n s.lf < n))) r1
    have m1 : min n s.lf ≤ s.lf := Int.min_le_right _ _
    have m2 : 0 ≤ min n s.lf := Int.le_min.2 ⟨hn.1, l3⟩
    refine Out.boxed H.out ((far_set w d 3 _).trans (far_set _ d 4 _) (fun k _ q => q)) ?_ rfl rfl rfl ⟨?_, ?_, fun _ => ?_⟩
    · rw [r2, ha]; rfl
    · dsimp only; omega
    · dsimp only; omega
    · dsimp only; omega
theorem step_any (w : World) (B d : Nat) (s : DS) (h : DK w B d s) : Calls Tryz.prog 48 #[pv d] w fun e w' => e = .returned (.int .i64 (if tk s 1 < 1 then 12 else 0)) ∧ Out B d s (aft s 1) w w' := by
  have T := Lib.hid (take_any w B d s h 1 ⟨by omega, by omega⟩)
  clear h
  generalize tk s 1 = z at *
  by_cases hz : z < 1
  · rw [if_pos hz]
    go_enter Tryz.func48, Tryz.ntmps48
    go_wp2_with fail
    refine T.out.mono ?_
    rintro e w1 ⟨rfl, ho⟩
    have O := Lib.hid ho
    clear ho
    go_wp2
    go_returns
    exact ⟨rfl, O.out⟩
  · rw [if_neg hz]
    go_enter Tryz.func48, Tryz.ntmps48
    go_wp2_with fail
    refine T.out.mono ?_
    rintro e w1 ⟨rfl, ho⟩
    have O := Lib.hid ho
    clear ho
    go_wp2
    go_returns
    exact ⟨rfl, O.out⟩
/-- What find tells. -/
def fnd (s : DS) (nm : ByteArray) : Int := if s.dn = true then 12 else if (getF s.l nm).isSome = true then 0 else 8
def fval (s : DS) (nm : ByteArray) : Fl := if s.dn = true then ⟨nm, none, 0, [], 0⟩ else (getF s.l nm).getD ⟨nm, none, 0, [], 0⟩
set_option maxHeartbeats 1600000 in
theorem find_dn (w : World) (B d : Nat) (s : DS) (h : DK w B d s) (nm : ByteArray) (hd : s.dn = true) :
    Calls Tryz.prog 47 #[pv d, .string nm] w fun e w' => e = .returned (.tuple #[f0v, .int .i64 12]) ∧ Below w.heap.size w w' := by
  have B1 := vstep w (.cells #[.slice none 0 0, .int .i64 0] 82)
  have E1 := Lib.hid (FB.new w (.slice none 0 0) 0)
  have H1 := Lib.hid (h.step B1)
  obtain ⟨W0, hW0⟩ : ∃ y, w.alloc (.cells #[.slice none 0 0, .int .i64 0] 82) = y := ⟨_, rfl⟩
  rw [hW0] at B1 E1 H1
  have B := Lib.hid B1
  have HW := Lib.hid hW0
  have R := Lib.hid (ready_any W0 _ d s H1.out)
  unfold rdy at R
  rw [hd] at R
  clear B1 hW0 h hd
  go_enter Tryz.func47, Tryz.ntmps47
  go_upto_region 1 with (fail)
  rw [HW.out]
  go_wp2_with fail
  refine R.out.mono ?_
  rintro e w1 ⟨rfl, rfl⟩
  obtain ⟨e0, e1⟩ := E1.out.cells
  obtain ⟨f0, f1⟩ := E1.out.free
  go_wp2
  obtain ⟨w5, hW5⟩ : ∃ w5, sets2 W0 w.heap.size (.slice none 0 0) (.int .i64 (0)) = w5 := ⟨_, rfl⟩
  have hb5 := sets2_row (x' := .slice none 0 0) (y' := 0) E1.out
  have hw5 := sets2_below (x := .slice none 0 0) (y := .int .i64 (0)) B.out (Nat.le_refl _)
  rw [hW5] at hb5 hw5
  unfold sets2 at hW5
  rw [hW5]
  clear hW5 e0 e1 f0 f1
  obtain ⟨d0, d1⟩ := FB.cells (show FB w5 w.heap.size (.slice none 0 0) (0) from hb5)
  refine bodyPost_ret (by simp [results, Tryz.results47, go_sem, d0, d1]; try rfl) rfl ?_
  exact ⟨rfl, hw5⟩
set_option maxHeartbeats 1600000 in
theorem find_no (w : World) (B d : Nat) (s : DS) (h : DK w B d s) (nm : ByteArray) (hs : nm.size ≤ maxLen) (hd : s.dn = false) (y : Fl) (hgv : gvF s.l nm = .agg #[.slice y.a y.b.length y.c, .int .i64 y.s]) (hbb : (getF s.l nm).isSome = false) :
    Calls Tryz.prog 47 #[pv d, .string nm] w fun e w' => e = .returned (.tuple #[f0v, .int .i64 8]) ∧ Below w.heap.size w w' := by
  have B1 := vstep w (.cells #[.slice none 0 0, .int .i64 0] 82)
  have E1 := Lib.hid (FB.new w (.slice none 0 0) 0)
  have H1 := Lib.hid (h.step B1)
  obtain ⟨W0, hW0⟩ : ∃ y, w.alloc (.cells #[.slice none 0 0, .int .i64 0] 82) = y := ⟨_, rfl⟩
  rw [hW0] at B1 E1 H1
  have B := Lib.hid B1
  have HW := Lib.hid hW0
  have R := Lib.hid (ready_any W0 _ d s H1.out)
  unfold rdy at R
  rw [hd] at R
  obtain ⟨c0, c1, c2, c3, c4⟩ := H1.out.cells
  have L := Lib.hid (H1.out.look hs)
  rw [hgv, hbb] at L
  have B2 := vstep W0 (.cells #[.slice y.a y.b.length y.c, .int .i64 y.s] 82)
  have G := Lib.hid (FB.new W0 (.slice y.a y.b.length y.c) y.s)
  have E2 := Lib.hid (E1.out.step B2)
  obtain ⟨W2, hW2⟩ : ∃ z, W0.alloc (.cells #[.slice y.a y.b.length y.c, .int .i64 y.s] 82) = z := ⟨_, rfl⟩
  rw [hW2] at B2 G E2
  have HW2 := Lib.hid hW2
  have BB := Lib.hid (B.out.trans (B2.mono B.out.size))
  clear c0 c2 c3 c4 hW2 B2
  clear B1 hW0 h hd hgv hbb hs
  go_enter Tryz.func47, Tryz.ntmps47
  go_upto_region 1 with (fail)
  rw [HW.out]
  go_wp2_with fail
  refine R.out.mono ?_
  rintro e w1 ⟨rfl, rfl⟩
  go_upto_region 5 with (refine wpList_look rfl (.tmp 19) (.tmp 20) true rfl (.map s.m) (.string nm) (.tuple #[.agg #[.slice y.a y.b.length y.c, .int .i64 y.s], .bool false]) rfl rfl L.out ?_)
  rw [HW2.out]
  obtain ⟨e0, e1⟩ := E2.out.cells
  obtain ⟨f0, f1⟩ := E2.out.free
  obtain ⟨g0, g1⟩ := G.out.cells
  go_wp2
  obtain ⟨w5, hW5⟩ : ∃ w5, sets2 W2 w.heap.size (.slice none 0 0) (.int .i64 (0)) = w5 := ⟨_, rfl⟩
  have hb5 := sets2_row (x' := .slice none 0 0) (y' := 0) E2.out
  have hw5 := sets2_below (x := .slice none 0 0) (y := .int .i64 (0)) BB.out (Nat.le_refl _)
  rw [hW5] at hb5 hw5
  unfold sets2 at hW5
  rw [hW5]
  clear hW5 e0 e1 f0 f1
  obtain ⟨d0, d1⟩ := FB.cells (show FB w5 w.heap.size (.slice none 0 0) (0) from hb5)
  refine bodyPost_ret (by simp [results, Tryz.results47, go_sem, d0, d1]; try rfl) rfl ?_
  exact ⟨rfl, hw5⟩
set_option maxHeartbeats 1600000 in
theorem find_up (w : World) (B d : Nat) (s : DS) (h : DK w B d s) (nm : ByteArray) (hs : nm.size ≤ maxLen) (hd : s.dn = false) (y : Fl) (hgv : gvF s.l nm = .agg #[.slice y.a y.b.length y.c, .int .i64 y.s]) (hbb : (getF s.l nm).isSome = true) :
    Calls Tryz.prog 47 #[pv d, .string nm] w fun e w' => e = .returned (.tuple #[fv y, .int .i64 0]) ∧ Below w.heap.size w w' := by
  have B1 := vstep w (.cells #[.slice none 0 0, .int .i64 0] 82)
  have E1 := Lib.hid (FB.new w (.slice none 0 0) 0)
  have H1 := Lib.hid (h.step B1)
  obtain ⟨W0, hW0⟩ : ∃ y, w.alloc (.cells #[.slice none 0 0, .int .i64 0] 82) = y := ⟨_, rfl⟩
  rw [hW0] at B1 E1 H1
  have B := Lib.hid B1
  have HW := Lib.hid hW0
  have R := Lib.hid (ready_any W0 _ d s H1.out)
  unfold rdy at R
  rw [hd] at R
  obtain ⟨c0, c1, c2, c3, c4⟩ := H1.out.cells
  have L := Lib.hid (H1.out.look hs)
  rw [hgv, hbb] at L
  have B2 := vstep W0 (.cells #[.slice y.a y.b.length y.c, .int .i64 y.s] 82)
  have G := Lib.hid (FB.new W0 (.slice y.a y.b.length y.c) y.s)
  have E2 := Lib.hid (E1.out.step B2)
  obtain ⟨W2, hW2⟩ : ∃ z, W0.alloc (.cells #[.slice y.a y.b.length y.c, .int .i64 y.s] 82) = z := ⟨_, rfl⟩
  rw [hW2] at B2 G E2
  have HW2 := Lib.hid hW2
  have BB := Lib.hid (B.out.trans (B2.mono B.out.size))
  clear c0 c2 c3 c4 hW2 B2
  clear B1 hW0 h hd hgv hbb hs
  go_enter Tryz.func47, Tryz.ntmps47
  go_upto_region 1 with (fail)
  rw [HW.out]
  go_wp2_with fail
  refine R.out.mono ?_
  rintro e w1 ⟨rfl, rfl⟩
  go_upto_region 5 with (refine wpList_look rfl (.tmp 19) (.tmp 20) true rfl (.map s.m) (.string nm) (.tuple #[.agg #[.slice y.a y.b.length y.c, .int .i64 y.s], .bool true]) rfl rfl L.out ?_)
  rw [HW2.out]
  obtain ⟨e0, e1⟩ := E2.out.cells
  obtain ⟨f0, f1⟩ := E2.out.free
  obtain ⟨g0, g1⟩ := G.out.cells
  go_wp2
  obtain ⟨w5, hW5⟩ : ∃ w5, sets2 W2 w.heap.size (.slice y.a y.b.length y.c) (.int .i64 (y.s)) = w5 := ⟨_, rfl⟩
  have hb5 := sets2_row (x' := .slice y.a y.b.length y.c) (y' := y.s) E2.out
  have hw5 := sets2_below (x := .slice y.a y.b.length y.c) (y := .int .i64 (y.s)) BB.out (Nat.le_refl _)
  rw [hW5] at hb5 hw5
  unfold sets2 at hW5
  rw [hW5]
  clear hW5 e0 e1 f0 f1
  obtain ⟨d0, d1⟩ := FB.cells (show FB w5 w.heap.size (.slice y.a y.b.length y.c) (y.s) from hb5)
  refine bodyPost_ret (by simp [results, Tryz.results47, go_sem, d0, d1]; try rfl) rfl ?_
  exact ⟨rfl, hw5⟩
theorem find_any (w : World) (B d : Nat) (s : DS) (h : DK w B d s) (nm : ByteArray) (hs : nm.size ≤ maxLen) :
    Calls Tryz.prog 47 #[pv d, .string nm] w fun e w' => e = .returned (.tuple #[fv (fval s nm), .int .i64 (fnd s nm)]) ∧ Below w.heap.size w w' := by
  unfold fval fnd
  cases hd : s.dn with
  | true => exact find_dn w B d s h nm hd
  | false =>
    cases hg : getF s.l nm with
    | none => exact find_no w B d s h nm hs hd ⟨nm, none, 0, [], 0⟩ (by unfold gvF; rw [hg]; rfl) (by rw [hg]; rfl)
    | some y => exact find_up w B d s h nm hs hd y (by unfold gvF; rw [hg]) (by rw [hg]; rfl)
end Go.Proofs.YtgbihpfpiaacfaaGreatDoor

