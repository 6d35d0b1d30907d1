/- path.like of one letter and a question mark. -/
import Derived.Test.YtgiiddcjepjgcaaDoorPG
import Derived.Laws.RangeString
import Derived.Laws.RangeAny
import Derived.LoopN
set_option linter.unusedVariables false
namespace Go.Proofs.YtgiiddcjepjgcaaDoor
open Go.RowKit

set_option maxRecDepth 100000 in
set_option maxHeartbeats 800000 in
theorem rest_97 (w : World) (s : ByteArray) (hs : s = ⟨#[97]⟩) : Calls Tryd.prog 44 #[.string s] w fun e w' => e = .returned (.string ⟨#[]⟩) ∧ Below w.heap.size w w' := by
  subst hs
  have hn0 : ∀ ty, (Instr.next (.pointer (some ⟨w.heap.size, 0, none⟩)) true ty).run Tryd.prog (w.iter ⟨#[97]⟩ 0) = .ok (.tuple #[.bool true, .int .i64 0, .int .i32 97]) (w.iter ⟨#[97]⟩ 1) := fun ty => run_next_ascii (P := Tryd.prog) w ⟨#[97]⟩ 0 ty (by decide) (by decide)
  have hn1 := fun ty => run_next_end (P := Tryd.prog) w ⟨#[97]⟩ 1 ty (by decide)
  go_enter Tryd.func44, Tryd.ntmps44
  go_wp2
  refine wp_loop_rounds 2 ?_
  rw [rounds_succ]
  go_wp2
  rw [rounds_succ]
  go_wp2
  go_returns
  exact ⟨rfl, (Below.refl _ _).alloc (Nat.le_refl _) _⟩
set_option maxRecDepth 100000 in
set_option maxHeartbeats 3200000 in
theorem oneletter_97 (w : World) (B : Nat) (ev : Value) (h : w.ownsRow B 4 1 ev 2 (rowB 2 (fun i => i == 0))) :
    Calls Tryd.prog 35 #[.string ⟨#[97]⟩, ev] w fun e w' => ∃ r, e = .returned r ∧ w'.ownsRow w.heap.size 4 1 r 2 (rowB 2 (fun i => i == 1)) ∧ Below w.heap.size w w' := by
  obtain ⟨ge, ce, rfl, hBe, hge, hce⟩ := own_bool h (by omega)
  have c0 : w.cell? ⟨ge, 0, none⟩ = some (.bool true) := (hce 0 (by omega)).1
  have hmk : ∀ W : World, (Instr.makeSlice 40 (.int .i64 2) (.int .i64 2)).run Tryd.prog W = .ok (.slice (some ⟨W.heap.size, 0, none⟩) 2 2) (W.alloc (.cells (madeCells #[.bool false] 2) 4)) := fun W => run_make_row' (P := Tryd.prog) 40 4 (.bool false) 1 Tryd.underlying40 info4 rfl .i64 .i64 2 (by omega) (by omega) W
  have MO := Lib.hid (made_own w 2 (by omega))
  have BA := Lib.hid (show Below w.heap.size w (w.alloc (.cells (madeCells #[.bool false] 2) 4)) from vstep w _)
  obtain ⟨W1, hW1⟩ : ∃ y, w.alloc (.cells (madeCells #[.bool false] 2) 4) = y := ⟨_, rfl⟩
  rw [hW1] at MO BA
  have HW1 := Lib.hid hW1
  have HGE := Lib.hid hge
  have RC := Lib.hid (rest_97 W1)
  have C0 := Lib.hid ((BA.out.cell (p := ⟨ge, 0, none⟩) hge).trans c0)
  clear hW1 hce h hBe hge c0
  go_enter Tryd.func35, Tryd.ntmps35
  go_upto_region 2 with (fail)
  rw [HW1.out]
  clear hmk
  have c0 := C0.out
  go_wp2
  refine wp_loop_rounds 2 ?_
  rw [rounds_succ]
  go_wp2_with fail
  refine (RC.out _ rfl).mono ?_
  rintro e w2 ⟨rfl, hb⟩
  obtain ⟨g2, c2, hv, _, hg2, hc2⟩ := own_bool (own_kept MO.out hb) (by omega)
  injection hv with hv1 _ hv3
  injection hv1 with hv1
  injection hv1 with hv1
  subst hv1 hv3
  obtain ⟨e0, f0, st⟩ := hc2 1 (by omega)
  have FIN := Lib.hid (show (w2.setCell ⟨w.heap.size, 1, none⟩ (.bool true)).ownsRow w.heap.size 4 1 (.slice (some ⟨w.heap.size, 0, none⟩) 2 2) 2 (rowB 2 (fun i => i == 1)) from by
    have := st true
    rwa [rowB_congr (f := updB (fun _ => false) 1 true) (g := fun i => i == 1) (fun i hi => by
      match i, hi with
      | 0, _ => rfl
      | 1, _ => rfl)] at this)
  have BEL := Lib.hid (show Below w.heap.size w (w2.setCell ⟨w.heap.size, 1, none⟩ (.bool true)) from (BA.out.trans (hb.mono BA.out.size)).setCell (p := ⟨w.heap.size, 1, none⟩) (Nat.le_refl _) _)
  clear hb hc2 st hg2
  go_wp2
  rw [rounds_succ]
  go_wp2
  go_returns
  exact ⟨_, rfl, FIN.out, BEL.out⟩
set_option maxRecDepth 100000 in
set_option maxHeartbeats 3200000 in
theorem like_q97 (w : World) : Calls Tryd.prog 26 #[.string ⟨#[97]⟩, .string ⟨#[63]⟩] w fun e w' => e = .returned (.bool true) ∧ Below w.heap.size w w' := by
  have ST := Lib.hid (start_any w 1 (by omega))
  go_enter Tryd.func26, Tryd.ntmps26
  go_wp2_with fail
  refine ST.out.mono ?_
  rintro e w1 ⟨r, rfl, ho, hb⟩
  have OL := Lib.hid (oneletter_97 w1 w.heap.size r ho)
  have B1 := Lib.hid hb
  clear ho hb
  go_wp2_with fail
  refine wp_loop_rounds 2 ?_
  rw [rounds_succ]
  go_wp2_with fail
  refine OL.out.mono ?_
  rintro e w2 ⟨r2, rfl, ho, hb⟩
  obtain ⟨g, cap, rfl, _, _, hc⟩ := own_bool ho (by omega)
  have hcl := (hc 1 (by omega)).1
  have B2 := Lib.hid (B1.out.trans (hb.mono B1.out.size))
  clear hc ho hb
  go_wp2_with fail
  rw [rounds_succ]
  go_wp2
  go_returns
  exact ⟨rfl, B2.out⟩
set_option maxRecDepth 100000 in
set_option maxHeartbeats 800000 in
theorem rest_98 (w : World) (s : ByteArray) (hs : s = ⟨#[98]⟩) : Calls Tryd.prog 44 #[.string s] w fun e w' => e = .returned (.string ⟨#[]⟩) ∧ Below w.heap.size w w' := by
  subst hs
  have hn0 : ∀ ty, (Instr.next (.pointer (some ⟨w.heap.size, 0, none⟩)) true ty).run Tryd.prog (w.iter ⟨#[98]⟩ 0) = .ok (.tuple #[.bool true, .int .i64 0, .int .i32 98]) (w.iter ⟨#[98]⟩ 1) := fun ty => run_next_ascii (P := Tryd.prog) w ⟨#[98]⟩ 0 ty (by decide) (by decide)
  have hn1 := fun ty => run_next_end (P := Tryd.prog) w ⟨#[98]⟩ 1 ty (by decide)
  go_enter Tryd.func44, Tryd.ntmps44
  go_wp2
  refine wp_loop_rounds 2 ?_
  rw [rounds_succ]
  go_wp2
  rw [rounds_succ]
  go_wp2
  go_returns
  exact ⟨rfl, (Below.refl _ _).alloc (Nat.le_refl _) _⟩
set_option maxRecDepth 100000 in
set_option maxHeartbeats 3200000 in
theorem oneletter_98 (w : World) (B : Nat) (ev : Value) (h : w.ownsRow B 4 1 ev 2 (rowB 2 (fun i => i == 0))) :
    Calls Tryd.prog 35 #[.string ⟨#[98]⟩, ev] w fun e w' => ∃ r, e = .returned r ∧ w'.ownsRow w.heap.size 4 1 r 2 (rowB 2 (fun i => i == 1)) ∧ Below w.heap.size w w' := by
  obtain ⟨ge, ce, rfl, hBe, hge, hce⟩ := own_bool h (by omega)
  have c0 : w.cell? ⟨ge, 0, none⟩ = some (.bool true) := (hce 0 (by omega)).1
  have hmk : ∀ W : World, (Instr.makeSlice 40 (.int .i64 2) (.int .i64 2)).run Tryd.prog W = .ok (.slice (some ⟨W.heap.size, 0, none⟩) 2 2) (W.alloc (.cells (madeCells #[.bool false] 2) 4)) := fun W => run_make_row' (P := Tryd.prog) 40 4 (.bool false) 1 Tryd.underlying40 info4 rfl .i64 .i64 2 (by omega) (by omega) W
  have MO := Lib.hid (made_own w 2 (by omega))
  have BA := Lib.hid (show Below w.heap.size w (w.alloc (.cells (madeCells #[.bool false] 2) 4)) from vstep w _)
  obtain ⟨W1, hW1⟩ : ∃ y, w.alloc (.cells (madeCells #[.bool false] 2) 4) = y := ⟨_, rfl⟩
  rw [hW1] at MO BA
  have HW1 := Lib.hid hW1
  have HGE := Lib.hid hge
  have RC := Lib.hid (rest_98 W1)
  have C0 := Lib.hid ((BA.out.cell (p := ⟨ge, 0, none⟩) hge).trans c0)
  clear hW1 hce h hBe hge c0
  go_enter Tryd.func35, Tryd.ntmps35
  go_upto_region 2 with (fail)
  rw [HW1.out]
  clear hmk
  have c0 := C0.out
  go_wp2
  refine wp_loop_rounds 2 ?_
  rw [rounds_succ]
  go_wp2_with fail
  refine (RC.out _ rfl).mono ?_
  rintro e w2 ⟨rfl, hb⟩
  obtain ⟨g2, c2, hv, _, hg2, hc2⟩ := own_bool (own_kept MO.out hb) (by omega)
  injection hv with hv1 _ hv3
  injection hv1 with hv1
  injection hv1 with hv1
  subst hv1 hv3
  obtain ⟨e0, f0, st⟩ := hc2 1 (by omega)
  have FIN := Lib.hid (show (w2.setCell ⟨w.heap.size, 1, none⟩ (.bool true)).ownsRow w.heap.size 4 1 (.slice (some ⟨w.heap.size, 0, none⟩) 2 2) 2 (rowB 2 (fun i => i == 1)) from by
    have := st true
    rwa [rowB_congr (f := updB (fun _ => false) 1 true) (g := fun i => i == 1) (fun i hi => by
      match i, hi with
      | 0, _ => rfl
      | 1, _ => rfl)] at this)
  have BEL := Lib.hid (show Below w.heap.size w (w2.setCell ⟨w.heap.size, 1, none⟩ (.bool true)) from (BA.out.trans (hb.mono BA.out.size)).setCell (p := ⟨w.heap.size, 1, none⟩) (Nat.le_refl _) _)
  clear hb hc2 st hg2
  go_wp2
  rw [rounds_succ]
  go_wp2
  go_returns
  exact ⟨_, rfl, FIN.out, BEL.out⟩
set_option maxRecDepth 100000 in
set_option maxHeartbeats 3200000 in
theorem like_q98 (w : World) : Calls Tryd.prog 26 #[.string ⟨#[98]⟩, .string ⟨#[63]⟩] w fun e w' => e = .returned (.bool true) ∧ Below w.heap.size w w' := by
  have ST := Lib.hid (start_any w 1 (by omega))
  go_enter Tryd.func26, Tryd.ntmps26
  go_wp2_with fail
  refine ST.out.mono ?_
  rintro e w1 ⟨r, rfl, ho, hb⟩
  have OL := Lib.hid (oneletter_98 w1 w.heap.size r ho)
  have B1 := Lib.hid hb
  clear ho hb
  go_wp2_with fail
  refine wp_loop_rounds 2 ?_
  rw [rounds_succ]
  go_wp2_with fail
  refine OL.out.mono ?_
  rintro e w2 ⟨r2, rfl, ho, hb⟩
  obtain ⟨g, cap, rfl, _, _, hc⟩ := own_bool ho (by omega)
  have hcl := (hc 1 (by omega)).1
  have B2 := Lib.hid (B1.out.trans (hb.mono B1.out.size))
  clear hc ho hb
  go_wp2_with fail
  rw [rounds_succ]
  go_wp2
  go_returns
  exact ⟨rfl, B2.out⟩
set_option maxRecDepth 100000 in
set_option maxHeartbeats 800000 in
theorem rest_99 (w : World) (s : ByteArray) (hs : s = ⟨#[99]⟩) : Calls Tryd.prog 44 #[.string s] w fun e w' => e = .returned (.string ⟨#[]⟩) ∧ Below w.heap.size w w' := by
  subst hs
  have hn0 : ∀ ty, (Instr.next (.pointer (some ⟨w.heap.size, 0, none⟩)) true ty).run Tryd.prog (w.iter ⟨#[99]⟩ 0) = .ok (.tuple #[.bool true, .int .i64 0, .int .i32 99]) (w.iter ⟨#[99]⟩ 1) := fun ty => run_next_ascii (P := Tryd.prog) w ⟨#[99]⟩ 0 ty (by decide) (by decide)
  have hn1 := fun ty => run_next_end (P := Tryd.prog) w ⟨#[99]⟩ 1 ty (by decide)
  go_enter Tryd.func44, Tryd.ntmps44
  go_wp2
  refine wp_loop_rounds 2 ?_
  rw [rounds_succ]
  go_wp2
  rw [rounds_succ]
  go_wp2
  go_returns
  exact ⟨rfl, (Below.refl _ _).alloc (Nat.le_refl _) _⟩
set_option maxRecDepth 100000 in
set_option maxHeartbeats 3200000 in
theorem oneletter_99 (w : World) (B : Nat) (ev : Value) (h : w.ownsRow B 4 1 ev 2 (rowB 2 (fun i => i == 0))) :
    Calls Tryd.prog 35 #[.string ⟨#[99]⟩, ev] w fun e w' => ∃ r, e = .returned r ∧ w'.ownsRow w.heap.size 4 1 r 2 (rowB 2 (fun i => i == 1)) ∧ Below w.heap.size w w' := by
  obtain ⟨ge, ce, rfl, hBe, hge, hce⟩ := own_bool h (by omega)
  have c0 : w.cell? ⟨ge, 0, none⟩ = some (.bool true) := (hce 0 (by omega)).1
  have hmk : ∀ W : World, (Instr.makeSlice 40 (.int .i64 2) (.int .i64 2)).run Tryd.prog W = .ok (.slice (some ⟨W.heap.size, 0, none⟩) 2 2) (W.alloc (.cells (madeCells #[.bool false] 2) 4)) := fun W => run_make_row' (P := Tryd.prog) 40 4 (.bool false) 1 Tryd.underlying40 info4 rfl .i64 .i64 2 (by omega) (by omega) W
  have MO := Lib.hid (made_own w 2 (by omega))
  have BA := Lib.hid (show Below w.heap.size w (w.alloc (.cells (madeCells #[.bool false] 2) 4)) from vstep w _)
  obtain ⟨W1, hW1⟩ : ∃ y, w.alloc (.cells (madeCells #[.bool false] 2) 4) = y := ⟨_, rfl⟩
  rw [hW1] at MO BA
  have HW1 := Lib.hid hW1
  have HGE := Lib.hid hge
  have RC := Lib.hid (rest_99 W1)
  have C0 := Lib.hid ((BA.out.cell (p := ⟨ge, 0, none⟩) hge).trans c0)
  clear hW1 hce h hBe hge c0
  go_enter Tryd.func35, Tryd.ntmps35
  go_upto_region 2 with (fail)
  rw [HW1.out]
  clear hmk
  have c0 := C0.out
  go_wp2
  refine wp_loop_rounds 2 ?_
  rw [rounds_succ]
  go_wp2_with fail
  refine (RC.out _ rfl).mono ?_
  rintro e w2 ⟨rfl, hb⟩
  obtain ⟨g2, c2, hv, _, hg2, hc2⟩ := own_bool (own_kept MO.out hb) (by omega)
  injection hv with hv1 _ hv3
  injection hv1 with hv1
  injection hv1 with hv1
  subst hv1 hv3
  obtain ⟨e0, f0, st⟩ := hc2 1 (by omega)
  have FIN := Lib.hid (show (w2.setCell ⟨w.heap.size, 1, none⟩ (.bool true)).ownsRow w.heap.size 4 1 (.slice (some ⟨w.heap.size, 0, none⟩) 2 2) 2 (rowB 2 (fun i => i == 1)) from by
    have := st true
    rwa [rowB_congr (f := updB (fun _ => false) 1 true) (g := fun i => i == 1) (fun i hi => by
      match i, hi with
      | 0, _ => rfl
      | 1, _ => rfl)] at this)
  have BEL := Lib.hid (show Below w.heap.size w (w2.setCell ⟨w.heap.size, 1, none⟩ (.bool true)) from (BA.out.trans (hb.mono BA.out.size)).setCell (p := ⟨w.heap.size, 1, none⟩) (Nat.le_refl _) _)
  clear hb hc2 st hg2
  go_wp2
  rw [rounds_succ]
  go_wp2
  go_returns
  exact ⟨_, rfl, FIN.out, BEL.out⟩
set_option maxRecDepth 100000 in
set_option maxHeartbeats 3200000 in
theorem like_q99 (w : World) : Calls Tryd.prog 26 #[.string ⟨#[99]⟩, .string ⟨#[63]⟩] w fun e w' => e = .returned (.bool true) ∧ Below w.heap.size w w' := by
  have ST := Lib.hid (start_any w 1 (by omega))
  go_enter Tryd.func26, Tryd.ntmps26
  go_wp2_with fail
  refine ST.out.mono ?_
  rintro e w1 ⟨r, rfl, ho, hb⟩
  have OL := Lib.hid (oneletter_99 w1 w.heap.size r ho)
  have B1 := Lib.hid hb
  clear ho hb
  go_wp2_with fail
  refine wp_loop_rounds 2 ?_
  rw [rounds_succ]
  go_wp2_with fail
  refine OL.out.mono ?_
  rintro e w2 ⟨r2, rfl, ho, hb⟩
  obtain ⟨g, cap, rfl, _, _, hc⟩ := own_bool ho (by omega)
  have hcl := (hc 1 (by omega)).1
  have B2 := Lib.hid (B1.out.trans (hb.mono B1.out.size))
  clear hc ho hb
  go_wp2_with fail
  rw [rounds_succ]
  go_wp2
  go_returns
  exact ⟨rfl, B2.out⟩
end Go.Proofs.YtgiiddcjepjgcaaDoor
