/- Fate's Of; Root, Trash. Made by genfa13.py. -/
import Derived.Test.YtegmlekeielmoaaUD
set_option linter.unusedVariables false
set_option maxRecDepth 100000
namespace Go.Proofs.Ytegmlekeielmoaa
open Go.RowKit Go.WideMaps Go.Maps

theorem ret_i {a b : Int} (h : b = a) : (Ending.returned (.int .i64 a)) = .returned (.int .i64 b) := by rw [h]
theorem root_any (w : World) : Calls Try.prog 41 #[] w fun e w' => e = .returned (.agg #[.int .i64 0, .int .i64 0]) ∧ Below w.heap.size w w' := by
  have S0 := StAt.new w 0 0
  have B0 := vstep w (.cells #[.int .i64 0, .int .i64 0] 24)
  obtain ⟨W0, hW0⟩ : ∃ y, w.alloc (.cells #[.int .i64 0, .int .i64 0] 24) = y := ⟨_, rfl⟩
  rw [hW0] at S0 B0
  have HW := Lib.hid hW0
  clear hW0
  obtain ⟨c0, c1⟩ := S0.cells
  obtain ⟨f0, f1⟩ := S0.free
  have HS := Lib.hid S0
  have HB := Lib.hid B0
  clear S0 B0
  go_enter Try.func41, Try.ntmps41
  go_upto_region 1 with (fail)
  rw [HW.out]
  go_wp2
  obtain ⟨w5, hW5⟩ : ∃ w5, sets2 W0 w.heap.size (.int .i64 0) (.int .i64 0) = w5 := ⟨_, rfl⟩
  have S5 : StAt w5 w.heap.size 0 0 := by
    rw [← hW5]
    exact row_setC (j := 1) (u := .int .i64 0) (row_setC (j := 0) (u := .int .i64 0) HS.out)
  have B5 : Below w.heap.size w w5 := by
    rw [← hW5]
    exact (HB.out.setCell (p := ⟨w.heap.size, 0, none⟩) (Nat.le_refl _) _).setCell (p := ⟨w.heap.size, 1, none⟩) (Nat.le_refl _) _
  unfold sets2 at hW5
  rw [hW5]
  clear hW5 c0 c1 f0 f1
  obtain ⟨d0, d1⟩ := S5.cells
  refine bodyPost_ret (by simp [results, Try.results41, go_sem, d0, d1]; try rfl) rfl ?_
  exact ⟨rfl, B5⟩
theorem trash_any (w : World) : Calls Try.prog 50 #[] w fun e w' => e = .returned (.agg #[.int .i64 0, .int .i64 1]) ∧ Below w.heap.size w w' := by
  have S0 := StAt.new w 0 0
  have B0 := vstep w (.cells #[.int .i64 0, .int .i64 0] 24)
  obtain ⟨W0, hW0⟩ : ∃ y, w.alloc (.cells #[.int .i64 0, .int .i64 0] 24) = y := ⟨_, rfl⟩
  rw [hW0] at S0 B0
  have HW := Lib.hid hW0
  clear hW0
  obtain ⟨c0, c1⟩ := S0.cells
  obtain ⟨f0, f1⟩ := S0.free
  have HS := Lib.hid S0
  have HB := Lib.hid B0
  clear S0 B0
  go_enter Try.func50, Try.ntmps50
  go_upto_region 1 with (fail)
  rw [HW.out]
  go_wp2
  obtain ⟨w5, hW5⟩ : ∃ w5, sets2 W0 w.heap.size (.int .i64 0) (.int .i64 1) = w5 := ⟨_, rfl⟩
  have S5 : StAt w5 w.heap.size 0 1 := by
    rw [← hW5]
    exact row_setC (j := 1) (u := .int .i64 1) (row_setC (j := 0) (u := .int .i64 0) HS.out)
  have B5 : Below w.heap.size w w5 := by
    rw [← hW5]
    exact (HB.out.setCell (p := ⟨w.heap.size, 0, none⟩) (Nat.le_refl _) _).setCell (p := ⟨w.heap.size, 1, none⟩) (Nat.le_refl _) _
  unfold sets2 at hW5
  rw [hW5]
  clear hW5 c0 c1 f0 f1
  obtain ⟨d0, d1⟩ := S5.cells
  refine bodyPost_ret (by simp [results, Try.results50, go_sem, d0, d1]; try rfl) rfl ?_
  exact ⟨rfl, B5⟩
def fateF (l : List Rw) (t r : Int) : Int := match getF l t r with
  | none => 0
  | some x => if x.pt = 0 ∧ x.pr = 1 then 1 else if x.pt = 0 ∧ x.pr = 0 then 3 else match getF l x.pt x.pr with
    | none => 2
    | some y => if y.d = true ∧ ¬ (y.pt = 0 ∧ y.pr = 1) then 3 else 2
theorem load24e {W : World} {g : Nat} {pt pr : Int} {nm : ByteArray} {d : Bool} (h : EnAt W g pt pr nm d) : (Instr.loadAt 24 (.pointer (some ⟨g, 0, none⟩))).run Try.prog W = .ok (.agg #[.int .i64 pt, .int .i64 pr]) W := by
  obtain ⟨c0, c1, c2, c3⟩ := h.cells
  go_simp
theorem load4e {W : World} {g : Nat} {pt pr : Int} {nm : ByteArray} {d : Bool} (h : EnAt W g pt pr nm d) : (Instr.loadAt 4 (.pointer (some ⟨g, 3, none⟩))).run Try.prog W = .ok (.bool d) W := by
  obtain ⟨c0, c1, c2, c3⟩ := h.cells
  go_simp
set_option maxHeartbeats 12800000 in
theorem of_any (w : World) (p b : Nat) (l : List Rw) (h : TabI w p b l) (t r : Int) (ht : I64 t) (hr : I64 r) :
    Calls Try.prog 37 #[.pointer (some ⟨p, 0, none⟩), .agg #[.int .i64 t, .int .i64 r]] w fun e w' => e = .returned (.int .i64 (fateF l t r)) ∧ Below w.heap.size w w' := by
  have B1 := vstep w (.cells #[.int .i64 t, .int .i64 r] 24)
  have T1 := Lib.hid (h.step B1)
  have S1 := Lib.hid (StAt.new w t r)
  obtain ⟨W0, hW0⟩ : ∃ y, w.alloc (.cells #[.int .i64 t, .int .i64 r] 24) = y := ⟨_, rfl⟩
  rw [hW0] at B1 T1 S1
  have B := Lib.hid B1
  have HW := Lib.hid hW0
  have G := Lib.hid (get_any W0 p b l T1.out t r ht hr)
  have OK := Lib.hid h.map.oks
  have RS := Lib.hid h.map.rise
  clear h hW0 B1 ht hr
  cases hg : getF l t r with
  | none =>
    obtain ⟨x1, x2, x3, x4, hx⟩ := gv_form l t r
    rw [hx, hg] at G
    have FV := Lib.hid (show fateF l t r = 0 from by unfold fateF; rw [hg])
    clear hx hg
    go_enter Try.func37, Try.ntmps37
    go_upto_region 1 with (fail)
    rw [HW.out]
    obtain ⟨c1, c2⟩ := S1.out.cells
    go_wp2_with fail
    refine G.out.mono ?_
    rintro e w1 ⟨rfl, hb⟩
    have B2 := Lib.hid (B.out.trans (hb.mono B.out.size))
    clear hb c1 c2
    go_wp2
    go_returns
    exact ⟨ret_i FV.out, B2.out.trans ((vstep w1 _).mono B2.out.size)⟩
  | some x =>
    have hm := ((get_some RS.out).1 hg).1
    have XO := Lib.hid (OK.out x hm)
    obtain ⟨xt, xr, pt, pr, nm, d⟩ := x
    rw [show gv l t r = .agg #[.int .i64 pt, .int .i64 pr, .string nm, .bool d] from by unfold gv; rw [hg], show (getF l t r).isSome = true from by rw [hg]; rfl] at G
    have HG := Lib.hid hg
    clear hm hg
    go_enter Try.func37, Try.ntmps37
    go_upto_region 1 with (fail)
    rw [HW.out]
    obtain ⟨c1, c2⟩ := S1.out.cells
    go_wp2_with fail
    refine G.out.mono ?_
    rintro e w1 ⟨rfl, hb⟩
    have B2 := Lib.hid (B.out.trans (hb.mono B.out.size))
    have T2 := Lib.hid (T1.out.step hb)
    clear hb c1 c2 G T1 S1 B HW
    go_upto_region 4 with (fail)
    have B3 := vstep w1 (.cells #[.int .i64 pt, .int .i64 pr, .string nm, .bool d] 34)
    have B4 := Lib.hid (B2.out.trans (B3.mono B2.out.size))
    have T4 := Lib.hid (T2.out.step B3)
    have E4 := Lib.hid (EnAt.new w1 pt pr nm d)
    obtain ⟨g1, hg1⟩ : ∃ k, w1.heap.size = k := ⟨_, rfl⟩
    rw [hg1] at E4 ⊢
    generalize (w1.alloc (.cells #[.int .i64 pt, .int .i64 pr, .string nm, .bool d] 34)) = w2 at *
    clear B3 hg1 T2 B2
    have LE := Lib.hid (fun W (hb : Below w2.heap.size w2 W) => load24e (E4.out.step hb))
    rcases (show (pt = 0 ∧ pr = 1) ∨ (pt = 0 ∧ pr = 0) ∨ (pt ≠ 0) ∨ (pt = 0 ∧ pr ≠ 0 ∧ pr ≠ 1) from by omega) with ⟨rfl, rfl⟩ | ⟨rfl, rfl⟩ | h0 | ⟨rfl, h0, h1⟩
    · have FV := Lib.hid (show fateF l t r = 1 from by unfold fateF; rw [HG.out]; simp)
      refine wp_region_held_drew (S := fun w' => Below w2.heap.size w2 w') (by kernel_rfl) (Below.refl _ _).drew (fun hHeld => ?_)
      have BV := Lib.hid (show Below w2.heap.size w2 w2.drew from (Below.refl _ _).drew)
      clear hHeld
      refine take_at (i := 0) 18 ?_ rfl rfl (by kernel_rfl) (by kernel_rfl) (by kernel_rfl) (fun _ _ _ h => h) (.inl ⟨rfl, ?_⟩) BV.out ?_
      rotate_left 1
      · intro w hSw; go_simp; try with_reducible rfl
      simp only [Act.put, List.setIfInBounds_toArray, List.set_cons_zero, List.set_cons_succ]
      refine take_at (i := 1) 19 (.agg #[.int .i64 0, .int .i64 1]) rfl rfl (by kernel_rfl) (by kernel_rfl) (by kernel_rfl) (fun _ _ _ h => h) (yields_ld (.tmp 18) 24 (.pointer (some ⟨g1, 0, none⟩)) _ LE.out rfl rfl rfl) BV.out ?_
      simp only [Act.put, List.setIfInBounds_toArray, List.set_cons_zero, List.set_cons_succ]
      refine wpAnyH_ready (rs := [2]) (by kernel_rfl) (by simp) (br_call (i := 2) 20 50 #[] rfl rfl rfl (by go_simp) ((trash_any _).mono ?_) AllReadyH.nil)
      rintro e v1 ⟨rfl, hb⟩
      have BV := Lib.hid (BV.out.trans (hb.mono BV.out.size))
      clear hb
      refine ⟨_, rfl, BV.out, fun _ => ?_⟩
      simp only [Act.put, List.setIfInBounds_toArray, List.set_cons_zero, List.set_cons_succ]
      refine take_at (i := 3) 21 ?_ rfl rfl (by kernel_rfl) (by kernel_rfl) (by kernel_rfl) (fun _ _ _ h => h) (.inl ⟨rfl, ?_⟩) BV.out ?_
      rotate_left 1
      · intro w hSw; go_simp; try with_reducible rfl
      simp only [Act.put, List.setIfInBounds_toArray, List.set_cons_zero, List.set_cons_succ]
      refine take_at (i := 4) 17 ?_ rfl rfl (by kernel_rfl) (by kernel_rfl) (by kernel_rfl) (fun _ _ _ h => h) (.inl ⟨rfl, ?_⟩) BV.out ?_
      rotate_left 1
      · intro w hSw; go_simp; try with_reducible rfl
      simp only [Act.put, List.setIfInBounds_toArray, List.set_cons_zero, List.set_cons_succ]
      refine wpAnyH_done (by kernel_rfl) ?_ _
      go_wp2
      go_returns
      exact ⟨ret_i FV.out, B4.out.trans (BV.out.mono B4.out.size)⟩
    · have FV := Lib.hid (show fateF l t r = 3 from by unfold fateF; rw [HG.out]; simp)
      refine wp_region_held_drew (S := fun w' => Below w2.heap.size w2 w') (by kernel_rfl) (Below.refl _ _).drew (fun hHeld => ?_)
      have BV := Lib.hid (show Below w2.heap.size w2 w2.drew from (Below.refl _ _).drew)
      clear hHeld
      refine take_at (i := 0) 18 ?_ rfl rfl (by kernel_rfl) (by kernel_rfl) (by kernel_rfl) (fun _ _ _ h => h) (.inl ⟨rfl, ?_⟩) BV.out ?_
      rotate_left 1
      · intro w hSw; go_simp; try with_reducible rfl
      simp only [Act.put, List.setIfInBounds_toArray, List.set_cons_zero, List.set_cons_succ]
      refine take_at (i := 1) 19 (.agg #[.int .i64 0, .int .i64 0]) rfl rfl (by kernel_rfl) (by kernel_rfl) (by kernel_rfl) (fun _ _ _ h => h) (yields_ld (.tmp 18) 24 (.pointer (some ⟨g1, 0, none⟩)) _ LE.out rfl rfl rfl) BV.out ?_
      simp only [Act.put, List.setIfInBounds_toArray, List.set_cons_zero, List.set_cons_succ]
      refine wpAnyH_ready (rs := [2]) (by kernel_rfl) (by simp) (br_call (i := 2) 20 50 #[] rfl rfl rfl (by go_simp) ((trash_any _).mono ?_) AllReadyH.nil)
      rintro e v1 ⟨rfl, hb⟩
      have BV := Lib.hid (BV.out.trans (hb.mono BV.out.size))
      clear hb
      refine ⟨_, rfl, BV.out, fun _ => ?_⟩
      simp only [Act.put, List.setIfInBounds_toArray, List.set_cons_zero, List.set_cons_succ]
      refine take_at (i := 3) 21 ?_ rfl rfl (by kernel_rfl) (by kernel_rfl) (by kernel_rfl) (fun _ _ _ h => h) (.inl ⟨rfl, ?_⟩) BV.out ?_
      rotate_left 1
      · intro w hSw; go_simp; try with_reducible rfl
      simp only [Act.put, List.setIfInBounds_toArray, List.set_cons_zero, List.set_cons_succ]
      refine take_at (i := 4) 17 ?_ rfl rfl (by kernel_rfl) (by kernel_rfl) (by kernel_rfl) (fun _ _ _ h => h) (.inl ⟨rfl, ?_⟩) BV.out ?_
      rotate_left 1
      · intro w hSw; go_simp; try with_reducible rfl
      simp only [Act.put, List.setIfInBounds_toArray, List.set_cons_zero, List.set_cons_succ]
      refine wpAnyH_done (by kernel_rfl) ?_ _
      go_upto_region 6 with (fail)
      refine wp_region_held_drew (S := fun w' => Below w2.heap.size w2 w') (by kernel_rfl) (BV.out.drew) (fun hHeld => ?_)
      have BV := Lib.hid (show Below w2.heap.size w2 v1.drew from BV.out.drew)
      clear hHeld
      refine take_at (i := 0) 23 ?_ rfl rfl (by kernel_rfl) (by kernel_rfl) (by kernel_rfl) (fun _ _ _ h => h) (.inl ⟨rfl, ?_⟩) BV.out ?_
      rotate_left 1
      · intro w hSw; go_simp; try with_reducible rfl
      simp only [Act.put, List.setIfInBounds_toArray, List.set_cons_zero, List.set_cons_succ]
      refine take_at (i := 1) 24 (.agg #[.int .i64 0, .int .i64 0]) rfl rfl (by kernel_rfl) (by kernel_rfl) (by kernel_rfl) (fun _ _ _ h => h) (yields_ld (.tmp 23) 24 (.pointer (some ⟨g1, 0, none⟩)) _ LE.out rfl rfl rfl) BV.out ?_
      simp only [Act.put, List.setIfInBounds_toArray, List.set_cons_zero, List.set_cons_succ]
      refine wpAnyH_ready (rs := [2]) (by kernel_rfl) (by simp) (br_call (i := 2) 25 41 #[] rfl rfl rfl (by go_simp) ((root_any _).mono ?_) AllReadyH.nil)
      rintro e v11 ⟨rfl, hb⟩
      have BV := Lib.hid (BV.out.trans (hb.mono BV.out.size))
      clear hb
      refine ⟨_, rfl, BV.out, fun _ => ?_⟩
      simp only [Act.put, List.setIfInBounds_toArray, List.set_cons_zero, List.set_cons_succ]
      refine take_at (i := 3) 26 ?_ rfl rfl (by kernel_rfl) (by kernel_rfl) (by kernel_rfl) (fun _ _ _ h => h) (.inl ⟨rfl, ?_⟩) BV.out ?_
      rotate_left 1
      · intro w hSw; go_simp; try with_reducible rfl
      simp only [Act.put, List.setIfInBounds_toArray, List.set_cons_zero, List.set_cons_succ]
      refine take_at (i := 4) 22 ?_ rfl rfl (by kernel_rfl) (by kernel_rfl) (by kernel_rfl) (fun _ _ _ h => h) (.inl ⟨rfl, ?_⟩) BV.out ?_
      rotate_left 1
      · intro w hSw; go_simp; try with_reducible rfl
      simp only [Act.put, List.setIfInBounds_toArray, List.set_cons_zero, List.set_cons_succ]
      refine wpAnyH_done (by kernel_rfl) ?_ _
      go_wp2
      go_returns
      exact ⟨ret_i FV.out, B4.out.trans (BV.out.mono B4.out.size)⟩
    · have z0 := bneb_ _ _ h0
      refine wp_region_held_drew (S := fun w' => Below w2.heap.size w2 w') (by kernel_rfl) (Below.refl _ _).drew (fun hHeld => ?_)
      have BV := Lib.hid (show Below w2.heap.size w2 w2.drew from (Below.refl _ _).drew)
      clear hHeld
      refine take_at (i := 0) 18 ?_ rfl rfl (by kernel_rfl) (by kernel_rfl) (by kernel_rfl) (fun _ _ _ h => h) (.inl ⟨rfl, ?_⟩) BV.out ?_
      rotate_left 1
      · intro w hSw; go_simp; try with_reducible rfl
      simp only [Act.put, List.setIfInBounds_toArray, List.set_cons_zero, List.set_cons_succ]
      refine take_at (i := 1) 19 (.agg #[.int .i64 pt, .int .i64 pr]) rfl rfl (by kernel_rfl) (by kernel_rfl) (by kernel_rfl) (fun _ _ _ h => h) (yields_ld (.tmp 18) 24 (.pointer (some ⟨g1, 0, none⟩)) _ LE.out rfl rfl rfl) BV.out ?_
      simp only [Act.put, List.setIfInBounds_toArray, List.set_cons_zero, List.set_cons_succ]
      refine wpAnyH_ready (rs := [2]) (by kernel_rfl) (by simp) (br_call (i := 2) 20 50 #[] rfl rfl rfl (by go_simp) ((trash_any _).mono ?_) AllReadyH.nil)
      rintro e v1 ⟨rfl, hb⟩
      have BV := Lib.hid (BV.out.trans (hb.mono BV.out.size))
      clear hb
      refine ⟨_, rfl, BV.out, fun _ => ?_⟩
      simp only [Act.put, List.setIfInBounds_toArray, List.set_cons_zero, List.set_cons_succ]
      refine take_at (i := 3) 21 ?_ rfl rfl (by kernel_rfl) (by kernel_rfl) (by kernel_rfl) (fun _ _ _ h => h) (.inl ⟨rfl, ?_⟩) BV.out ?_
      rotate_left 1
      · intro w hSw; go_simp; try with_reducible rfl
      simp only [Act.put, List.setIfInBounds_toArray, List.set_cons_zero, List.set_cons_succ]
      refine take_at (i := 4) 17 ?_ rfl rfl (by kernel_rfl) (by kernel_rfl) (by kernel_rfl) (fun _ _ _ h => h) (.inl ⟨rfl, ?_⟩) BV.out ?_
      rotate_left 1
      · intro w hSw; go_simp; try with_reducible rfl
      simp only [Act.put, List.setIfInBounds_toArray, List.set_cons_zero, List.set_cons_succ]
      refine wpAnyH_done (by kernel_rfl) ?_ _
      go_upto_region 6 with (fail)
      refine wp_region_held_drew (S := fun w' => Below w2.heap.size w2 w') (by kernel_rfl) (BV.out.drew) (fun hHeld => ?_)
      have BV := Lib.hid (show Below w2.heap.size w2 v1.drew from BV.out.drew)
      clear hHeld
      refine take_at (i := 0) 23 ?_ rfl rfl (by kernel_rfl) (by kernel_rfl) (by kernel_rfl) (fun _ _ _ h => h) (.inl ⟨rfl, ?_⟩) BV.out ?_
      rotate_left 1
      · intro w hSw; go_simp; try with_reducible rfl
      simp only [Act.put, List.setIfInBounds_toArray, List.set_cons_zero, List.set_cons_succ]
      refine take_at (i := 1) 24 (.agg #[.int .i64 pt, .int .i64 pr]) rfl rfl (by kernel_rfl) (by kernel_rfl) (by kernel_rfl) (fun _ _ _ h => h) (yields_ld (.tmp 23) 24 (.pointer (some ⟨g1, 0, none⟩)) _ LE.out rfl rfl rfl) BV.out ?_
      simp only [Act.put, List.setIfInBounds_toArray, List.set_cons_zero, List.set_cons_succ]
      refine wpAnyH_ready (rs := [2]) (by kernel_rfl) (by simp) (br_call (i := 2) 25 41 #[] rfl rfl rfl (by go_simp) ((root_any _).mono ?_) AllReadyH.nil)
      rintro e v11 ⟨rfl, hb⟩
      have BV := Lib.hid (BV.out.trans (hb.mono BV.out.size))
      clear hb
      refine ⟨_, rfl, BV.out, fun _ => ?_⟩
      simp only [Act.put, List.setIfInBounds_toArray, List.set_cons_zero, List.set_cons_succ]
      refine take_at (i := 3) 26 ?_ rfl rfl (by kernel_rfl) (by kernel_rfl) (by kernel_rfl) (fun _ _ _ h => h) (.inl ⟨rfl, ?_⟩) BV.out ?_
      rotate_left 1
      · intro w hSw; go_simp; try with_reducible rfl
      simp only [Act.put, List.setIfInBounds_toArray, List.set_cons_zero, List.set_cons_succ]
      refine take_at (i := 4) 22 ?_ rfl rfl (by kernel_rfl) (by kernel_rfl) (by kernel_rfl) (fun _ _ _ h => h) (.inl ⟨rfl, ?_⟩) BV.out ?_
      rotate_left 1
      · intro w hSw; go_simp; try with_reducible rfl
      simp only [Act.put, List.setIfInBounds_toArray, List.set_cons_zero, List.set_cons_succ]
      refine wpAnyH_done (by kernel_rfl) ?_ _
      have E5 := Lib.hid (E4.out.step BV.out)
      have T5 := Lib.hid (T4.out.step BV.out)
      have B5 := Lib.hid (B4.out.trans (BV.out.mono B4.out.size))
      have G2 := Lib.hid (get_any v11 p b l T5.out pt pr XO.out.2.2.1 XO.out.2.2.2)
      clear BV LE T4 E4 B4
      cases hg2 : getF l pt pr with
      | none =>
        obtain ⟨x1, x2, x3, x4, hx⟩ := gv_form l pt pr
        rw [hx, hg2] at G2
        have FV := Lib.hid (show fateF l t r = 2 from by unfold fateF; rw [HG.out]; simp [hg2, h0])
        clear hx hg2
        obtain ⟨d0, d1, d2, d3⟩ := E5.out.cells
        go_wp2_with fail
        refine G2.out.mono ?_
        rintro e w5 ⟨rfl, hb⟩
        have B5 := Lib.hid (B5.out.trans (hb.mono B5.out.size))
        clear hb d0 d1 d2 d3 E5
        go_upto_region 9 with (fail)
        have BS := vstep w5 (.cells #[.int .i64 x1, .int .i64 x2, .string x3, .bool x4] 34)
        have B6 := Lib.hid (B5.out.trans (BS.mono B5.out.size))
        have E6 := Lib.hid (show EnAt (w5.alloc (.cells #[.int .i64 x1, .int .i64 x2, .string x3, .bool x4] 34)) w5.heap.size x1 x2 x3 x4 from heap_alloc_new w5 _)
        obtain ⟨g2, hg2⟩ : ∃ k, w5.heap.size = k := ⟨_, rfl⟩
        rw [hg2] at E6 ⊢
        generalize (w5.alloc (.cells #[.int .i64 x1, .int .i64 x2, .string x3, .bool x4] 34)) = w6 at *
        clear BS hg2
        refine wp_region_held_drew (S := fun w' => Below w6.heap.size w6 w') (by kernel_rfl) (Below.refl _ _).drew (fun hHeld => ?_)
        have BV := Lib.hid (show Below w6.heap.size w6 w6.drew from (Below.refl _ _).drew)
        clear hHeld
        refine take_at (i := 0) 34 ?_ rfl rfl (by kernel_rfl) (by kernel_rfl) (by kernel_rfl) (fun _ _ _ h => h) (.inl ⟨rfl, ?_⟩) BV.out ?_
        rotate_left 1
        · intro w hSw; go_simp; try with_reducible rfl
        simp only [Act.put, List.setIfInBounds_toArray, List.set_cons_zero, List.set_cons_succ]
        refine take_at (i := 1) 35 ?_ rfl rfl (by kernel_rfl) (by kernel_rfl) (by kernel_rfl) (fun _ _ _ h => h) (.inl ⟨rfl, ?_⟩) BV.out ?_
        rotate_left 1
        · intro w hSw; go_simp; try with_reducible rfl
        simp only [Act.put, List.setIfInBounds_toArray, List.set_cons_zero, List.set_cons_succ]
        refine take_at (i := 2) 36 undef rfl rfl (by kernel_rfl) (by kernel_rfl) (by kernel_rfl) (fun _ _ _ h => h) (.inr ⟨rfl, rfl⟩) BV.out ?_
        simp only [Act.put, List.setIfInBounds_toArray, List.set_cons_zero, List.set_cons_succ]
        refine take_at (i := 3) 37 undef rfl rfl (by kernel_rfl) (by kernel_rfl) (by kernel_rfl) (fun _ _ _ h => h) (.inr ⟨rfl, rfl⟩) BV.out ?_
        simp only [Act.put, List.setIfInBounds_toArray, List.set_cons_zero, List.set_cons_succ]
        refine take_at (i := 4) 38 ?_ rfl rfl (by kernel_rfl) (by kernel_rfl) (by kernel_rfl) (fun _ _ _ h => h) (.inl ⟨rfl, ?_⟩) BV.out ?_
        rotate_left 1
        · intro w hSw; go_simp; try with_reducible rfl
        simp only [Act.put, List.setIfInBounds_toArray, List.set_cons_zero, List.set_cons_succ]
        refine take_at (i := 5) 39 ?_ rfl rfl (by kernel_rfl) (by kernel_rfl) (by kernel_rfl) (fun _ _ _ h => h) (.inl ⟨rfl, ?_⟩) BV.out ?_
        rotate_left 1
        · intro w hSw; go_simp; try with_reducible rfl
        simp only [Act.put, List.setIfInBounds_toArray, List.set_cons_zero, List.set_cons_succ]
        refine take_at (i := 6) 40 undef rfl rfl (by kernel_rfl) (by kernel_rfl) (by kernel_rfl) (fun _ _ _ h => h) (.inr ⟨rfl, rfl⟩) BV.out ?_
        simp only [Act.put, List.setIfInBounds_toArray, List.set_cons_zero, List.set_cons_succ]
        refine take_at (i := 7) 41 undef rfl rfl (by kernel_rfl) (by kernel_rfl) (by kernel_rfl) (fun _ _ _ h => h) (.inr ⟨rfl, rfl⟩) BV.out ?_
        simp only [Act.put, List.setIfInBounds_toArray, List.set_cons_zero, List.set_cons_succ]
        refine take_at (i := 8) 42 undef rfl rfl (by kernel_rfl) (by kernel_rfl) (by kernel_rfl) (fun _ _ _ h => h) (.inr ⟨rfl, rfl⟩) BV.out ?_
        simp only [Act.put, List.setIfInBounds_toArray, List.set_cons_zero, List.set_cons_succ]
        refine take_at (i := 9) 43 undef rfl rfl (by kernel_rfl) (by kernel_rfl) (by kernel_rfl) (fun _ _ _ h => h) (.inr ⟨rfl, rfl⟩) BV.out ?_
        simp only [Act.put, List.setIfInBounds_toArray, List.set_cons_zero, List.set_cons_succ]
        refine take_at (i := 10) 44 ?_ rfl rfl (by kernel_rfl) (by kernel_rfl) (by kernel_rfl) (fun _ _ _ h => h) (.inl ⟨rfl, ?_⟩) BV.out ?_
        rotate_left 1
        · intro w hSw; go_simp; try with_reducible rfl
        simp only [Act.put, List.setIfInBounds_toArray, List.set_cons_zero, List.set_cons_succ]
        refine wpAnyH_done (by kernel_rfl) ?_ _
        go_wp2
        go_returns
        exact ⟨ret_i FV.out, B6.out.trans (BV.out.mono B6.out.size)⟩
      | some y =>
        obtain ⟨yt, yr, qt, qr, qn, qd⟩ := y
        rw [show gv l pt pr = .agg #[.int .i64 qt, .int .i64 qr, .string qn, .bool qd] from by unfold gv; rw [hg2], show (getF l pt pr).isSome = true from by rw [hg2]; rfl] at G2
        have HG2 := Lib.hid hg2
        clear hg2
        obtain ⟨d0, d1, d2, d3⟩ := E5.out.cells
        go_wp2_with fail
        refine G2.out.mono ?_
        rintro e w5 ⟨rfl, hb⟩
        have B5 := Lib.hid (B5.out.trans (hb.mono B5.out.size))
        clear hb d0 d1 d2 d3 E5
        go_upto_region 9 with (fail)
        have BS := vstep w5 (.cells #[.int .i64 qt, .int .i64 qr, .string qn, .bool qd] 34)
        have B6 := Lib.hid (B5.out.trans (BS.mono B5.out.size))
        have E6 := Lib.hid (show EnAt (w5.alloc (.cells #[.int .i64 qt, .int .i64 qr, .string qn, .bool qd] 34)) w5.heap.size qt qr qn qd from heap_alloc_new w5 _)
        obtain ⟨g2, hg2⟩ : ∃ k, w5.heap.size = k := ⟨_, rfl⟩
        rw [hg2] at E6 ⊢
        generalize (w5.alloc (.cells #[.int .i64 qt, .int .i64 qr, .string qn, .bool qd] 34)) = w6 at *
        clear BS hg2
        have LD := Lib.hid (fun W (hb : Below w6.heap.size w6 W) => load4e (E6.out.step hb))
        have LQ := Lib.hid (fun W (hb : Below w6.heap.size w6 W) => load24e (E6.out.step hb))
        cases qd with
        | false =>
          have FV := Lib.hid (show fateF l t r = 2 from by unfold fateF; rw [HG.out]; simp [HG2.out, h0])
          clear LQ
          refine wp_region_held_drew (S := fun w' => Below w6.heap.size w6 w') (by kernel_rfl) (Below.refl _ _).drew (fun hHeld => ?_)
          have BV := Lib.hid (show Below w6.heap.size w6 w6.drew from (Below.refl _ _).drew)
          clear hHeld
          refine take_at (i := 0) 34 ?_ rfl rfl (by kernel_rfl) (by kernel_rfl) (by kernel_rfl) (fun _ _ _ h => h) (.inl ⟨rfl, ?_⟩) BV.out ?_
          rotate_left 1
          · intro w hSw; go_simp; try with_reducible rfl
          simp only [Act.put, List.setIfInBounds_toArray, List.set_cons_zero, List.set_cons_succ]
          refine take_at (i := 1) 35 ?_ rfl rfl (by kernel_rfl) (by kernel_rfl) (by kernel_rfl) (fun _ _ _ h => h) (.inl ⟨rfl, ?_⟩) BV.out ?_
          rotate_left 1
          · intro w hSw; go_simp; try with_reducible rfl
          simp only [Act.put, List.setIfInBounds_toArray, List.set_cons_zero, List.set_cons_succ]
          refine take_at (i := 2) 36 ?_ rfl rfl (by kernel_rfl) (by kernel_rfl) (by kernel_rfl) (fun _ _ _ h => h) (.inl ⟨rfl, ?_⟩) BV.out ?_
          rotate_left 1
          · intro w hSw; go_simp; try with_reducible rfl
          simp only [Act.put, List.setIfInBounds_toArray, List.set_cons_zero, List.set_cons_succ]
          refine take_at (i := 3) 37 (.bool false) rfl rfl (by kernel_rfl) (by kernel_rfl) (by kernel_rfl) (fun _ _ _ h => h) (yields_ld (.tmp 36) 4 (.pointer (some ⟨g2, 3, none⟩)) _ LD.out rfl rfl rfl) BV.out ?_
          simp only [Act.put, List.setIfInBounds_toArray, List.set_cons_zero, List.set_cons_succ]
          refine take_at (i := 4) 38 ?_ rfl rfl (by kernel_rfl) (by kernel_rfl) (by kernel_rfl) (fun _ _ _ h => h) (.inl ⟨rfl, ?_⟩) BV.out ?_
          rotate_left 1
          · intro w hSw; go_simp; try with_reducible rfl
          simp only [Act.put, List.setIfInBounds_toArray, List.set_cons_zero, List.set_cons_succ]
          refine take_at (i := 5) 39 ?_ rfl rfl (by kernel_rfl) (by kernel_rfl) (by kernel_rfl) (fun _ _ _ h => h) (.inl ⟨rfl, ?_⟩) BV.out ?_
          rotate_left 1
          · intro w hSw; go_simp; try with_reducible rfl
          simp only [Act.put, List.setIfInBounds_toArray, List.set_cons_zero, List.set_cons_succ]
          refine take_at (i := 6) 40 undef rfl rfl (by kernel_rfl) (by kernel_rfl) (by kernel_rfl) (fun _ _ _ h => h) (.inr ⟨rfl, rfl⟩) BV.out ?_
          simp only [Act.put, List.setIfInBounds_toArray, List.set_cons_zero, List.set_cons_succ]
          refine take_at (i := 7) 41 undef rfl rfl (by kernel_rfl) (by kernel_rfl) (by kernel_rfl) (fun _ _ _ h => h) (.inr ⟨rfl, rfl⟩) BV.out ?_
          simp only [Act.put, List.setIfInBounds_toArray, List.set_cons_zero, List.set_cons_succ]
          refine take_at (i := 8) 42 undef rfl rfl (by kernel_rfl) (by kernel_rfl) (by kernel_rfl) (fun _ _ _ h => h) (.inr ⟨rfl, rfl⟩) BV.out ?_
          simp only [Act.put, List.setIfInBounds_toArray, List.set_cons_zero, List.set_cons_succ]
          refine take_at (i := 9) 43 undef rfl rfl (by kernel_rfl) (by kernel_rfl) (by kernel_rfl) (fun _ _ _ h => h) (.inr ⟨rfl, rfl⟩) BV.out ?_
          simp only [Act.put, List.setIfInBounds_toArray, List.set_cons_zero, List.set_cons_succ]
          refine take_at (i := 10) 44 ?_ rfl rfl (by kernel_rfl) (by kernel_rfl) (by kernel_rfl) (fun _ _ _ h => h) (.inl ⟨rfl, ?_⟩) BV.out ?_
          rotate_left 1
          · intro w hSw; go_simp; try with_reducible rfl
          simp only [Act.put, List.setIfInBounds_toArray, List.set_cons_zero, List.set_cons_succ]
          refine wpAnyH_done (by kernel_rfl) ?_ _
          go_wp2
          go_returns
          exact ⟨ret_i FV.out, B6.out.trans (BV.out.mono B6.out.size)⟩
        | true =>
          rcases (show (qt = 0 ∧ qr = 1) ∨ (qt ≠ 0) ∨ (qt = 0 ∧ qr ≠ 1) from by omega) with ⟨rfl, rfl⟩ | j0 | ⟨rfl, j0⟩
          · have FV := Lib.hid (show fateF l t r = 2 from by unfold fateF; rw [HG.out]; simp [HG2.out, h0])
            refine wp_region_held_drew (S := fun w' => Below w6.heap.size w6 w') (by kernel_rfl) (Below.refl _ _).drew (fun hHeld => ?_)
            have BV := Lib.hid (show Below w6.heap.size w6 w6.drew from (Below.refl _ _).drew)
            clear hHeld
            refine take_at (i := 0) 34 ?_ rfl rfl (by kernel_rfl) (by kernel_rfl) (by kernel_rfl) (fun _ _ _ h => h) (.inl ⟨rfl, ?_⟩) BV.out ?_
            rotate_left 1
            · intro w hSw; go_simp; try with_reducible rfl
            simp only [Act.put, List.setIfInBounds_toArray, List.set_cons_zero, List.set_cons_succ]
            refine take_at (i := 1) 35 ?_ rfl rfl (by kernel_rfl) (by kernel_rfl) (by kernel_rfl) (fun _ _ _ h => h) (.inl ⟨rfl, ?_⟩) BV.out ?_
            rotate_left 1
            · intro w hSw; go_simp; try with_reducible rfl
            simp only [Act.put, List.setIfInBounds_toArray, List.set_cons_zero, List.set_cons_succ]
            refine take_at (i := 2) 36 ?_ rfl rfl (by kernel_rfl) (by kernel_rfl) (by kernel_rfl) (fun _ _ _ h => h) (.inl ⟨rfl, ?_⟩) BV.out ?_
            rotate_left 1
            · intro w hSw; go_simp; try with_reducible rfl
            simp only [Act.put, List.setIfInBounds_toArray, List.set_cons_zero, List.set_cons_succ]
            refine take_at (i := 3) 37 (.bool true) rfl rfl (by kernel_rfl) (by kernel_rfl) (by kernel_rfl) (fun _ _ _ h => h) (yields_ld (.tmp 36) 4 (.pointer (some ⟨g2, 3, none⟩)) _ LD.out rfl rfl rfl) BV.out ?_
            simp only [Act.put, List.setIfInBounds_toArray, List.set_cons_zero, List.set_cons_succ]
            refine take_at (i := 4) 38 ?_ rfl rfl (by kernel_rfl) (by kernel_rfl) (by kernel_rfl) (fun _ _ _ h => h) (.inl ⟨rfl, ?_⟩) BV.out ?_
            rotate_left 1
            · intro w hSw; go_simp; try with_reducible rfl
            simp only [Act.put, List.setIfInBounds_toArray, List.set_cons_zero, List.set_cons_succ]
            refine take_at (i := 5) 39 ?_ rfl rfl (by kernel_rfl) (by kernel_rfl) (by kernel_rfl) (fun _ _ _ h => h) (.inl ⟨rfl, ?_⟩) BV.out ?_
            rotate_left 1
            · intro w hSw; go_simp; try with_reducible rfl
            simp only [Act.put, List.setIfInBounds_toArray, List.set_cons_zero, List.set_cons_succ]
            refine take_at (i := 6) 40 ?_ rfl rfl (by kernel_rfl) (by kernel_rfl) (by kernel_rfl) (fun _ _ _ h => h) (.inl ⟨rfl, ?_⟩) BV.out ?_
            rotate_left 1
            · intro w hSw; go_simp; try with_reducible rfl
            simp only [Act.put, List.setIfInBounds_toArray, List.set_cons_zero, List.set_cons_succ]
            refine take_at (i := 7) 41 (.agg #[.int .i64 0, .int .i64 1]) rfl rfl (by kernel_rfl) (by kernel_rfl) (by kernel_rfl) (fun _ _ _ h => h) (yields_ld (.tmp 40) 24 (.pointer (some ⟨g2, 0, none⟩)) _ LQ.out rfl rfl rfl) BV.out ?_
            simp only [Act.put, List.setIfInBounds_toArray, List.set_cons_zero, List.set_cons_succ]
            refine wpAnyH_ready (rs := [8]) (by kernel_rfl) (by simp) (br_call (i := 8) 42 50 #[] rfl rfl rfl (by go_simp) ((trash_any _).mono ?_) AllReadyH.nil)
            rintro e v1 ⟨rfl, hb⟩
            have BV := Lib.hid (BV.out.trans (hb.mono BV.out.size))
            clear hb
            refine ⟨_, rfl, BV.out, fun _ => ?_⟩
            simp only [Act.put, List.setIfInBounds_toArray, List.set_cons_zero, List.set_cons_succ]
            refine take_at (i := 9) 43 ?_ rfl rfl (by kernel_rfl) (by kernel_rfl) (by kernel_rfl) (fun _ _ _ h => h) (.inl ⟨rfl, ?_⟩) BV.out ?_
            rotate_left 1
            · intro w hSw; go_simp; try with_reducible rfl
            simp only [Act.put, List.setIfInBounds_toArray, List.set_cons_zero, List.set_cons_succ]
            refine take_at (i := 10) 44 ?_ rfl rfl (by kernel_rfl) (by kernel_rfl) (by kernel_rfl) (fun _ _ _ h => h) (.inl ⟨rfl, ?_⟩) BV.out ?_
            rotate_left 1
            · intro w hSw; go_simp; try with_reducible rfl
            simp only [Act.put, List.setIfInBounds_toArray, List.set_cons_zero, List.set_cons_succ]
            refine wpAnyH_done (by kernel_rfl) ?_ _
            go_wp2
            go_returns
            exact ⟨ret_i FV.out, B6.out.trans (BV.out.mono B6.out.size)⟩
          · have FV := Lib.hid (show fateF l t r = 3 from by unfold fateF; rw [HG.out]; simp [HG2.out, h0, j0])
            have s0 := bneb_ _ _ j0
            have s1 := nneb_ _ _ j0
            clear j0
            refine wp_region_held_drew (S := fun w' => Below w6.heap.size w6 w') (by kernel_rfl) (Below.refl _ _).drew (fun hHeld => ?_)
            have BV := Lib.hid (show Below w6.heap.size w6 w6.drew from (Below.refl _ _).drew)
            clear hHeld
            refine take_at (i := 0) 34 ?_ rfl rfl (by kernel_rfl) (by kernel_rfl) (by kernel_rfl) (fun _ _ _ h => h) (.inl ⟨rfl, ?_⟩) BV.out ?_
            rotate_left 1
            · intro w hSw; go_simp; try with_reducible rfl
            simp only [Act.put, List.setIfInBounds_toArray, List.set_cons_zero, List.set_cons_succ]
            refine take_at (i := 1) 35 ?_ rfl rfl (by kernel_rfl) (by kernel_rfl) (by kernel_rfl) (fun _ _ _ h => h) (.inl ⟨rfl, ?_⟩) BV.out ?_
            rotate_left 1
            · intro w hSw; go_simp; try with_reducible rfl
            simp only [Act.put, List.setIfInBounds_toArray, List.set_cons_zero, List.set_cons_succ]
            refine take_at (i := 2) 36 ?_ rfl rfl (by kernel_rfl) (by kernel_rfl) (by kernel_rfl) (fun _ _ _ h => h) (.inl ⟨rfl, ?_⟩) BV.out ?_
            rotate_left 1
            · intro w hSw; go_simp; try with_reducible rfl
            simp only [Act.put, List.setIfInBounds_toArray, List.set_cons_zero, List.set_cons_succ]
            refine take_at (i := 3) 37 (.bool true) rfl rfl (by kernel_rfl) (by kernel_rfl) (by kernel_rfl) (fun _ _ _ h => h) (yields_ld (.tmp 36) 4 (.pointer (some ⟨g2, 3, none⟩)) _ LD.out rfl rfl rfl) BV.out ?_
            simp only [Act.put, List.setIfInBounds_toArray, List.set_cons_zero, List.set_cons_succ]
            refine take_at (i := 4) 38 ?_ rfl rfl (by kernel_rfl) (by kernel_rfl) (by kernel_rfl) (fun _ _ _ h => h) (.inl ⟨rfl, ?_⟩) BV.out ?_
            rotate_left 1
            · intro w hSw; go_simp; try with_reducible rfl
            simp only [Act.put, List.setIfInBounds_toArray, List.set_cons_zero, List.set_cons_succ]
            refine take_at (i := 5) 39 ?_ rfl rfl (by kernel_rfl) (by kernel_rfl) (by kernel_rfl) (fun _ _ _ h => h) (.inl ⟨rfl, ?_⟩) BV.out ?_
            rotate_left 1
            · intro w hSw; go_simp; try with_reducible rfl
            simp only [Act.put, List.setIfInBounds_toArray, List.set_cons_zero, List.set_cons_succ]
            refine take_at (i := 6) 40 ?_ rfl rfl (by kernel_rfl) (by kernel_rfl) (by kernel_rfl) (fun _ _ _ h => h) (.inl ⟨rfl, ?_⟩) BV.out ?_
            rotate_left 1
            · intro w hSw; go_simp; try with_reducible rfl
            simp only [Act.put, List.setIfInBounds_toArray, List.set_cons_zero, List.set_cons_succ]
            refine take_at (i := 7) 41 (.agg #[.int .i64 qt, .int .i64 qr]) rfl rfl (by kernel_rfl) (by kernel_rfl) (by kernel_rfl) (fun _ _ _ h => h) (yields_ld (.tmp 40) 24 (.pointer (some ⟨g2, 0, none⟩)) _ LQ.out rfl rfl rfl) BV.out ?_
            simp only [Act.put, List.setIfInBounds_toArray, List.set_cons_zero, List.set_cons_succ]
            refine wpAnyH_ready (rs := [8]) (by kernel_rfl) (by simp) (br_call (i := 8) 42 50 #[] rfl rfl rfl (by go_simp) ((trash_any _).mono ?_) AllReadyH.nil)
            rintro e v1 ⟨rfl, hb⟩
            have BV := Lib.hid (BV.out.trans (hb.mono BV.out.size))
            clear hb
            refine ⟨_, rfl, BV.out, fun _ => ?_⟩
            simp only [Act.put, List.setIfInBounds_toArray, List.set_cons_zero, List.set_cons_succ]
            refine take_at (i := 9) 43 ?_ rfl rfl (by kernel_rfl) (by kernel_rfl) (by kernel_rfl) (fun _ _ _ h => h) (.inl ⟨rfl, ?_⟩) BV.out ?_
            rotate_left 1
            · intro w hSw; go_simp; try with_reducible rfl
            simp only [Act.put, List.setIfInBounds_toArray, List.set_cons_zero, List.set_cons_succ]
            refine take_at (i := 10) 44 ?_ rfl rfl (by kernel_rfl) (by kernel_rfl) (by kernel_rfl) (fun _ _ _ h => h) (.inl ⟨rfl, ?_⟩) BV.out ?_
            rotate_left 1
            · intro w hSw; go_simp; try with_reducible rfl
            simp only [Act.put, List.setIfInBounds_toArray, List.set_cons_zero, List.set_cons_succ]
            refine wpAnyH_done (by kernel_rfl) ?_ _
            go_wp2
            go_returns
            exact ⟨ret_i FV.out, B6.out.trans (BV.out.mono B6.out.size)⟩
          · have FV := Lib.hid (show fateF l t r = 3 from by unfold fateF; rw [HG.out]; simp [HG2.out, h0, j0])
            have s0 := bneb_ _ _ j0
            have s1 := nneb_ _ _ j0
            clear j0
            refine wp_region_held_drew (S := fun w' => Below w6.heap.size w6 w') (by kernel_rfl) (Below.refl _ _).drew (fun hHeld => ?_)
            have BV := Lib.hid (show Below w6.heap.size w6 w6.drew from (Below.refl _ _).drew)
            clear hHeld
            refine take_at (i := 0) 34 ?_ rfl rfl (by kernel_rfl) (by kernel_rfl) (by kernel_rfl) (fun _ _ _ h => h) (.inl ⟨rfl, ?_⟩) BV.out ?_
            rotate_left 1
            · intro w hSw; go_simp; try with_reducible rfl
            simp only [Act.put, List.setIfInBounds_toArray, List.set_cons_zero, List.set_cons_succ]
            refine take_at (i := 1) 35 ?_ rfl rfl (by kernel_rfl) (by kernel_rfl) (by kernel_rfl) (fun _ _ _ h => h) (.inl ⟨rfl, ?_⟩) BV.out ?_
            rotate_left 1
            · intro w hSw; go_simp; try with_reducible rfl
            simp only [Act.put, List.setIfInBounds_toArray, List.set_cons_zero, List.set_cons_succ]
            refine take_at (i := 2) 36 ?_ rfl rfl (by kernel_rfl) (by kernel_rfl) (by kernel_rfl) (fun _ _ _ h => h) (.inl ⟨rfl, ?_⟩) BV.out ?_
            rotate_left 1
            · intro w hSw; go_simp; try with_reducible rfl
            simp only [Act.put, List.setIfInBounds_toArray, List.set_cons_zero, List.set_cons_succ]
            refine take_at (i := 3) 37 (.bool true) rfl rfl (by kernel_rfl) (by kernel_rfl) (by kernel_rfl) (fun _ _ _ h => h) (yields_ld (.tmp 36) 4 (.pointer (some ⟨g2, 3, none⟩)) _ LD.out rfl rfl rfl) BV.out ?_
            simp only [Act.put, List.setIfInBounds_toArray, List.set_cons_zero, List.set_cons_succ]
            refine take_at (i := 4) 38 ?_ rfl rfl (by kernel_rfl) (by kernel_rfl) (by kernel_rfl) (fun _ _ _ h => h) (.inl ⟨rfl, ?_⟩) BV.out ?_
            rotate_left 1
            · intro w hSw; go_simp; try with_reducible rfl
            simp only [Act.put, List.setIfInBounds_toArray, List.set_cons_zero, List.set_cons_succ]
            refine take_at (i := 5) 39 ?_ rfl rfl (by kernel_rfl) (by kernel_rfl) (by kernel_rfl) (fun _ _ _ h => h) (.inl ⟨rfl, ?_⟩) BV.out ?_
            rotate_left 1
            · intro w hSw; go_simp; try with_reducible rfl
            simp only [Act.put, List.setIfInBounds_toArray, List.set_cons_zero, List.set_cons_succ]
            refine take_at (i := 6) 40 ?_ rfl rfl (by kernel_rfl) (by kernel_rfl) (by kernel_rfl) (fun _ _ _ h => h) (.inl ⟨rfl, ?_⟩) BV.out ?_
            rotate_left 1
            · intro w hSw; go_simp; try with_reducible rfl
            simp only [Act.put, List.setIfInBounds_toArray, List.set_cons_zero, List.set_cons_succ]
            refine take_at (i := 7) 41 (.agg #[.int .i64 0, .int .i64 qr]) rfl rfl (by kernel_rfl) (by kernel_rfl) (by kernel_rfl) (fun _ _ _ h => h) (yields_ld (.tmp 40) 24 (.pointer (some ⟨g2, 0, none⟩)) _ LQ.out rfl rfl rfl) BV.out ?_
            simp only [Act.put, List.setIfInBounds_toArray, List.set_cons_zero, List.set_cons_succ]
            refine wpAnyH_ready (rs := [8]) (by kernel_rfl) (by simp) (br_call (i := 8) 42 50 #[] rfl rfl rfl (by go_simp) ((trash_any _).mono ?_) AllReadyH.nil)
            rintro e v1 ⟨rfl, hb⟩
            have BV := Lib.hid (BV.out.trans (hb.mono BV.out.size))
            clear hb
            refine ⟨_, rfl, BV.out, fun _ => ?_⟩
            simp only [Act.put, List.setIfInBounds_toArray, List.set_cons_zero, List.set_cons_succ]
            refine take_at (i := 9) 43 ?_ rfl rfl (by kernel_rfl) (by kernel_rfl) (by kernel_rfl) (fun _ _ _ h => h) (.inl ⟨rfl, ?_⟩) BV.out ?_
            rotate_left 1
            · intro w hSw; go_simp; try with_reducible rfl
            simp only [Act.put, List.setIfInBounds_toArray, List.set_cons_zero, List.set_cons_succ]
            refine take_at (i := 10) 44 ?_ rfl rfl (by kernel_rfl) (by kernel_rfl) (by kernel_rfl) (fun _ _ _ h => h) (.inl ⟨rfl, ?_⟩) BV.out ?_
            rotate_left 1
            · intro w hSw; go_simp; try with_reducible rfl
            simp only [Act.put, List.setIfInBounds_toArray, List.set_cons_zero, List.set_cons_succ]
            refine wpAnyH_done (by kernel_rfl) ?_ _
            go_wp2
            go_returns
            exact ⟨ret_i FV.out, B6.out.trans (BV.out.mono B6.out.size)⟩
    · have z0 := bneb_ _ _ h0
      have z1 := bneb_ _ _ h1
      refine wp_region_held_drew (S := fun w' => Below w2.heap.size w2 w') (by kernel_rfl) (Below.refl _ _).drew (fun hHeld => ?_)
      have BV := Lib.hid (show Below w2.heap.size w2 w2.drew from (Below.refl _ _).drew)
      clear hHeld
      refine take_at (i := 0) 18 ?_ rfl rfl (by kernel_rfl) (by kernel_rfl) (by kernel_rfl) (fun _ _ _ h => h) (.inl ⟨rfl, ?_⟩) BV.out ?_
      rotate_left 1
      · intro w hSw; go_simp; try with_reducible rfl
      simp only [Act.put, List.setIfInBounds_toArray, List.set_cons_zero, List.set_cons_succ]
      refine take_at (i := 1) 19 (.agg #[.int .i64 0, .int .i64 pr]) rfl rfl (by kernel_rfl) (by kernel_rfl) (by kernel_rfl) (fun _ _ _ h => h) (yields_ld (.tmp 18) 24 (.pointer (some ⟨g1, 0, none⟩)) _ LE.out rfl rfl rfl) BV.out ?_
      simp only [Act.put, List.setIfInBounds_toArray, List.set_cons_zero, List.set_cons_succ]
      refine wpAnyH_ready (rs := [2]) (by kernel_rfl) (by simp) (br_call (i := 2) 20 50 #[] rfl rfl rfl (by go_simp) ((trash_any _).mono ?_) AllReadyH.nil)
      rintro e v1 ⟨rfl, hb⟩
      have BV := Lib.hid (BV.out.trans (hb.mono BV.out.size))
      clear hb
      refine ⟨_, rfl, BV.out, fun _ => ?_⟩
      simp only [Act.put, List.setIfInBounds_toArray, List.set_cons_zero, List.set_cons_succ]
      refine take_at (i := 3) 21 ?_ rfl rfl (by kernel_rfl) (by kernel_rfl) (by kernel_rfl) (fun _ _ _ h => h) (.inl ⟨rfl, ?_⟩) BV.out ?_
      rotate_left 1
      · intro w hSw; go_simp; try with_reducible rfl
      simp only [Act.put, List.setIfInBounds_toArray, List.set_cons_zero, List.set_cons_succ]
      refine take_at (i := 4) 17 ?_ rfl rfl (by kernel_rfl) (by kernel_rfl) (by kernel_rfl) (fun _ _ _ h => h) (.inl ⟨rfl, ?_⟩) BV.out ?_
      rotate_left 1
      · intro w hSw; go_simp; try with_reducible rfl
      simp only [Act.put, List.setIfInBounds_toArray, List.set_cons_zero, List.set_cons_succ]
      refine wpAnyH_done (by kernel_rfl) ?_ _
      go_upto_region 6 with (fail)
      refine wp_region_held_drew (S := fun w' => Below w2.heap.size w2 w') (by kernel_rfl) (BV.out.drew) (fun hHeld => ?_)
      have BV := Lib.hid (show Below w2.heap.size w2 v1.drew from BV.out.drew)
      clear hHeld
      refine take_at (i := 0) 23 ?_ rfl rfl (by kernel_rfl) (by kernel_rfl) (by kernel_rfl) (fun _ _ _ h => h) (.inl ⟨rfl, ?_⟩) BV.out ?_
      rotate_left 1
      · intro w hSw; go_simp; try with_reducible rfl
      simp only [Act.put, List.setIfInBounds_toArray, List.set_cons_zero, List.set_cons_succ]
      refine take_at (i := 1) 24 (.agg #[.int .i64 0, .int .i64 pr]) rfl rfl (by kernel_rfl) (by kernel_rfl) (by kernel_rfl) (fun _ _ _ h => h) (yields_ld (.tmp 23) 24 (.pointer (some ⟨g1, 0, none⟩)) _ LE.out rfl rfl rfl) BV.out ?_
      simp only [Act.put, List.setIfInBounds_toArray, List.set_cons_zero, List.set_cons_succ]
      refine wpAnyH_ready (rs := [2]) (by kernel_rfl) (by simp) (br_call (i := 2) 25 41 #[] rfl rfl rfl (by go_simp) ((root_any _).mono ?_) AllReadyH.nil)
      rintro e v11 ⟨rfl, hb⟩
      have BV := Lib.hid (BV.out.trans (hb.mono BV.out.size))
      clear hb
      refine ⟨_, rfl, BV.out, fun _ => ?_⟩
      simp only [Act.put, List.setIfInBounds_toArray, List.set_cons_zero, List.set_cons_succ]
      refine take_at (i := 3) 26 ?_ rfl rfl (by kernel_rfl) (by kernel_rfl) (by kernel_rfl) (fun _ _ _ h => h) (.inl ⟨rfl, ?_⟩) BV.out ?_
      rotate_left 1
      · intro w hSw; go_simp; try with_reducible rfl
      simp only [Act.put, List.setIfInBounds_toArray, List.set_cons_zero, List.set_cons_succ]
      refine take_at (i := 4) 22 ?_ rfl rfl (by kernel_rfl) (by kernel_rfl) (by kernel_rfl) (fun _ _ _ h => h) (.inl ⟨rfl, ?_⟩) BV.out ?_
      rotate_left 1
      · intro w hSw; go_simp; try with_reducible rfl
      simp only [Act.put, List.setIfInBounds_toArray, List.set_cons_zero, List.set_cons_succ]
      refine wpAnyH_done (by kernel_rfl) ?_ _
      have E5 := Lib.hid (E4.out.step BV.out)
      have T5 := Lib.hid (T4.out.step BV.out)
      have B5 := Lib.hid (B4.out.trans (BV.out.mono B4.out.size))
      have G2 := Lib.hid (get_any v11 p b l T5.out 0 pr XO.out.2.2.1 XO.out.2.2.2)
      clear BV LE T4 E4 B4
      cases hg2 : getF l 0 pr with
      | none =>
        obtain ⟨x1, x2, x3, x4, hx⟩ := gv_form l 0 pr
        rw [hx, hg2] at G2
        have FV := Lib.hid (show fateF l t r = 2 from by unfold fateF; rw [HG.out]; simp [hg2, h0, h1])
        clear hx hg2
        obtain ⟨d0, d1, d2, d3⟩ := E5.out.cells
        go_wp2_with fail
        refine G2.out.mono ?_
        rintro e w5 ⟨rfl, hb⟩
        have B5 := Lib.hid (B5.out.trans (hb.mono B5.out.size))
        clear hb d0 d1 d2 d3 E5
        go_upto_region 9 with (fail)
        have BS := vstep w5 (.cells #[.int .i64 x1, .int .i64 x2, .string x3, .bool x4] 34)
        have B6 := Lib.hid (B5.out.trans (BS.mono B5.out.size))
        have E6 := Lib.hid (show EnAt (w5.alloc (.cells #[.int .i64 x1, .int .i64 x2, .string x3, .bool x4] 34)) w5.heap.size x1 x2 x3 x4 from heap_alloc_new w5 _)
        obtain ⟨g2, hg2⟩ : ∃ k, w5.heap.size = k := ⟨_, rfl⟩
        rw [hg2] at E6 ⊢
        generalize (w5.alloc (.cells #[.int .i64 x1, .int .i64 x2, .string x3, .bool x4] 34)) = w6 at *
        clear BS hg2
        refine wp_region_held_drew (S := fun w' => Below w6.heap.size w6 w') (by kernel_rfl) (Below.refl _ _).drew (fun hHeld => ?_)
        have BV := Lib.hid (show Below w6.heap.size w6 w6.drew from (Below.refl _ _).drew)
        clear hHeld
        refine take_at (i := 0) 34 ?_ rfl rfl (by kernel_rfl) (by kernel_rfl) (by kernel_rfl) (fun _ _ _ h => h) (.inl ⟨rfl, ?_⟩) BV.out ?_
        rotate_left 1
        · intro w hSw; go_simp; try with_reducible rfl
        simp only [Act.put, List.setIfInBounds_toArray, List.set_cons_zero, List.set_cons_succ]
        refine take_at (i := 1) 35 ?_ rfl rfl (by kernel_rfl) (by kernel_rfl) (by kernel_rfl) (fun _ _ _ h => h) (.inl ⟨rfl, ?_⟩) BV.out ?_
        rotate_left 1
        · intro w hSw; go_simp; try with_reducible rfl
        simp only [Act.put, List.setIfInBounds_toArray, List.set_cons_zero, List.set_cons_succ]
        refine take_at (i := 2) 36 undef rfl rfl (by kernel_rfl) (by kernel_rfl) (by kernel_rfl) (fun _ _ _ h => h) (.inr ⟨rfl, rfl⟩) BV.out ?_
        simp only [Act.put, List.setIfInBounds_toArray, List.set_cons_zero, List.set_cons_succ]
        refine take_at (i := 3) 37 undef rfl rfl (by kernel_rfl) (by kernel_rfl) (by kernel_rfl) (fun _ _ _ h => h) (.inr ⟨rfl, rfl⟩) BV.out ?_
        simp only [Act.put, List.setIfInBounds_toArray, List.set_cons_zero, List.set_cons_succ]
        refine take_at (i := 4) 38 ?_ rfl rfl (by kernel_rfl) (by kernel_rfl) (by kernel_rfl) (fun _ _ _ h => h) (.inl ⟨rfl, ?_⟩) BV.out ?_
        rotate_left 1
        · intro w hSw; go_simp; try with_reducible rfl
        simp only [Act.put, List.setIfInBounds_toArray, List.set_cons_zero, List.set_cons_succ]
        refine take_at (i := 5) 39 ?_ rfl rfl (by kernel_rfl) (by kernel_rfl) (by kernel_rfl) (fun _ _ _ h => h) (.inl ⟨rfl, ?_⟩) BV.out ?_
        rotate_left 1
        · intro w hSw; go_simp; try with_reducible rfl
        simp only [Act.put, List.setIfInBounds_toArray, List.set_cons_zero, List.set_cons_succ]
        refine take_at (i := 6) 40 undef rfl rfl (by kernel_rfl) (by kernel_rfl) (by kernel_rfl) (fun _ _ _ h => h) (.inr ⟨rfl, rfl⟩) BV.out ?_
        simp only [Act.put, List.setIfInBounds_toArray, List.set_cons_zero, List.set_cons_succ]
        refine take_at (i := 7) 41 undef rfl rfl (by kernel_rfl) (by kernel_rfl) (by kernel_rfl) (fun _ _ _ h => h) (.inr ⟨rfl, rfl⟩) BV.out ?_
        simp only [Act.put, List.setIfInBounds_toArray, List.set_cons_zero, List.set_cons_succ]
        refine take_at (i := 8) 42 undef rfl rfl (by kernel_rfl) (by kernel_rfl) (by kernel_rfl) (fun _ _ _ h => h) (.inr ⟨rfl, rfl⟩) BV.out ?_
        simp only [Act.put, List.setIfInBounds_toArray, List.set_cons_zero, List.set_cons_succ]
        refine take_at (i := 9) 43 undef rfl rfl (by kernel_rfl) (by kernel_rfl) (by kernel_rfl) (fun _ _ _ h => h) (.inr ⟨rfl, rfl⟩) BV.out ?_
        simp only [Act.put, List.setIfInBounds_toArray, List.set_cons_zero, List.set_cons_succ]
        refine take_at (i := 10) 44 ?_ rfl rfl (by kernel_rfl) (by kernel_rfl) (by kernel_rfl) (fun _ _ _ h => h) (.inl ⟨rfl, ?_⟩) BV.out ?_
        rotate_left 1
        · intro w hSw; go_simp; try with_reducible rfl
        simp only [Act.put, List.setIfInBounds_toArray, List.set_cons_zero, List.set_cons_succ]
        refine wpAnyH_done (by kernel_rfl) ?_ _
        go_wp2
        go_returns
        exact ⟨ret_i FV.out, B6.out.trans (BV.out.mono B6.out.size)⟩
      | some y =>
        obtain ⟨yt, yr, qt, qr, qn, qd⟩ := y
        rw [show gv l 0 pr = .agg #[.int .i64 qt, .int .i64 qr, .string qn, .bool qd] from by unfold gv; rw [hg2], show (getF l 0 pr).isSome = true from by rw [hg2]; rfl] at G2
        have HG2 := Lib.hid hg2
        clear hg2
        obtain ⟨d0, d1, d2, d3⟩ := E5.out.cells
        go_wp2_with fail
        refine G2.out.mono ?_
        rintro e w5 ⟨rfl, hb⟩
        have B5 := Lib.hid (B5.out.trans (hb.mono B5.out.size))
        clear hb d0 d1 d2 d3 E5
        go_upto_region 9 with (fail)
        have BS := vstep w5 (.cells #[.int .i64 qt, .int .i64 qr, .string qn, .bool qd] 34)
        have B6 := Lib.hid (B5.out.trans (BS.mono B5.out.size))
        have E6 := Lib.hid (show EnAt (w5.alloc (.cells #[.int .i64 qt, .int .i64 qr, .string qn, .bool qd] 34)) w5.heap.size qt qr qn qd from heap_alloc_new w5 _)
        obtain ⟨g2, hg2⟩ : ∃ k, w5.heap.size = k := ⟨_, rfl⟩
        rw [hg2] at E6 ⊢
        generalize (w5.alloc (.cells #[.int .i64 qt, .int .i64 qr, .string qn, .bool qd] 34)) = w6 at *
        clear BS hg2
        have LD := Lib.hid (fun W (hb : Below w6.heap.size w6 W) => load4e (E6.out.step hb))
        have LQ := Lib.hid (fun W (hb : Below w6.heap.size w6 W) => load24e (E6.out.step hb))
        cases qd with
        | false =>
          have FV := Lib.hid (show fateF l t r = 2 from by unfold fateF; rw [HG.out]; simp [HG2.out, h0, h1])
          clear LQ
          refine wp_region_held_drew (S := fun w' => Below w6.heap.size w6 w') (by kernel_rfl) (Below.refl _ _).drew (fun hHeld => ?_)
          have BV := Lib.hid (show Below w6.heap.size w6 w6.drew from (Below.refl _ _).drew)
          clear hHeld
          refine take_at (i := 0) 34 ?_ rfl rfl (by kernel_rfl) (by kernel_rfl) (by kernel_rfl) (fun _ _ _ h => h) (.inl ⟨rfl, ?_⟩) BV.out ?_
          rotate_left 1
          · intro w hSw; go_simp; try with_reducible rfl
          simp only [Act.put, List.setIfInBounds_toArray, List.set_cons_zero, List.set_cons_succ]
          refine take_at (i := 1) 35 ?_ rfl rfl (by kernel_rfl) (by kernel_rfl) (by kernel_rfl) (fun _ _ _ h => h) (.inl ⟨rfl, ?_⟩) BV.out ?_
          rotate_left 1
          · intro w hSw; go_simp; try with_reducible rfl
          simp only [Act.put, List.setIfInBounds_toArray, List.set_cons_zero, List.set_cons_succ]
          refine take_at (i := 2) 36 ?_ rfl rfl (by kernel_rfl) (by kernel_rfl) (by kernel_rfl) (fun _ _ _ h => h) (.inl ⟨rfl, ?_⟩) BV.out ?_
          rotate_left 1
          · intro w hSw; go_simp; try with_reducible rfl
          simp only [Act.put, List.setIfInBounds_toArray, List.set_cons_zero, List.set_cons_succ]
          refine take_at (i := 3) 37 (.bool false) rfl rfl (by kernel_rfl) (by kernel_rfl) (by kernel_rfl) (fun _ _ _ h => h) (yields_ld (.tmp 36) 4 (.pointer (some ⟨g2, 3, none⟩)) _ LD.out rfl rfl rfl) BV.out ?_
          simp only [Act.put, List.setIfInBounds_toArray, List.set_cons_zero, List.set_cons_succ]
          refine take_at (i := 4) 38 ?_ rfl rfl (by kernel_rfl) (by kernel_rfl) (by kernel_rfl) (fun _ _ _ h => h) (.inl ⟨rfl, ?_⟩) BV.out ?_
          rotate_left 1
          · intro w hSw; go_simp; try with_reducible rfl
          simp only [Act.put, List.setIfInBounds_toArray, List.set_cons_zero, List.set_cons_succ]
          refine take_at (i := 5) 39 ?_ rfl rfl (by kernel_rfl) (by kernel_rfl) (by kernel_rfl) (fun _ _ _ h => h) (.inl ⟨rfl, ?_⟩) BV.out ?_
          rotate_left 1
          · intro w hSw; go_simp; try with_reducible rfl
          simp only [Act.put, List.setIfInBounds_toArray, List.set_cons_zero, List.set_cons_succ]
          refine take_at (i := 6) 40 undef rfl rfl (by kernel_rfl) (by kernel_rfl) (by kernel_rfl) (fun _ _ _ h => h) (.inr ⟨rfl, rfl⟩) BV.out ?_
          simp only [Act.put, List.setIfInBounds_toArray, List.set_cons_zero, List.set_cons_succ]
          refine take_at (i := 7) 41 undef rfl rfl (by kernel_rfl) (by kernel_rfl) (by kernel_rfl) (fun _ _ _ h => h) (.inr ⟨rfl, rfl⟩) BV.out ?_
          simp only [Act.put, List.setIfInBounds_toArray, List.set_cons_zero, List.set_cons_succ]
          refine take_at (i := 8) 42 undef rfl rfl (by kernel_rfl) (by kernel_rfl) (by kernel_rfl) (fun _ _ _ h => h) (.inr ⟨rfl, rfl⟩) BV.out ?_
          simp only [Act.put, List.setIfInBounds_toArray, List.set_cons_zero, List.set_cons_succ]
          refine take_at (i := 9) 43 undef rfl rfl (by kernel_rfl) (by kernel_rfl) (by kernel_rfl) (fun _ _ _ h => h) (.inr ⟨rfl, rfl⟩) BV.out ?_
          simp only [Act.put, List.setIfInBounds_toArray, List.set_cons_zero, List.set_cons_succ]
          refine take_at (i := 10) 44 ?_ rfl rfl (by kernel_rfl) (by kernel_rfl) (by kernel_rfl) (fun _ _ _ h => h) (.inl ⟨rfl, ?_⟩) BV.out ?_
          rotate_left 1
          · intro w hSw; go_simp; try with_reducible rfl
          simp only [Act.put, List.setIfInBounds_toArray, List.set_cons_zero, List.set_cons_succ]
          refine wpAnyH_done (by kernel_rfl) ?_ _
          go_wp2
          go_returns
          exact ⟨ret_i FV.out, B6.out.trans (BV.out.mono B6.out.size)⟩
        | true =>
          rcases (show (qt = 0 ∧ qr = 1) ∨ (qt ≠ 0) ∨ (qt = 0 ∧ qr ≠ 1) from by omega) with ⟨rfl, rfl⟩ | j0 | ⟨rfl, j0⟩
          · have FV := Lib.hid (show fateF l t r = 2 from by unfold fateF; rw [HG.out]; simp [HG2.out, h0, h1])
            refine wp_region_held_drew (S := fun w' => Below w6.heap.size w6 w') (by kernel_rfl) (Below.refl _ _).drew (fun hHeld => ?_)
            have BV := Lib.hid (show Below w6.heap.size w6 w6.drew from (Below.refl _ _).drew)
            clear hHeld
            refine take_at (i := 0) 34 ?_ rfl rfl (by kernel_rfl) (by kernel_rfl) (by kernel_rfl) (fun _ _ _ h => h) (.inl ⟨rfl, ?_⟩) BV.out ?_
            rotate_left 1
            · intro w hSw; go_simp; try with_reducible rfl
            simp only [Act.put, List.setIfInBounds_toArray, List.set_cons_zero, List.set_cons_succ]
            refine take_at (i := 1) 35 ?_ rfl rfl (by kernel_rfl) (by kernel_rfl) (by kernel_rfl) (fun _ _ _ h => h) (.inl ⟨rfl, ?_⟩) BV.out ?_
            rotate_left 1
            · intro w hSw; go_simp; try with_reducible rfl
            simp only [Act.put, List.setIfInBounds_toArray, List.set_cons_zero, List.set_cons_succ]
            refine take_at (i := 2) 36 ?_ rfl rfl (by kernel_rfl) (by kernel_rfl) (by kernel_rfl) (fun _ _ _ h => h) (.inl ⟨rfl, ?_⟩) BV.out ?_
            rotate_left 1
            · intro w hSw; go_simp; try with_reducible rfl
            simp only [Act.put, List.setIfInBounds_toArray, List.set_cons_zero, List.set_cons_succ]
            refine take_at (i := 3) 37 (.bool true) rfl rfl (by kernel_rfl) (by kernel_rfl) (by kernel_rfl) (fun _ _ _ h => h) (yields_ld (.tmp 36) 4 (.pointer (some ⟨g2, 3, none⟩)) _ LD.out rfl rfl rfl) BV.out ?_
            simp only [Act.put, List.setIfInBounds_toArray, List.set_cons_zero, List.set_cons_succ]
            refine take_at (i := 4) 38 ?_ rfl rfl (by kernel_rfl) (by kernel_rfl) (by kernel_rfl) (fun _ _ _ h => h) (.inl ⟨rfl, ?_⟩) BV.out ?_
            rotate_left 1
            · intro w hSw; go_simp; try with_reducible rfl
            simp only [Act.put, List.setIfInBounds_toArray, List.set_cons_zero, List.set_cons_succ]
            refine take_at (i := 5) 39 ?_ rfl rfl (by kernel_rfl) (by kernel_rfl) (by kernel_rfl) (fun _ _ _ h => h) (.inl ⟨rfl, ?_⟩) BV.out ?_
            rotate_left 1
            · intro w hSw; go_simp; try with_reducible rfl
            simp only [Act.put, List.setIfInBounds_toArray, List.set_cons_zero, List.set_cons_succ]
            refine take_at (i := 6) 40 ?_ rfl rfl (by kernel_rfl) (by kernel_rfl) (by kernel_rfl) (fun _ _ _ h => h) (.inl ⟨rfl, ?_⟩) BV.out ?_
            rotate_left 1
            · intro w hSw; go_simp; try with_reducible rfl
            simp only [Act.put, List.setIfInBounds_toArray, List.set_cons_zero, List.set_cons_succ]
            refine take_at (i := 7) 41 (.agg #[.int .i64 0, .int .i64 1]) rfl rfl (by kernel_rfl) (by kernel_rfl) (by kernel_rfl) (fun _ _ _ h => h) (yields_ld (.tmp 40) 24 (.pointer (some ⟨g2, 0, none⟩)) _ LQ.out rfl rfl rfl) BV.out ?_
            simp only [Act.put, List.setIfInBounds_toArray, List.set_cons_zero, List.set_cons_succ]
            refine wpAnyH_ready (rs := [8]) (by kernel_rfl) (by simp) (br_call (i := 8) 42 50 #[] rfl rfl rfl (by go_simp) ((trash_any _).mono ?_) AllReadyH.nil)
            rintro e v1 ⟨rfl, hb⟩
            have BV := Lib.hid (BV.out.trans (hb.mono BV.out.size))
            clear hb
            refine ⟨_, rfl, BV.out, fun _ => ?_⟩
            simp only [Act.put, List.setIfInBounds_toArray, List.set_cons_zero, List.set_cons_succ]
            refine take_at (i := 9) 43 ?_ rfl rfl (by kernel_rfl) (by kernel_rfl) (by kernel_rfl) (fun _ _ _ h => h) (.inl ⟨rfl, ?_⟩) BV.out ?_
            rotate_left 1
            · intro w hSw; go_simp; try with_reducible rfl
            simp only [Act.put, List.setIfInBounds_toArray, List.set_cons_zero, List.set_cons_succ]
            refine take_at (i := 10) 44 ?_ rfl rfl (by kernel_rfl) (by kernel_rfl) (by kernel_rfl) (fun _ _ _ h => h) (.inl ⟨rfl, ?_⟩) BV.out ?_
            rotate_left 1
            · intro w hSw; go_simp; try with_reducible rfl
            simp only [Act.put, List.setIfInBounds_toArray, List.set_cons_zero, List.set_cons_succ]
            refine wpAnyH_done (by kernel_rfl) ?_ _
            go_wp2
            go_returns
            exact ⟨ret_i FV.out, B6.out.trans (BV.out.mono B6.out.size)⟩
          · have FV := Lib.hid (show fateF l t r = 3 from by unfold fateF; rw [HG.out]; simp [HG2.out, h0, h1, j0])
            have s0 := bneb_ _ _ j0
            have s1 := nneb_ _ _ j0
            clear j0
            refine wp_region_held_drew (S := fun w' => Below w6.heap.size w6 w') (by kernel_rfl) (Below.refl _ _).drew (fun hHeld => ?_)
            have BV := Lib.hid (show Below w6.heap.size w6 w6.drew from (Below.refl _ _).drew)
            clear hHeld
            refine take_at (i := 0) 34 ?_ rfl rfl (by kernel_rfl) (by kernel_rfl) (by kernel_rfl) (fun _ _ _ h => h) (.inl ⟨rfl, ?_⟩) BV.out ?_
            rotate_left 1
            · intro w hSw; go_simp; try with_reducible rfl
            simp only [Act.put, List.setIfInBounds_toArray, List.set_cons_zero, List.set_cons_succ]
            refine take_at (i := 1) 35 ?_ rfl rfl (by kernel_rfl) (by kernel_rfl) (by kernel_rfl) (fun _ _ _ h => h) (.inl ⟨rfl, ?_⟩) BV.out ?_
            rotate_left 1
            · intro w hSw; go_simp; try with_reducible rfl
            simp only [Act.put, List.setIfInBounds_toArray, List.set_cons_zero, List.set_cons_succ]
            refine take_at (i := 2) 36 ?_ rfl rfl (by kernel_rfl) (by kernel_rfl) (by kernel_rfl) (fun _ _ _ h => h) (.inl ⟨rfl, ?_⟩) BV.out ?_
            rotate_left 1
            · intro w hSw; go_simp; try with_reducible rfl
            simp only [Act.put, List.setIfInBounds_toArray, List.set_cons_zero, List.set_cons_succ]
            refine take_at (i := 3) 37 (.bool true) rfl rfl (by kernel_rfl) (by kernel_rfl) (by kernel_rfl) (fun _ _ _ h => h) (yields_ld (.tmp 36) 4 (.pointer (some ⟨g2, 3, none⟩)) _ LD.out rfl rfl rfl) BV.out ?_
            simp only [Act.put, List.setIfInBounds_toArray, List.set_cons_zero, List.set_cons_succ]
            refine take_at (i := 4) 38 ?_ rfl rfl (by kernel_rfl) (by kernel_rfl) (by kernel_rfl) (fun _ _ _ h => h) (.inl ⟨rfl, ?_⟩) BV.out ?_
            rotate_left 1
            · intro w hSw; go_simp; try with_reducible rfl
            simp only [Act.put, List.setIfInBounds_toArray, List.set_cons_zero, List.set_cons_succ]
            refine take_at (i := 5) 39 ?_ rfl rfl (by kernel_rfl) (by kernel_rfl) (by kernel_rfl) (fun _ _ _ h => h) (.inl ⟨rfl, ?_⟩) BV.out ?_
            rotate_left 1
            · intro w hSw; go_simp; try with_reducible rfl
            simp only [Act.put, List.setIfInBounds_toArray, List.set_cons_zero, List.set_cons_succ]
            refine take_at (i := 6) 40 ?_ rfl rfl (by kernel_rfl) (by kernel_rfl) (by kernel_rfl) (fun _ _ _ h => h) (.inl ⟨rfl, ?_⟩) BV.out ?_
            rotate_left 1
            · intro w hSw; go_simp; try with_reducible rfl
            simp only [Act.put, List.setIfInBounds_toArray, List.set_cons_zero, List.set_cons_succ]
            refine take_at (i := 7) 41 (.agg #[.int .i64 qt, .int .i64 qr]) rfl rfl (by kernel_rfl) (by kernel_rfl) (by kernel_rfl) (fun _ _ _ h => h) (yields_ld (.tmp 40) 24 (.pointer (some ⟨g2, 0, none⟩)) _ LQ.out rfl rfl rfl) BV.out ?_
            simp only [Act.put, List.setIfInBounds_toArray, List.set_cons_zero, List.set_cons_succ]
            refine wpAnyH_ready (rs := [8]) (by kernel_rfl) (by simp) (br_call (i := 8) 42 50 #[] rfl rfl rfl (by go_simp) ((trash_any _).mono ?_) AllReadyH.nil)
            rintro e v1 ⟨rfl, hb⟩
            have BV := Lib.hid (BV.out.trans (hb.mono BV.out.size))
            clear hb
            refine ⟨_, rfl, BV.out, fun _ => ?_⟩
            simp only [Act.put, List.setIfInBounds_toArray, List.set_cons_zero, List.set_cons_succ]
            refine take_at (i := 9) 43 ?_ rfl rfl (by kernel_rfl) (by kernel_rfl) (by kernel_rfl) (fun _ _ _ h => h) (.inl ⟨rfl, ?_⟩) BV.out ?_
            rotate_left 1
            · intro w hSw; go_simp; try with_reducible rfl
            simp only [Act.put, List.setIfInBounds_toArray, List.set_cons_zero, List.set_cons_succ]
            refine take_at (i := 10) 44 ?_ rfl rfl (by kernel_rfl) (by kernel_rfl) (by kernel_rfl) (fun _ _ _ h => h) (.inl ⟨rfl, ?_⟩) BV.out ?_
            rotate_left 1
            · intro w hSw; go_simp; try with_reducible rfl
            simp only [Act.put, List.setIfInBounds_toArray, List.set_cons_zero, List.set_cons_succ]
            refine wpAnyH_done (by kernel_rfl) ?_ _
            go_wp2
            go_returns
            exact ⟨ret_i FV.out, B6.out.trans (BV.out.mono B6.out.size)⟩
          · have FV := Lib.hid (show fateF l t r = 3 from by unfold fateF; rw [HG.out]; simp [HG2.out, h0, h1, j0])
            have s0 := bneb_ _ _ j0
            have s1 := nneb_ _ _ j0
            clear j0
            refine wp_region_held_drew (S := fun w' => Below w6.heap.size w6 w') (by kernel_rfl) (Below.refl _ _).drew (fun hHeld => ?_)
            have BV := Lib.hid (show Below w6.heap.size w6 w6.drew from (Below.refl _ _).drew)
            clear hHeld
            refine take_at (i := 0) 34 ?_ rfl rfl (by kernel_rfl) (by kernel_rfl) (by kernel_rfl) (fun _ _ _ h => h) (.inl ⟨rfl, ?_⟩) BV.out ?_
            rotate_left 1
            · intro w hSw; go_simp; try with_reducible rfl
            simp only [Act.put, List.setIfInBounds_toArray, List.set_cons_zero, List.set_cons_succ]
            refine take_at (i := 1) 35 ?_ rfl rfl (by kernel_rfl) (by kernel_rfl) (by kernel_rfl) (fun _ _ _ h => h) (.inl ⟨rfl, ?_⟩) BV.out ?_
            rotate_left 1
            · intro w hSw; go_simp; try with_reducible rfl
            simp only [Act.put, List.setIfInBounds_toArray, List.set_cons_zero, List.set_cons_succ]
            refine take_at (i := 2) 36 ?_ rfl rfl (by kernel_rfl) (by kernel_rfl) (by kernel_rfl) (fun _ _ _ h => h) (.inl ⟨rfl, ?_⟩) BV.out ?_
            rotate_left 1
            · intro w hSw; go_simp; try with_reducible rfl
            simp only [Act.put, List.setIfInBounds_toArray, List.set_cons_zero, List.set_cons_succ]
            refine take_at (i := 3) 37 (.bool true) rfl rfl (by kernel_rfl) (by kernel_rfl) (by kernel_rfl) (fun _ _ _ h => h) (yields_ld (.tmp 36) 4 (.pointer (some ⟨g2, 3, none⟩)) _ LD.out rfl rfl rfl) BV.out ?_
            simp only [Act.put, List.setIfInBounds_toArray, List.set_cons_zero, List.set_cons_succ]
            refine take_at (i := 4) 38 ?_ rfl rfl (by kernel_rfl) (by kernel_rfl) (by kernel_rfl) (fun _ _ _ h => h) (.inl ⟨rfl, ?_⟩) BV.out ?_
            rotate_left 1
            · intro w hSw; go_simp; try with_reducible rfl
            simp only [Act.put, List.setIfInBounds_toArray, List.set_cons_zero, List.set_cons_succ]
            refine take_at (i := 5) 39 ?_ rfl rfl (by kernel_rfl) (by kernel_rfl) (by kernel_rfl) (fun _ _ _ h => h) (.inl ⟨rfl, ?_⟩) BV.out ?_
            rotate_left 1
            · intro w hSw; go_simp; try with_reducible rfl
            simp only [Act.put, List.setIfInBounds_toArray, List.set_cons_zero, List.set_cons_succ]
            refine take_at (i := 6) 40 ?_ rfl rfl (by kernel_rfl) (by kernel_rfl) (by kernel_rfl) (fun _ _ _ h => h) (.inl ⟨rfl, ?_⟩) BV.out ?_
            rotate_left 1
            · intro w hSw; go_simp; try with_reducible rfl
            simp only [Act.put, List.setIfInBounds_toArray, List.set_cons_zero, List.set_cons_succ]
            refine take_at (i := 7) 41 (.agg #[.int .i64 0, .int .i64 qr]) rfl rfl (by kernel_rfl) (by kernel_rfl) (by kernel_rfl) (fun _ _ _ h => h) (yields_ld (.tmp 40) 24 (.pointer (some ⟨g2, 0, none⟩)) _ LQ.out rfl rfl rfl) BV.out ?_
            simp only [Act.put, List.setIfInBounds_toArray, List.set_cons_zero, List.set_cons_succ]
            refine wpAnyH_ready (rs := [8]) (by kernel_rfl) (by simp) (br_call (i := 8) 42 50 #[] rfl rfl rfl (by go_simp) ((trash_any _).mono ?_) AllReadyH.nil)
            rintro e v1 ⟨rfl, hb⟩
            have BV := Lib.hid (BV.out.trans (hb.mono BV.out.size))
            clear hb
            refine ⟨_, rfl, BV.out, fun _ => ?_⟩
            simp only [Act.put, List.setIfInBounds_toArray, List.set_cons_zero, List.set_cons_succ]
            refine take_at (i := 9) 43 ?_ rfl rfl (by kernel_rfl) (by kernel_rfl) (by kernel_rfl) (fun _ _ _ h => h) (.inl ⟨rfl, ?_⟩) BV.out ?_
            rotate_left 1
            · intro w hSw; go_simp; try with_reducible rfl
            simp only [Act.put, List.setIfInBounds_toArray, List.set_cons_zero, List.set_cons_succ]
            refine take_at (i := 10) 44 ?_ rfl rfl (by kernel_rfl) (by kernel_rfl) (by kernel_rfl) (fun _ _ _ h => h) (.inl ⟨rfl, ?_⟩) BV.out ?_
            rotate_left 1
            · intro w hSw; go_simp; try with_reducible rfl
            simp only [Act.put, List.setIfInBounds_toArray, List.set_cons_zero, List.set_cons_succ]
            refine wpAnyH_done (by kernel_rfl) ?_ _
            go_wp2
            go_returns
            exact ⟨ret_i FV.out, B6.out.trans (BV.out.mono B6.out.size)⟩
end Go.Proofs.Ytegmlekeielmoaa
