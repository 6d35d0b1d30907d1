/- A disk: Sync; a beginning of another text. Made by gendt10.py. -/
import Derived.Test.YtgbihpfpiaacfaaGreatDoorDO
import Derived.BigQuiet
set_option linter.unusedVariables false
set_option linter.unusedSimpArgs false
set_option maxRecDepth 100000
namespace Go.Proofs.YtgbihpfpiaacfaaGreatDoor
open Go.RowKit Go.WideMaps Go.Maps

set_option maxHeartbeats 1600000 in
theorem sync_stop (w : World) (B d : Nat) (s : DS) (h : DK w B d s) (nm : ByteArray) (hs : nm.size ≤ maxLen) (hf : fnd s nm = 12 ∨ fnd s nm = 8) :
    Calls Tryz.prog 63 #[pv d, .string nm] w fun e w' => e = .returned (.int .i64 (fnd s nm)) ∧ Below w.heap.size w w' := by
  have F := Lib.hid (find_any w B d s h nm hs)
  clear h
  generalize fval s nm = y at *
  rcases hf with hf | hf <;> rw [hf] at F ⊢
  all_goals
    go_enter Tryz.func63, Tryz.ntmps63
    go_wp2_with fail
    refine F.out.mono ?_
    rintro e w1 ⟨rfl, hb⟩
    have B2 := Lib.hid hb
    clear hb
    go_wp2
    go_returns
    exact ⟨rfl, B2.out.trans ((vstep w1 _).mono B2.out.size)⟩
set_option maxHeartbeats 6400000 in
theorem sync_go (w : World) (B d : Nat) (s : DS) (h : DK w B d s) (nm : ByteArray) (hs : nm.size ≤ maxLen) (hl : s.l.length < 100000) (hf : fnd s nm = 0) :
    Calls Tryz.prog 63 #[pv d, .string nm] w fun e w' => (tk s 1 < 1 ∧ e = .returned (.int .i64 12) ∧ Out B d s (aft s 1) w w') ∨ (¬ tk s 1 < 1 ∧ e = .returned (.int .i64 0) ∧ Out B d s { aft s 1 with l := setF s.l (cutF (fval s nm) (fval s nm).b.length) } w w') := by
  have F := Lib.hid (find_any w B d s h nm hs)
  have ST := Lib.hid (fun (W : World) (hb : Below w.heap.size w W) => step_any W B d s (h.step hb))
  obtain ⟨hy1, hy2, b, hm⟩ := fval_mem h hf
  rw [hf] at F
  have BASE := Lib.hid h.base
  have HL := Lib.hid hl
  have HS := Lib.hid hs
  obtain ⟨t, ht⟩ : ∃ t, aft s 1 = t := ⟨_, rfl⟩
  have TT := Lib.hid (show t.l = s.l ∧ t.m = some b from by rw [← ht, aft_l, aft_m]; exact ⟨rfl, hm⟩)
  rw [ht] at ST ⊢
  have HY := Lib.hid (And.intro hy1 hy2)
  have hcap := own_cap (show w.ownsRow B 5 1 (.slice (fval s nm).a (fval s nm).b.length (fval s nm).c) _ _ from h.rows _ hy1)
  clear h hs hl ht hm hy1 hy2
  generalize fval s nm = y at *
  by_cases hz : tk s 1 < 1
  · simp only [if_pos hz] at ST
    simp only [hz, true_and, not_true_eq_false, false_and, or_false]
    go_enter Tryz.func63, Tryz.ntmps63
    go_wp2_with fail
    refine F.out.mono ?_
    rintro e w1 ⟨rfl, hb⟩
    have B2 := Lib.hid (hb.trans ((vstep w1 (.cells #[.slice y.a y.b.length y.c, .int .i64 y.s] 82)).mono hb.size))
    obtain ⟨W2, hW2⟩ : ∃ z, w1.alloc (.cells #[.slice y.a y.b.length y.c, .int .i64 y.s] 82) = z := ⟨_, rfl⟩
    rw [hW2] at B2
    have HW2 := Lib.hid hW2
    have ST2 := Lib.hid (ST.out W2 B2.out)
    clear hW2 hb
    go_upto_region 2 with (fail)
    rw [HW2.out]
    go_wp2_with fail
    refine ST2.out.mono ?_
    rintro e w3 ⟨rfl, ho⟩
    have O3 := Lib.hid (Out.of_below B2.out ho)
    clear ho
    go_wp2
    go_returns
    exact ⟨rfl, O3.out⟩
  · simp only [if_neg hz] at ST
    simp only [hz, false_and, not_false_eq_true, true_and, false_or]
    go_enter Tryz.func63, Tryz.ntmps63
    go_wp2_with fail
    refine F.out.mono ?_
    rintro e w1 ⟨rfl, hb⟩
    have B2 := Lib.hid (hb.trans ((vstep w1 (.cells #[.slice y.a y.b.length y.c, .int .i64 y.s] 82)).mono hb.size))
    have G2 := Lib.hid (FB.new w1 (.slice y.a y.b.length y.c) y.s)
    have GE := Lib.hid hb.size
    obtain ⟨W2, hW2⟩ : ∃ z, w1.alloc (.cells #[.slice y.a y.b.length y.c, .int .i64 y.s] 82) = z := ⟨_, rfl⟩
    rw [hW2] at B2 G2
    have HW2 := Lib.hid hW2
    have ST2 := Lib.hid (ST.out W2 B2.out)
    clear hW2 hb
    go_upto_region 2 with (fail)
    rw [HW2.out]
    generalize w1.heap.size = bx at *
    go_upto_region 4 with (fail)
    go_wp2_with fail
    refine ST2.out.mono ?_
    rintro e w3 ⟨rfl, ho⟩
    have O3 := Lib.hid (Out.of_below B2.out ho)
    have NG : ¬ Has d s bx := fun q => by have := (BASE.out bx q).2; have := GE.out; omega
    have G3 := Lib.hid (show FB w3 bx (.slice y.a y.b.length y.c) y.s from G2.out.far ho.far NG)
    clear ho
    obtain ⟨c0, c1, c2, c3, c4⟩ := O3.out.dk.cells
    rw [TT.out.2] at c1
    have C1 := Lib.hid c1
    clear c0 c1 c2 c3 c4
    obtain ⟨L, hL⟩ : ∃ L, y.b.length = L := ⟨_, rfl⟩
    have S2 := Lib.hid (show (w3.drew.cell? ⟨d, 1, none⟩ = some (.map (some b)) ∧ FB w3.drew bx (.slice y.a L y.c) y.s) from ⟨C1.out, by rw [← hL]; exact G3.out⟩)
    have FI := Lib.hid (fun W => first_any W y.a L y.c y.s L (by have := hcap.1; omega) hcap.2)
    have PUT := Lib.hid (fun (v1 : World) (hb : Below w3.heap.size w3 v1) => (show ∃ w7, (Instr.mapUpdate 68 (.map (some b)) (.string nm) (.agg #[.slice y.a L y.c, .int .i64 (L : Int)])).run Tryz.prog v1 = .ok () w7 ∧ (w7.cell? ⟨d, 1, none⟩ = some (.map (some b)) ∧ FB w7 bx (.slice y.a L y.c) y.s) ∧ Out B d s { t with l := setF s.l (cutF y L) } w w7 from by
      have o1 := O3.out.then_below hb
      have hmem : y ∈ t.l := by rw [TT.out.1]; exact HY.out.1
      obtain ⟨w7, r1, r2, r3⟩ := (dm_of o1.dk TT.out.2).put (x := cutF y L) (by show y.n.size ≤ maxLen; rw [HY.out.2]; exact HS.out) (by rw [TT.out.1]; have := HL.out; unfold maxLen; omega)
      have hcl : (cutF y L).b.length = L := cut_len (by rw [hL]; exact Nat.le_refl _)
      have o2 := Out.cut o1.dk TT.out.2 hmem (show L ≤ y.b.length by omega) r2 r3
      have o3 := o1.trans o2
      refine ⟨w7, ?_, ⟨?_, ?_⟩, ?_⟩
      · have r1' := r1
        unfold fv at r1'
        rw [hcl, show (cutF y L).n = nm from HY.out.2] at r1'
        exact r1'
      · have := o3.dk.cells.2.1
        rw [show ({ t with l := setF t.l (cutF y L) } : DS).m = some b from TT.out.2] at this
        exact this
      · have g1 := G3.out.step hb
        rw [hL] at g1
        refine g1.far (Far.of_grown (P := fun k => k = b) r3 (fun k e => by injection e with e; exact e.symm)) (fun e => ?_)
        obtain ⟨es, ⟨en, c, hb', _⟩, _⟩ := dm_of o1.dk TT.out.2
        subst e
        rw [show v1.heap[bx]? = _ from g1] at hb'
        cases hb'
      · rw [← TT.out.1]
        exact o3))
    have HLL := Lib.hid hL
    clear hL
    go_upto_region 7 with (fail)
    refine wp_region_held_drew (S := fun W => W.cell? ⟨d, 1, none⟩ = some (.map (some b)) ∧ FB W bx (.slice y.a L y.c) y.s) (by kernel_rfl) S2.out (fun _ => ?_)
    refine take_at (i := 0) 22 ?_ rfl rfl (by kernel_rfl) (by kernel_rfl) (by kernel_rfl) (fun _ _ _ h => h) (.inl ⟨rfl, ?_⟩) S2.out ?_
    rotate_left 1
    · intro w hSw; go_simp; try with_reducible rfl
    simp only [Act.put, List.setIfInBounds_toArray, List.set_cons_zero, List.set_cons_succ]
    refine take_at (i := 1) 23 ?_ rfl rfl (by kernel_rfl) (by kernel_rfl) (by kernel_rfl) (fun _ _ _ h => h) (.inl ⟨rfl, ?_⟩) S2.out ?_
    rotate_left 1
    · intro w hSw; go_simp; try with_reducible rfl
    simp only [Act.put, List.setIfInBounds_toArray, List.set_cons_zero, List.set_cons_succ]
    refine take_at (i := 2) 24 ?_ rfl rfl (by kernel_rfl) (by kernel_rfl) (by kernel_rfl) (fun _ _ _ h => h) (.inl ⟨rfl, ?_⟩) S2.out ?_
    rotate_left 1
    · intro w hSw; go_simp; try with_reducible rfl
    simp only [Act.put, List.setIfInBounds_toArray, List.set_cons_zero, List.set_cons_succ]
    refine take_at (i := 3) 25 (.map (some b)) rfl rfl (by kernel_rfl) (by kernel_rfl) (by kernel_rfl) (fun _ _ _ h => h) (yields_ld (.tmp 24) 68 (.pointer (some ⟨d, 1, none⟩)) _ (fun W hS => ldM56 hS.1) rfl rfl rfl) S2.out ?_
    simp only [Act.put, List.setIfInBounds_toArray, List.set_cons_zero, List.set_cons_succ]
    refine take_at (i := 4) 26 ?_ rfl rfl (by kernel_rfl) (by kernel_rfl) (by kernel_rfl) (fun _ _ _ h => h) (.inl ⟨rfl, ?_⟩) S2.out ?_
    rotate_left 1
    · intro w hSw; go_simp; try with_reducible rfl
    simp only [Act.put, List.setIfInBounds_toArray, List.set_cons_zero, List.set_cons_succ]
    refine take_at (i := 5) 27 (.agg #[.slice y.a L y.c, .int .i64 y.s]) rfl rfl (by kernel_rfl) (by kernel_rfl) (by kernel_rfl) (fun _ _ _ h => h) (yields_ld (.tmp 5) 82 (.pointer (some ⟨bx, 0, none⟩)) _ (fun W hS => ldS69 hS.2) rfl rfl rfl) S2.out ?_
    simp only [Act.put, List.setIfInBounds_toArray, List.set_cons_zero, List.set_cons_succ]
    refine take_at (i := 6) 28 ?_ rfl rfl (by kernel_rfl) (by kernel_rfl) (by kernel_rfl) (fun _ _ _ h => h) (.inl ⟨rfl, ?_⟩) S2.out ?_
    rotate_left 1
    · intro w hSw; go_simp; try with_reducible rfl
    simp only [Act.put, List.setIfInBounds_toArray, List.set_cons_zero, List.set_cons_succ]
    refine take_at (i := 7) 29 (.slice y.a L y.c) rfl rfl (by kernel_rfl) (by kernel_rfl) (by kernel_rfl) (fun _ _ _ h => h) (yields_ld (.tmp 28) 39 (.pointer (some ⟨bx, 0, none⟩)) _ (fun W hS => ldV33 hS.2.cells.1) rfl rfl rfl) S2.out ?_
    simp only [Act.put, List.setIfInBounds_toArray, List.set_cons_zero, List.set_cons_succ]
    refine take_at (i := 8) 30 (.int .i64 (L : Int)) rfl rfl (by kernel_rfl) (by kernel_rfl) (by kernel_rfl) (fun _ _ _ h => h) (.inl ⟨rfl, ?_⟩) S2.out ?_
    · intro w hSw; go_simp
    simp only [Act.put, List.setIfInBounds_toArray, List.set_cons_zero, List.set_cons_succ]
    refine wpAnyH_ready (rs := [9]) (by kernel_rfl) (by simp) (br_call (i := 9) 31 46 #[.agg #[.slice y.a L y.c, .int .i64 y.s], .int .i64 (L : Int)] rfl rfl rfl (by go_simp) ((FI.out _).mono ?_) AllReadyH.nil)
    rintro e v1 ⟨rfl, hb⟩
    obtain ⟨w7, r7, S7, N7⟩ := PUT.out v1 ((Below.refl w3.heap.size w3).drew.trans hb)
    have R7 := Lib.hid r7
    have S7 := Lib.hid S7
    have N7 := Lib.hid N7
    refine ⟨_, rfl, ⟨(hb.cell (p := ⟨d, 1, none⟩) (lt_of_cell S2.out.1)).trans S2.out.1, S2.out.2.step hb⟩, fun _ => ?_⟩
    clear hb r7
    simp only [Act.put, List.setIfInBounds_toArray, List.set_cons_zero, List.set_cons_succ]
    refine wpAnyH_ready (rs := [10]) (by kernel_rfl) (by simp) (br_put (i := 10) 68 (.tmp 25) (.tmp 26) (.tmp 31) _ _ _ w7 rfl rfl rfl rfl rfl rfl rfl R7.out S7.out (fun _ => ?_) AllReadyH.nil)
    simp only [Act.put, List.setIfInBounds_toArray, List.set_cons_zero, List.set_cons_succ]
    refine wpAnyH_done (by kernel_rfl) ?_ _
    go_wp2
    go_returns
    exact ⟨rfl, by rw [HLL.out]; exact N7.out⟩
end Go.Proofs.YtgbihpfpiaacfaaGreatDoor

