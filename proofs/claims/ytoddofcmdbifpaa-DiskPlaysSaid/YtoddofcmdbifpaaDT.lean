/- A disk: Sync; a beginning of another text. Made by gendt10.py. -/
import Derived.Test.YtoddofcmdbifpaaDO
import Derived.BigQuiet
set_option linter.unusedVariables false
set_option linter.unusedSimpArgs false
set_option maxRecDepth 100000
namespace Go.Proofs.Ytoddofcmdbifpaa
open Go.RowKit Go.WideMaps Go.Maps

set_option maxHeartbeats 3200000 in
theorem start_true (w : World) (v1 v2 : Value) (b1 b2 : List Int) (h1 : LiesK encB 1 w v1 b1) (h2 : LiesK encB 1 w v2 b2) (least : Int) (hp : b1 = b2.take b1.length) (hle : b1.length ≤ b2.length) (hl : least ≤ (b1.length : Int)) (hb : b2.length ≤ 100000) :
    Calls Try.prog 16 #[v1, v2, .int .i64 least] w fun e w' => e = .returned (.bool true) ∧ Below w.heap.size w w' := by
  have L1 := Lib.hid h1
  have L2 := Lib.hid h2
  have HP := Lib.hid hp
  obtain ⟨a1, c1, rfl⟩ := h1.shape
  obtain ⟨a2, c2, rfl⟩ := h2.shape
  have hlen1 := h1.len
  have hlen2 := h2.len
  have q1 : ¬ ((b2.length : Int) < (b1.length : Int)) := by omega
  have q2 : ¬ ((b1.length : Int) < least) := by omega
  clear h1 h2 hp
  go_enter Try.func16, Try.ntmps16
  go_wp2_with fail
  go_loopw [7] (fun sv wr => ∃ i : Nat, sv = .int .i64 i ∧ i ≤ b1.length ∧ Hid (Below w.heap.size w wr)) (fun sv _ => b1.length - (intOf sv).toNat)
  case atStart => exact ⟨0, rfl, Nat.zero_le _, Lib.hid (Below.refl _ _)⟩
  case round =>
    obtain ⟨i, rfl, hi, hK⟩ := hrel
    have K0 := Lib.hid hK.out
    clear hK
    by_cases hlt : i < b1.length
    · obtain ⟨g, o, p, rfl, hx, hg, a0⟩ := (L1.out.step K0.out).at' hlt
      obtain ⟨g', o', p', rfl, hx', hg', a0'⟩ := (L2.out.step K0.out).at' (show i < b2.length by omega)
      have hpp : p' = p := by
        have e := HP.out
        have h3 : (b2.take b1.length)[i]? = some p := by rw [← e]; exact hx
        rw [List.getElem?_take_of_lt hlt, hx'] at h3
        injection h3
      subst hpp
      have k0 := a0 0 (.int .u8 p') rfl
      have k0' := a0' 0 (.int .u8 p') rfl
      have ca : ∀ x : Later wr, x.w.cell? ⟨g, o + i, none⟩ = some (.int .u8 p') := fun x => (x.below.cell (p := ⟨g, o + i, none⟩) hg).trans (by simpa using k0)
      have cb : ∀ x : Later wr, x.w.cell? ⟨g', o' + i, none⟩ = some (.int .u8 p') := fun x => (x.below.cell (p := ⟨g', o' + i, none⟩) hg').trans (by simpa using k0')
      have e1 : (p' == p') = true := by simp
      have e2 : (p' != p') = false := by simp
      have hlt2 : i < b2.length := by omega
      clear k0 k0' a0 a0' hx hx'
      go_upto_region 6 with (fail)
      refine wp_region_later (by kernel_rfl) (by kernel_rfl) ?_
      repeat (go_big_quiet_step (fail))
      refine wpQuiet_nil ?_
      rintro _ ⟨xl, rfl⟩
      have B1 := Lib.hid (K0.out.trans (xl.below.mono K0.out.size))
      clear ca cb
      go_wp2
      go_roundw
      case rel => exact ⟨i + 1, by go_num, by omega, B1⟩
      case measure => simp [intOf]; omega
    · have hge : ¬ ((i : Int) < (b1.length : Int)) := by omega
      go_wp2
      go_returns
      exact ⟨rfl, K0.out⟩
set_option maxHeartbeats 1600000 in
theorem sync_stop (w : World) (B d : Nat) (s : DS) (h : DK w B d s) (nm : ByteArray) (hs : nm.size ≤ maxLen) (hf : fnd s nm = 12 ∨ fnd s nm = 8) :
    Calls Try.prog 17 #[pv d, .string nm] w fun e w' => e = .returned (.int .i64 (fnd s nm)) ∧ Below w.heap.size w w' := by
  have F := Lib.hid (find_any w B d s h nm hs)
  clear h
  generalize fval s nm = y at *
  rcases hf with hf | hf <;> rw [hf] at F ⊢
  all_goals
    go_enter Try.func17, Try.ntmps17
    go_wp2_with fail
    refine F.out.mono ?_
    rintro e w1 ⟨rfl, hb⟩
    have B2 := Lib.hid hb
    clear hb
    go_wp2
    go_returns
    exact ⟨rfl, B2.out.trans ((vstep w1 _).mono B2.out.size)⟩
set_option maxHeartbeats 6400000 in
theorem sync_go (w : World) (B d : Nat) (s : DS) (h : DK w B d s) (nm : ByteArray) (hs : nm.size ≤ maxLen) (hl : s.l.length < 100000) (hf : fnd s nm = 0) :
    Calls Try.prog 17 #[pv d, .string nm] w fun e w' => (tk s 1 < 1 ∧ e = .returned (.int .i64 12) ∧ Out B d s (aft s 1) w w') ∨ (¬ tk s 1 < 1 ∧ e = .returned (.int .i64 0) ∧ Out B d s { aft s 1 with l := setF s.l (cutF (fval s nm) (fval s nm).b.length) } w w') := by
  have F := Lib.hid (find_any w B d s h nm hs)
  have ST := Lib.hid (fun (W : World) (hb : Below w.heap.size w W) => step_any W B d s (h.step hb))
  obtain ⟨hy1, hy2, b, hm⟩ := fval_mem h hf
  rw [hf] at F
  have BASE := Lib.hid h.base
  have HL := Lib.hid hl
  have HS := Lib.hid hs
  obtain ⟨t, ht⟩ : ∃ t, aft s 1 = t := ⟨_, rfl⟩
  have TT := Lib.hid (show t.l = s.l ∧ t.m = some b from by rw [← ht, aft_l, aft_m]; exact ⟨rfl, hm⟩)
  rw [ht] at ST ⊢
  have HY := Lib.hid (And.intro hy1 hy2)
  have hcap := own_cap (show w.ownsRow B 5 1 (.slice (fval s nm).a (fval s nm).b.length (fval s nm).c) _ _ from h.rows _ hy1)
  clear h hs hl ht hm hy1 hy2
  generalize fval s nm = y at *
  by_cases hz : tk s 1 < 1
  · simp only [if_pos hz] at ST
    simp only [hz, true_and, not_true_eq_false, false_and, or_false]
    go_enter Try.func17, Try.ntmps17
    go_wp2_with fail
    refine F.out.mono ?_
    rintro e w1 ⟨rfl, hb⟩
    have B2 := Lib.hid (hb.trans ((vstep w1 (.cells #[.slice y.a y.b.length y.c, .int .i64 y.s] 69)).mono hb.size))
    obtain ⟨W2, hW2⟩ : ∃ z, w1.alloc (.cells #[.slice y.a y.b.length y.c, .int .i64 y.s] 69) = z := ⟨_, rfl⟩
    rw [hW2] at B2
    have HW2 := Lib.hid hW2
    have ST2 := Lib.hid (ST.out W2 B2.out)
    clear hW2 hb
    go_upto_region 2 with (fail)
    rw [HW2.out]
    go_wp2_with fail
    refine ST2.out.mono ?_
    rintro e w3 ⟨rfl, ho⟩
    have O3 := Lib.hid (Out.of_below B2.out ho)
    clear ho
    go_wp2
    go_returns
    exact ⟨rfl, O3.out⟩
  · simp only [if_neg hz] at ST
    simp only [hz, false_and, not_false_eq_true, true_and, false_or]
    go_enter Try.func17, Try.ntmps17
    go_wp2_with fail
    refine F.out.mono ?_
    rintro e w1 ⟨rfl, hb⟩
    have B2 := Lib.hid (hb.trans ((vstep w1 (.cells #[.slice y.a y.b.length y.c, .int .i64 y.s] 69)).mono hb.size))
    have G2 := Lib.hid (FB.new w1 (.slice y.a y.b.length y.c) y.s)
    have GE := Lib.hid hb.size
    obtain ⟨W2, hW2⟩ : ∃ z, w1.alloc (.cells #[.slice y.a y.b.length y.c, .int .i64 y.s] 69) = z := ⟨_, rfl⟩
    rw [hW2] at B2 G2
    have HW2 := Lib.hid hW2
    have ST2 := Lib.hid (ST.out W2 B2.out)
    clear hW2 hb
    go_upto_region 2 with (fail)
    rw [HW2.out]
    generalize w1.heap.size = bx at *
    go_upto_region 4 with (fail)
    go_wp2_with fail
    refine ST2.out.mono ?_
    rintro e w3 ⟨rfl, ho⟩
    have O3 := Lib.hid (Out.of_below B2.out ho)
    have NG : ¬ Has d s bx := fun q => by have := (BASE.out bx q).2; have := GE.out; omega
    have G3 := Lib.hid (show FB w3 bx (.slice y.a y.b.length y.c) y.s from G2.out.far ho.far NG)
    clear ho
    obtain ⟨c0, c1, c2, c3, c4⟩ := O3.out.dk.cells
    rw [TT.out.2] at c1
    have C1 := Lib.hid c1
    clear c0 c1 c2 c3 c4
    obtain ⟨L, hL⟩ : ∃ L, y.b.length = L := ⟨_, rfl⟩
    have S2 := Lib.hid (show (w3.drew.cell? ⟨d, 1, none⟩ = some (.map (some b)) ∧ FB w3.drew bx (.slice y.a L y.c) y.s) from ⟨C1.out, by rw [← hL]; exact G3.out⟩)
    have FI := Lib.hid (fun W => first_any W y.a L y.c y.s L (by have := hcap.1; omega) hcap.2)
    have PUT := Lib.hid (fun (v1 : World) (hb : Below w3.heap.size w3 v1) => (show ∃ w7, (Instr.mapUpdate 56 (.map (some b)) (.string nm) (.agg #[.slice y.a L y.c, .int .i64 (L : Int)])).run Try.prog v1 = .ok () w7 ∧ (w7.cell? ⟨d, 1, none⟩ = some (.map (some b)) ∧ FB w7 bx (.slice y.a L y.c) y.s) ∧ Out B d s { t with l := setF s.l (cutF y L) } w w7 from by
      have o1 := O3.out.then_below hb
      have hmem : y ∈ t.l := by rw [TT.out.1]; exact HY.out.1
      obtain ⟨w7, r1, r2, r3⟩ := (dm_of o1.dk TT.out.2).put (x := cutF y L) (by show y.n.size ≤ maxLen; rw [HY.out.2]; exact HS.out) (by rw [TT.out.1]; have := HL.out; unfold maxLen; omega)
      have hcl : (cutF y L).b.length = L := cut_len (by rw [hL]; exact Nat.le_refl _)
      have o2 := Out.cut o1.dk TT.out.2 hmem (show L ≤ y.b.length by omega) r2 r3
      have o3 := o1.trans o2
      refine ⟨w7, ?_, ⟨?_, ?_⟩, ?_⟩
      · have r1' := r1
        unfold fv at r1'
        rw [hcl, show (cutF y L).n = nm from HY.out.2] at r1'
        exact r1'
      · have := o3.dk.cells.2.1
        rw [show ({ t with l := setF t.l (cutF y L) } : DS).m = some b from TT.out.2] at this
        exact this
      · have g1 := G3.out.step hb
        rw [hL] at g1
        refine g1.far (Far.of_grown (P := fun k => k = b) r3 (fun k e => by injection e with e; exact e.symm)) (fun e => ?_)
        obtain ⟨es, ⟨en, c, hb', _⟩, _⟩ := dm_of o1.dk TT.out.2
        subst e
        rw [show v1.heap[bx]? = _ from g1] at hb'
        cases hb'
      · rw [← TT.out.1]
        exact o3))
    have HLL := Lib.hid hL
    clear hL
    go_upto_region 7 with (fail)
    refine wp_region_held_drew (S := fun W => W.cell? ⟨d, 1, none⟩ = some (.map (some b)) ∧ FB W bx (.slice y.a L y.c) y.s) (by kernel_rfl) S2.out (fun _ => ?_)
    refine take_at (i := 0) 22 ?_ rfl rfl (by kernel_rfl) (by kernel_rfl) (by kernel_rfl) (fun _ _ _ h => h) (.inl ⟨rfl, ?_⟩) S2.out ?_
    rotate_left 1
    · intro w hSw; go_simp; try with_reducible rfl
    simp only [Act.put, List.setIfInBounds_toArray, List.set_cons_zero, List.set_cons_succ]
    refine take_at (i := 1) 23 ?_ rfl rfl (by kernel_rfl) (by kernel_rfl) (by kernel_rfl) (fun _ _ _ h => h) (.inl ⟨rfl, ?_⟩) S2.out ?_
    rotate_left 1
    · intro w hSw; go_simp; try with_reducible rfl
    simp only [Act.put, List.setIfInBounds_toArray, List.set_cons_zero, List.set_cons_succ]
    refine take_at (i := 2) 24 ?_ rfl rfl (by kernel_rfl) (by kernel_rfl) (by kernel_rfl) (fun _ _ _ h => h) (.inl ⟨rfl, ?_⟩) S2.out ?_
    rotate_left 1
    · intro w hSw; go_simp; try with_reducible rfl
    simp only [Act.put, List.setIfInBounds_toArray, List.set_cons_zero, List.set_cons_succ]
    refine take_at (i := 3) 25 (.map (some b)) rfl rfl (by kernel_rfl) (by kernel_rfl) (by kernel_rfl) (fun _ _ _ h => h) (yields_ld (.tmp 24) 56 (.pointer (some ⟨d, 1, none⟩)) _ (fun W hS => ldM56 hS.1) rfl rfl rfl) S2.out ?_
    simp only [Act.put, List.setIfInBounds_toArray, List.set_cons_zero, List.set_cons_succ]
    refine take_at (i := 4) 26 ?_ rfl rfl (by kernel_rfl) (by kernel_rfl) (by kernel_rfl) (fun _ _ _ h => h) (.inl ⟨rfl, ?_⟩) S2.out ?_
    rotate_left 1
    · intro w hSw; go_simp; try with_reducible rfl
    simp only [Act.put, List.setIfInBounds_toArray, List.set_cons_zero, List.set_cons_succ]
    refine take_at (i := 5) 27 (.agg #[.slice y.a L y.c, .int .i64 y.s]) rfl rfl (by kernel_rfl) (by kernel_rfl) (by kernel_rfl) (fun _ _ _ h => h) (yields_ld (.tmp 5) 69 (.pointer (some ⟨bx, 0, none⟩)) _ (fun W hS => ldS69 hS.2) rfl rfl rfl) S2.out ?_
    simp only [Act.put, List.setIfInBounds_toArray, List.set_cons_zero, List.set_cons_succ]
    refine take_at (i := 6) 28 ?_ rfl rfl (by kernel_rfl) (by kernel_rfl) (by kernel_rfl) (fun _ _ _ h => h) (.inl ⟨rfl, ?_⟩) S2.out ?_
    rotate_left 1
    · intro w hSw; go_simp; try with_reducible rfl
    simp only [Act.put, List.setIfInBounds_toArray, List.set_cons_zero, List.set_cons_succ]
    refine take_at (i := 7) 29 (.slice y.a L y.c) rfl rfl (by kernel_rfl) (by kernel_rfl) (by kernel_rfl) (fun _ _ _ h => h) (yields_ld (.tmp 28) 33 (.pointer (some ⟨bx, 0, none⟩)) _ (fun W hS => ldV33 hS.2.cells.1) rfl rfl rfl) S2.out ?_
    simp only [Act.put, List.setIfInBounds_toArray, List.set_cons_zero, List.set_cons_succ]
    refine take_at (i := 8) 30 (.int .i64 (L : Int)) rfl rfl (by kernel_rfl) (by kernel_rfl) (by kernel_rfl) (fun _ _ _ h => h) (.inl ⟨rfl, ?_⟩) S2.out ?_
    · intro w hSw; go_simp
    simp only [Act.put, List.setIfInBounds_toArray, List.set_cons_zero, List.set_cons_succ]
    refine wpAnyH_ready (rs := [9]) (by kernel_rfl) (by simp) (br_call (i := 9) 31 35 #[.agg #[.slice y.a L y.c, .int .i64 y.s], .int .i64 (L : Int)] rfl rfl rfl (by go_simp) ((FI.out _).mono ?_) AllReadyH.nil)
    rintro e v1 ⟨rfl, hb⟩
    obtain ⟨w7, r7, S7, N7⟩ := PUT.out v1 ((Below.refl w3.heap.size w3).drew.trans hb)
    have R7 := Lib.hid r7
    have S7 := Lib.hid S7
    have N7 := Lib.hid N7
    refine ⟨_, rfl, ⟨(hb.cell (p := ⟨d, 1, none⟩) (lt_of_cell S2.out.1)).trans S2.out.1, S2.out.2.step hb⟩, fun _ => ?_⟩
    clear hb r7
    simp only [Act.put, List.setIfInBounds_toArray, List.set_cons_zero, List.set_cons_succ]
    refine wpAnyH_ready (rs := [10]) (by kernel_rfl) (by simp) (br_put (i := 10) 56 (.tmp 25) (.tmp 26) (.tmp 31) _ _ _ w7 rfl rfl rfl rfl rfl rfl rfl R7.out S7.out (fun _ => ?_) AllReadyH.nil)
    simp only [Act.put, List.setIfInBounds_toArray, List.set_cons_zero, List.set_cons_succ]
    refine wpAnyH_done (by kernel_rfl) ?_ _
    go_wp2
    go_returns
    exact ⟨rfl, by rw [HLL.out]; exact N7.out⟩
end Go.Proofs.Ytoddofcmdbifpaa
