/- FateTops' law. Made by genfg13.py, with tools/drawn.py. -/
import Derived.Test.YtegmlekeielmoaaFF
set_option linter.unusedVariables false
set_option maxRecDepth 100000
namespace Go.Proofs.Ytegmlekeielmoaa
open Go.RowKit Go.WideMaps Go.Maps

theorem top_ok {l : List Rw} (hk : ∀ x ∈ l, x.ok) (hr : Rise l) : ∀ (k : Nat) (t r : Int), I64 t → I64 r → I64 (topF l k t r).1 ∧ I64 (topF l k t r).2
  | 0, t, r, ht, hr' => ⟨ht, hr'⟩
  | k + 1, t, r, ht, hr' => by
    show I64 (if fateF l t r = 3 then (match getF l t r with | some x => topF l k x.pt x.pr | none => (t, r)) else (t, r)).1 ∧ I64 (if fateF l t r = 3 then (match getF l t r with | some x => topF l k x.pt x.pr | none => (t, r)) else (t, r)).2
    split
    · cases hg : getF l t r with
      | none => exact ⟨ht, hr'⟩
      | some x =>
        have := hk x ((get_some hr).1 hg).1
        exact top_ok hk hr k x.pt x.pr this.2.2.1 this.2.2.2
    · exact ⟨ht, hr'⟩
set_option maxHeartbeats 12800000 in
theorem tops_law (w : World) (v : Value) (l : List Rw) (h : LiesR w v l) (hk : ∀ x ∈ l, x.ok) (n1 n2 : Int) (hn1 : I64 n1) (hn2 : I64 n2) :
    Calls Try.prog 8 #[v, .agg #[.int .i64 n1, .int .i64 n2]] w fun e w' => e = .returned (.bool true) ∧ Below w.heap.size w w' := by
  have hlm := h.len
  have B0 := Lib.hid (vstep w (.cells #[.int .i64 n1, .int .i64 n2] 24))
  have S0 := Lib.hid (StAt.new w n1 n2)
  have L := Lib.hid (h.step B0.out)
  have HK := Lib.hid hk
  have HN := Lib.hid (And.intro hn1 hn2)
  have AW := Lib.hid (fun W => fawake_any W)
  obtain ⟨ao, cap, rfl⟩ := h.shape
  obtain ⟨W0, hW0⟩ : ∃ y, w.alloc (.cells #[.int .i64 n1, .int .i64 n2] 24) = y := ⟨_, rfl⟩
  rw [hW0] at B0 S0 L
  have HW := Lib.hid hW0
  clear h hk hn1 hn2 hW0
  by_cases hlen : 40 < l.length
  · have AW1 := Lib.hid (AW.out W0)
    go_enter Try.func8, Try.ntmps8
    go_upto_region 1 with (fail)
    rw [HW.out]
    go_wp2_with fail
    refine AW1.out.mono ?_
    rintro e w2 ⟨rfl, hb⟩
    have FIN := Lib.hid (B0.out.trans (hb.mono B0.out.size))
    clear hb
    go_wp2
    go_returns
    exact ⟨rfl, FIN.out⟩
  · have MY := Lib.hid (may_any W0 _ l L.out)
    go_enter Try.func8, Try.ntmps8
    go_upto_region 1 with (fail)
    rw [HW.out]
    go_wp2_with fail
    refine MY.out.mono ?_
    rintro e w1 ⟨rfl, hb⟩
    have B1 := Lib.hid (B0.out.trans (hb.mono B0.out.size))
    have S1 := Lib.hid (S0.out.step hb)
    have L1 := Lib.hid (L.out.step hb)
    clear hb MY B0 S0 L
    obtain ⟨mb, hmb⟩ : ∃ y, mayB l = y := ⟨_, rfl⟩
    rw [hmb]
    have HM := Lib.hid hmb
    clear hmb
    cases mb
    · have AW1 := Lib.hid (AW.out w1)
      go_wp2_with fail
      refine AW1.out.mono ?_
      rintro e w2 ⟨rfl, hb⟩
      have FIN := Lib.hid (B1.out.trans (hb.mono B1.out.size))
      clear hb
      go_wp2
      go_returns
      exact ⟨rfl, FIN.out⟩
    · have RM := Lib.hid (rmade_any w1 _ l L1.out (by omega))
      go_wp2_with fail
      refine RM.out.mono ?_
      rintro e w2 ⟨rr, rfl, h1, h2⟩
      have B2 := Lib.hid (B1.out.trans (h2.mono B1.out.size))
      have S2 := Lib.hid (S1.out.step h2)
      have L2 := Lib.hid (L1.out.step h2)
      have LP := Lib.hid (loop_any w2 _ _ h1)
      clear h1 h2 RM B1 S1 L1
      go_wp2_with fail
      refine LP.out.mono ?_
      rintro e w3 ⟨rfl, hb⟩
      have B3 := Lib.hid (B2.out.trans (hb.mono B2.out.size))
      have S3 := Lib.hid (S2.out.step hb)
      have L3 := Lib.hid (L2.out.step hb)
      clear hb LP B2 S2 L2
      obtain ⟨lb, hlb⟩ : ∃ y, loopF (madeF l) = y := ⟨_, rfl⟩
      rw [hlb]
      have HL := Lib.hid hlb
      clear hlb
      cases lb
      rotate_left 1
      · have AW1 := Lib.hid (AW.out w3)
        go_wp2_with fail
        refine AW1.out.mono ?_
        rintro e w4 ⟨rfl, hb⟩
        have FIN := Lib.hid (B3.out.trans (hb.mono B3.out.size))
        clear hb
        go_wp2
        go_returns
        exact ⟨rfl, FIN.out⟩
      · have MD := Lib.hid (made_rows w3 _ l L3.out (by omega) HK.out)
        go_wp2_with fail
        refine MD.out.mono ?_
        rintro e w4 ⟨p, b, rfl, h1, h2, h3, h4⟩
        have LM := Lib.hid (show (madeF l).length ≤ 40 from by have := madeF_len l; omega)
        have RS := Lib.hid (madeF_rise l)
        have RT := Lib.hid (may_root HM.out)
        have T4 := Lib.hid h1
        have B4 := Lib.hid (B3.out.trans (h4.mono B3.out.size))
        have S4 := Lib.hid (S3.out.step h4)
        clear h1 h2 h3 h4 MD B3 S3 L3 HM
        generalize madeF l = m at *
        have TP := Lib.hid (top_any w4 p b m T4.out (by have := LM.out; omega) n1 n2 HN.out.1 HN.out.2)
        have TO := Lib.hid (top_ok T4.out.map.oks RS.out m.length n1 n2 HN.out.1 HN.out.2)
        have TH := Lib.hid (fun hf => top_here RS.out HL.out RT.out (n1, n2) hf)
        have TN := Lib.hid (fun hf => top_not (l := m) (s := (n1, n2)) hf m.length)
        dsimp only at TH TN
        clear HL RT
        obtain ⟨⟨t1, t2⟩, hto⟩ : ∃ y, topF m m.length n1 n2 = y := ⟨_, rfl⟩
        rw [hto] at TP TO TH TN
        dsimp only at TP TO TH TN
        clear hto
        obtain ⟨c1, c2⟩ := S4.out.cells
        go_wp2_with fail
        refine TP.out.mono ?_
        rintro e w5 ⟨rfl, hb⟩
        have T5 := Lib.hid (T4.out.step hb)
        have S5 := Lib.hid (S4.out.step hb)
        have B5 := Lib.hid (B4.out.trans (hb.mono B4.out.size))
        clear hb c1 c2 TP T4 S4 B4
        go_upto_region 5 with (fail)
        have BX := vstep w5 (.cells #[.int .i64 t1, .int .i64 t2] 24)
        have T6 := Lib.hid (T5.out.step BX)
        have S6 := Lib.hid (S5.out.step BX)
        have B6 := Lib.hid (B5.out.trans (BX.mono B5.out.size))
        have N6 := Lib.hid (StAt.new w5 t1 t2)
        obtain ⟨g6, hg6⟩ : ∃ k, w5.heap.size = k := ⟨_, rfl⟩
        rw [hg6] at N6 ⊢
        generalize w5.alloc (.cells #[.int .i64 t1, .int .i64 t2] 24) = w6 at *
        clear BX hg6 T5 S5 B5
        have OF := Lib.hid (of_any w6 p b m T6.out n1 n2 HN.out.1 HN.out.2)
        obtain ⟨c1, c2⟩ := S6.out.cells
        by_cases hf : fateF m n1 n2 = 3
        · have HH := Lib.hid (TH.out hf)
          rw [hf] at OF
          clear TH TN hf
          go_wp2_with fail
          refine OF.out.mono ?_
          rintro e w7 ⟨rfl, hb⟩
          have T7 := Lib.hid (T6.out.step hb)
          have S7 := Lib.hid (S6.out.step hb)
          have N7 := Lib.hid (N6.out.step hb)
          have B7 := Lib.hid (B6.out.trans (hb.mono B6.out.size))
          clear hb c1 c2 OF T6 S6 N6 B6
          go_upto_region 7 with (fail)
          have LN := Lib.hid (fun W (hb : Below w7.heap.size w7 W) => load24 W _ _ _ (S7.out.step hb))
          have LT := Lib.hid (fun W (hb : Below w7.heap.size w7 W) => load24 W _ _ _ (N7.out.step hb))
          have AB := Lib.hid (fun W (hb : Below w7.heap.size w7 W) => above_any W p b m (T7.out.step hb) (by have := LM.out; omega) t1 t2 n1 n2 HN.out.1 HN.out.2)
          rw [HH.out.2] at AB
          have O2 := Lib.hid (fun W (hb : Below w7.heap.size w7 W) => of_any W p b m (T7.out.step hb) t1 t2 TO.out.1 TO.out.2)
          rcases (show (t1 = 0 ∧ t2 = 0) ∨ (t1 ≠ 0) ∨ (t1 = 0 ∧ t2 ≠ 0) from by omega) with ⟨rfl, rfl⟩ | j0 | ⟨rfl, j0⟩
          · clear O2 HH
            refine wp_region_held_drew (S := fun w' => Below w7.heap.size w7 w') (by kernel_rfl) (Below.refl _ _).drew (fun hHeld => ?_)
            have BV := Lib.hid (show Below w7.heap.size w7 w7.drew from (Below.refl _ _).drew)
            clear hHeld
            refine take_at (i := 0) 36 (.agg #[.int .i64 0, .int .i64 0]) rfl rfl (by kernel_rfl) (by kernel_rfl) (by kernel_rfl) (fun _ _ _ h => h) (yields_ld (.tmp 6) 24 (.pointer (some ⟨g6, 0, none⟩)) _ LT.out rfl rfl rfl) BV.out ?_
            simp only [Act.put, List.setIfInBounds_toArray, List.set_cons_zero, List.set_cons_succ]
            refine wpAnyH_ready (rs := [1]) (by kernel_rfl) (by simp) (br_call (i := 1) 37 41 #[] rfl rfl rfl (by go_simp) ((root_any _).mono ?_) AllReadyH.nil)
            rintro e v1 ⟨rfl, hb⟩
            have BV := Lib.hid (BV.out.trans (hb.mono BV.out.size))
            clear hb
            refine ⟨_, rfl, BV.out, fun _ => ?_⟩
            simp only [Act.put, List.setIfInBounds_toArray, List.set_cons_zero, List.set_cons_succ]
            refine take_at (i := 2) 38 ?_ rfl rfl (by kernel_rfl) (by kernel_rfl) (by kernel_rfl) (fun _ _ _ h => h) (.inl ⟨rfl, ?_⟩) BV.out ?_
            rotate_left 1
            · intro w hSw; go_simp; try with_reducible rfl
            simp only [Act.put, List.setIfInBounds_toArray, List.set_cons_zero, List.set_cons_succ]
            refine take_at (i := 3) 39 ?_ rfl rfl (by kernel_rfl) (by kernel_rfl) (by kernel_rfl) (fun _ _ _ h => h) (.inl ⟨rfl, ?_⟩) BV.out ?_
            rotate_left 1
            · intro w hSw; go_simp; try with_reducible rfl
            simp only [Act.put, List.setIfInBounds_toArray, List.set_cons_zero, List.set_cons_succ]
            refine take_at (i := 4) 40 undef rfl rfl (by kernel_rfl) (by kernel_rfl) (by kernel_rfl) (fun _ _ _ h => h) (.inr ⟨rfl, rfl⟩) BV.out ?_
            simp only [Act.put, List.setIfInBounds_toArray, List.set_cons_zero, List.set_cons_succ]
            refine take_at (i := 5) 41 undef rfl rfl (by kernel_rfl) (by kernel_rfl) (by kernel_rfl) (fun _ _ _ h => h) (.inr ⟨rfl, rfl⟩) BV.out ?_
            simp only [Act.put, List.setIfInBounds_toArray, List.set_cons_zero, List.set_cons_succ]
            refine take_at (i := 6) 42 undef rfl rfl (by kernel_rfl) (by kernel_rfl) (by kernel_rfl) (fun _ _ _ h => h) (.inr ⟨rfl, rfl⟩) BV.out ?_
            simp only [Act.put, List.setIfInBounds_toArray, List.set_cons_zero, List.set_cons_succ]
            refine take_at (i := 7) 43 undef rfl rfl (by kernel_rfl) (by kernel_rfl) (by kernel_rfl) (fun _ _ _ h => h) (.inr ⟨rfl, rfl⟩) BV.out ?_
            simp only [Act.put, List.setIfInBounds_toArray, List.set_cons_zero, List.set_cons_succ]
            refine take_at (i := 8) 44 ?_ rfl rfl (by kernel_rfl) (by kernel_rfl) (by kernel_rfl) (fun _ _ _ h => h) (.inl ⟨rfl, ?_⟩) BV.out ?_
            rotate_left 1
            · intro w hSw; go_simp; try with_reducible rfl
            simp only [Act.put, List.setIfInBounds_toArray, List.set_cons_zero, List.set_cons_succ]
            refine take_at (i := 9) 45 ?_ rfl rfl (by kernel_rfl) (by kernel_rfl) (by kernel_rfl) (fun _ _ _ h => h) (.inl ⟨rfl, ?_⟩) BV.out ?_
            rotate_left 1
            · intro w hSw; go_simp; try with_reducible rfl
            simp only [Act.put, List.setIfInBounds_toArray, List.set_cons_zero, List.set_cons_succ]
            refine take_at (i := 10) 46 ?_ rfl rfl (by kernel_rfl) (by kernel_rfl) (by kernel_rfl) (fun _ _ _ h => h) (.inl ⟨rfl, ?_⟩) BV.out ?_
            rotate_left 1
            · intro w hSw; go_simp; try with_reducible rfl
            simp only [Act.put, List.setIfInBounds_toArray, List.set_cons_zero, List.set_cons_succ]
            refine take_at (i := 11) 47 (.agg #[.int .i64 0, .int .i64 0]) rfl rfl (by kernel_rfl) (by kernel_rfl) (by kernel_rfl) (fun _ _ _ h => h) (yields_ld (.tmp 6) 24 (.pointer (some ⟨g6, 0, none⟩)) _ LT.out rfl rfl rfl) BV.out ?_
            simp only [Act.put, List.setIfInBounds_toArray, List.set_cons_zero, List.set_cons_succ]
            refine take_at (i := 12) 48 (.agg #[.int .i64 n1, .int .i64 n2]) rfl rfl (by kernel_rfl) (by kernel_rfl) (by kernel_rfl) (fun _ _ _ h => h) (yields_ld (.tmp 3) 24 (.pointer (some ⟨w.heap.size, 0, none⟩)) _ LN.out rfl rfl rfl) BV.out ?_
            simp only [Act.put, List.setIfInBounds_toArray, List.set_cons_zero, List.set_cons_succ]
            refine wpAnyH_ready (rs := [13]) (by kernel_rfl) (by simp) (br_call (i := 13) 49 27 #[.pointer (some ⟨p, 0, none⟩), .agg #[.int .i64 0, .int .i64 0], .agg #[.int .i64 n1, .int .i64 n2]] rfl rfl rfl (by go_simp) ((AB.out _ BV.out).mono ?_) AllReadyH.nil)
            rintro e v2 ⟨rfl, hb⟩
            have BV := Lib.hid (BV.out.trans (hb.mono BV.out.size))
            clear hb
            refine ⟨_, rfl, BV.out, fun _ => ?_⟩
            simp only [Act.put, List.setIfInBounds_toArray, List.set_cons_zero, List.set_cons_succ]
            refine take_at (i := 14) 50 ?_ rfl rfl (by kernel_rfl) (by kernel_rfl) (by kernel_rfl) (fun _ _ _ h => h) (.inl ⟨rfl, ?_⟩) BV.out ?_
            rotate_left 1
            · intro w hSw; go_simp; try with_reducible rfl
            simp only [Act.put, List.setIfInBounds_toArray, List.set_cons_zero, List.set_cons_succ]
            refine take_at (i := 15) 51 ?_ rfl rfl (by kernel_rfl) (by kernel_rfl) (by kernel_rfl) (fun _ _ _ h => h) (.inl ⟨rfl, ?_⟩) BV.out ?_
            rotate_left 1
            · intro w hSw; go_simp; try with_reducible rfl
            simp only [Act.put, List.setIfInBounds_toArray, List.set_cons_zero, List.set_cons_succ]
            refine wpAnyH_ready (rs := [16]) (by kernel_rfl) (by simp) (br_call (i := 16) 52 34 #[] rfl rfl rfl (by go_simp) ((AW.out _).mono ?_) AllReadyH.nil)
            rintro e v3 ⟨rfl, hb⟩
            have BV := Lib.hid (BV.out.trans (hb.mono BV.out.size))
            clear hb
            refine ⟨_, rfl, BV.out, fun _ => ?_⟩
            simp only [Act.put, List.setIfInBounds_toArray, List.set_cons_zero, List.set_cons_succ]
            refine take_at (i := 17) 53 ?_ rfl rfl (by kernel_rfl) (by kernel_rfl) (by kernel_rfl) (fun _ _ _ h => h) (.inl ⟨rfl, ?_⟩) BV.out ?_
            rotate_left 1
            · intro w hSw; go_simp; try with_reducible rfl
            simp only [Act.put, List.setIfInBounds_toArray, List.set_cons_zero, List.set_cons_succ]
            refine take_at (i := 18) 4 ?_ rfl rfl (by kernel_rfl) (by kernel_rfl) (by kernel_rfl) (fun _ _ _ h => h) (.inl ⟨rfl, ?_⟩) BV.out ?_
            rotate_left 1
            · intro w hSw; go_simp; try with_reducible rfl
            simp only [Act.put, List.setIfInBounds_toArray, List.set_cons_zero, List.set_cons_succ]
            refine wpAnyH_done (by kernel_rfl) ?_ _
            go_wp2
            go_returns
            exact ⟨rfl, B7.out.trans (BV.out.mono B7.out.size)⟩
          · have F2 := HH.out.1.resolve_left (fun e => j0 (by injection e))
            rw [F2] at O2
            have s0 := bneb_ _ _ j0
            clear j0 F2 HH
            refine wp_region_held_drew (S := fun w' => Below w7.heap.size w7 w') (by kernel_rfl) (Below.refl _ _).drew (fun hHeld => ?_)
            have BV := Lib.hid (show Below w7.heap.size w7 w7.drew from (Below.refl _ _).drew)
            clear hHeld
            refine take_at (i := 0) 36 (.agg #[.int .i64 t1, .int .i64 t2]) rfl rfl (by kernel_rfl) (by kernel_rfl) (by kernel_rfl) (fun _ _ _ h => h) (yields_ld (.tmp 6) 24 (.pointer (some ⟨g6, 0, none⟩)) _ LT.out rfl rfl rfl) BV.out ?_
            simp only [Act.put, List.setIfInBounds_toArray, List.set_cons_zero, List.set_cons_succ]
            refine wpAnyH_ready (rs := [1]) (by kernel_rfl) (by simp) (br_call (i := 1) 37 41 #[] rfl rfl rfl (by go_simp) ((root_any _).mono ?_) AllReadyH.nil)
            rintro e v1 ⟨rfl, hb⟩
            have BV := Lib.hid (BV.out.trans (hb.mono BV.out.size))
            clear hb
            refine ⟨_, rfl, BV.out, fun _ => ?_⟩
            simp only [Act.put, List.setIfInBounds_toArray, List.set_cons_zero, List.set_cons_succ]
            refine take_at (i := 2) 38 ?_ rfl rfl (by kernel_rfl) (by kernel_rfl) (by kernel_rfl) (fun _ _ _ h => h) (.inl ⟨rfl, ?_⟩) BV.out ?_
            rotate_left 1
            · intro w hSw; go_simp; try with_reducible rfl
            simp only [Act.put, List.setIfInBounds_toArray, List.set_cons_zero, List.set_cons_succ]
            refine take_at (i := 3) 39 ?_ rfl rfl (by kernel_rfl) (by kernel_rfl) (by kernel_rfl) (fun _ _ _ h => h) (.inl ⟨rfl, ?_⟩) BV.out ?_
            rotate_left 1
            · intro w hSw; go_simp; try with_reducible rfl
            simp only [Act.put, List.setIfInBounds_toArray, List.set_cons_zero, List.set_cons_succ]
            refine take_at (i := 4) 40 ?_ rfl rfl (by kernel_rfl) (by kernel_rfl) (by kernel_rfl) (fun _ _ _ h => h) (.inl ⟨rfl, ?_⟩) BV.out ?_
            rotate_left 1
            · intro w hSw; go_simp; try with_reducible rfl
            simp only [Act.put, List.setIfInBounds_toArray, List.set_cons_zero, List.set_cons_succ]
            refine take_at (i := 5) 41 (.agg #[.int .i64 t1, .int .i64 t2]) rfl rfl (by kernel_rfl) (by kernel_rfl) (by kernel_rfl) (fun _ _ _ h => h) (yields_ld (.tmp 6) 24 (.pointer (some ⟨g6, 0, none⟩)) _ LT.out rfl rfl rfl) BV.out ?_
            simp only [Act.put, List.setIfInBounds_toArray, List.set_cons_zero, List.set_cons_succ]
            refine wpAnyH_ready (rs := [6]) (by kernel_rfl) (by simp) (br_call (i := 6) 42 37 #[.pointer (some ⟨p, 0, none⟩), .agg #[.int .i64 t1, .int .i64 t2]] rfl rfl rfl (by go_simp) ((O2.out _ BV.out).mono ?_) AllReadyH.nil)
            rintro e v2 ⟨rfl, hb⟩
            have BV := Lib.hid (BV.out.trans (hb.mono BV.out.size))
            clear hb
            refine ⟨_, rfl, BV.out, fun _ => ?_⟩
            simp only [Act.put, List.setIfInBounds_toArray, List.set_cons_zero, List.set_cons_succ]
            refine take_at (i := 7) 43 ?_ rfl rfl (by kernel_rfl) (by kernel_rfl) (by kernel_rfl) (fun _ _ _ h => h) (.inl ⟨rfl, ?_⟩) BV.out ?_
            rotate_left 1
            · intro w hSw; go_simp; try with_reducible rfl
            simp only [Act.put, List.setIfInBounds_toArray, List.set_cons_zero, List.set_cons_succ]
            refine take_at (i := 8) 44 ?_ rfl rfl (by kernel_rfl) (by kernel_rfl) (by kernel_rfl) (fun _ _ _ h => h) (.inl ⟨rfl, ?_⟩) BV.out ?_
            rotate_left 1
            · intro w hSw; go_simp; try with_reducible rfl
            simp only [Act.put, List.setIfInBounds_toArray, List.set_cons_zero, List.set_cons_succ]
            refine take_at (i := 9) 45 ?_ rfl rfl (by kernel_rfl) (by kernel_rfl) (by kernel_rfl) (fun _ _ _ h => h) (.inl ⟨rfl, ?_⟩) BV.out ?_
            rotate_left 1
            · intro w hSw; go_simp; try with_reducible rfl
            simp only [Act.put, List.setIfInBounds_toArray, List.set_cons_zero, List.set_cons_succ]
            refine take_at (i := 10) 46 ?_ rfl rfl (by kernel_rfl) (by kernel_rfl) (by kernel_rfl) (fun _ _ _ h => h) (.inl ⟨rfl, ?_⟩) BV.out ?_
            rotate_left 1
            · intro w hSw; go_simp; try with_reducible rfl
            simp only [Act.put, List.setIfInBounds_toArray, List.set_cons_zero, List.set_cons_succ]
            refine take_at (i := 11) 47 (.agg #[.int .i64 t1, .int .i64 t2]) rfl rfl (by kernel_rfl) (by kernel_rfl) (by kernel_rfl) (fun _ _ _ h => h) (yields_ld (.tmp 6) 24 (.pointer (some ⟨g6, 0, none⟩)) _ LT.out rfl rfl rfl) BV.out ?_
            simp only [Act.put, List.setIfInBounds_toArray, List.set_cons_zero, List.set_cons_succ]
            refine take_at (i := 12) 48 (.agg #[.int .i64 n1, .int .i64 n2]) rfl rfl (by kernel_rfl) (by kernel_rfl) (by kernel_rfl) (fun _ _ _ h => h) (yields_ld (.tmp 3) 24 (.pointer (some ⟨w.heap.size, 0, none⟩)) _ LN.out rfl rfl rfl) BV.out ?_
            simp only [Act.put, List.setIfInBounds_toArray, List.set_cons_zero, List.set_cons_succ]
            refine wpAnyH_ready (rs := [13]) (by kernel_rfl) (by simp) (br_call (i := 13) 49 27 #[.pointer (some ⟨p, 0, none⟩), .agg #[.int .i64 t1, .int .i64 t2], .agg #[.int .i64 n1, .int .i64 n2]] rfl rfl rfl (by go_simp) ((AB.out _ BV.out).mono ?_) AllReadyH.nil)
            rintro e v3 ⟨rfl, hb⟩
            have BV := Lib.hid (BV.out.trans (hb.mono BV.out.size))
            clear hb
            refine ⟨_, rfl, BV.out, fun _ => ?_⟩
            simp only [Act.put, List.setIfInBounds_toArray, List.set_cons_zero, List.set_cons_succ]
            refine take_at (i := 14) 50 ?_ rfl rfl (by kernel_rfl) (by kernel_rfl) (by kernel_rfl) (fun _ _ _ h => h) (.inl ⟨rfl, ?_⟩) BV.out ?_
            rotate_left 1
            · intro w hSw; go_simp; try with_reducible rfl
            simp only [Act.put, List.setIfInBounds_toArray, List.set_cons_zero, List.set_cons_succ]
            refine take_at (i := 15) 51 ?_ rfl rfl (by kernel_rfl) (by kernel_rfl) (by kernel_rfl) (fun _ _ _ h => h) (.inl ⟨rfl, ?_⟩) BV.out ?_
            rotate_left 1
            · intro w hSw; go_simp; try with_reducible rfl
            simp only [Act.put, List.setIfInBounds_toArray, List.set_cons_zero, List.set_cons_succ]
            refine wpAnyH_ready (rs := [16]) (by kernel_rfl) (by simp) (br_call (i := 16) 52 34 #[] rfl rfl rfl (by go_simp) ((AW.out _).mono ?_) AllReadyH.nil)
            rintro e v4 ⟨rfl, hb⟩
            have BV := Lib.hid (BV.out.trans (hb.mono BV.out.size))
            clear hb
            refine ⟨_, rfl, BV.out, fun _ => ?_⟩
            simp only [Act.put, List.setIfInBounds_toArray, List.set_cons_zero, List.set_cons_succ]
            refine take_at (i := 17) 53 ?_ rfl rfl (by kernel_rfl) (by kernel_rfl) (by kernel_rfl) (fun _ _ _ h => h) (.inl ⟨rfl, ?_⟩) BV.out ?_
            rotate_left 1
            · intro w hSw; go_simp; try with_reducible rfl
            simp only [Act.put, List.setIfInBounds_toArray, List.set_cons_zero, List.set_cons_succ]
            refine take_at (i := 18) 4 ?_ rfl rfl (by kernel_rfl) (by kernel_rfl) (by kernel_rfl) (fun _ _ _ h => h) (.inl ⟨rfl, ?_⟩) BV.out ?_
            rotate_left 1
            · intro w hSw; go_simp; try with_reducible rfl
            simp only [Act.put, List.setIfInBounds_toArray, List.set_cons_zero, List.set_cons_succ]
            refine wpAnyH_done (by kernel_rfl) ?_ _
            go_wp2
            go_returns
            exact ⟨rfl, B7.out.trans (BV.out.mono B7.out.size)⟩
          · have F2 := HH.out.1.resolve_left (fun e => j0 (by injection e))
            rw [F2] at O2
            have s0 := bneb_ _ _ j0
            clear j0 F2 HH
            refine wp_region_held_drew (S := fun w' => Below w7.heap.size w7 w') (by kernel_rfl) (Below.refl _ _).drew (fun hHeld => ?_)
            have BV := Lib.hid (show Below w7.heap.size w7 w7.drew from (Below.refl _ _).drew)
            clear hHeld
            refine take_at (i := 0) 36 (.agg #[.int .i64 0, .int .i64 t2]) rfl rfl (by kernel_rfl) (by kernel_rfl) (by kernel_rfl) (fun _ _ _ h => h) (yields_ld (.tmp 6) 24 (.pointer (some ⟨g6, 0, none⟩)) _ LT.out rfl rfl rfl) BV.out ?_
            simp only [Act.put, List.setIfInBounds_toArray, List.set_cons_zero, List.set_cons_succ]
            refine wpAnyH_ready (rs := [1]) (by kernel_rfl) (by simp) (br_call (i := 1) 37 41 #[] rfl rfl rfl (by go_simp) ((root_any _).mono ?_) AllReadyH.nil)
            rintro e v1 ⟨rfl, hb⟩
            have BV := Lib.hid (BV.out.trans (hb.mono BV.out.size))
            clear hb
            refine ⟨_, rfl, BV.out, fun _ => ?_⟩
            simp only [Act.put, List.setIfInBounds_toArray, List.set_cons_zero, List.set_cons_succ]
            refine take_at (i := 2) 38 ?_ rfl rfl (by kernel_rfl) (by kernel_rfl) (by kernel_rfl) (fun _ _ _ h => h) (.inl ⟨rfl, ?_⟩) BV.out ?_
            rotate_left 1
            · intro w hSw; go_simp; try with_reducible rfl
            simp only [Act.put, List.setIfInBounds_toArray, List.set_cons_zero, List.set_cons_succ]
            refine take_at (i := 3) 39 ?_ rfl rfl (by kernel_rfl) (by kernel_rfl) (by kernel_rfl) (fun _ _ _ h => h) (.inl ⟨rfl, ?_⟩) BV.out ?_
            rotate_left 1
            · intro w hSw; go_simp; try with_reducible rfl
            simp only [Act.put, List.setIfInBounds_toArray, List.set_cons_zero, List.set_cons_succ]
            refine take_at (i := 4) 40 ?_ rfl rfl (by kernel_rfl) (by kernel_rfl) (by kernel_rfl) (fun _ _ _ h => h) (.inl ⟨rfl, ?_⟩) BV.out ?_
            rotate_left 1
            · intro w hSw; go_simp; try with_reducible rfl
            simp only [Act.put, List.setIfInBounds_toArray, List.set_cons_zero, List.set_cons_succ]
            refine take_at (i := 5) 41 (.agg #[.int .i64 0, .int .i64 t2]) rfl rfl (by kernel_rfl) (by kernel_rfl) (by kernel_rfl) (fun _ _ _ h => h) (yields_ld (.tmp 6) 24 (.pointer (some ⟨g6, 0, none⟩)) _ LT.out rfl rfl rfl) BV.out ?_
            simp only [Act.put, List.setIfInBounds_toArray, List.set_cons_zero, List.set_cons_succ]
            refine wpAnyH_ready (rs := [6]) (by kernel_rfl) (by simp) (br_call (i := 6) 42 37 #[.pointer (some ⟨p, 0, none⟩), .agg #[.int .i64 0, .int .i64 t2]] rfl rfl rfl (by go_simp) ((O2.out _ BV.out).mono ?_) AllReadyH.nil)
            rintro e v2 ⟨rfl, hb⟩
            have BV := Lib.hid (BV.out.trans (hb.mono BV.out.size))
            clear hb
            refine ⟨_, rfl, BV.out, fun _ => ?_⟩
            simp only [Act.put, List.setIfInBounds_toArray, List.set_cons_zero, List.set_cons_succ]
            refine take_at (i := 7) 43 ?_ rfl rfl (by kernel_rfl) (by kernel_rfl) (by kernel_rfl) (fun _ _ _ h => h) (.inl ⟨rfl, ?_⟩) BV.out ?_
            rotate_left 1
            · intro w hSw; go_simp; try with_reducible rfl
            simp only [Act.put, List.setIfInBounds_toArray, List.set_cons_zero, List.set_cons_succ]
            refine take_at (i := 8) 44 ?_ rfl rfl (by kernel_rfl) (by kernel_rfl) (by kernel_rfl) (fun _ _ _ h => h) (.inl ⟨rfl, ?_⟩) BV.out ?_
            rotate_left 1
            · intro w hSw; go_simp; try with_reducible rfl
            simp only [Act.put, List.setIfInBounds_toArray, List.set_cons_zero, List.set_cons_succ]
            refine take_at (i := 9) 45 ?_ rfl rfl (by kernel_rfl) (by kernel_rfl) (by kernel_rfl) (fun _ _ _ h => h) (.inl ⟨rfl, ?_⟩) BV.out ?_
            rotate_left 1
            · intro w hSw; go_simp; try with_reducible rfl
            simp only [Act.put, List.setIfInBounds_toArray, List.set_cons_zero, List.set_cons_succ]
            refine take_at (i := 10) 46 ?_ rfl rfl (by kernel_rfl) (by kernel_rfl) (by kernel_rfl) (fun _ _ _ h => h) (.inl ⟨rfl, ?_⟩) BV.out ?_
            rotate_left 1
            · intro w hSw; go_simp; try with_reducible rfl
            simp only [Act.put, List.setIfInBounds_toArray, List.set_cons_zero, List.set_cons_succ]
            refine take_at (i := 11) 47 (.agg #[.int .i64 0, .int .i64 t2]) rfl rfl (by kernel_rfl) (by kernel_rfl) (by kernel_rfl) (fun _ _ _ h => h) (yields_ld (.tmp 6) 24 (.pointer (some ⟨g6, 0, none⟩)) _ LT.out rfl rfl rfl) BV.out ?_
            simp only [Act.put, List.setIfInBounds_toArray, List.set_cons_zero, List.set_cons_succ]
            refine take_at (i := 12) 48 (.agg #[.int .i64 n1, .int .i64 n2]) rfl rfl (by kernel_rfl) (by kernel_rfl) (by kernel_rfl) (fun _ _ _ h => h) (yields_ld (.tmp 3) 24 (.pointer (some ⟨w.heap.size, 0, none⟩)) _ LN.out rfl rfl rfl) BV.out ?_
            simp only [Act.put, List.setIfInBounds_toArray, List.set_cons_zero, List.set_cons_succ]
            refine wpAnyH_ready (rs := [13]) (by kernel_rfl) (by simp) (br_call (i := 13) 49 27 #[.pointer (some ⟨p, 0, none⟩), .agg #[.int .i64 0, .int .i64 t2], .agg #[.int .i64 n1, .int .i64 n2]] rfl rfl rfl (by go_simp) ((AB.out _ BV.out).mono ?_) AllReadyH.nil)
            rintro e v3 ⟨rfl, hb⟩
            have BV := Lib.hid (BV.out.trans (hb.mono BV.out.size))
            clear hb
            refine ⟨_, rfl, BV.out, fun _ => ?_⟩
            simp only [Act.put, List.setIfInBounds_toArray, List.set_cons_zero, List.set_cons_succ]
            refine take_at (i := 14) 50 ?_ rfl rfl (by kernel_rfl) (by kernel_rfl) (by kernel_rfl) (fun _ _ _ h => h) (.inl ⟨rfl, ?_⟩) BV.out ?_
            rotate_left 1
            · intro w hSw; go_simp; try with_reducible rfl
            simp only [Act.put, List.setIfInBounds_toArray, List.set_cons_zero, List.set_cons_succ]
            refine take_at (i := 15) 51 ?_ rfl rfl (by kernel_rfl) (by kernel_rfl) (by kernel_rfl) (fun _ _ _ h => h) (.inl ⟨rfl, ?_⟩) BV.out ?_
            rotate_left 1
            · intro w hSw; go_simp; try with_reducible rfl
            simp only [Act.put, List.setIfInBounds_toArray, List.set_cons_zero, List.set_cons_succ]
            refine wpAnyH_ready (rs := [16]) (by kernel_rfl) (by simp) (br_call (i := 16) 52 34 #[] rfl rfl rfl (by go_simp) ((AW.out _).mono ?_) AllReadyH.nil)
            rintro e v4 ⟨rfl, hb⟩
            have BV := Lib.hid (BV.out.trans (hb.mono BV.out.size))
            clear hb
            refine ⟨_, rfl, BV.out, fun _ => ?_⟩
            simp only [Act.put, List.setIfInBounds_toArray, List.set_cons_zero, List.set_cons_succ]
            refine take_at (i := 17) 53 ?_ rfl rfl (by kernel_rfl) (by kernel_rfl) (by kernel_rfl) (fun _ _ _ h => h) (.inl ⟨rfl, ?_⟩) BV.out ?_
            rotate_left 1
            · intro w hSw; go_simp; try with_reducible rfl
            simp only [Act.put, List.setIfInBounds_toArray, List.set_cons_zero, List.set_cons_succ]
            refine take_at (i := 18) 4 ?_ rfl rfl (by kernel_rfl) (by kernel_rfl) (by kernel_rfl) (fun _ _ _ h => h) (.inl ⟨rfl, ?_⟩) BV.out ?_
            rotate_left 1
            · intro w hSw; go_simp; try with_reducible rfl
            simp only [Act.put, List.setIfInBounds_toArray, List.set_cons_zero, List.set_cons_succ]
            refine wpAnyH_done (by kernel_rfl) ?_ _
            go_wp2
            go_returns
            exact ⟨rfl, B7.out.trans (BV.out.mono B7.out.size)⟩
        · have TE := TN.out hf
          injection TE with e1 e2
          subst e1 e2
          have t0 := nneb_ _ _ hf
          have s1 : (t1 == t1) = true := by simp
          have s2 : (t2 == t2) = true := by simp
          clear TH TN hf
          generalize fateF m t1 t2 = fv at *
          go_wp2_with fail
          refine OF.out.mono ?_
          rintro e w7 ⟨rfl, hb⟩
          have S7 := Lib.hid (S6.out.step hb)
          have N7 := Lib.hid (N6.out.step hb)
          have B7 := Lib.hid (B6.out.trans (hb.mono B6.out.size))
          have AW1 := Lib.hid (AW.out w7)
          clear hb c1 c2 OF T6 S6 N6 B6
          obtain ⟨c1, c2⟩ := S7.out.cells
          obtain ⟨d1, d2⟩ := N7.out.cells
          go_wp2_with fail
          refine AW1.out.mono ?_
          rintro e w8 ⟨rfl, hb⟩
          have FIN := Lib.hid (B7.out.trans (hb.mono B7.out.size))
          clear hb c1 c2 d1 d2
          go_wp2
          go_returns
          exact ⟨rfl, FIN.out⟩
end Go.Proofs.Ytegmlekeielmoaa
