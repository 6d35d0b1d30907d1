/- Heard. -/
import Derived.Test.YtgemlkccdcbpdaaSG
set_option linter.unusedVariables false
namespace Go.Proofs.Ytgemlkccdcbpdaa
open Go.RowKit

theorem later_c {W : World} {p : Addr} {v : Value} (h : W.cell? p = some v) (x : Later W) : x.w.cell? p = some v := (x.below.cell (World.block_lt_of_cell? W p h)).trans h
def heardB (n : Nat) (i : Nat) (fr : Int) (c : Bool) (t : Int) : Bool := isM n fr && decide (fr ≠ (i : Int)) && rightM c t
def heardT (ms : List Mb) (i : Nat) (fr : Int) (l : List Int) (t : Int) : Int := if getF (ms.getD i mz).1 fr < getF l fr then 0 else t
def heardF (ms : List Mb) (i : Nat) (fr : Int) (l : List Int) (c : Bool) (t : Int) : List Mb := if heardB ms.length i fr c t then toldAt ms fr.toNat l (heardT ms i fr l t) else ms
set_option maxRecDepth 100000 in
set_option maxHeartbeats 6400000 in
theorem heard_any (w : World) (p q : Nat) (i : Nat) (ms : List Mb) (h : WAt w p (i : Int) q ms) (hi : i < ms.length) (fr : Int) (l : List Int) (hl : l.length = 64) (c : Bool) (hc : c = true ↔ RightP l) (t : Int) :
    Calls Try.prog 14 #[.pointer (some ⟨p, 0, none⟩), .int .i64 fr, vw l, .int .i64 t] w fun e w' => e = .returned (.bool (heardB ms.length i fr c t)) ∧ WAt w' p (i : Int) q (heardF ms i fr l c t) ∧ w.grownBy w' (some q) := by
  have X := Lib.hid (vstep w (.cells (va l) 34))
  have XB := Lib.hid (show VAt 34 (w.alloc (.cells (va l) 34)) w.heap.size l from heap_alloc_new w _)
  have IS := Lib.hid (fun W (h : WAt W p (i : Int) q ms) => ism_any W _ _ ms (.inr ⟨p, _, rfl, h.rd⟩) fr)
  have RM := Lib.hid (fun W => rightm_any W l hl c hc t)
  have LB := Lib.hid (fun (W : World) (g : Nat) (h : VAt 34 W g l) => load_va v34 W g l hl h)
  have HMS := Lib.hid h.rd.m64
  obtain ⟨mi, hmi⟩ : ∃ m, ms[i]? = some m := ⟨_, List.getElem?_eq_getElem hi⟩
  have hgi : ms.getD i mz = mi := by rw [List.getD_eq_getElem?_getD, hmi]; rfl
  have HKM := Lib.hid (show memF ms (i : Int) = mi by
    unfold memF
    rw [show isM ms.length (i : Int) = true from decide_eq_true (by omega), if_pos rfl, show ((i : Nat) : Int).toNat = i from by omega, hgi])
  have HM := Lib.hid (h.rd.m64 i mi hmi)
  have KN := Lib.hid (fun W (h : WAt W p (i : Int) q ms) => knows_any W _ _ ms (.inr ⟨p, _, rfl, h.rd⟩) h.rd.m64 (i : Int))
  rw [HKM.out] at KN
  have G1 := Lib.hid (fun W => get_any W mi.1 HM.out fr)
  have G2 := Lib.hid (fun W => get_any W l hl fr)
  have H0 := Lib.hid (h.step X.out)
  have HOLD := Lib.hid h
  have hg0 := Lib.hid (show w.heap.size ≠ q from Ne.symm (Nat.ne_of_lt h.qlt))
  have hlen := h.rd.len
  have HTT := Lib.hid (show heardT ms i fr l t = if getF mi.1 fr < getF l fr then 0 else t by unfold heardT; rw [hgi])
  generalize getF mi.1 fr = x1 at *
  generalize getF l fr = x2 at *
  have HTO := Lib.hid (fun (j : Nat) (m : Mb) (hj : ms[j]? = some m) (t' : Int) => (show toldAt ms j l t' = ms.set j (told m l t') by unfold toldAt; rw [List.getD_eq_getElem?_getD, hj]; rfl))
  have TK := Lib.hid (fun W (h : WAt W p (i : Int) q ms) (j : Nat) (m : Mb) (hj : ms[j]? = some m) (t' : Int) => take_any W q (j * 65) m (HMS.out j m hj) h.qlt (by obtain ⟨q', e, _, hr⟩ := h.rd.row j m hj; injection e with e; injection e with e _ _; subst e; exact hr) (h.may j (List.getElem?_eq_some_iff.1 hj).1) l hl t')
  obtain ⟨W, hW⟩ : ∃ y, w.alloc (.cells (va l) 34) = y := ⟨_, rfl⟩
  rw [hW] at X XB H0
  have HW := Lib.hid hW
  have HL := Lib.hid hl
  clear hW h hc hmi hgi hl
  have d0 := H0.out.rd.c0
  have d1 := H0.out.rd.c1
  unfold vw at *
  cases hs : isM ms.length fr with
  | false =>
    have HB := Lib.hid (show heardB ms.length i fr c t = false by unfold heardB; rw [hs]; rfl)
    have HF := Lib.hid (show heardF ms i fr l c t = ms by unfold heardF; rw [HB.out]; rfl)
    rw [hs] at IS
    clear hs
    go_enter Try.func14, Try.ntmps14
    go_upto_region 1 with (fail)
    rw [HW.out]
    go_wp2_with fail
    refine (IS.out _ H0.out).mono ?_
    rintro e w1 ⟨rfl, rfl⟩
    go_wp2
    go_returns
    exact ⟨by rw [HB.out]; rfl, by rw [HF.out]; exact H0.out, below_grown X.out _⟩
  | true =>
    rw [hs] at IS
    obtain ⟨f0, f1⟩ := of_decide_eq_true hs
    by_cases hne : fr = (i : Int)
    · have HB := Lib.hid (show heardB ms.length i fr c t = false by unfold heardB; rw [decide_eq_false (fun h => h hne), Bool.and_false, Bool.false_and])
      have HF := Lib.hid (show heardF ms i fr l c t = ms by unfold heardF; rw [HB.out]; rfl)
      have hq : (fr == (i : Int)) = true := by rw [hne]; simp
      clear hs f0 f1 hne
      go_enter Try.func14, Try.ntmps14
      go_upto_region 1 with (fail)
      rw [HW.out]
      go_wp2_with fail
      refine (IS.out _ H0.out).mono ?_
      rintro e w1 ⟨rfl, rfl⟩
      go_wp2
      go_returns
      exact ⟨by rw [HB.out]; rfl, by rw [HF.out]; exact H0.out, below_grown X.out _⟩
    · have hq : (fr == (i : Int)) = false := by simpa using hne
      cases hr : rightM c t with
      | false =>
        have HB := Lib.hid (show heardB ms.length i fr c t = false by unfold heardB; rw [hr, Bool.and_false])
        have HF := Lib.hid (show heardF ms i fr l c t = ms by unfold heardF; rw [HB.out]; rfl)
        rw [hr] at RM
        clear hr hs f0 f1
        go_enter Try.func14, Try.ntmps14
        go_upto_region 1 with (fail)
        rw [HW.out]
        go_wp2_with fail
        refine (IS.out _ H0.out).mono ?_
        rintro e w1 ⟨rfl, rfl⟩
        go_wp2_with (refine wpList_load_arrG rfl (.tmp 6) 34 rfl (.pointer (some ⟨w.heap.size, 0, none⟩)) _ rfl (LB.out _ _ XB.out) ?_)
        refine (RM.out _).mono ?_
        rintro e w2 ⟨rfl, hb2⟩
        have H2 := Lib.hid (H0.out.step hb2)
        have B2 := Lib.hid (X.out.trans (hb2.mono X.out.size))
        clear hb2
        go_wp2
        go_returns
        exact ⟨by rw [HB.out]; rfl, by rw [HF.out]; exact H2.out, below_grown B2.out _⟩
      | true =>
        have HB := Lib.hid (show heardB ms.length i fr c t = true by unfold heardB; rw [hr, hs, decide_eq_true hne]; rfl)
        obtain ⟨j, rfl⟩ : ∃ j : Nat, fr = (j : Int) := ⟨fr.toNat, by omega⟩
        have hj : j < ms.length := by omega
        obtain ⟨m, hm⟩ : ∃ m, ms[j]? = some m := ⟨_, List.getElem?_eq_getElem hj⟩
        have HMJ := Lib.hid hm
        rw [hr] at RM
        clear hr hs hm
        have hj0 : (0 : Int) ≤ (j : Int) := by omega
        have hj1 : (j : Int) < (ms.length : Int) := by omega
        clear f0 f1 hj
        by_cases hlt : x1 < x2
        · have HTV := Lib.hid (show heardT ms i (j : Int) l t = 0 by rw [HTT.out, if_pos hlt])
          have HF := Lib.hid (show heardF ms i (j : Int) l c t = ms.set j (told m l 0) by unfold heardF; rw [HB.out, if_pos rfl, HTV.out]; exact HTO.out j m HMJ.out 0)
          go_enter Try.func14, Try.ntmps14
          go_upto_region 1 with (fail)
          rw [HW.out]
          go_wp2_with fail
          refine (IS.out _ H0.out).mono ?_
          rintro e w1 ⟨rfl, rfl⟩
          go_wp2_with (refine wpList_load_arrG rfl (.tmp 6) 34 rfl (.pointer (some ⟨w.heap.size, 0, none⟩)) _ rfl (LB.out _ _ XB.out) ?_)
          refine (RM.out _).mono ?_
          rintro e w2 ⟨rfl, hb2⟩
          have H2 := Lib.hid (H0.out.step hb2)
          have B2 := Lib.hid (X.out.trans (hb2.mono X.out.size))
          have V2 := Lib.hid (XB.out.step hb2)
          clear hb2 d0 d1
          have D20 := Lib.hid (fun x : Later w2 => KN.out x.w (H2.out.step x.below))
          have D29 := Lib.hid (fun x : Later w2 => G1.out x.w)
          have D29b := Lib.hid (fun x : Later w2 => G2.out x.w)
          have QB := Lib.hid (later_all (W := w2) (Q := fun w' => (Instr.loadAt 34 (.pointer (some ⟨w.heap.size, 0, none⟩))).run Try.prog w' = .ok (.agg (va l)) w') (fun x => LB.out x.w _ (V2.out.step x.below)))
          have c0 := later_c H2.out.rd.c0
          go_wp2
          refine wp_region_later (by kernel_rfl) (by kernel_rfl) ?_
          repeat (first
            | (go_big_quiet_want; refine quiet_load (.tmp 6) 34 rfl (.pointer (some ⟨w.heap.size, 0, none⟩)) (.agg (va l)) rfl QB.out ?_; (try simp only [Act.put, List.setIfInBounds_toArray, List.set_cons_zero, List.set_cons_succ]); go_big_quiet_on)
            | (go_big_quiet_step (first
              | (go_at_call 20; with_reducible exact later_call (D20.out _))
              | (go_at_call 29; with_reducible exact later_call (D29.out _))
              | (go_at_call 29; with_reducible exact later_call (D29b.out _)))))
          refine wpQuiet_nil ?_
          intro _ hw'
          obtain ⟨xl, hw''⟩ := hw'
          subst hw''
          have H3 := Lib.hid (H2.out.step xl.below)
          have B3 := Lib.hid (B2.out.trans (xl.below.mono B2.out.size))
          have V3 := Lib.hid (V2.out.step xl.below)
          clear D20 D29 D29b QB c0 H2 B2 V2
          obtain ⟨w3, hw3⟩ : ∃ y, xl.w = y := ⟨_, rfl⟩
          rw [hw3] at H3 B3 V3 ⊢
          clear hw3 xl
          go_wp2
          have V4 := Lib.hid (show VAt 34 w3.drew w.heap.size l from V3.out)
          have H4 := Lib.hid (H3.out.step (below_drewN w3 1))
          have B4 := Lib.hid (B3.out.trans ((below_drewN w3 1).mono B3.out.size))
          refine wp_region_held_drew (S := fun w' => w'.cell? ⟨p, 0, none⟩ = some (.int .i64 (i : Int)) ∧ w'.cell? ⟨p, 1, none⟩ = some (.slice (some ⟨q, 0, none⟩) ms.length ms.length) ∧ VAt 34 w' w.heap.size l) (by kernel_rfl) ⟨H4.out.rd.c0, H4.out.rd.c1, V4.out⟩ (fun hHeld => ?_)
          obtain ⟨wd, hwd⟩ : ∃ y, w3.drew = y := ⟨_, rfl⟩
          have H5 := Lib.hid (show WAt wd p (i : Int) q ms by rw [← hwd]; exact H4.out)
          have B5 := Lib.hid (show Below w.heap.size w wd by rw [← hwd]; exact B4.out)
          rw [hwd] at hHeld V4 ⊢
          clear hwd H3 B3 V3 H4 B4

          refine take_at (i := 0) 39 ?_ rfl rfl (by kernel_rfl) (by kernel_rfl) (by kernel_rfl) (fun _ _ _ h => h) (.inl ⟨rfl, ?_⟩) hHeld ?_
          rotate_left 1
          · intro w hSw; obtain ⟨s0, s1, s2⟩ := hSw; go_simp; try with_reducible rfl
          simp only [Act.put, List.setIfInBounds_toArray, List.set_cons_zero, List.set_cons_succ]
          refine take_at (i := 1) 40 ?_ rfl rfl (by kernel_rfl) (by kernel_rfl) (by kernel_rfl) (fun _ _ _ h => h) (.inl ⟨rfl, ?_⟩) hHeld ?_
          rotate_left 1
          · intro w hSw; obtain ⟨s0, s1, s2⟩ := hSw; go_simp; try with_reducible rfl
          simp only [Act.put, List.setIfInBounds_toArray, List.set_cons_zero, List.set_cons_succ]
          refine take_at (i := 2) 41 ?_ rfl rfl (by kernel_rfl) (by kernel_rfl) (by kernel_rfl) (fun _ _ _ h => h) (.inl ⟨rfl, ?_⟩) hHeld ?_
          rotate_left 1
          · intro w hSw; obtain ⟨s0, s1, s2⟩ := hSw; go_simp; try with_reducible rfl
          simp only [Act.put, List.setIfInBounds_toArray, List.set_cons_zero, List.set_cons_succ]
          refine take_at (i := 3) 42 ?_ rfl rfl (by kernel_rfl) (by kernel_rfl) (by kernel_rfl) (fun _ _ _ h => h) (.inl ⟨rfl, ?_⟩) hHeld ?_
          rotate_left 1
          · intro w hSw; obtain ⟨s0, s1, s2⟩ := hSw; go_simp; try with_reducible rfl
          simp only [Act.put, List.setIfInBounds_toArray, List.set_cons_zero, List.set_cons_succ]
          refine take_at (i := 4) 43 ?_ rfl rfl (by kernel_rfl) (by kernel_rfl) (by kernel_rfl) (fun _ _ _ h => h) (.inl ⟨rfl, ?_⟩) hHeld ?_
          rotate_left 1
          · intro w hSw; obtain ⟨s0, s1, s2⟩ := hSw; go_simp; try with_reducible rfl
          simp only [Act.put, List.setIfInBounds_toArray, List.set_cons_zero, List.set_cons_succ]
          refine take_at (i := 5) 44 ?_ rfl rfl (by kernel_rfl) (by kernel_rfl) (by kernel_rfl) (fun _ _ _ h => h) (.inl ⟨rfl, ?_⟩) hHeld ?_
          rotate_left 1
          · intro w hSw; obtain ⟨s0, s1, s2⟩ := hSw; go_simp; try with_reducible rfl
          simp only [Act.put, List.setIfInBounds_toArray, List.set_cons_zero, List.set_cons_succ]
          refine take_at (i := 6) 45 (.agg (va l)) rfl rfl (by kernel_rfl) (by kernel_rfl) (by kernel_rfl) (fun _ _ _ h => h) (yields_load (.tmp 6) w.heap.size l HL.out (fun w h => h.2.2) rfl rfl rfl) hHeld ?_
          simp only [Act.put, List.setIfInBounds_toArray, List.set_cons_zero, List.set_cons_succ]
          refine take_at (i := 7) 46 ?_ rfl rfl (by kernel_rfl) (by kernel_rfl) (by kernel_rfl) (fun _ _ _ h => h) (.inl ⟨rfl, ?_⟩) hHeld ?_
          rotate_left 1
          · intro w hSw; obtain ⟨s0, s1, s2⟩ := hSw; go_simp; try with_reducible rfl
          simp only [Act.put, List.setIfInBounds_toArray, List.set_cons_zero, List.set_cons_succ]
          refine one_call (i := 8) 47 28 #[.pointer (some ⟨q, j * 65, none⟩), .agg (va l), .int .i64 0] rfl rfl (by kernel_rfl) rfl (by go_simp) ?_
          refine (TK.out _ H5.out j m HMJ.out 0).mono ?_
          rintro e w6 ⟨rfl, hr6, hk6⟩
          have H6 := Lib.hid (H5.out.took (List.getElem?_eq_some_iff.1 HMJ.out).1 (told_len (HMS.out j m HMJ.out) HL.out 0) hr6 hk6)
          have G6 := Lib.hid (kept_from B5.out hk6)
          have S6 := (show w6.cell? ⟨p, 0, none⟩ = some (.int .i64 (i : Int)) ∧ w6.cell? ⟨p, 1, none⟩ = some (.slice (some ⟨q, 0, none⟩) ms.length ms.length) ∧ VAt 34 w6 w.heap.size l from
            ⟨H6.out.rd.c0, by have := H6.out.rd.c1; rwa [List.length_set] at this, (hk6.grown.block _ (lt_of_block V4.out) (fun e => hg0.out (by injection e))).trans V4.out⟩)
          refine ⟨_, rfl, S6, fun _ => ?_⟩
          clear S6 hr6 hk6 hHeld
          simp only [Act.put, List.setIfInBounds_toArray, List.set_cons_zero, List.set_cons_succ]
          refine wpAnyH_done (by kernel_rfl) ?_ _
          go_wp2
          go_returns
          exact ⟨by rw [HB.out]; rfl, by rw [HF.out]; exact H6.out, G6.out⟩
        · have HTV := Lib.hid (show heardT ms i (j : Int) l t = t by rw [HTT.out, if_neg hlt])
          have HF := Lib.hid (show heardF ms i (j : Int) l c t = ms.set j (told m l t) by unfold heardF; rw [HB.out, if_pos rfl, HTV.out]; exact HTO.out j m HMJ.out t)
          go_enter Try.func14, Try.ntmps14
          go_upto_region 1 with (fail)
          rw [HW.out]
          go_wp2_with fail
          refine (IS.out _ H0.out).mono ?_
          rintro e w1 ⟨rfl, rfl⟩
          go_wp2_with (refine wpList_load_arrG rfl (.tmp 6) 34 rfl (.pointer (some ⟨w.heap.size, 0, none⟩)) _ rfl (LB.out _ _ XB.out) ?_)
          refine (RM.out _).mono ?_
          rintro e w2 ⟨rfl, hb2⟩
          have H2 := Lib.hid (H0.out.step hb2)
          have B2 := Lib.hid (X.out.trans (hb2.mono X.out.size))
          have V2 := Lib.hid (XB.out.step hb2)
          clear hb2 d0 d1
          have D20 := Lib.hid (fun x : Later w2 => KN.out x.w (H2.out.step x.below))
          have D29 := Lib.hid (fun x : Later w2 => G1.out x.w)
          have D29b := Lib.hid (fun x : Later w2 => G2.out x.w)
          have QB := Lib.hid (later_all (W := w2) (Q := fun w' => (Instr.loadAt 34 (.pointer (some ⟨w.heap.size, 0, none⟩))).run Try.prog w' = .ok (.agg (va l)) w') (fun x => LB.out x.w _ (V2.out.step x.below)))
          have c0 := later_c H2.out.rd.c0
          go_wp2
          refine wp_region_later (by kernel_rfl) (by kernel_rfl) ?_
          repeat (first
            | (go_big_quiet_want; refine quiet_load (.tmp 6) 34 rfl (.pointer (some ⟨w.heap.size, 0, none⟩)) (.agg (va l)) rfl QB.out ?_; (try simp only [Act.put, List.setIfInBounds_toArray, List.set_cons_zero, List.set_cons_succ]); go_big_quiet_on)
            | (go_big_quiet_step (first
              | (go_at_call 20; with_reducible exact later_call (D20.out _))
              | (go_at_call 29; with_reducible exact later_call (D29.out _))
              | (go_at_call 29; with_reducible exact later_call (D29b.out _)))))
          refine wpQuiet_nil ?_
          intro _ hw'
          obtain ⟨xl, hw''⟩ := hw'
          subst hw''
          have H3 := Lib.hid (H2.out.step xl.below)
          have B3 := Lib.hid (B2.out.trans (xl.below.mono B2.out.size))
          have V3 := Lib.hid (V2.out.step xl.below)
          clear D20 D29 D29b QB c0 H2 B2 V2
          obtain ⟨w3, hw3⟩ : ∃ y, xl.w = y := ⟨_, rfl⟩
          rw [hw3] at H3 B3 V3 ⊢
          clear hw3 xl
          go_wp2
          have V4 := Lib.hid (show VAt 34 w3.drew w.heap.size l from V3.out)
          have H4 := Lib.hid (H3.out.step (below_drewN w3 1))
          have B4 := Lib.hid (B3.out.trans ((below_drewN w3 1).mono B3.out.size))
          refine wp_region_held_drew (S := fun w' => w'.cell? ⟨p, 0, none⟩ = some (.int .i64 (i : Int)) ∧ w'.cell? ⟨p, 1, none⟩ = some (.slice (some ⟨q, 0, none⟩) ms.length ms.length) ∧ VAt 34 w' w.heap.size l) (by kernel_rfl) ⟨H4.out.rd.c0, H4.out.rd.c1, V4.out⟩ (fun hHeld => ?_)
          obtain ⟨wd, hwd⟩ : ∃ y, w3.drew = y := ⟨_, rfl⟩
          have H5 := Lib.hid (show WAt wd p (i : Int) q ms by rw [← hwd]; exact H4.out)
          have B5 := Lib.hid (show Below w.heap.size w wd by rw [← hwd]; exact B4.out)
          rw [hwd] at hHeld V4 ⊢
          clear hwd H3 B3 V3 H4 B4

          refine take_at (i := 0) 39 ?_ rfl rfl (by kernel_rfl) (by kernel_rfl) (by kernel_rfl) (fun _ _ _ h => h) (.inl ⟨rfl, ?_⟩) hHeld ?_
          rotate_left 1
          · intro w hSw; obtain ⟨s0, s1, s2⟩ := hSw; go_simp; try with_reducible rfl
          simp only [Act.put, List.setIfInBounds_toArray, List.set_cons_zero, List.set_cons_succ]
          refine take_at (i := 1) 40 ?_ rfl rfl (by kernel_rfl) (by kernel_rfl) (by kernel_rfl) (fun _ _ _ h => h) (.inl ⟨rfl, ?_⟩) hHeld ?_
          rotate_left 1
          · intro w hSw; obtain ⟨s0, s1, s2⟩ := hSw; go_simp; try with_reducible rfl
          simp only [Act.put, List.setIfInBounds_toArray, List.set_cons_zero, List.set_cons_succ]
          refine take_at (i := 2) 41 ?_ rfl rfl (by kernel_rfl) (by kernel_rfl) (by kernel_rfl) (fun _ _ _ h => h) (.inl ⟨rfl, ?_⟩) hHeld ?_
          rotate_left 1
          · intro w hSw; obtain ⟨s0, s1, s2⟩ := hSw; go_simp; try with_reducible rfl
          simp only [Act.put, List.setIfInBounds_toArray, List.set_cons_zero, List.set_cons_succ]
          refine take_at (i := 3) 42 ?_ rfl rfl (by kernel_rfl) (by kernel_rfl) (by kernel_rfl) (fun _ _ _ h => h) (.inl ⟨rfl, ?_⟩) hHeld ?_
          rotate_left 1
          · intro w hSw; obtain ⟨s0, s1, s2⟩ := hSw; go_simp; try with_reducible rfl
          simp only [Act.put, List.setIfInBounds_toArray, List.set_cons_zero, List.set_cons_succ]
          refine take_at (i := 4) 43 ?_ rfl rfl (by kernel_rfl) (by kernel_rfl) (by kernel_rfl) (fun _ _ _ h => h) (.inl ⟨rfl, ?_⟩) hHeld ?_
          rotate_left 1
          · intro w hSw; obtain ⟨s0, s1, s2⟩ := hSw; go_simp; try with_reducible rfl
          simp only [Act.put, List.setIfInBounds_toArray, List.set_cons_zero, List.set_cons_succ]
          refine take_at (i := 5) 44 ?_ rfl rfl (by kernel_rfl) (by kernel_rfl) (by kernel_rfl) (fun _ _ _ h => h) (.inl ⟨rfl, ?_⟩) hHeld ?_
          rotate_left 1
          · intro w hSw; obtain ⟨s0, s1, s2⟩ := hSw; go_simp; try with_reducible rfl
          simp only [Act.put, List.setIfInBounds_toArray, List.set_cons_zero, List.set_cons_succ]
          refine take_at (i := 6) 45 (.agg (va l)) rfl rfl (by kernel_rfl) (by kernel_rfl) (by kernel_rfl) (fun _ _ _ h => h) (yields_load (.tmp 6) w.heap.size l HL.out (fun w h => h.2.2) rfl rfl rfl) hHeld ?_
          simp only [Act.put, List.setIfInBounds_toArray, List.set_cons_zero, List.set_cons_succ]
          refine take_at (i := 7) 46 ?_ rfl rfl (by kernel_rfl) (by kernel_rfl) (by kernel_rfl) (fun _ _ _ h => h) (.inl ⟨rfl, ?_⟩) hHeld ?_
          rotate_left 1
          · intro w hSw; obtain ⟨s0, s1, s2⟩ := hSw; go_simp; try with_reducible rfl
          simp only [Act.put, List.setIfInBounds_toArray, List.set_cons_zero, List.set_cons_succ]
          refine one_call (i := 8) 47 28 #[.pointer (some ⟨q, j * 65, none⟩), .agg (va l), .int .i64 t] rfl rfl (by kernel_rfl) rfl (by go_simp) ?_
          refine (TK.out _ H5.out j m HMJ.out t).mono ?_
          rintro e w6 ⟨rfl, hr6, hk6⟩
          have H6 := Lib.hid (H5.out.took (List.getElem?_eq_some_iff.1 HMJ.out).1 (told_len (HMS.out j m HMJ.out) HL.out t) hr6 hk6)
          have G6 := Lib.hid (kept_from B5.out hk6)
          have S6 := (show w6.cell? ⟨p, 0, none⟩ = some (.int .i64 (i : Int)) ∧ w6.cell? ⟨p, 1, none⟩ = some (.slice (some ⟨q, 0, none⟩) ms.length ms.length) ∧ VAt 34 w6 w.heap.size l from
            ⟨H6.out.rd.c0, by have := H6.out.rd.c1; rwa [List.length_set] at this, (hk6.grown.block _ (lt_of_block V4.out) (fun e => hg0.out (by injection e))).trans V4.out⟩)
          refine ⟨_, rfl, S6, fun _ => ?_⟩
          clear S6 hr6 hk6 hHeld
          simp only [Act.put, List.setIfInBounds_toArray, List.set_cons_zero, List.set_cons_succ]
          refine wpAnyH_done (by kernel_rfl) ?_ _
          go_wp2
          go_returns
          exact ⟨by rw [HB.out]; rfl, by rw [HF.out]; exact H6.out, G6.out⟩
end Go.Proofs.Ytgemlkccdcbpdaa
