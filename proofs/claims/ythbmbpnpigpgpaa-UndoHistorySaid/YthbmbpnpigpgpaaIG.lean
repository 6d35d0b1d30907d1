/- A history's Undone. Made by genic38.py. -/
import Derived.Test.YthbmbpnpigpgpaaIC
set_option linter.unusedVariables false
set_option linter.unusedSimpArgs false
set_option maxRecDepth 100000
namespace Go.Proofs.Ythbmbpnpigpgpaa
open Go.RowKit Go.Shelf

set_option maxHeartbeats 6400000 in
theorem undone_any (w : World) (B q : Nat) (vd vu v : Value) (U D : List Ls) (l : List Ch) (H : HI w B q vu vd U D) (hB : B ≤ w.heap.size) (hl : LiesK encH 7 w v l) (hll : l.length ≤ 1000) (hld : D.length ≤ 1000) :
    Calls Try.prog 23 #[.pointer (some ⟨q, 0, none⟩), v] w fun e w' => ∃ x : Ls, (e = .returned (.tuple #[]) ∧ x.l = l) ∧ ∃ va, HI w' B q vu va U (D ++ [x]) ∧ Kp [30, 47] B w w' := by
  obtain ⟨da, dc, e⟩ := own_shapeK H.own.ou
  subst e
  have HQ := Lib.hid (show HQS w B q #[vu, .slice da D.length dc] (.slice da D.length dc) vu D U w.drew from ⟨H.box, H.own.swap.step (Below.refl _ _).drew, hB, (Kp.refl _ _ _).step (Below.refl _ _).drew hB⟩)
  have HG := Lib.hid H.ge
  have BS0 := Lib.hid (show B ≤ w.drew.heap.size from hB)
  have LL := Lib.hid hll
  have LD := Lib.hid (show D.length ≤ 1000 by omega)
  have LD6 := Lib.hid hld
  obtain ⟨i0, hi9, hz0, hz1, hz2⟩ := info_parts info30
  have LV0 := Lib.hid (hl.step (Below.refl _ _).drew)
  obtain ⟨va0, vc0, rfl⟩ := hl.shape
  clear H hl
  go_enter Try.func23, Try.ntmps23
  go_upto_region 1 with (fail)
  refine wp_region_held_drew (S := (fun _ => True)) (by kernel_rfl) (trivial) (fun hHeld => ?_)
  have BV := Lib.hid (trivial)
  clear hHeld
  refine take_at (i := 0) 6 ?_ rfl rfl (by kernel_rfl) (by kernel_rfl) (by kernel_rfl) (fun _ _ _ h => h) (.inl ⟨rfl, ?_⟩) BV.out ?_
  rotate_left 1
  · intro w hSw; go_simp; try with_reducible rfl
  simp only [Act.put, List.setIfInBounds_toArray, List.set_cons_zero, List.set_cons_succ]
  refine take_at (i := 1) 7 ?_ rfl rfl (by kernel_rfl) (by kernel_rfl) (by kernel_rfl) (fun _ _ _ h => h) (.inl ⟨rfl, ?_⟩) BV.out ?_
  rotate_left 1
  · intro w hSw; go_simp; try with_reducible rfl
  simp only [Act.put, List.setIfInBounds_toArray, List.set_cons_zero, List.set_cons_succ]
  refine take_at (i := 2) 8 ?_ rfl rfl (by kernel_rfl) (by kernel_rfl) (by kernel_rfl) (fun _ _ _ h => h) (.inl ⟨rfl, ?_⟩) BV.out ?_
  rotate_left 1
  · intro w hSw; go_simp; try with_reducible rfl
  simp only [Act.put, List.setIfInBounds_toArray, List.set_cons_zero, List.set_cons_succ]
  refine take_at (i := 3) 9 ?_ rfl rfl (by kernel_rfl) (by kernel_rfl) (by kernel_rfl) (fun _ _ _ h => h) (.inl ⟨rfl, ?_⟩) BV.out ?_
  rotate_left 1
  · intro w hSw; go_simp; try with_reducible rfl
  simp only [Act.put, List.setIfInBounds_toArray, List.set_cons_zero, List.set_cons_succ]
  refine take_at (i := 5) 11 ?_ rfl rfl (by kernel_rfl) (by kernel_rfl) (by kernel_rfl) (fun _ _ _ h => h) (.inl ⟨rfl, ?_⟩) BV.out ?_
  rotate_left 1
  · intro w hSw; go_simp; try with_reducible rfl
  simp only [Act.put, List.setIfInBounds_toArray, List.set_cons_zero, List.set_cons_succ]
  refine wpAnyH_ready (rs := [4, 6]) (by kernel_rfl) (by simp) (br_ld (i := 4) 10 45 (.tmp 9) (.pointer (some ⟨q, 1, none⟩)) (.slice da D.length dc) rfl rfl rfl rfl rfl (ld45 (j := 1) HQ.out.box rfl) trivial (fun _ => ?_) (br_call (i := 6) 12 44 #[.slice va0 l.length vc0] rfl rfl rfl (by go_simp) ((hclone_any _ _ l LV0.out LL.out).mono ?_) AllReadyH.nil))
  · simp only [Act.put, List.setIfInBounds_toArray, List.set_cons_zero, List.set_cons_succ]
    refine wpAnyH_ready (rs := [6]) (by kernel_rfl) (by simp) (br_call (i := 6) 12 44 #[.slice va0 l.length vc0] rfl rfl rfl (by go_simp) ((hclone_any _ _ l LV0.out LL.out).mono ?_) AllReadyH.nil)
    rintro e v2 ⟨x, hxl, rfl, ho, hb⟩
    have HQ := Lib.hid (HQ.out.step hb)
    obtain rfl := hxl
    have OX := Lib.hid (own_base ho BS0.out)
    clear ho
    clear hb
    refine ⟨_, rfl, BV.out, fun _ => ?_⟩
    simp only [Act.put, List.setIfInBounds_toArray, List.set_cons_zero, List.set_cons_succ]
    refine wpAnyH_ready (rs := [7]) (by kernel_rfl) (by simp) (br_bslice (i := 7) 13 45 1 _ #[(0, .slice x.a x.l.length x.c)] _ _ rfl rfl rfl rfl rfl (bsL45 v2 x) trivial (fun _ => ?_) AllReadyH.nil)
    obtain ⟨v3, hv3⟩ : ∃ zz, v2.alloc (.cells (encL x).toArray 30) = zz := ⟨_, rfl⟩
    have hb : Below v2.heap.size v2 v3 := by rw [← hv3]; exact vstep v2 _
    have HX := Lib.hid (show v3.heap[v2.heap.size]? = some (.cells (encL x).toArray 30 (0, 0)) from by rw [← hv3]; exact heap_alloc_new v2 _)
    rw [hv3]
    obtain ⟨kx, hkx⟩ : ∃ zz, v2.heap.size = zz := ⟨_, rfl⟩
    rw [hkx] at HX ⊢
    have HQ := Lib.hid (HQ.out.step hb)
    have OX := Lib.hid (own_belowK OX.out hb)
    clear hb
    clear hv3 hkx
    simp only [Act.put, List.setIfInBounds_toArray, List.set_cons_zero, List.set_cons_succ]
    obtain ⟨va4, v4, hr4, ho4, hg4⟩ := run_pushS (P := Try.prog) v3 45 45 encL_len (by decide) encL_one B 30 i0 (.slice none 0 0) 24 Try.u45 hi9 hz0 hz1 hz2 rfl (.slice da D.length dc) D x kx HX.out HQ.out.own.od (by have := LD.out; unfold maxLen; omega) (by have := LD.out; omega) HQ.out.size
    have BW4 := Lib.hid (trivial)
    have ON := Lib.hid ho4
    have HR4 := Lib.hid hr4
    have HN := Lib.hid (HO.push HQ.out.own HQ.out.size OX.out (Nat.le_refl _) ON.out.1 hg4 ON.out.2)
    have XN := Lib.hid ((HO.rowKp HQ.out.own HQ.out.size hg4).oth _ _ _ _ HQ.out.box (by simp))
    have KN := Lib.hid (HQ.out.kp.trans ((HO.rowKp HQ.out.own HQ.out.size hg4).wide (by simp)))
    have SN := Lib.hid (show ∃ a n c, va4 = .slice a n c from by obtain ⟨a, c, e⟩ := own_shapeK ON.out.1; exact ⟨a, _, c, e⟩)
    clear hr4 ho4 hg4
    refine wpAnyH_ready (rs := [8]) (by kernel_rfl) (by simp) (br_append (i := 8) 14 (.tmp 10) (.tmp 13) 45 45 rfl rfl rfl rfl _ _ va4 v4 rfl rfl HR4.out BW4.out (fun _ => ?_) AllReadyH.nil)
    have BV := Lib.hid BW4.out
    clear HR4 BW4
    simp only [Act.put, List.setIfInBounds_toArray, List.set_cons_zero, List.set_cons_succ]
    refine take_at (i := 9) 15 ?_ rfl rfl (by kernel_rfl) (by kernel_rfl) (by kernel_rfl) (fun _ _ _ h => h) (.inl ⟨rfl, ?_⟩) BV.out ?_
    rotate_left 1
    · intro w hSw; go_simp; try with_reducible rfl
    simp only [Act.put, List.setIfInBounds_toArray, List.set_cons_zero, List.set_cons_succ]
    refine take_at (i := 10) 16 ?_ rfl rfl (by kernel_rfl) (by kernel_rfl) (by kernel_rfl) (fun _ _ _ h => h) (.inl ⟨rfl, ?_⟩) BV.out ?_
    rotate_left 1
    · intro w hSw; go_simp; try with_reducible rfl
    simp only [Act.put, List.setIfInBounds_toArray, List.set_cons_zero, List.set_cons_succ]
    refine wpAnyH_ready (rs := [11]) (by kernel_rfl) (by simp) (br_store (i := 11) 45 (.tmp 16) (.tmp 14) (.pointer (some ⟨q, 1, none⟩)) va4 _ rfl rfl rfl rfl rfl rfl (st45 (j := 1) XN.out rfl SN.out) trivial (fun _ => ?_) AllReadyH.nil)
    have HF := Lib.hid (HI.set1 XN.out HG.out HN.out.swap)
    have KF := Lib.hid (KN.out.trans ((Kp.set (S := [47]) (j := 1) (u := va4) XN.out HG.out (by simp)).wide (by simp)))
    simp only [Act.put, List.setIfInBounds_toArray, List.set_cons_zero, List.set_cons_succ]
    refine wpAnyH_done (by kernel_rfl) ?_ _
    obtain ⟨sa, sc, hsv⟩ := own_shapeK ON.out.1
    obtain ⟨WF, hWF⟩ : ∃ zz, v4.setCell ⟨q, 1, none⟩ va4 = zz := ⟨_, rfl⟩
    rw [hWF] at HF KF ⊢
    rw [hsv] at HF
    clear ON HN XN KN SN hsv hWF
    go_wp2
    go_returns
    exact ⟨x, ⟨rfl, rfl⟩, _, HF.out, KF.out⟩
  · rintro e v6 ⟨x, hxl, rfl, ho, hb⟩
    have HQ := Lib.hid (HQ.out.step hb)
    obtain rfl := hxl
    have OX := Lib.hid (own_base ho BS0.out)
    clear ho
    clear hb
    refine ⟨_, rfl, BV.out, fun _ => ?_⟩
    simp only [Act.put, List.setIfInBounds_toArray, List.set_cons_zero, List.set_cons_succ]
    refine wpAnyH_ready (rs := [4, 7]) (by kernel_rfl) (by simp) (br_ld (i := 4) 10 45 (.tmp 9) (.pointer (some ⟨q, 1, none⟩)) (.slice da D.length dc) rfl rfl rfl rfl rfl (ld45 (j := 1) HQ.out.box rfl) trivial (fun _ => ?_) (br_bslice (i := 7) 13 45 1 _ #[(0, .slice x.a x.l.length x.c)] _ _ rfl rfl rfl rfl rfl (bsL45 v6 x) trivial (fun _ => ?_) AllReadyH.nil))
    · simp only [Act.put, List.setIfInBounds_toArray, List.set_cons_zero, List.set_cons_succ]
      refine wpAnyH_ready (rs := [7]) (by kernel_rfl) (by simp) (br_bslice (i := 7) 13 45 1 _ #[(0, .slice x.a x.l.length x.c)] _ _ rfl rfl rfl rfl rfl (bsL45 v6 x) trivial (fun _ => ?_) AllReadyH.nil)
      obtain ⟨v8, hv8⟩ : ∃ zz, v6.alloc (.cells (encL x).toArray 30) = zz := ⟨_, rfl⟩
      have hb : Below v6.heap.size v6 v8 := by rw [← hv8]; exact vstep v6 _
      have HX := Lib.hid (show v8.heap[v6.heap.size]? = some (.cells (encL x).toArray 30 (0, 0)) from by rw [← hv8]; exact heap_alloc_new v6 _)
      rw [hv8]
      obtain ⟨kx, hkx⟩ : ∃ zz, v6.heap.size = zz := ⟨_, rfl⟩
      rw [hkx] at HX ⊢
      have HQ := Lib.hid (HQ.out.step hb)
      have OX := Lib.hid (own_belowK OX.out hb)
      clear hb
      clear hv8 hkx
      simp only [Act.put, List.setIfInBounds_toArray, List.set_cons_zero, List.set_cons_succ]
      obtain ⟨va9, v9, hr9, ho9, hg9⟩ := run_pushS (P := Try.prog) v8 45 45 encL_len (by decide) encL_one B 30 i0 (.slice none 0 0) 24 Try.u45 hi9 hz0 hz1 hz2 rfl (.slice da D.length dc) D x kx HX.out HQ.out.own.od (by have := LD.out; unfold maxLen; omega) (by have := LD.out; omega) HQ.out.size
      have BW9 := Lib.hid (trivial)
      have ON := Lib.hid ho9
      have HR9 := Lib.hid hr9
      have HN := Lib.hid (HO.push HQ.out.own HQ.out.size OX.out (Nat.le_refl _) ON.out.1 hg9 ON.out.2)
      have XN := Lib.hid ((HO.rowKp HQ.out.own HQ.out.size hg9).oth _ _ _ _ HQ.out.box (by simp))
      have KN := Lib.hid (HQ.out.kp.trans ((HO.rowKp HQ.out.own HQ.out.size hg9).wide (by simp)))
      have SN := Lib.hid (show ∃ a n c, va9 = .slice a n c from by obtain ⟨a, c, e⟩ := own_shapeK ON.out.1; exact ⟨a, _, c, e⟩)
      clear hr9 ho9 hg9
      refine wpAnyH_ready (rs := [8]) (by kernel_rfl) (by simp) (br_append (i := 8) 14 (.tmp 10) (.tmp 13) 45 45 rfl rfl rfl rfl _ _ va9 v9 rfl rfl HR9.out BW9.out (fun _ => ?_) AllReadyH.nil)
      have BV := Lib.hid BW9.out
      clear HR9 BW9
      simp only [Act.put, List.setIfInBounds_toArray, List.set_cons_zero, List.set_cons_succ]
      refine take_at (i := 9) 15 ?_ rfl rfl (by kernel_rfl) (by kernel_rfl) (by kernel_rfl) (fun _ _ _ h => h) (.inl ⟨rfl, ?_⟩) BV.out ?_
      rotate_left 1
      · intro w hSw; go_simp; try with_reducible rfl
      simp only [Act.put, List.setIfInBounds_toArray, List.set_cons_zero, List.set_cons_succ]
      refine take_at (i := 10) 16 ?_ rfl rfl (by kernel_rfl) (by kernel_rfl) (by kernel_rfl) (fun _ _ _ h => h) (.inl ⟨rfl, ?_⟩) BV.out ?_
      rotate_left 1
      · intro w hSw; go_simp; try with_reducible rfl
      simp only [Act.put, List.setIfInBounds_toArray, List.set_cons_zero, List.set_cons_succ]
      refine wpAnyH_ready (rs := [11]) (by kernel_rfl) (by simp) (br_store (i := 11) 45 (.tmp 16) (.tmp 14) (.pointer (some ⟨q, 1, none⟩)) va9 _ rfl rfl rfl rfl rfl rfl (st45 (j := 1) XN.out rfl SN.out) trivial (fun _ => ?_) AllReadyH.nil)
      have HF := Lib.hid (HI.set1 XN.out HG.out HN.out.swap)
      have KF := Lib.hid (KN.out.trans ((Kp.set (S := [47]) (j := 1) (u := va9) XN.out HG.out (by simp)).wide (by simp)))
      simp only [Act.put, List.setIfInBounds_toArray, List.set_cons_zero, List.set_cons_succ]
      refine wpAnyH_done (by kernel_rfl) ?_ _
      obtain ⟨sa, sc, hsv⟩ := own_shapeK ON.out.1
      obtain ⟨WF, hWF⟩ : ∃ zz, v9.setCell ⟨q, 1, none⟩ va9 = zz := ⟨_, rfl⟩
      rw [hWF] at HF KF ⊢
      rw [hsv] at HF
      clear ON HN XN KN SN hsv hWF
      go_wp2
      go_returns
      exact ⟨x, ⟨rfl, rfl⟩, _, HF.out, KF.out⟩
    · obtain ⟨v11, hv11⟩ : ∃ zz, v6.alloc (.cells (encL x).toArray 30) = zz := ⟨_, rfl⟩
      have hb : Below v6.heap.size v6 v11 := by rw [← hv11]; exact vstep v6 _
      have HX := Lib.hid (show v11.heap[v6.heap.size]? = some (.cells (encL x).toArray 30 (0, 0)) from by rw [← hv11]; exact heap_alloc_new v6 _)
      rw [hv11]
      obtain ⟨kx, hkx⟩ : ∃ zz, v6.heap.size = zz := ⟨_, rfl⟩
      rw [hkx] at HX ⊢
      have HQ := Lib.hid (HQ.out.step hb)
      have OX := Lib.hid (own_belowK OX.out hb)
      clear hb
      clear hv11 hkx
      simp only [Act.put, List.setIfInBounds_toArray, List.set_cons_zero, List.set_cons_succ]
      refine wpAnyH_ready (rs := [4]) (by kernel_rfl) (by simp) (br_ld (i := 4) 10 45 (.tmp 9) (.pointer (some ⟨q, 1, none⟩)) (.slice da D.length dc) rfl rfl rfl rfl rfl (ld45 (j := 1) HQ.out.box rfl) trivial (fun _ => ?_) AllReadyH.nil)
      simp only [Act.put, List.setIfInBounds_toArray, List.set_cons_zero, List.set_cons_succ]
      obtain ⟨va13, v13, hr13, ho13, hg13⟩ := run_pushS (P := Try.prog) v11 45 45 encL_len (by decide) encL_one B 30 i0 (.slice none 0 0) 24 Try.u45 hi9 hz0 hz1 hz2 rfl (.slice da D.length dc) D x kx HX.out HQ.out.own.od (by have := LD.out; unfold maxLen; omega) (by have := LD.out; omega) HQ.out.size
      have BW13 := Lib.hid (trivial)
      have ON := Lib.hid ho13
      have HR13 := Lib.hid hr13
      have HN := Lib.hid (HO.push HQ.out.own HQ.out.size OX.out (Nat.le_refl _) ON.out.1 hg13 ON.out.2)
      have XN := Lib.hid ((HO.rowKp HQ.out.own HQ.out.size hg13).oth _ _ _ _ HQ.out.box (by simp))
      have KN := Lib.hid (HQ.out.kp.trans ((HO.rowKp HQ.out.own HQ.out.size hg13).wide (by simp)))
      have SN := Lib.hid (show ∃ a n c, va13 = .slice a n c from by obtain ⟨a, c, e⟩ := own_shapeK ON.out.1; exact ⟨a, _, c, e⟩)
      clear hr13 ho13 hg13
      refine wpAnyH_ready (rs := [8]) (by kernel_rfl) (by simp) (br_append (i := 8) 14 (.tmp 10) (.tmp 13) 45 45 rfl rfl rfl rfl _ _ va13 v13 rfl rfl HR13.out BW13.out (fun _ => ?_) AllReadyH.nil)
      have BV := Lib.hid BW13.out
      clear HR13 BW13
      simp only [Act.put, List.setIfInBounds_toArray, List.set_cons_zero, List.set_cons_succ]
      refine take_at (i := 9) 15 ?_ rfl rfl (by kernel_rfl) (by kernel_rfl) (by kernel_rfl) (fun _ _ _ h => h) (.inl ⟨rfl, ?_⟩) BV.out ?_
      rotate_left 1
      · intro w hSw; go_simp; try with_reducible rfl
      simp only [Act.put, List.setIfInBounds_toArray, List.set_cons_zero, List.set_cons_succ]
      refine take_at (i := 10) 16 ?_ rfl rfl (by kernel_rfl) (by kernel_rfl) (by kernel_rfl) (fun _ _ _ h => h) (.inl ⟨rfl, ?_⟩) BV.out ?_
      rotate_left 1
      · intro w hSw; go_simp; try with_reducible rfl
      simp only [Act.put, List.setIfInBounds_toArray, List.set_cons_zero, List.set_cons_succ]
      refine wpAnyH_ready (rs := [11]) (by kernel_rfl) (by simp) (br_store (i := 11) 45 (.tmp 16) (.tmp 14) (.pointer (some ⟨q, 1, none⟩)) va13 _ rfl rfl rfl rfl rfl rfl (st45 (j := 1) XN.out rfl SN.out) trivial (fun _ => ?_) AllReadyH.nil)
      have HF := Lib.hid (HI.set1 XN.out HG.out HN.out.swap)
      have KF := Lib.hid (KN.out.trans ((Kp.set (S := [47]) (j := 1) (u := va13) XN.out HG.out (by simp)).wide (by simp)))
      simp only [Act.put, List.setIfInBounds_toArray, List.set_cons_zero, List.set_cons_succ]
      refine wpAnyH_done (by kernel_rfl) ?_ _
      obtain ⟨sa, sc, hsv⟩ := own_shapeK ON.out.1
      obtain ⟨WF, hWF⟩ : ∃ zz, v13.setCell ⟨q, 1, none⟩ va13 = zz := ⟨_, rfl⟩
      rw [hWF] at HF KF ⊢
      rw [hsv] at HF
      clear ON HN XN KN SN hsv hWF
      go_wp2
      go_returns
      exact ⟨x, ⟨rfl, rfl⟩, _, HF.out, KF.out⟩
end Go.Proofs.Ythbmbpnpigpgpaa
