/- A history's Did. Made by genic38.py. -/
import Derived.Test.YthbmbpnpigpgpaaIC
set_option linter.unusedVariables false
set_option linter.unusedSimpArgs false
set_option maxRecDepth 100000
namespace Go.Proofs.Ythbmbpnpigpgpaa
open Go.RowKit Go.Shelf

set_option maxHeartbeats 6400000 in
theorem did_any (w : World) (B q : Nat) (vd vu v : Value) (D U : List Ls) (l : List Ch) (H : HI w B q vd vu D U) (hB : B ≤ w.heap.size) (hl : LiesK encH 7 w v l) (hll : l.length ≤ 1000) (hld : D.length ≤ 64) :
    Calls Try.prog 20 #[.pointer (some ⟨q, 0, none⟩), v] w fun e w' => ∃ x : Ls, (e = .returned (.tuple #[]) ∧ x.l = l) ∧ ∃ va, HI w' B q va (.slice none 0 0) (trim (D ++ [x])) [] ∧ Kp [30, 47] B w w' := by
  obtain ⟨da, dc, e⟩ := own_shapeK H.own.od
  subst e
  have HQ := Lib.hid (show HQS w B q #[.slice da D.length dc, vu] (.slice da D.length dc) vu D U w.drew from ⟨H.box, H.own.step (Below.refl _ _).drew, hB, (Kp.refl _ _ _).step (Below.refl _ _).drew hB⟩)
  have HG := Lib.hid H.ge
  have BS0 := Lib.hid (show B ≤ w.drew.heap.size from hB)
  have LL := Lib.hid hll
  have LD := Lib.hid (show D.length ≤ 1000 by omega)
  have LD6 := Lib.hid hld
  obtain ⟨i0, hi9, hz0, hz1, hz2⟩ := info_parts info30
  have LV0 := Lib.hid (hl.step (Below.refl _ _).drew)
  obtain ⟨va0, vc0, rfl⟩ := hl.shape
  clear H hl
  go_enter Try.func20, Try.ntmps20
  go_upto_region 1 with (fail)
  refine wp_region_held_drew (S := (fun _ => True)) (by kernel_rfl) (trivial) (fun hHeld => ?_)
  have BV := Lib.hid (trivial)
  clear hHeld
  refine take_at (i := 0) 7 ?_ rfl rfl (by kernel_rfl) (by kernel_rfl) (by kernel_rfl) (fun _ _ _ h => h) (.inl ⟨rfl, ?_⟩) BV.out ?_
  rotate_left 1
  · intro w hSw; go_simp; try with_reducible rfl
  simp only [Act.put, List.setIfInBounds_toArray, List.set_cons_zero, List.set_cons_succ]
  refine take_at (i := 1) 8 ?_ rfl rfl (by kernel_rfl) (by kernel_rfl) (by kernel_rfl) (fun _ _ _ h => h) (.inl ⟨rfl, ?_⟩) BV.out ?_
  rotate_left 1
  · intro w hSw; go_simp; try with_reducible rfl
  simp only [Act.put, List.setIfInBounds_toArray, List.set_cons_zero, List.set_cons_succ]
  refine take_at (i := 2) 9 ?_ rfl rfl (by kernel_rfl) (by kernel_rfl) (by kernel_rfl) (fun _ _ _ h => h) (.inl ⟨rfl, ?_⟩) BV.out ?_
  rotate_left 1
  · intro w hSw; go_simp; try with_reducible rfl
  simp only [Act.put, List.setIfInBounds_toArray, List.set_cons_zero, List.set_cons_succ]
  refine take_at (i := 3) 10 ?_ rfl rfl (by kernel_rfl) (by kernel_rfl) (by kernel_rfl) (fun _ _ _ h => h) (.inl ⟨rfl, ?_⟩) BV.out ?_
  rotate_left 1
  · intro w hSw; go_simp; try with_reducible rfl
  simp only [Act.put, List.setIfInBounds_toArray, List.set_cons_zero, List.set_cons_succ]
  refine take_at (i := 5) 12 ?_ rfl rfl (by kernel_rfl) (by kernel_rfl) (by kernel_rfl) (fun _ _ _ h => h) (.inl ⟨rfl, ?_⟩) BV.out ?_
  rotate_left 1
  · intro w hSw; go_simp; try with_reducible rfl
  simp only [Act.put, List.setIfInBounds_toArray, List.set_cons_zero, List.set_cons_succ]
  refine wpAnyH_ready (rs := [4, 6]) (by kernel_rfl) (by simp) (br_ld (i := 4) 11 45 (.tmp 10) (.pointer (some ⟨q, 0, none⟩)) (.slice da D.length dc) rfl rfl rfl rfl rfl (ld45 (j := 0) HQ.out.box rfl) trivial (fun _ => ?_) (br_call (i := 6) 13 44 #[.slice va0 l.length vc0] rfl rfl rfl (by go_simp) ((hclone_any _ _ l LV0.out LL.out).mono ?_) AllReadyH.nil))
  · simp only [Act.put, List.setIfInBounds_toArray, List.set_cons_zero, List.set_cons_succ]
    refine wpAnyH_ready (rs := [6]) (by kernel_rfl) (by simp) (br_call (i := 6) 13 44 #[.slice va0 l.length vc0] rfl rfl rfl (by go_simp) ((hclone_any _ _ l LV0.out LL.out).mono ?_) AllReadyH.nil)
    rintro e v2 ⟨x, hxl, rfl, ho, hb⟩
    have HQ := Lib.hid (HQ.out.step hb)
    obtain rfl := hxl
    have OX := Lib.hid (own_base ho BS0.out)
    clear ho
    clear hb
    refine ⟨_, rfl, BV.out, fun _ => ?_⟩
    simp only [Act.put, List.setIfInBounds_toArray, List.set_cons_zero, List.set_cons_succ]
    refine wpAnyH_ready (rs := [7]) (by kernel_rfl) (by simp) (br_bslice (i := 7) 14 45 1 _ #[(0, .slice x.a x.l.length x.c)] _ _ rfl rfl rfl rfl rfl (bsL45 v2 x) trivial (fun _ => ?_) AllReadyH.nil)
    obtain ⟨v3, hv3⟩ : ∃ zz, v2.alloc (.cells (encL x).toArray 30) = zz := ⟨_, rfl⟩
    have hb : Below v2.heap.size v2 v3 := by rw [← hv3]; exact vstep v2 _
    have HX := Lib.hid (show v3.heap[v2.heap.size]? = some (.cells (encL x).toArray 30 (0, 0)) from by rw [← hv3]; exact heap_alloc_new v2 _)
    rw [hv3]
    obtain ⟨kx, hkx⟩ : ∃ zz, v2.heap.size = zz := ⟨_, rfl⟩
    rw [hkx] at HX ⊢
    have HQ := Lib.hid (HQ.out.step hb)
    have OX := Lib.hid (own_belowK OX.out hb)
    clear hb
    clear hv3 hkx
    simp only [Act.put, List.setIfInBounds_toArray, List.set_cons_zero, List.set_cons_succ]
    obtain ⟨va4, v4, hr4, ho4, hg4⟩ := run_pushS (P := Try.prog) v3 45 45 encL_len (by decide) encL_one B 30 i0 (.slice none 0 0) 24 Try.u45 hi9 hz0 hz1 hz2 rfl (.slice da D.length dc) D x kx HX.out HQ.out.own.od (by have := LD.out; unfold maxLen; omega) (by have := LD.out; omega) HQ.out.size
    have BW4 := Lib.hid (trivial)
    have ON := Lib.hid ho4
    have HR4 := Lib.hid hr4
    have HN := Lib.hid (HO.push HQ.out.own HQ.out.size OX.out (Nat.le_refl _) ON.out.1 hg4 ON.out.2)
    have XN := Lib.hid ((HO.rowKp HQ.out.own HQ.out.size hg4).oth _ _ _ _ HQ.out.box (by simp))
    have KN := Lib.hid (HQ.out.kp.trans ((HO.rowKp HQ.out.own HQ.out.size hg4).wide (by simp)))
    have SN := Lib.hid (show ∃ a n c, va4 = .slice a n c from by obtain ⟨a, c, e⟩ := own_shapeK ON.out.1; exact ⟨a, _, c, e⟩)
    clear hr4 ho4 hg4
    refine wpAnyH_ready (rs := [8]) (by kernel_rfl) (by simp) (br_append (i := 8) 15 (.tmp 11) (.tmp 14) 45 45 rfl rfl rfl rfl _ _ va4 v4 rfl rfl HR4.out BW4.out (fun _ => ?_) AllReadyH.nil)
    have BV := Lib.hid BW4.out
    clear HR4 BW4
    simp only [Act.put, List.setIfInBounds_toArray, List.set_cons_zero, List.set_cons_succ]
    refine take_at (i := 9) 16 ?_ rfl rfl (by kernel_rfl) (by kernel_rfl) (by kernel_rfl) (fun _ _ _ h => h) (.inl ⟨rfl, ?_⟩) BV.out ?_
    rotate_left 1
    · intro w hSw; go_simp; try with_reducible rfl
    simp only [Act.put, List.setIfInBounds_toArray, List.set_cons_zero, List.set_cons_succ]
    refine take_at (i := 10) 17 ?_ rfl rfl (by kernel_rfl) (by kernel_rfl) (by kernel_rfl) (fun _ _ _ h => h) (.inl ⟨rfl, ?_⟩) BV.out ?_
    rotate_left 1
    · intro w hSw; go_simp; try with_reducible rfl
    simp only [Act.put, List.setIfInBounds_toArray, List.set_cons_zero, List.set_cons_succ]
    refine wpAnyH_ready (rs := [11]) (by kernel_rfl) (by simp) (br_store (i := 11) 45 (.tmp 17) (.tmp 15) (.pointer (some ⟨q, 0, none⟩)) va4 _ rfl rfl rfl rfl rfl rfl (st45 (j := 0) XN.out rfl SN.out) trivial (fun _ => ?_) AllReadyH.nil)
    have HF := Lib.hid (HI.set0 XN.out HG.out HN.out)
    have KF := Lib.hid (KN.out.trans ((Kp.set (S := [47]) (j := 0) (u := va4) XN.out HG.out (by simp)).wide (by simp)))
    simp only [Act.put, List.setIfInBounds_toArray, List.set_cons_zero, List.set_cons_succ]
    refine wpAnyH_done (by kernel_rfl) ?_ _
    obtain ⟨sa, sc, hsv⟩ := own_shapeK ON.out.1
    obtain ⟨WF, hWF⟩ : ∃ zz, v4.setCell ⟨q, 0, none⟩ va4 = zz := ⟨_, rfl⟩
    rw [hWF] at HF KF ⊢
    rw [hsv] at HF
    clear ON HN XN KN SN hsv hWF
    have EL := Lib.hid (show (D ++ [x]).length = D.length + 1 from by simp)
    obtain ⟨L, hL⟩ : ∃ L, D ++ [x] = L := ⟨_, rfl⟩
    have HL := Lib.hid hL
    rw [hL] at HF EL
    clear hL
    have c0 := cell_row (j := 0) HF.out.box rfl
    have HT := Lib.hid (HI.set1 HF.out.box HG.out HF.out.own.clear)
    have KT := Lib.hid (KF.out.trans ((Kp.set (S := [47]) (j := 1) (u := .slice none 0 0) HF.out.box HG.out (by simp)).wide (by simp)))
    by_cases hbig : 64 < L.length
    · have e65 : L.length = 65 := by have := EL.out; have := LD6.out; omega
      have TR := Lib.hid (show trim (D ++ [x]) = L.drop 1 from by rw [HL.out]; unfold trim; rw [if_pos hbig])
      have OD := Lib.hid HF.out.own.od
      obtain ⟨g, hg⟩ : ∃ g, sa = some ⟨g, 0, none⟩ := by
        rcases OD.out.2 with ⟨_, e⟩ | ⟨g, _, _, e, _⟩
        · omega
        · injection e with e; exact ⟨g, e⟩
      subst hg
      have DL := Lib.hid (del_any WF B g L.length sc 0 1 L OD.out rfl (by omega) (by omega) (by omega))
      rw [List.take_zero, List.nil_append] at DL
      have hw64 : wrap64 ((L.length : Int) - 64) = 1 := by unfold wrap64; omega
      have SZF := Lib.hid (show B ≤ WF.heap.size from Nat.le_trans HG.out (Nat.le_of_lt HF.out.lt))
      have hd1 : (L.drop 1).length = 0 + (L.length - 1) := by rw [List.length_drop]; omega
      have FIN := Lib.hid (fun (w1 : World) (h1 : w1.ownsRow B 30 1 (.slice (some ⟨g, 0, none⟩) (0 + (L.length - 1)) sc) (0 + (L.length - 1)) ((L.drop 1).flatMap encL)) (hgr : WF.grownBy w1 (some g)) =>
        have hk : Kp [30] B WF w1 := HO.rowKp HF.out.own SZF.out hgr
        have hx := hk.oth _ _ _ _ HF.out.box (by simp)
        have h2 := HI.set0 hx HG.out (HO.cut HF.out.own SZF.out (D' := L.drop 1) (va := .slice (some ⟨g, 0, none⟩) (0 + (L.length - 1)) sc) (by rw [hd1]; exact h1) hgr rfl (fun y hy => List.mem_of_mem_drop hy))
        have hk2 := (KF.out.trans (hk.wide (by simp))).trans ((Kp.set (S := [47]) (B := B) (j := 0) (u := .slice (some ⟨g, 0, none⟩) (0 + (L.length - 1)) sc) hx HG.out (by simp)).wide (by simp))
        show w1.heap[q]? = some (.cells _ 47 (0, 0)) ∧ (w1.setCell ⟨q, 0, none⟩ (.slice (some ⟨g, 0, none⟩) (0 + (L.length - 1)) sc)).heap[q]? = some (.cells _ 47 (0, 0)) ∧ HI ((w1.setCell ⟨q, 0, none⟩ (.slice (some ⟨g, 0, none⟩) (0 + (L.length - 1)) sc)).setCell ⟨q, 1, none⟩ (.slice none 0 0)) B q (.slice (some ⟨g, 0, none⟩) (0 + (L.length - 1)) sc) (.slice none 0 0) (L.drop 1) [] ∧ Kp [30, 47] B w ((w1.setCell ⟨q, 0, none⟩ (.slice (some ⟨g, 0, none⟩) (0 + (L.length - 1)) sc)).setCell ⟨q, 1, none⟩ (.slice none 0 0)) from
        ⟨hx, h2.box, HI.set1 h2.box HG.out h2.own.clear, hk2.trans ((Kp.set (S := [47]) (j := 1) (u := .slice none 0 0) h2.box HG.out (by simp)).wide (by simp))⟩)
      obtain ⟨n, hn⟩ : ∃ n, L.length = n := ⟨_, rfl⟩
      rw [hn] at c0 DL FIN hw64 e65
      subst e65
      rw [show ((1 : Nat) : Int) = 1 from rfl, show ((0 : Nat) : Int) = 0 from rfl] at DL
      obtain ⟨m, hm⟩ : ∃ m, 0 + (65 - 1) = m := ⟨_, rfl⟩
      rw [hm] at DL FIN
      clear OD HF KF HT KT hd1
      go_wp2_with fail
      refine DL.out.mono ?_
      rintro e w1 ⟨rfl, ho, hgr⟩
      have F1 := Lib.hid (FIN.out w1 ho hgr)
      have x0 := cell_row (j := 0) F1.out.1 rfl
      have f0 := frozen_of_row (j := 0) _ _ _ _ F1.out.1
      have x1 := cell_row (j := 1) F1.out.2.1 rfl
      have f1 := frozen_of_row (j := 1) _ _ _ _ F1.out.2.1
      clear ho hgr DL FIN
      go_wp2
      go_returns
      have FF := Lib.hid F1.out.2.2
      rw [← TR.out] at FF
      first | exact ⟨x, ⟨rfl, rfl⟩, ⟨_, FF.out.1⟩, FF.out.2⟩ | exact ⟨x, ⟨rfl, rfl⟩, _, FF.out.1, FF.out.2⟩
    · have TR := Lib.hid (show trim (D ++ [x]) = L from by rw [HL.out]; unfold trim; rw [if_neg hbig])
      have x1 := cell_row (j := 1) HF.out.box rfl
      have f1 := frozen_of_row (j := 1) _ _ _ _ HF.out.box
      obtain ⟨n, hn⟩ : ∃ n, L.length = n := ⟨_, rfl⟩
      rw [hn] at c0 hbig HT
      have hw64 : wrap64 ((n : Int) - 64) = (n : Int) - 64 := by have := EL.out; have := LD6.out; unfold wrap64; omega
      have hgt : ¬ ((0 : Int) < (n : Int) - 64) := by omega
      clear HF KF
      go_wp2
      go_returns
      rw [← TR.out] at HT
      first | exact ⟨x, ⟨rfl, rfl⟩, ⟨_, HT.out⟩, KT.out⟩ | exact ⟨x, ⟨rfl, rfl⟩, _, HT.out, KT.out⟩
  · rintro e v6 ⟨x, hxl, rfl, ho, hb⟩
    have HQ := Lib.hid (HQ.out.step hb)
    obtain rfl := hxl
    have OX := Lib.hid (own_base ho BS0.out)
    clear ho
    clear hb
    refine ⟨_, rfl, BV.out, fun _ => ?_⟩
    simp only [Act.put, List.setIfInBounds_toArray, List.set_cons_zero, List.set_cons_succ]
    refine wpAnyH_ready (rs := [4, 7]) (by kernel_rfl) (by simp) (br_ld (i := 4) 11 45 (.tmp 10) (.pointer (some ⟨q, 0, none⟩)) (.slice da D.length dc) rfl rfl rfl rfl rfl (ld45 (j := 0) HQ.out.box rfl) trivial (fun _ => ?_) (br_bslice (i := 7) 14 45 1 _ #[(0, .slice x.a x.l.length x.c)] _ _ rfl rfl rfl rfl rfl (bsL45 v6 x) trivial (fun _ => ?_) AllReadyH.nil))
    · simp only [Act.put, List.setIfInBounds_toArray, List.set_cons_zero, List.set_cons_succ]
      refine wpAnyH_ready (rs := [7]) (by kernel_rfl) (by simp) (br_bslice (i := 7) 14 45 1 _ #[(0, .slice x.a x.l.length x.c)] _ _ rfl rfl rfl rfl rfl (bsL45 v6 x) trivial (fun _ => ?_) AllReadyH.nil)
      obtain ⟨v8, hv8⟩ : ∃ zz, v6.alloc (.cells (encL x).toArray 30) = zz := ⟨_, rfl⟩
      have hb : Below v6.heap.size v6 v8 := by rw [← hv8]; exact vstep v6 _
      have HX := Lib.hid (show v8.heap[v6.heap.size]? = some (.cells (encL x).toArray 30 (0, 0)) from by rw [← hv8]; exact heap_alloc_new v6 _)
      rw [hv8]
      obtain ⟨kx, hkx⟩ : ∃ zz, v6.heap.size = zz := ⟨_, rfl⟩
      rw [hkx] at HX ⊢
      have HQ := Lib.hid (HQ.out.step hb)
      have OX := Lib.hid (own_belowK OX.out hb)
      clear hb
      clear hv8 hkx
      simp only [Act.put, List.setIfInBounds_toArray, List.set_cons_zero, List.set_cons_succ]
      obtain ⟨va9, v9, hr9, ho9, hg9⟩ := run_pushS (P := Try.prog) v8 45 45 encL_len (by decide) encL_one B 30 i0 (.slice none 0 0) 24 Try.u45 hi9 hz0 hz1 hz2 rfl (.slice da D.length dc) D x kx HX.out HQ.out.own.od (by have := LD.out; unfold maxLen; omega) (by have := LD.out; omega) HQ.out.size
      have BW9 := Lib.hid (trivial)
      have ON := Lib.hid ho9
      have HR9 := Lib.hid hr9
      have HN := Lib.hid (HO.push HQ.out.own HQ.out.size OX.out (Nat.le_refl _) ON.out.1 hg9 ON.out.2)
      have XN := Lib.hid ((HO.rowKp HQ.out.own HQ.out.size hg9).oth _ _ _ _ HQ.out.box (by simp))
      have KN := Lib.hid (HQ.out.kp.trans ((HO.rowKp HQ.out.own HQ.out.size hg9).wide (by simp)))
      have SN := Lib.hid (show ∃ a n c, va9 = .slice a n c from by obtain ⟨a, c, e⟩ := own_shapeK ON.out.1; exact ⟨a, _, c, e⟩)
      clear hr9 ho9 hg9
      refine wpAnyH_ready (rs := [8]) (by kernel_rfl) (by simp) (br_append (i := 8) 15 (.tmp 11) (.tmp 14) 45 45 rfl rfl rfl rfl _ _ va9 v9 rfl rfl HR9.out BW9.out (fun _ => ?_) AllReadyH.nil)
      have BV := Lib.hid BW9.out
      clear HR9 BW9
      simp only [Act.put, List.setIfInBounds_toArray, List.set_cons_zero, List.set_cons_succ]
      refine take_at (i := 9) 16 ?_ rfl rfl (by kernel_rfl) (by kernel_rfl) (by kernel_rfl) (fun _ _ _ h => h) (.inl ⟨rfl, ?_⟩) BV.out ?_
      rotate_left 1
      · intro w hSw; go_simp; try with_reducible rfl
      simp only [Act.put, List.setIfInBounds_toArray, List.set_cons_zero, List.set_cons_succ]
      refine take_at (i := 10) 17 ?_ rfl rfl (by kernel_rfl) (by kernel_rfl) (by kernel_rfl) (fun _ _ _ h => h) (.inl ⟨rfl, ?_⟩) BV.out ?_
      rotate_left 1
      · intro w hSw; go_simp; try with_reducible rfl
      simp only [Act.put, List.setIfInBounds_toArray, List.set_cons_zero, List.set_cons_succ]
      refine wpAnyH_ready (rs := [11]) (by kernel_rfl) (by simp) (br_store (i := 11) 45 (.tmp 17) (.tmp 15) (.pointer (some ⟨q, 0, none⟩)) va9 _ rfl rfl rfl rfl rfl rfl (st45 (j := 0) XN.out rfl SN.out) trivial (fun _ => ?_) AllReadyH.nil)
      have HF := Lib.hid (HI.set0 XN.out HG.out HN.out)
      have KF := Lib.hid (KN.out.trans ((Kp.set (S := [47]) (j := 0) (u := va9) XN.out HG.out (by simp)).wide (by simp)))
      simp only [Act.put, List.setIfInBounds_toArray, List.set_cons_zero, List.set_cons_succ]
      refine wpAnyH_done (by kernel_rfl) ?_ _
      obtain ⟨sa, sc, hsv⟩ := own_shapeK ON.out.1
      obtain ⟨WF, hWF⟩ : ∃ zz, v9.setCell ⟨q, 0, none⟩ va9 = zz := ⟨_, rfl⟩
      rw [hWF] at HF KF ⊢
      rw [hsv] at HF
      clear ON HN XN KN SN hsv hWF
      have EL := Lib.hid (show (D ++ [x]).length = D.length + 1 from by simp)
      obtain ⟨L, hL⟩ : ∃ L, D ++ [x] = L := ⟨_, rfl⟩
      have HL := Lib.hid hL
      rw [hL] at HF EL
      clear hL
      have c0 := cell_row (j := 0) HF.out.box rfl
      have HT := Lib.hid (HI.set1 HF.out.box HG.out HF.out.own.clear)
      have KT := Lib.hid (KF.out.trans ((Kp.set (S := [47]) (j := 1) (u := .slice none 0 0) HF.out.box HG.out (by simp)).wide (by simp)))
      by_cases hbig : 64 < L.length
      · have e65 : L.length = 65 := by have := EL.out; have := LD6.out; omega
        have TR := Lib.hid (show trim (D ++ [x]) = L.drop 1 from by rw [HL.out]; unfold trim; rw [if_pos hbig])
        have OD := Lib.hid HF.out.own.od
        obtain ⟨g, hg⟩ : ∃ g, sa = some ⟨g, 0, none⟩ := by
          rcases OD.out.2 with ⟨_, e⟩ | ⟨g, _, _, e, _⟩
          · omega
          · injection e with e; exact ⟨g, e⟩
        subst hg
        have DL := Lib.hid (del_any WF B g L.length sc 0 1 L OD.out rfl (by omega) (by omega) (by omega))
        rw [List.take_zero, List.nil_append] at DL
        have hw64 : wrap64 ((L.length : Int) - 64) = 1 := by unfold wrap64; omega
        have SZF := Lib.hid (show B ≤ WF.heap.size from Nat.le_trans HG.out (Nat.le_of_lt HF.out.lt))
        have hd1 : (L.drop 1).length = 0 + (L.length - 1) := by rw [List.length_drop]; omega
        have FIN := Lib.hid (fun (w1 : World) (h1 : w1.ownsRow B 30 1 (.slice (some ⟨g, 0, none⟩) (0 + (L.length - 1)) sc) (0 + (L.length - 1)) ((L.drop 1).flatMap encL)) (hgr : WF.grownBy w1 (some g)) =>
          have hk : Kp [30] B WF w1 := HO.rowKp HF.out.own SZF.out hgr
          have hx := hk.oth _ _ _ _ HF.out.box (by simp)
          have h2 := HI.set0 hx HG.out (HO.cut HF.out.own SZF.out (D' := L.drop 1) (va := .slice (some ⟨g, 0, none⟩) (0 + (L.length - 1)) sc) (by rw [hd1]; exact h1) hgr rfl (fun y hy => List.mem_of_mem_drop hy))
          have hk2 := (KF.out.trans (hk.wide (by simp))).trans ((Kp.set (S := [47]) (B := B) (j := 0) (u := .slice (some ⟨g, 0, none⟩) (0 + (L.length - 1)) sc) hx HG.out (by simp)).wide (by simp))
          show w1.heap[q]? = some (.cells _ 47 (0, 0)) ∧ (w1.setCell ⟨q, 0, none⟩ (.slice (some ⟨g, 0, none⟩) (0 + (L.length - 1)) sc)).heap[q]? = some (.cells _ 47 (0, 0)) ∧ HI ((w1.setCell ⟨q, 0, none⟩ (.slice (some ⟨g, 0, none⟩) (0 + (L.length - 1)) sc)).setCell ⟨q, 1, none⟩ (.slice none 0 0)) B q (.slice (some ⟨g, 0, none⟩) (0 + (L.length - 1)) sc) (.slice none 0 0) (L.drop 1) [] ∧ Kp [30, 47] B w ((w1.setCell ⟨q, 0, none⟩ (.slice (some ⟨g, 0, none⟩) (0 + (L.length - 1)) sc)).setCell ⟨q, 1, none⟩ (.slice none 0 0)) from
          ⟨hx, h2.box, HI.set1 h2.box HG.out h2.own.clear, hk2.trans ((Kp.set (S := [47]) (j := 1) (u := .slice none 0 0) h2.box HG.out (by simp)).wide (by simp))⟩)
        obtain ⟨n, hn⟩ : ∃ n, L.length = n := ⟨_, rfl⟩
        rw [hn] at c0 DL FIN hw64 e65
        subst e65
        rw [show ((1 : Nat) : Int) = 1 from rfl, show ((0 : Nat) : Int) = 0 from rfl] at DL
        obtain ⟨m, hm⟩ : ∃ m, 0 + (65 - 1) = m := ⟨_, rfl⟩
        rw [hm] at DL FIN
        clear OD HF KF HT KT hd1
        go_wp2_with fail
        refine DL.out.mono ?_
        rintro e w1 ⟨rfl, ho, hgr⟩
        have F1 := Lib.hid (FIN.out w1 ho hgr)
        have x0 := cell_row (j := 0) F1.out.1 rfl
        have f0 := frozen_of_row (j := 0) _ _ _ _ F1.out.1
        have x1 := cell_row (j := 1) F1.out.2.1 rfl
        have f1 := frozen_of_row (j := 1) _ _ _ _ F1.out.2.1
        clear ho hgr DL FIN
        go_wp2
        go_returns
        have FF := Lib.hid F1.out.2.2
        rw [← TR.out] at FF
        first | exact ⟨x, ⟨rfl, rfl⟩, ⟨_, FF.out.1⟩, FF.out.2⟩ | exact ⟨x, ⟨rfl, rfl⟩, _, FF.out.1, FF.out.2⟩
      · have TR := Lib.hid (show trim (D ++ [x]) = L from by rw [HL.out]; unfold trim; rw [if_neg hbig])
        have x1 := cell_row (j := 1) HF.out.box rfl
        have f1 := frozen_of_row (j := 1) _ _ _ _ HF.out.box
        obtain ⟨n, hn⟩ : ∃ n, L.length = n := ⟨_, rfl⟩
        rw [hn] at c0 hbig HT
        have hw64 : wrap64 ((n : Int) - 64) = (n : Int) - 64 := by have := EL.out; have := LD6.out; unfold wrap64; omega
        have hgt : ¬ ((0 : Int) < (n : Int) - 64) := by omega
        clear HF KF
        go_wp2
        go_returns
        rw [← TR.out] at HT
        first | exact ⟨x, ⟨rfl, rfl⟩, ⟨_, HT.out⟩, KT.out⟩ | exact ⟨x, ⟨rfl, rfl⟩, _, HT.out, KT.out⟩
    · obtain ⟨v11, hv11⟩ : ∃ zz, v6.alloc (.cells (encL x).toArray 30) = zz := ⟨_, rfl⟩
      have hb : Below v6.heap.size v6 v11 := by rw [← hv11]; exact vstep v6 _
      have HX := Lib.hid (show v11.heap[v6.heap.size]? = some (.cells (encL x).toArray 30 (0, 0)) from by rw [← hv11]; exact heap_alloc_new v6 _)
      rw [hv11]
      obtain ⟨kx, hkx⟩ : ∃ zz, v6.heap.size = zz := ⟨_, rfl⟩
      rw [hkx] at HX ⊢
      have HQ := Lib.hid (HQ.out.step hb)
      have OX := Lib.hid (own_belowK OX.out hb)
      clear hb
      clear hv11 hkx
      simp only [Act.put, List.setIfInBounds_toArray, List.set_cons_zero, List.set_cons_succ]
      refine wpAnyH_ready (rs := [4]) (by kernel_rfl) (by simp) (br_ld (i := 4) 11 45 (.tmp 10) (.pointer (some ⟨q, 0, none⟩)) (.slice da D.length dc) rfl rfl rfl rfl rfl (ld45 (j := 0) HQ.out.box rfl) trivial (fun _ => ?_) AllReadyH.nil)
      simp only [Act.put, List.setIfInBounds_toArray, List.set_cons_zero, List.set_cons_succ]
      obtain ⟨va13, v13, hr13, ho13, hg13⟩ := run_pushS (P := Try.prog) v11 45 45 encL_len (by decide) encL_one B 30 i0 (.slice none 0 0) 24 Try.u45 hi9 hz0 hz1 hz2 rfl (.slice da D.length dc) D x kx HX.out HQ.out.own.od (by have := LD.out; unfold maxLen; omega) (by have := LD.out; omega) HQ.out.size
      have BW13 := Lib.hid (trivial)
      have ON := Lib.hid ho13
      have HR13 := Lib.hid hr13
      have HN := Lib.hid (HO.push HQ.out.own HQ.out.size OX.out (Nat.le_refl _) ON.out.1 hg13 ON.out.2)
      have XN := Lib.hid ((HO.rowKp HQ.out.own HQ.out.size hg13).oth _ _ _ _ HQ.out.box (by simp))
      have KN := Lib.hid (HQ.out.kp.trans ((HO.rowKp HQ.out.own HQ.out.size hg13).wide (by simp)))
      have SN := Lib.hid (show ∃ a n c, va13 = .slice a n c from by obtain ⟨a, c, e⟩ := own_shapeK ON.out.1; exact ⟨a, _, c, e⟩)
      clear hr13 ho13 hg13
      refine wpAnyH_ready (rs := [8]) (by kernel_rfl) (by simp) (br_append (i := 8) 15 (.tmp 11) (.tmp 14) 45 45 rfl rfl rfl rfl _ _ va13 v13 rfl rfl HR13.out BW13.out (fun _ => ?_) AllReadyH.nil)
      have BV := Lib.hid BW13.out
      clear HR13 BW13
      simp only [Act.put, List.setIfInBounds_toArray, List.set_cons_zero, List.set_cons_succ]
      refine take_at (i := 9) 16 ?_ rfl rfl (by kernel_rfl) (by kernel_rfl) (by kernel_rfl) (fun _ _ _ h => h) (.inl ⟨rfl, ?_⟩) BV.out ?_
      rotate_left 1
      · intro w hSw; go_simp; try with_reducible rfl
      simp only [Act.put, List.setIfInBounds_toArray, List.set_cons_zero, List.set_cons_succ]
      refine take_at (i := 10) 17 ?_ rfl rfl (by kernel_rfl) (by kernel_rfl) (by kernel_rfl) (fun _ _ _ h => h) (.inl ⟨rfl, ?_⟩) BV.out ?_
      rotate_left 1
      · intro w hSw; go_simp; try with_reducible rfl
      simp only [Act.put, List.setIfInBounds_toArray, List.set_cons_zero, List.set_cons_succ]
      refine wpAnyH_ready (rs := [11]) (by kernel_rfl) (by simp) (br_store (i := 11) 45 (.tmp 17) (.tmp 15) (.pointer (some ⟨q, 0, none⟩)) va13 _ rfl rfl rfl rfl rfl rfl (st45 (j := 0) XN.out rfl SN.out) trivial (fun _ => ?_) AllReadyH.nil)
      have HF := Lib.hid (HI.set0 XN.out HG.out HN.out)
      have KF := Lib.hid (KN.out.trans ((Kp.set (S := [47]) (j := 0) (u := va13) XN.out HG.out (by simp)).wide (by simp)))
      simp only [Act.put, List.setIfInBounds_toArray, List.set_cons_zero, List.set_cons_succ]
      refine wpAnyH_done (by kernel_rfl) ?_ _
      obtain ⟨sa, sc, hsv⟩ := own_shapeK ON.out.1
      obtain ⟨WF, hWF⟩ : ∃ zz, v13.setCell ⟨q, 0, none⟩ va13 = zz := ⟨_, rfl⟩
      rw [hWF] at HF KF ⊢
      rw [hsv] at HF
      clear ON HN XN KN SN hsv hWF
      have EL := Lib.hid (show (D ++ [x]).length = D.length + 1 from by simp)
      obtain ⟨L, hL⟩ : ∃ L, D ++ [x] = L := ⟨_, rfl⟩
      have HL := Lib.hid hL
      rw [hL] at HF EL
      clear hL
      have c0 := cell_row (j := 0) HF.out.box rfl
      have HT := Lib.hid (HI.set1 HF.out.box HG.out HF.out.own.clear)
      have KT := Lib.hid (KF.out.trans ((Kp.set (S := [47]) (j := 1) (u := .slice none 0 0) HF.out.box HG.out (by simp)).wide (by simp)))
      by_cases hbig : 64 < L.length
      · have e65 : L.length = 65 := by have := EL.out; have := LD6.out; omega
        have TR := Lib.hid (show trim (D ++ [x]) = L.drop 1 from by rw [HL.out]; unfold trim; rw [if_pos hbig])
        have OD := Lib.hid HF.out.own.od
        obtain ⟨g, hg⟩ : ∃ g, sa = some ⟨g, 0, none⟩ := by
          rcases OD.out.2 with ⟨_, e⟩ | ⟨g, _, _, e, _⟩
          · omega
          · injection e with e; exact ⟨g, e⟩
        subst hg
        have DL := Lib.hid (del_any WF B g L.length sc 0 1 L OD.out rfl (by omega) (by omega) (by omega))
        rw [List.take_zero, List.nil_append] at DL
        have hw64 : wrap64 ((L.length : Int) - 64) = 1 := by unfold wrap64; omega
        have SZF := Lib.hid (show B ≤ WF.heap.size from Nat.le_trans HG.out (Nat.le_of_lt HF.out.lt))
        have hd1 : (L.drop 1).length = 0 + (L.length - 1) := by rw [List.length_drop]; omega
        have FIN := Lib.hid (fun (w1 : World) (h1 : w1.ownsRow B 30 1 (.slice (some ⟨g, 0, none⟩) (0 + (L.length - 1)) sc) (0 + (L.length - 1)) ((L.drop 1).flatMap encL)) (hgr : WF.grownBy w1 (some g)) =>
          have hk : Kp [30] B WF w1 := HO.rowKp HF.out.own SZF.out hgr
          have hx := hk.oth _ _ _ _ HF.out.box (by simp)
          have h2 := HI.set0 hx HG.out (HO.cut HF.out.own SZF.out (D' := L.drop 1) (va := .slice (some ⟨g, 0, none⟩) (0 + (L.length - 1)) sc) (by rw [hd1]; exact h1) hgr rfl (fun y hy => List.mem_of_mem_drop hy))
          have hk2 := (KF.out.trans (hk.wide (by simp))).trans ((Kp.set (S := [47]) (B := B) (j := 0) (u := .slice (some ⟨g, 0, none⟩) (0 + (L.length - 1)) sc) hx HG.out (by simp)).wide (by simp))
          show w1.heap[q]? = some (.cells _ 47 (0, 0)) ∧ (w1.setCell ⟨q, 0, none⟩ (.slice (some ⟨g, 0, none⟩) (0 + (L.length - 1)) sc)).heap[q]? = some (.cells _ 47 (0, 0)) ∧ HI ((w1.setCell ⟨q, 0, none⟩ (.slice (some ⟨g, 0, none⟩) (0 + (L.length - 1)) sc)).setCell ⟨q, 1, none⟩ (.slice none 0 0)) B q (.slice (some ⟨g, 0, none⟩) (0 + (L.length - 1)) sc) (.slice none 0 0) (L.drop 1) [] ∧ Kp [30, 47] B w ((w1.setCell ⟨q, 0, none⟩ (.slice (some ⟨g, 0, none⟩) (0 + (L.length - 1)) sc)).setCell ⟨q, 1, none⟩ (.slice none 0 0)) from
          ⟨hx, h2.box, HI.set1 h2.box HG.out h2.own.clear, hk2.trans ((Kp.set (S := [47]) (j := 1) (u := .slice none 0 0) h2.box HG.out (by simp)).wide (by simp))⟩)
        obtain ⟨n, hn⟩ : ∃ n, L.length = n := ⟨_, rfl⟩
        rw [hn] at c0 DL FIN hw64 e65
        subst e65
        rw [show ((1 : Nat) : Int) = 1 from rfl, show ((0 : Nat) : Int) = 0 from rfl] at DL
        obtain ⟨m, hm⟩ : ∃ m, 0 + (65 - 1) = m := ⟨_, rfl⟩
        rw [hm] at DL FIN
        clear OD HF KF HT KT hd1
        go_wp2_with fail
        refine DL.out.mono ?_
        rintro e w1 ⟨rfl, ho, hgr⟩
        have F1 := Lib.hid (FIN.out w1 ho hgr)
        have x0 := cell_row (j := 0) F1.out.1 rfl
        have f0 := frozen_of_row (j := 0) _ _ _ _ F1.out.1
        have x1 := cell_row (j := 1) F1.out.2.1 rfl
        have f1 := frozen_of_row (j := 1) _ _ _ _ F1.out.2.1
        clear ho hgr DL FIN
        go_wp2
        go_returns
        have FF := Lib.hid F1.out.2.2
        rw [← TR.out] at FF
        first | exact ⟨x, ⟨rfl, rfl⟩, ⟨_, FF.out.1⟩, FF.out.2⟩ | exact ⟨x, ⟨rfl, rfl⟩, _, FF.out.1, FF.out.2⟩
      · have TR := Lib.hid (show trim (D ++ [x]) = L from by rw [HL.out]; unfold trim; rw [if_neg hbig])
        have x1 := cell_row (j := 1) HF.out.box rfl
        have f1 := frozen_of_row (j := 1) _ _ _ _ HF.out.box
        obtain ⟨n, hn⟩ : ∃ n, L.length = n := ⟨_, rfl⟩
        rw [hn] at c0 hbig HT
        have hw64 : wrap64 ((n : Int) - 64) = (n : Int) - 64 := by have := EL.out; have := LD6.out; unfold wrap64; omega
        have hgt : ¬ ((0 : Int) < (n : Int) - 64) := by omega
        clear HF KF
        go_wp2
        go_returns
        rw [← TR.out] at HT
        first | exact ⟨x, ⟨rfl, rfl⟩, ⟨_, HT.out⟩, KT.out⟩ | exact ⟨x, ⟨rfl, rfl⟩, _, HT.out, KT.out⟩
end Go.Proofs.Ythbmbpnpigpgpaa
