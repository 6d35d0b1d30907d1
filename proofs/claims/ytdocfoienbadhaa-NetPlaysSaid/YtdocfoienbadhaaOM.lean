/- What an act does to both. Made by genoj.py. -/
import Derived.Test.YtdocfoienbadhaaOI
set_option linter.unusedVariables false
namespace Go.Proofs.Ytdocfoienbadhaa
open Go.RowKit

set_option maxRecDepth 100000 in
set_option maxHeartbeats 6400000 in
theorem does_clear {w0 : World} (w : World) (p q : Nat) (fv rv : Value) (fl rl : List Fl) (lost : Int) (h : DS w0 w p q fv rv fl rl lost) (k m b d : Int) (ab : Option Addr) (bs : List Nat) (cb : Nat) (hu : Bool) (P : List (Int × List Nat × Bool)) (lost' ec : Int)
    (CR : ∀ (N : Nat → Prop) (W : World), (∀ j, N j → j < W.heap.size) → RowsN N W rv rl → Calls Try.prog 24 #[.agg #[rv, .int .i64 lost], .int .i64 m] W fun e w' => ∃ rv' rl', e = .returned (.tuple #[.agg #[rv', .int .i64 lost'], .int .i64 ec]) ∧ RowsN N w' rv' rl' ∧ Below W.heap.size W w' ∧ rl'.map pu = P)
    (CP : ∀ (W : World), NetAt w0.heap.size W p fv fl lost → Below w0.heap.size w0 W → Calls Try.prog 18 #[.pointer (some ⟨p, 0, none⟩), .int .i64 m] W fun e w' => ∃ fv' fl', e = .returned (.int .i64 ec) ∧ NetAt w0.heap.size w' p fv' fl' lost' ∧ Below w0.heap.size w0 w' ∧ Kp W w' p fv fl fv' fl' ∧ fl'.map pu = P) :
    Calls Try.prog 7 #[.pointer (some ⟨p, 0, none⟩), .pointer (some ⟨q, 0, none⟩), .agg #[.int .i64 7, .int .i64 k, .int .i64 m, .int .i64 b, .int .i64 d, .slice ab bs.length cb, .bool hu]] w fun e w' => e = .returned (.bool true) ∧ ∃ fv' rv' fl' rl', DS w0 w' p q fv' rv' fl' rl' lost' := by
  have HD := Lib.hid h
  obtain ⟨ar, cr, rfl⟩ := h.rows.shape
  obtain ⟨W1, e1, B1, R1, s1⟩ := boxed w #[.int .i64 7, .int .i64 k, .int .i64 m, .int .i64 b, .int .i64 d, .slice ab bs.length cb, .bool hu] 34
  have E1 := Lib.hid e1
  have D1 := Lib.hid (HD.out.step B1)
  have HCR := Lib.hid CR
  have HCP := Lib.hid CP
  have HQZ : q ≠ w.heap.size := by have := lt_of_block h.box; omega
  obtain ⟨z, hz⟩ : ∃ z, w.heap.size = z := ⟨_, rfl⟩
  rw [hz] at R1 HQZ
  have R1' := Lib.hid R1
  have QZ := Lib.hid HQZ
  have k0 := cell_of_row _ z 0 _ _ _ R1
  simp at k0
  clear h e1 B1 R1 s1 CR CP HQZ
  have HZ := Lib.hid hz
  go_enter Try.func7, Try.ntmps7
  go_upto_region 1 with (fail)
  rw [E1.out]
  go_upto_region 27 with (fail)
  clear k0
  go_cut [20, 21] from 158 to 166 (fun xv ev wx => ∃ b7 a7 c7 rl', xv = .pointer (some ⟨b7, 0, none⟩) ∧ ev = .int .i64 ec ∧ Below W1.heap.size W1 wx ∧ b7 ≠ q ∧ wx.heap[b7]? = some (.cells #[.slice a7 rl'.length c7, .int .i64 lost'] 29 (0, 0)) ∧ RowsN (Or1 (NOwn p fv fl) q) wx (.slice a7 rl'.length c7) rl' ∧ rl'.map pu = P)
  case first =>
    have DB := Lib.hid (show Below W1.heap.size W1 W1.drew from below_drewN W1 1)
    have D2 := Lib.hid (D1.out.step DB.out)
    have H0 := Lib.hid (show W1.drew.heap[q]? = some (.cells #[.slice ar rl.length cr, .int .i64 lost] 29 (0, 0)) ∧ W1.drew.heap[z]? = some (.cells #[.int .i64 7, .int .i64 k, .int .i64 m, .int .i64 b, .int .i64 d, .slice ab bs.length cb, .bool hu] 34 (0, 0)) from ⟨D2.out.box, R1'.out⟩)
    have STP := Lib.hid (fun (W : World) (hb : Below W1.drew.heap.size W1.drew W) => show W.heap[q]? = some (.cells #[.slice ar rl.length cr, .int .i64 lost] 29 (0, 0)) ∧ W.heap[z]? = some (.cells #[.int .i64 7, .int .i64 k, .int .i64 m, .int .i64 b, .int .i64 d, .slice ab bs.length cb, .bool hu] 34 (0, 0)) from ⟨(hb.block _ (lt_of_block H0.out.1)).trans H0.out.1, (hb.block _ (lt_of_block H0.out.2)).trans H0.out.2⟩)
    have LQ := Lib.hid (fun (W : World) (h : W.heap[q]? = some (.cells #[.slice ar rl.length cr, .int .i64 lost] 29 (0, 0)) ∧ W.heap[z]? = some (.cells #[.int .i64 7, .int .i64 k, .int .i64 m, .int .i64 b, .int .i64 d, .slice ab bs.length cb, .bool hu] 34 (0, 0))) => load29 W q ar rl.length cr lost h.1)
    have Lm := Lib.hid (fun (W : World) (h : W.heap[q]? = some (.cells #[.slice ar rl.length cr, .int .i64 lost] 29 (0, 0)) ∧ W.heap[z]? = some (.cells #[.int .i64 7, .int .i64 k, .int .i64 m, .int .i64 b, .int .i64 d, .slice ab bs.length cb, .bool hu] 34 (0, 0))) => load3 W ⟨z, 2, none⟩ m (by rw [cell_of_row _ z 2 _ _ _ h.2]; rfl))
    unfold nv at LQ
    refine wp_region_held_drew (S := fun w' => w'.heap[q]? = some (.cells #[.slice ar rl.length cr, .int .i64 lost] 29 (0, 0)) ∧ w'.heap[z]? = some (.cells #[.int .i64 7, .int .i64 k, .int .i64 m, .int .i64 b, .int .i64 d, .slice ab bs.length cb, .bool hu] 34 (0, 0))) (by kernel_rfl) H0.out (fun hHeld => ?_)
    refine take_at (i := 0) 159 ?_ rfl rfl (by kernel_rfl) (by kernel_rfl) (by kernel_rfl) (fun _ _ _ h => h) (.inl ⟨rfl, ?_⟩) hHeld ?_
    rotate_left 1
    · intro w hSw; go_simp; try with_reducible rfl
    simp only [Act.put, List.setIfInBounds_toArray, List.set_cons_zero, List.set_cons_succ]
    refine take_at (i := 1) 160 ?_ rfl rfl (by kernel_rfl) (by kernel_rfl) (by kernel_rfl) (fun _ _ _ h => h) (.inl ⟨rfl, ?_⟩) hHeld ?_
    rotate_left 1
    · intro w hSw; go_simp; try with_reducible rfl
    simp only [Act.put, List.setIfInBounds_toArray, List.set_cons_zero, List.set_cons_succ]
    refine take_at (i := 2) 161 (.agg #[.slice ar rl.length cr, .int .i64 lost]) rfl rfl (by kernel_rfl) (by kernel_rfl) (by kernel_rfl) (fun _ _ _ h => h) (yields_ld (.tmp 160) 29 (.pointer (some ⟨q, 0, none⟩)) _ LQ.out rfl rfl rfl) hHeld ?_
    simp only [Act.put, List.setIfInBounds_toArray, List.set_cons_zero, List.set_cons_succ]
    refine take_at (i := 3) 162 ?_ rfl rfl (by kernel_rfl) (by kernel_rfl) (by kernel_rfl) (fun _ _ _ h => h) (.inl ⟨rfl, ?_⟩) hHeld ?_
    rotate_left 1
    · intro w hSw; go_simp; try with_reducible rfl
    simp only [Act.put, List.setIfInBounds_toArray, List.set_cons_zero, List.set_cons_succ]
    refine take_at (i := 4) 163 (.int .i64 m) rfl rfl (by kernel_rfl) (by kernel_rfl) (by kernel_rfl) (fun _ _ _ h => h) (yields_ld (.tmp 162) 3 (.pointer (some ⟨z, 2, none⟩)) _ Lm.out rfl rfl rfl) hHeld ?_
    simp only [Act.put, List.setIfInBounds_toArray, List.set_cons_zero, List.set_cons_succ]
    refine wpAnyH_ready (rs := [5, 9]) (by kernel_rfl) (by simp) (br_call (i := 5) 164 24 #[.agg #[.slice ar rl.length cr, .int .i64 lost], .int .i64 m] rfl rfl rfl (by go_simp) ((HCR.out (Or1 (NOwn p fv fl) q) W1.drew D2.out.own_lt D2.out.rows).mono ?_) (br_alloc (i := 9) 20 29 _ _ rfl rfl rfl rfl (alloc29 W1.drew) (STP.out _ (vstep W1.drew _)) (fun hH => ?_) AllReadyH.nil))
    · rintro e w5 ⟨rv', rl', rfl, hr5, b5, hp5⟩
      obtain ⟨a5, c5, hrv⟩ := hr5.shape
      subst hrv
      obtain ⟨w6, e6, B6, R6, s6⟩ := boxed w5 #[.slice none 0 0, .int .i64 0] 29
      have AL := Lib.hid (alloc29 w5)
      rw [e6] at AL
      obtain ⟨b7, hb7⟩ : ∃ b, w5.heap.size = b := ⟨_, rfl⟩
      rw [hb7] at AL R6
      have S7 := Lib.hid (show (Instr.storeAt 29 (.pointer (some ⟨b7, 0, none⟩)) (.agg #[.slice a5 rl'.length c5, .int .i64 lost'])).run Try.prog w6 = .ok () (set2 w6 b7 (.slice a5 rl'.length c5) (.int .i64 lost')) from store29 w6 b7 a5 rl'.length c5 lost' _ _ R6)
      have B56 := b5.trans (B6.mono b5.size)
      have B7 := below_set2 B56 (show W1.drew.heap.size ≤ b7 by have := b5.size; omega) (.slice a5 rl'.length c5) (.int .i64 lost')
      have B57 := below_set2 B6 (show w5.heap.size ≤ b7 by omega) (.slice a5 rl'.length c5) (.int .i64 lost')
      have HQ : b7 ≠ q := by have := lt_of_block H0.out.1; have := b5.size; omega
      have HR7 := set2_row R6 (.slice a5 rl'.length c5) (.int .i64 lost')
      obtain ⟨w7, hw7⟩ : ∃ y, set2 w6 b7 (.slice a5 rl'.length c5) (.int .i64 lost') = y := ⟨_, rfl⟩
      rw [hw7] at S7 B7 B57 HR7
      have FIN := Lib.hid (show Below W1.heap.size W1 w7 ∧ b7 ≠ q ∧ w7.heap[b7]? = some (.cells #[.slice a5 rl'.length c5, .int .i64 lost'] 29 (0, 0)) ∧ RowsN (Or1 (NOwn p fv fl) q) w7 (.slice a5 rl'.length c5) rl' ∧ rl'.map pu = P from ⟨DB.out.trans (B7.mono DB.out.size), HQ, HR7, hr5.step B57, hp5⟩)
      have HS7 := Lib.hid (STP.out w7 B7)
      have HS6 := Lib.hid (STP.out w6 B56)
      have HS5 := Lib.hid (STP.out w5 b5)
      refine ⟨_, rfl, HS5.out, fun _ => ?_⟩
      clear hr5 hp5 b5 B6 R6 s6 e6 hb7 B56 B7 B57 HQ HR7 hw7
      simp only [Act.put, List.setIfInBounds_toArray, List.set_cons_zero, List.set_cons_succ]
      refine take_at (i := 6) 158 ?_ rfl rfl (by kernel_rfl) (by kernel_rfl) (by kernel_rfl) (fun _ _ _ h => h) (.inl ⟨rfl, ?_⟩) HS5.out ?_
      rotate_left 1
      · intro w hSw; go_simp; try with_reducible rfl
      simp only [Act.put, List.setIfInBounds_toArray, List.set_cons_zero, List.set_cons_succ]
      refine take_at (i := 7) 165 ?_ rfl rfl (by kernel_rfl) (by kernel_rfl) (by kernel_rfl) (fun _ _ _ h => h) (.inl ⟨rfl, ?_⟩) HS5.out ?_
      rotate_left 1
      · intro w hSw; go_simp; try with_reducible rfl
      simp only [Act.put, List.setIfInBounds_toArray, List.set_cons_zero, List.set_cons_succ]
      refine take_at (i := 8) 166 ?_ rfl rfl (by kernel_rfl) (by kernel_rfl) (by kernel_rfl) (fun _ _ _ h => h) (.inl ⟨rfl, ?_⟩) HS5.out ?_
      rotate_left 1
      · intro w hSw; go_simp; try with_reducible rfl
      simp only [Act.put, List.setIfInBounds_toArray, List.set_cons_zero, List.set_cons_succ]
      refine wpAnyH_ready (rs := [9]) (by kernel_rfl) (by simp) (br_alloc (i := 9) 20 29 _ w6 rfl rfl rfl rfl AL.out HS6.out (fun _ => ?_) AllReadyH.nil)
      simp only [Act.put, List.setIfInBounds_toArray, List.set_cons_zero, List.set_cons_succ]
      refine wpAnyH_ready (rs := [10]) (by kernel_rfl) (by simp) (br_store (i := 10) 29 (.tmp 20) (.tmp 165) (.pointer (some ⟨b7, 0, none⟩)) (.agg #[.slice a5 rl'.length c5, .int .i64 lost']) w7 rfl rfl rfl rfl rfl rfl S7.out HS7.out (fun _ => ?_) AllReadyH.nil)
      simp only [Act.put]
      refine take_at (i := 11) 21 ?_ rfl rfl (by kernel_rfl) (by kernel_rfl) (by kernel_rfl) (fun _ _ _ h => h) (.inl ⟨rfl, ?_⟩) HS7.out ?_
      rotate_left 1
      · intro w hSw; go_simp; try with_reducible rfl
      simp only [Act.put, List.setIfInBounds_toArray, List.set_cons_zero, List.set_cons_succ]
      refine wpAnyH_done (by kernel_rfl) ?_ _
      go_wp2_with fail
      go_meet
      exact ⟨b7, a5, c5, rl', rfl, rfl, FIN.out⟩
    · obtain ⟨w6, e6, B6, R6, s6⟩ := boxed W1.drew #[.slice none 0 0, .int .i64 0] 29
      rw [e6]
      obtain ⟨b7, hb7⟩ : ∃ b, W1.drew.heap.size = b := ⟨_, rfl⟩
      have HCB := Lib.hid (HCR.out (Or1 (Or1 (NOwn p fv fl) q) b7) w6 (fun j hj => hj.elim (fun hj => Nat.lt_of_lt_of_le (D2.out.own_lt j hj) B6.size) (fun e => by rw [e, ← hb7]; exact lt_of_block R6)) (D2.out.rows.more B6 (by rw [hb7]; exact Nat.le_refl _)))
      have B6' := Lib.hid B6
      rw [hb7] at R6 ⊢
      have R6' := Lib.hid R6
      have HB7 := Lib.hid hb7
      clear B6 R6 s6 e6 hb7
      simp only [Act.put, List.setIfInBounds_toArray, List.set_cons_zero, List.set_cons_succ]
      refine one_call (i := 5) 164 24 #[.agg #[.slice ar rl.length cr, .int .i64 lost], .int .i64 m] rfl rfl (by kernel_rfl) rfl (by go_simp) ?_
      refine HCB.out.mono ?_
      rintro e w5 ⟨rv', rl', rfl, hr5, b5, hp5⟩
      obtain ⟨a5, c5, hrv⟩ := hr5.shape
      subst hrv
      have R5 := (b5.block _ (lt_of_block R6'.out)).trans R6'.out
      have S7 := Lib.hid (show (Instr.storeAt 29 (.pointer (some ⟨b7, 0, none⟩)) (.agg #[.slice a5 rl'.length c5, .int .i64 lost'])).run Try.prog w5 = .ok () (set2 w5 b7 (.slice a5 rl'.length c5) (.int .i64 lost')) from store29 w5 b7 a5 rl'.length c5 lost' _ _ R5)
      have B56 := B6'.out.trans (b5.mono B6'.out.size)
      have B7 := below_set2 B56 (show W1.drew.heap.size ≤ b7 by rw [HB7.out]; exact Nat.le_refl _) (.slice a5 rl'.length c5) (.int .i64 lost')
      have HQ : b7 ≠ q := by have := lt_of_block H0.out.1; have := HB7.out; omega
      have HR7 := set2_row R5 (.slice a5 rl'.length c5) (.int .i64 lost')
      have HRR : RowsN (Or1 (NOwn p fv fl) q) (set2 w5 b7 (.slice a5 rl'.length c5) (.int .i64 lost')) (.slice a5 rl'.length c5) rl' := hr5.less2 _ _
      obtain ⟨w7, hw7⟩ : ∃ y, set2 w5 b7 (.slice a5 rl'.length c5) (.int .i64 lost') = y := ⟨_, rfl⟩
      rw [hw7] at S7 B7 HR7 HRR
      have FIN := Lib.hid (show Below W1.heap.size W1 w7 ∧ b7 ≠ q ∧ w7.heap[b7]? = some (.cells #[.slice a5 rl'.length c5, .int .i64 lost'] 29 (0, 0)) ∧ RowsN (Or1 (NOwn p fv fl) q) w7 (.slice a5 rl'.length c5) rl' ∧ rl'.map pu = P from ⟨DB.out.trans (B7.mono DB.out.size), HQ, HR7, HRR, hp5⟩)
      have HS7 := Lib.hid (STP.out w7 B7)
      have HS5 := Lib.hid (STP.out w5 B56)
      refine ⟨_, rfl, HS5.out, fun _ => ?_⟩
      clear hr5 hp5 b5 R5 B56 B7 HQ HR7 HRR hw7
      simp only [Act.put, List.setIfInBounds_toArray, List.set_cons_zero, List.set_cons_succ]
      refine take_at (i := 6) 158 ?_ rfl rfl (by kernel_rfl) (by kernel_rfl) (by kernel_rfl) (fun _ _ _ h => h) (.inl ⟨rfl, ?_⟩) HS5.out ?_
      rotate_left 1
      · intro w hSw; go_simp; try with_reducible rfl
      simp only [Act.put, List.setIfInBounds_toArray, List.set_cons_zero, List.set_cons_succ]
      refine take_at (i := 7) 165 ?_ rfl rfl (by kernel_rfl) (by kernel_rfl) (by kernel_rfl) (fun _ _ _ h => h) (.inl ⟨rfl, ?_⟩) HS5.out ?_
      rotate_left 1
      · intro w hSw; go_simp; try with_reducible rfl
      simp only [Act.put, List.setIfInBounds_toArray, List.set_cons_zero, List.set_cons_succ]
      refine take_at (i := 8) 166 ?_ rfl rfl (by kernel_rfl) (by kernel_rfl) (by kernel_rfl) (fun _ _ _ h => h) (.inl ⟨rfl, ?_⟩) HS5.out ?_
      rotate_left 1
      · intro w hSw; go_simp; try with_reducible rfl
      simp only [Act.put, List.setIfInBounds_toArray, List.set_cons_zero, List.set_cons_succ]
      refine wpAnyH_ready (rs := [10]) (by kernel_rfl) (by simp) (br_store (i := 10) 29 (.tmp 20) (.tmp 165) (.pointer (some ⟨b7, 0, none⟩)) (.agg #[.slice a5 rl'.length c5, .int .i64 lost']) w7 rfl rfl rfl rfl rfl rfl S7.out HS7.out (fun _ => ?_) AllReadyH.nil)
      simp only [Act.put]
      refine take_at (i := 11) 21 ?_ rfl rfl (by kernel_rfl) (by kernel_rfl) (by kernel_rfl) (fun _ _ _ h => h) (.inl ⟨rfl, ?_⟩) HS7.out ?_
      rotate_left 1
      · intro w hSw; go_simp; try with_reducible rfl
      simp only [Act.put, List.setIfInBounds_toArray, List.set_cons_zero, List.set_cons_succ]
      refine wpAnyH_done (by kernel_rfl) ?_ _
      go_wp2_with fail
      go_meet
      exact ⟨b7, a5, c5, rl', rfl, rfl, FIN.out⟩
  case rest =>
    obtain ⟨b7, a7, c7, rl', rfl, rfl, hb, hne, hrow, hR, hPL⟩ := hcut
    have HPL := Lib.hid hPL
    clear hPL
    have DW := D1.out.step hb
    have k0 := cell0 hrow
    have k1 := cell1 hrow
    have r0 := cell0 DW.box
    have r1 := cell1 DW.box
    have g0 := frozen0 DW.box
    have g1 := frozen1 DW.box
    have RZ := (hb.block _ (lt_of_block R1'.out)).trans R1'.out
    have HP := Lib.hid (D1.out.put (lost' := lost') hb hR)
    have HZR := Lib.hid ((set2_other (x := .slice a7 rl'.length c7) (y := .int .i64 lost') (fun e => QZ.out e.symm)).trans RZ)
    clear hb hne hrow hR RZ DW
    go_upto_region 29 with (fail)
    obtain ⟨w8, hw8⟩ : ∃ y, set2 wc q (.slice a7 rl'.length c7) (.int .i64 lost') = y := ⟨_, rfl⟩
    rw [hw8] at HP HZR
    have hw8' : (wc.setCell ⟨q, 0, none⟩ (.slice a7 rl'.length c7)).setCell ⟨q, 1, none⟩ (.int .i64 lost') = w8 := hw8
    rw [hw8']
    have HX := Lib.hid (HCP.out w8 HP.out.net HP.out.bel)
    have z1 := cell_of_row _ z 1 _ _ _ HZR.out
    have z2 := cell_of_row _ z 2 _ _ _ HZR.out
    have z3 := cell_of_row _ z 3 _ _ _ HZR.out
    simp at z1 z2 z3
    clear k0 k1 r0 r1 g0 g1 hw8 hw8'
    go_wp2_with fail
    refine HX.out.mono ?_
    rintro e w9 ⟨fv', fl', rfl, hn9, hb9, hk9, hp9⟩
    have FIN := Lib.hid (HP.out.fin hn9 hb9 hk9 (hp9.trans HPL.out.symm))
    clear hn9 hb9 hk9 hp9 z1 z2 z3
    go_wp2
    go_returns
    exact ⟨rfl, _, _, _, _, FIN.out⟩
end Go.Proofs.Ytdocfoienbadhaa
