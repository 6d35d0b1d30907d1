/- TableClones' law. Made by genug13.py, with tools/drawn.py. -/
import Derived.Test.YtegmlekeielmoaaUF
set_option linter.unusedVariables false
set_option linter.unusedSimpArgs false
set_option maxRecDepth 100000
namespace Go.Proofs.Ytegmlekeielmoaa
open Go.RowKit Go.WideMaps Go.Maps

set_option maxHeartbeats 25600000 in
theorem clones_law (w : World) (v1 v2 : Value) (l1 l2 : List Rw) (h1 : LiesR w v1 l1) (hk1 : ∀ x ∈ l1, x.ok) (h2 : LiesR w v2 l2) (hk2 : ∀ x ∈ l2, x.ok) (k t r pt pr : Int) (nm : ByteArray) (d : Bool) (hx : Rw.ok ⟨t, r, pt, pr, nm, d⟩) :
    Calls Try.prog 5 #[v1, v2, .agg #[.int .i64 k, .int .i64 t, .int .i64 r, .int .i64 pt, .int .i64 pr, .string nm, .bool d]] w fun e w' => e = .returned (.bool true) ∧ Below w.heap.size w w' := by
  have hlm1 := h1.len
  have hlm2 := h2.len
  have B0 := Lib.hid (vstep w (.cells #[.int .i64 k, .int .i64 t, .int .i64 r, .int .i64 pt, .int .i64 pr, .string nm, .bool d] 31))
  have A0 := Lib.hid (show AcAt (w.alloc (.cells #[.int .i64 k, .int .i64 t, .int .i64 r, .int .i64 pt, .int .i64 pr, .string nm, .bool d] 31)) w.heap.size k t r pt pr nm d from heap_alloc_new w _)
  have L1 := Lib.hid (h1.step B0.out)
  have L2 := Lib.hid (h2.step B0.out)
  have HK1 := Lib.hid hk1
  have HK2 := Lib.hid hk2
  have XO := Lib.hid hx
  have AW := Lib.hid (fun W => awake_any W)
  obtain ⟨ao1, cap1, rfl⟩ := h1.shape
  obtain ⟨ao2, cap2, rfl⟩ := h2.shape
  obtain ⟨W0, hW0⟩ : ∃ y, w.alloc (.cells #[.int .i64 k, .int .i64 t, .int .i64 r, .int .i64 pt, .int .i64 pr, .string nm, .bool d] 31) = y := ⟨_, rfl⟩
  rw [hW0] at B0 A0 L1 L2
  have HW := Lib.hid hW0
  clear h1 h2 hk1 hk2 hx hW0
  by_cases hlen1 : 40 < l1.length
  · go_enter Try.func5, Try.ntmps5
    go_upto_region 1 with (fail)
    rw [HW.out]
    have AW1 := Lib.hid (AW.out W0)
    go_wp2_with fail
    refine AW1.out.mono ?_
    rintro e wz ⟨rfl, hb⟩
    have FIN := Lib.hid (B0.out.trans (hb.mono B0.out.size))
    clear hb
    go_wp2
    go_returns
    exact ⟨rfl, FIN.out⟩
  · by_cases hlen2 : 40 < l2.length
    · go_enter Try.func5, Try.ntmps5
      go_upto_region 1 with (fail)
      rw [HW.out]
      have AW1 := Lib.hid (AW.out W0)
      go_wp2_with fail
      refine AW1.out.mono ?_
      rintro e wz ⟨rfl, hb⟩
      have FIN := Lib.hid (B0.out.trans (hb.mono B0.out.size))
      clear hb
      go_wp2
      go_returns
      exact ⟨rfl, FIN.out⟩
    · have MD1 := Lib.hid (made_rows W0 _ l1 L1.out (by omega) HK1.out)
      go_enter Try.func5, Try.ntmps5
      go_upto_region 1 with (fail)
      rw [HW.out]
      go_wp2_with fail
      refine MD1.out.mono ?_
      rintro e w1 ⟨p1, b1, rfl, e1, e2, e3, e4⟩
      have T1 := Lib.hid e1
      have B1 := Lib.hid e4
      have MD2 := Lib.hid (made_rows w1 _ l2 (L2.out.step e4) (by omega) HK2.out)
      clear e1 e2 e3 e4 MD1
      go_wp2_with fail
      refine MD2.out.mono ?_
      rintro e w2 ⟨p2, b2, rfl, e1, e2, e3, e4⟩
      have T1 := Lib.hid (T1.out.step e4)
      have T2 := Lib.hid e1
      have B2 := Lib.hid (B1.out.trans (e4.mono B1.out.size))
      clear e1 e2 e3 e4 MD2 B1
      have RM1 := Lib.hid (rmade_any w2 _ l1 (L1.out.step B2.out) (by omega))
      go_wp2_with fail
      refine RM1.out.mono ?_
      rintro e w3 ⟨r1, rfl, e1, e2⟩
      have T1 := Lib.hid (T1.out.step e2)
      have T2 := Lib.hid (T2.out.step e2)
      have R1 := Lib.hid e1
      have B3 := Lib.hid (B2.out.trans (e2.mono B2.out.size))
      clear e1 e2 RM1 B2
      have RM2 := Lib.hid (rmade_any w3 _ l2 (L2.out.step B3.out) (by omega))
      go_wp2_with fail
      refine RM2.out.mono ?_
      rintro e w4 ⟨r2, rfl, e1, e2⟩
      have T1 := Lib.hid (T1.out.step e2)
      have T2 := Lib.hid (T2.out.step e2)
      have R1 := Lib.hid (R1.out.step e2)
      have R2 := Lib.hid e1
      have B4 := Lib.hid (B3.out.trans (e2.mono B3.out.size))
      have LM1 := Lib.hid (show (madeF l1).length ≤ 40 from by have := madeF_len l1; omega)
      have LM2 := Lib.hid (show (madeF l2).length ≤ 40 from by have := madeF_len l2; omega)
      have RS1 := Lib.hid (madeF_rise l1)
      clear e1 e2 RM2 B3 L1 L2 HK1 HK2
      generalize madeF l1 = m1 at *
      generalize madeF l2 = m2 at *
      have F1 := Lib.hid (fun W (hb : Below w4.heap.size w4 W) => T1.out.step hb)
      have F2 := Lib.hid (fun W (hb : Below w4.heap.size w4 W) => T2.out.step hb)
      have G1 := Lib.hid (fun W (hb : Below w4.heap.size w4 W) => R1.out.step hb)
      have G2 := Lib.hid (fun W (hb : Below w4.heap.size w4 W) => R2.out.step hb)
      have A4 := Lib.hid (A0.out.step B4.out)
      clear T1 T2 R1 R2 A0
      have Y1 := Lib.hid (fun W (hb : Below w4.heap.size w4 W) => tsame_any W p1 b1 p2 b2 m1 m2 (F1.out W hb) (F2.out W hb) (by have := LM1.out; omega))
      have Y2 := Lib.hid (fun W (hb : Below w4.heap.size w4 W) => rsame_any W r1 r2 m1 m2 (G1.out W hb) (G2.out W hb))
      have Y3 := Lib.hid (fun W (hb : Below w4.heap.size w4 W) => tsame_any W p2 b2 p1 b1 m2 m1 (F2.out W hb) (F1.out W hb) (by have := LM2.out; omega))
      have Y4 := Lib.hid (fun W (hb : Below w4.heap.size w4 W) => rsame_any W r1 r2 m1 m2 (G1.out W hb) (G2.out W hb))
      obtain ⟨s12, hs12⟩ : ∃ y, decide (m1 = m2) = y := ⟨_, rfl⟩
      rw [show decide (m2 = m1) = decide (m1 = m2) from decide_eq_decide.2 eq_comm] at Y3
      rw [hs12] at Y1 Y2 Y3 Y4
      clear hs12
      have o1 : (s12 != s12) = false := by cases s12 <;> rfl
      have BB := Lib.hid (Below.refl w4.heap.size w4)
      have Y1 := Lib.hid (Y1.out w4 BB.out)
      go_wp2_with fail
      refine Y1.out.mono ?_
      rintro e w5 ⟨rfl, hb⟩
      have BB := Lib.hid (BB.out.trans (hb.mono BB.out.size))
      have Y2 := Lib.hid (Y2.out _ BB.out)
      clear hb Y1
      go_wp2_with fail
      refine Y2.out.mono ?_
      rintro e w6 ⟨rfl, hb⟩
      have BB := Lib.hid (BB.out.trans (hb.mono BB.out.size))
      have Y3 := Lib.hid (Y3.out _ BB.out)
      clear hb Y2
      go_wp2_with fail
      refine Y3.out.mono ?_
      rintro e w7 ⟨rfl, hb⟩
      have BB := Lib.hid (BB.out.trans (hb.mono BB.out.size))
      have Y4 := Lib.hid (Y4.out _ BB.out)
      clear hb Y3
      go_wp2_with fail
      refine Y4.out.mono ?_
      rintro e w8 ⟨rfl, hb⟩
      have BB := Lib.hid (BB.out.trans (hb.mono BB.out.size))
      have CL := Lib.hid (clone_any w8 p1 b1 m1 (F1.out _ BB.out) (by have := LM1.out; omega))
      clear hb Y4
      go_wp2_with fail
      refine CL.out.mono ?_
      rintro e w9 ⟨q, qb, rfl, hc⟩
      have B8 := Lib.hid (B0.out.trans ((B4.out.trans (BB.out.mono B4.out.size)).mono B0.out.size))
      have QB := Lib.hid hc.b0
      have BV := Lib.hid hc.bel
      have TC := Lib.hid hc.tab
      have F1 := Lib.hid (fun W (hb : Below w8.heap.size w8 W) => F1.out W (BB.out.trans (hb.mono BB.out.size)))
      have G1 := Lib.hid (fun W (hb : Below w8.heap.size w8 W) => G1.out W (BB.out.trans (hb.mono BB.out.size)))
      have LA := Lib.hid (fun W (hb : Below w8.heap.size w8 W) => loadA1 (A4.out.step (BB.out.trans (hb.mono BB.out.size))))
      have LE := Lib.hid (fun W (hb : Below w8.heap.size w8 W) => loadA3 (A4.out.step (BB.out.trans (hb.mono BB.out.size))))
      have LP := Lib.hid (fun W (hb : Below w8.heap.size w8 W) => loadAP (A4.out.step (BB.out.trans (hb.mono BB.out.size))))
      clear hc CL F2 G2 A4 B0 B4 BB
      have SS := Lib.hid ((tsame_any w9 p1 b1 q qb m1 m1 (F1.out _ BV.out) TC.out (by have := LM1.out; omega)))
      rw [show decide (m1 = m1) = true from decide_eq_true rfl] at SS
      go_wp2_with fail
      refine SS.out.mono ?_
      rintro e w10 ⟨rfl, hb⟩
      have BV := Lib.hid (BV.out.trans (hb.mono BV.out.size))
      have TC := Lib.hid (TC.out.step hb)
      have IS := Lib.hid (is_same w10 q qb r1 m1 TC.out (G1.out _ BV.out))
      clear hb SS
      go_wp2_with fail
      refine IS.out.mono ?_
      rintro e w11 ⟨rfl, hb⟩
      have BV := Lib.hid (BV.out.trans (hb.mono BV.out.size))
      have TC := Lib.hid (TC.out.step (hb.trans ((show Below w11.heap.size w11 w11.drew from (Below.refl _ _).drew).mono hb.size)))
      clear hb IS
      go_upto_region 10 with (fail)
      refine wp_region_held_drew (S := fun w' => Below w8.heap.size w8 w') (by kernel_rfl) (BV.out.drew) (fun hHeld => ?_)
      have BV := Lib.hid (show Below w8.heap.size w8 w11.drew from BV.out.drew)
      clear hHeld
      refine take_at (i := 0) 57 ?_ rfl rfl (by kernel_rfl) (by kernel_rfl) (by kernel_rfl) (fun _ _ _ h => h) (.inl ⟨rfl, ?_⟩) BV.out ?_
      rotate_left 1
      · intro w hSw; go_simp; try with_reducible rfl
      simp only [Act.put, List.setIfInBounds_toArray, List.set_cons_zero, List.set_cons_succ]
      refine take_at (i := 1) 58 ?_ rfl rfl (by kernel_rfl) (by kernel_rfl) (by kernel_rfl) (fun _ _ _ h => h) (.inl ⟨rfl, ?_⟩) BV.out ?_
      rotate_left 1
      · intro w hSw; go_simp; try with_reducible rfl
      simp only [Act.put, List.setIfInBounds_toArray, List.set_cons_zero, List.set_cons_succ]
      refine take_at (i := 2) 59 (.agg #[.int .i64 t, .int .i64 r]) rfl rfl (by kernel_rfl) (by kernel_rfl) (by kernel_rfl) (fun _ _ _ h => h) (yields_ld (.tmp 58) 24 (.pointer (some ⟨w.heap.size, 1, none⟩)) _ LA.out rfl rfl rfl) BV.out ?_
      simp only [Act.put, List.setIfInBounds_toArray, List.set_cons_zero, List.set_cons_succ]
      refine take_at (i := 3) 60 ?_ rfl rfl (by kernel_rfl) (by kernel_rfl) (by kernel_rfl) (fun _ _ _ h => h) (.inl ⟨rfl, ?_⟩) BV.out ?_
      rotate_left 1
      · intro w hSw; go_simp; try with_reducible rfl
      simp only [Act.put, List.setIfInBounds_toArray, List.set_cons_zero, List.set_cons_succ]
      refine take_at (i := 4) 61 (.agg #[.int .i64 pt, .int .i64 pr, .string nm, .bool d]) rfl rfl (by kernel_rfl) (by kernel_rfl) (by kernel_rfl) (fun _ _ _ h => h) (yields_ld (.tmp 60) 29 (.pointer (some ⟨w.heap.size, 3, none⟩)) _ LE.out rfl rfl rfl) BV.out ?_
      simp only [Act.put, List.setIfInBounds_toArray, List.set_cons_zero, List.set_cons_succ]
      refine wpAnyH_ready (rs := [5]) (by kernel_rfl) (by simp) (br_call (i := 5) 62 12 #[.agg #[.int .i64 pt, .int .i64 pr, .string nm, .bool d]] rfl rfl rfl (by go_simp) ((to_any _ pt pr nm d).mono ?_) AllReadyH.nil)
      rintro e v1 ⟨rfl, hb⟩
      have BV := Lib.hid (BV.out.trans (hb.mono BV.out.size))
      have TC := Lib.hid (TC.out.step hb)
      clear hb
      refine ⟨_, rfl, BV.out, fun _ => ?_⟩
      simp only [Act.put, List.setIfInBounds_toArray, List.set_cons_zero, List.set_cons_succ]
      refine wpAnyH_ready (rs := [6]) (by kernel_rfl) (by simp) (br_call (i := 6) 63 11 #[.pointer (some ⟨q, 0, none⟩), .agg #[.int .i64 t, .int .i64 r], .agg #[.int .i64 pt, .int .i64 pr, .string nm, .bool d]] rfl rfl rfl (by go_simp) ((set_any _ q qb m1 TC.out (by have := LM1.out; omega) ⟨t, r, pt, pr, nm, d⟩ XO.out).mono ?_) AllReadyH.nil)
      rintro e v2 ⟨rfl, ho⟩
      have BV := Lib.hid (BV.out.trans (ho.below QB.out BV.out.size))
      have TC := Lib.hid (show TabI v2 q qb (setF m1 ⟨t, r, pt, pr, nm, d⟩) from ho.tab)
      clear ho
      refine ⟨_, rfl, BV.out, fun _ => ?_⟩
      simp only [Act.put, List.setIfInBounds_toArray, List.set_cons_zero, List.set_cons_succ]
      refine wpAnyH_done (by kernel_rfl) ?_ _
      have SL := Lib.hid (show (setF m1 ⟨t, r, pt, pr, nm, d⟩).length ≤ 41 from by have := setF_len m1 ⟨t, r, pt, pr, nm, d⟩; have := LM1.out; omega)
      have TC := Lib.hid (TC.out.step (show Below v2.heap.size v2 v2.drew from (Below.refl _ _).drew))
      go_upto_region 11 with (fail)
      refine wp_region_held_drew (S := fun w' => Below w8.heap.size w8 w') (by kernel_rfl) (BV.out.drew) (fun hHeld => ?_)
      have BV := Lib.hid (show Below w8.heap.size w8 v2.drew from BV.out.drew)
      clear hHeld
      refine take_at (i := 0) 64 ?_ rfl rfl (by kernel_rfl) (by kernel_rfl) (by kernel_rfl) (fun _ _ _ h => h) (.inl ⟨rfl, ?_⟩) BV.out ?_
      rotate_left 1
      · intro w hSw; go_simp; try with_reducible rfl
      simp only [Act.put, List.setIfInBounds_toArray, List.set_cons_zero, List.set_cons_succ]
      refine take_at (i := 1) 65 ?_ rfl rfl (by kernel_rfl) (by kernel_rfl) (by kernel_rfl) (fun _ _ _ h => h) (.inl ⟨rfl, ?_⟩) BV.out ?_
      rotate_left 1
      · intro w hSw; go_simp; try with_reducible rfl
      simp only [Act.put, List.setIfInBounds_toArray, List.set_cons_zero, List.set_cons_succ]
      refine wpAnyH_ready (rs := [2]) (by kernel_rfl) (by simp) (br_call (i := 2) 66 17 #[.pointer (some ⟨p1, 0, none⟩), r1] rfl rfl rfl (by go_simp) ((is_same _ p1 b1 r1 m1 (F1.out _ BV.out) (G1.out _ BV.out)).mono ?_) AllReadyH.nil)
      rintro e v31 ⟨rfl, hb⟩
      have BV := Lib.hid (BV.out.trans (hb.mono BV.out.size))
      have TC := Lib.hid (TC.out.step hb)
      clear hb
      refine ⟨_, rfl, BV.out, fun _ => ?_⟩
      simp only [Act.put, List.setIfInBounds_toArray, List.set_cons_zero, List.set_cons_succ]
      refine take_at (i := 3) 67 ?_ rfl rfl (by kernel_rfl) (by kernel_rfl) (by kernel_rfl) (fun _ _ _ h => h) (.inl ⟨rfl, ?_⟩) BV.out ?_
      rotate_left 1
      · intro w hSw; go_simp; try with_reducible rfl
      simp only [Act.put, List.setIfInBounds_toArray, List.set_cons_zero, List.set_cons_succ]
      refine take_at (i := 4) 68 ?_ rfl rfl (by kernel_rfl) (by kernel_rfl) (by kernel_rfl) (fun _ _ _ h => h) (.inl ⟨rfl, ?_⟩) BV.out ?_
      rotate_left 1
      · intro w hSw; go_simp; try with_reducible rfl
      simp only [Act.put, List.setIfInBounds_toArray, List.set_cons_zero, List.set_cons_succ]
      refine take_at (i := 5) 69 ?_ rfl rfl (by kernel_rfl) (by kernel_rfl) (by kernel_rfl) (fun _ _ _ h => h) (.inl ⟨rfl, ?_⟩) BV.out ?_
      rotate_left 1
      · intro w hSw; go_simp; try with_reducible rfl
      simp only [Act.put, List.setIfInBounds_toArray, List.set_cons_zero, List.set_cons_succ]
      refine take_at (i := 6) 70 ?_ rfl rfl (by kernel_rfl) (by kernel_rfl) (by kernel_rfl) (fun _ _ _ h => h) (.inl ⟨rfl, ?_⟩) BV.out ?_
      rotate_left 1
      · intro w hSw; go_simp; try with_reducible rfl
      simp only [Act.put, List.setIfInBounds_toArray, List.set_cons_zero, List.set_cons_succ]
      refine take_at (i := 7) 71 (.agg #[.int .i64 t, .int .i64 r]) rfl rfl (by kernel_rfl) (by kernel_rfl) (by kernel_rfl) (fun _ _ _ h => h) (yields_ld (.tmp 70) 24 (.pointer (some ⟨w.heap.size, 1, none⟩)) _ LA.out rfl rfl rfl) BV.out ?_
      simp only [Act.put, List.setIfInBounds_toArray, List.set_cons_zero, List.set_cons_succ]
      refine take_at (i := 8) 72 ?_ rfl rfl (by kernel_rfl) (by kernel_rfl) (by kernel_rfl) (fun _ _ _ h => h) (.inl ⟨rfl, ?_⟩) BV.out ?_
      rotate_left 1
      · intro w hSw; go_simp; try with_reducible rfl
      simp only [Act.put, List.setIfInBounds_toArray, List.set_cons_zero, List.set_cons_succ]
      refine take_at (i := 9) 73 (.agg #[.int .i64 pt, .int .i64 pr, .string nm, .bool d]) rfl rfl (by kernel_rfl) (by kernel_rfl) (by kernel_rfl) (fun _ _ _ h => h) (yields_ld (.tmp 72) 29 (.pointer (some ⟨w.heap.size, 3, none⟩)) _ LE.out rfl rfl rfl) BV.out ?_
      simp only [Act.put, List.setIfInBounds_toArray, List.set_cons_zero, List.set_cons_succ]
      refine wpAnyH_ready (rs := [10]) (by kernel_rfl) (by simp) (br_call (i := 10) 74 13 #[r1, .agg #[.int .i64 t, .int .i64 r], .agg #[.int .i64 pt, .int .i64 pr, .string nm, .bool d]] rfl rfl rfl (by go_simp) ((rset_any _ r1 m1 ⟨t, r, pt, pr, nm, d⟩ (G1.out _ BV.out) (by have := LM1.out; omega) RS1.out).mono ?_) AllReadyH.nil)
      rintro e v32 ⟨y10, rfl, ho, hb⟩
      have BV := Lib.hid (BV.out.trans (hb.mono BV.out.size))
      have TC := Lib.hid (TC.out.step hb)
      have RR10 := Lib.hid (own_liesK enc6_len ho)
      clear ho
      clear hb
      refine ⟨_, rfl, BV.out, fun _ => ?_⟩
      simp only [Act.put, List.setIfInBounds_toArray, List.set_cons_zero, List.set_cons_succ]
      refine wpAnyH_ready (rs := [11]) (by kernel_rfl) (by simp) (br_call (i := 11) 75 17 #[.pointer (some ⟨q, 0, none⟩), y10] rfl rfl rfl (by go_simp) ((is_same _ q qb y10 (setF m1 ⟨t, r, pt, pr, nm, d⟩) TC.out RR10.out).mono ?_) AllReadyH.nil)
      rintro e v33 ⟨rfl, hb⟩
      have BV := Lib.hid (BV.out.trans (hb.mono BV.out.size))
      have TC := Lib.hid (TC.out.step hb)
      have RR10 := Lib.hid (RR10.out.step hb)
      clear hb
      refine ⟨_, rfl, BV.out, fun _ => ?_⟩
      simp only [Act.put, List.setIfInBounds_toArray, List.set_cons_zero, List.set_cons_succ]
      refine take_at (i := 12) 76 ?_ rfl rfl (by kernel_rfl) (by kernel_rfl) (by kernel_rfl) (fun _ _ _ h => h) (.inl ⟨rfl, ?_⟩) BV.out ?_
      rotate_left 1
      · intro w hSw; go_simp; try with_reducible rfl
      simp only [Act.put, List.setIfInBounds_toArray, List.set_cons_zero, List.set_cons_succ]
      refine take_at (i := 13) 77 ?_ rfl rfl (by kernel_rfl) (by kernel_rfl) (by kernel_rfl) (fun _ _ _ h => h) (.inl ⟨rfl, ?_⟩) BV.out ?_
      rotate_left 1
      · intro w hSw; go_simp; try with_reducible rfl
      simp only [Act.put, List.setIfInBounds_toArray, List.set_cons_zero, List.set_cons_succ]
      refine take_at (i := 14) 78 ?_ rfl rfl (by kernel_rfl) (by kernel_rfl) (by kernel_rfl) (fun _ _ _ h => h) (.inl ⟨rfl, ?_⟩) BV.out ?_
      rotate_left 1
      · intro w hSw; go_simp; try with_reducible rfl
      simp only [Act.put, List.setIfInBounds_toArray, List.set_cons_zero, List.set_cons_succ]
      refine take_at (i := 15) 79 ?_ rfl rfl (by kernel_rfl) (by kernel_rfl) (by kernel_rfl) (fun _ _ _ h => h) (.inl ⟨rfl, ?_⟩) BV.out ?_
      rotate_left 1
      · intro w hSw; go_simp; try with_reducible rfl
      simp only [Act.put, List.setIfInBounds_toArray, List.set_cons_zero, List.set_cons_succ]
      refine take_at (i := 16) 80 ?_ rfl rfl (by kernel_rfl) (by kernel_rfl) (by kernel_rfl) (fun _ _ _ h => h) (.inl ⟨rfl, ?_⟩) BV.out ?_
      rotate_left 1
      · intro w hSw; go_simp; try with_reducible rfl
      simp only [Act.put, List.setIfInBounds_toArray, List.set_cons_zero, List.set_cons_succ]
      refine take_at (i := 17) 81 (.agg #[.int .i64 pt, .int .i64 pr]) rfl rfl (by kernel_rfl) (by kernel_rfl) (by kernel_rfl) (fun _ _ _ h => h) (yields_ld (.tmp 80) 24 (.pointer (some ⟨w.heap.size, 3, none⟩)) _ LP.out rfl rfl rfl) BV.out ?_
      simp only [Act.put, List.setIfInBounds_toArray, List.set_cons_zero, List.set_cons_succ]
      refine take_at (i := 19) 83 ?_ rfl rfl (by kernel_rfl) (by kernel_rfl) (by kernel_rfl) (fun _ _ _ h => h) (.inl ⟨rfl, ?_⟩) BV.out ?_
      rotate_left 1
      · intro w hSw; go_simp; try with_reducible rfl
      simp only [Act.put, List.setIfInBounds_toArray, List.set_cons_zero, List.set_cons_succ]
      refine take_at (i := 20) 84 ?_ rfl rfl (by kernel_rfl) (by kernel_rfl) (by kernel_rfl) (fun _ _ _ h => h) (.inl ⟨rfl, ?_⟩) BV.out ?_
      rotate_left 1
      · intro w hSw; go_simp; try with_reducible rfl
      simp only [Act.put, List.setIfInBounds_toArray, List.set_cons_zero, List.set_cons_succ]
      refine take_at (i := 21) 85 ?_ rfl rfl (by kernel_rfl) (by kernel_rfl) (by kernel_rfl) (fun _ _ _ h => h) (.inl ⟨rfl, ?_⟩) BV.out ?_
      rotate_left 1
      · intro w hSw; go_simp; try with_reducible rfl
      simp only [Act.put, List.setIfInBounds_toArray, List.set_cons_zero, List.set_cons_succ]
      refine take_at (i := 22) 86 (.agg #[.int .i64 pt, .int .i64 pr]) rfl rfl (by kernel_rfl) (by kernel_rfl) (by kernel_rfl) (fun _ _ _ h => h) (yields_ld (.tmp 85) 24 (.pointer (some ⟨w.heap.size, 3, none⟩)) _ LP.out rfl rfl rfl) BV.out ?_
      simp only [Act.put, List.setIfInBounds_toArray, List.set_cons_zero, List.set_cons_succ]
      refine wpAnyH_ready (rs := [18]) (by kernel_rfl) (by simp) (br_call (i := 18) 82 19 #[.pointer (some ⟨p1, 0, none⟩), .agg #[.int .i64 pt, .int .i64 pr]] rfl rfl rfl (by go_simp) ((kids_any _ p1 b1 m1 (F1.out _ BV.out) (by have := LM1.out; omega) pt pr).mono ?_) AllReadyH.nil)
      rintro e v34 ⟨y18, rfl, ho, hb⟩
      have BV := Lib.hid (BV.out.trans (hb.mono BV.out.size))
      have TC := Lib.hid (TC.out.step hb)
      have RR10 := Lib.hid (RR10.out.step hb)
      have SK18 := Lib.hid (own_liesK encS_len ho)
      clear ho
      clear hb
      refine ⟨_, rfl, BV.out, fun _ => ?_⟩
      simp only [Act.put, List.setIfInBounds_toArray, List.set_cons_zero, List.set_cons_succ]
      refine wpAnyH_ready (rs := [23]) (by kernel_rfl) (by simp) (br_call (i := 23) 87 20 #[r1, .agg #[.int .i64 pt, .int .i64 pr]] rfl rfl rfl (by go_simp) ((rkids_any _ r1 m1 (G1.out _ BV.out) (by have := LM1.out; omega) pt pr).mono ?_) AllReadyH.nil)
      rintro e v35 ⟨y23, rfl, ho, hb⟩
      have BV := Lib.hid (BV.out.trans (hb.mono BV.out.size))
      have TC := Lib.hid (TC.out.step hb)
      have RR10 := Lib.hid (RR10.out.step hb)
      have SK18 := Lib.hid (SK18.out.step hb)
      have SK23 := Lib.hid (own_liesK encS_len ho)
      clear ho
      clear hb
      refine ⟨_, rfl, BV.out, fun _ => ?_⟩
      simp only [Act.put, List.setIfInBounds_toArray, List.set_cons_zero, List.set_cons_succ]
      refine wpAnyH_ready (rs := [24]) (by kernel_rfl) (by simp) (br_call (i := 24) 88 18 #[y18, y23] rfl rfl rfl (by go_simp) ((same_self _ _ _ _ SK18.out SK23.out).mono ?_) AllReadyH.nil)
      rintro e v36 ⟨rfl, hb⟩
      have BV := Lib.hid (BV.out.trans (hb.mono BV.out.size))
      have TC := Lib.hid (TC.out.step hb)
      have RR10 := Lib.hid (RR10.out.step hb)
      have SK18 := Lib.hid (SK18.out.step hb)
      have SK23 := Lib.hid (SK23.out.step hb)
      clear hb
      refine ⟨_, rfl, BV.out, fun _ => ?_⟩
      simp only [Act.put, List.setIfInBounds_toArray, List.set_cons_zero, List.set_cons_succ]
      refine take_at (i := 25) 89 ?_ rfl rfl (by kernel_rfl) (by kernel_rfl) (by kernel_rfl) (fun _ _ _ h => h) (.inl ⟨rfl, ?_⟩) BV.out ?_
      rotate_left 1
      · intro w hSw; go_simp; try with_reducible rfl
      simp only [Act.put, List.setIfInBounds_toArray, List.set_cons_zero, List.set_cons_succ]
      refine take_at (i := 26) 90 ?_ rfl rfl (by kernel_rfl) (by kernel_rfl) (by kernel_rfl) (fun _ _ _ h => h) (.inl ⟨rfl, ?_⟩) BV.out ?_
      rotate_left 1
      · intro w hSw; go_simp; try with_reducible rfl
      simp only [Act.put, List.setIfInBounds_toArray, List.set_cons_zero, List.set_cons_succ]
      refine take_at (i := 27) 91 ?_ rfl rfl (by kernel_rfl) (by kernel_rfl) (by kernel_rfl) (fun _ _ _ h => h) (.inl ⟨rfl, ?_⟩) BV.out ?_
      rotate_left 1
      · intro w hSw; go_simp; try with_reducible rfl
      simp only [Act.put, List.setIfInBounds_toArray, List.set_cons_zero, List.set_cons_succ]
      refine take_at (i := 28) 92 ?_ rfl rfl (by kernel_rfl) (by kernel_rfl) (by kernel_rfl) (fun _ _ _ h => h) (.inl ⟨rfl, ?_⟩) BV.out ?_
      rotate_left 1
      · intro w hSw; go_simp; try with_reducible rfl
      simp only [Act.put, List.setIfInBounds_toArray, List.set_cons_zero, List.set_cons_succ]
      refine take_at (i := 29) 93 ?_ rfl rfl (by kernel_rfl) (by kernel_rfl) (by kernel_rfl) (fun _ _ _ h => h) (.inl ⟨rfl, ?_⟩) BV.out ?_
      rotate_left 1
      · intro w hSw; go_simp; try with_reducible rfl
      simp only [Act.put, List.setIfInBounds_toArray, List.set_cons_zero, List.set_cons_succ]
      refine take_at (i := 30) 94 (.agg #[.int .i64 pt, .int .i64 pr]) rfl rfl (by kernel_rfl) (by kernel_rfl) (by kernel_rfl) (fun _ _ _ h => h) (yields_ld (.tmp 93) 24 (.pointer (some ⟨w.heap.size, 3, none⟩)) _ LP.out rfl rfl rfl) BV.out ?_
      simp only [Act.put, List.setIfInBounds_toArray, List.set_cons_zero, List.set_cons_succ]
      refine take_at (i := 32) 96 ?_ rfl rfl (by kernel_rfl) (by kernel_rfl) (by kernel_rfl) (fun _ _ _ h => h) (.inl ⟨rfl, ?_⟩) BV.out ?_
      rotate_left 1
      · intro w hSw; go_simp; try with_reducible rfl
      simp only [Act.put, List.setIfInBounds_toArray, List.set_cons_zero, List.set_cons_succ]
      refine take_at (i := 33) 97 ?_ rfl rfl (by kernel_rfl) (by kernel_rfl) (by kernel_rfl) (fun _ _ _ h => h) (.inl ⟨rfl, ?_⟩) BV.out ?_
      rotate_left 1
      · intro w hSw; go_simp; try with_reducible rfl
      simp only [Act.put, List.setIfInBounds_toArray, List.set_cons_zero, List.set_cons_succ]
      refine take_at (i := 34) 98 (.agg #[.int .i64 t, .int .i64 r]) rfl rfl (by kernel_rfl) (by kernel_rfl) (by kernel_rfl) (fun _ _ _ h => h) (yields_ld (.tmp 97) 24 (.pointer (some ⟨w.heap.size, 1, none⟩)) _ LA.out rfl rfl rfl) BV.out ?_
      simp only [Act.put, List.setIfInBounds_toArray, List.set_cons_zero, List.set_cons_succ]
      refine take_at (i := 35) 99 ?_ rfl rfl (by kernel_rfl) (by kernel_rfl) (by kernel_rfl) (fun _ _ _ h => h) (.inl ⟨rfl, ?_⟩) BV.out ?_
      rotate_left 1
      · intro w hSw; go_simp; try with_reducible rfl
      simp only [Act.put, List.setIfInBounds_toArray, List.set_cons_zero, List.set_cons_succ]
      refine take_at (i := 36) 100 (.agg #[.int .i64 pt, .int .i64 pr, .string nm, .bool d]) rfl rfl (by kernel_rfl) (by kernel_rfl) (by kernel_rfl) (fun _ _ _ h => h) (yields_ld (.tmp 99) 29 (.pointer (some ⟨w.heap.size, 3, none⟩)) _ LE.out rfl rfl rfl) BV.out ?_
      simp only [Act.put, List.setIfInBounds_toArray, List.set_cons_zero, List.set_cons_succ]
      refine take_at (i := 38) 102 ?_ rfl rfl (by kernel_rfl) (by kernel_rfl) (by kernel_rfl) (fun _ _ _ h => h) (.inl ⟨rfl, ?_⟩) BV.out ?_
      rotate_left 1
      · intro w hSw; go_simp; try with_reducible rfl
      simp only [Act.put, List.setIfInBounds_toArray, List.set_cons_zero, List.set_cons_succ]
      refine take_at (i := 39) 103 ?_ rfl rfl (by kernel_rfl) (by kernel_rfl) (by kernel_rfl) (fun _ _ _ h => h) (.inl ⟨rfl, ?_⟩) BV.out ?_
      rotate_left 1
      · intro w hSw; go_simp; try with_reducible rfl
      simp only [Act.put, List.setIfInBounds_toArray, List.set_cons_zero, List.set_cons_succ]
      refine take_at (i := 40) 104 (.agg #[.int .i64 pt, .int .i64 pr]) rfl rfl (by kernel_rfl) (by kernel_rfl) (by kernel_rfl) (fun _ _ _ h => h) (yields_ld (.tmp 103) 24 (.pointer (some ⟨w.heap.size, 3, none⟩)) _ LP.out rfl rfl rfl) BV.out ?_
      simp only [Act.put, List.setIfInBounds_toArray, List.set_cons_zero, List.set_cons_succ]
      refine wpAnyH_ready (rs := [31]) (by kernel_rfl) (by simp) (br_call (i := 31) 95 19 #[.pointer (some ⟨q, 0, none⟩), .agg #[.int .i64 pt, .int .i64 pr]] rfl rfl rfl (by go_simp) ((kids_any _ q qb (setF m1 ⟨t, r, pt, pr, nm, d⟩) TC.out (by have := SL.out; omega) pt pr).mono ?_) AllReadyH.nil)
      rintro e v37 ⟨y31, rfl, ho, hb⟩
      have BV := Lib.hid (BV.out.trans (hb.mono BV.out.size))
      have TC := Lib.hid (TC.out.step hb)
      have RR10 := Lib.hid (RR10.out.step hb)
      have SK18 := Lib.hid (SK18.out.step hb)
      have SK23 := Lib.hid (SK23.out.step hb)
      have SK31 := Lib.hid (own_liesK encS_len ho)
      clear ho
      clear hb
      refine ⟨_, rfl, BV.out, fun _ => ?_⟩
      simp only [Act.put, List.setIfInBounds_toArray, List.set_cons_zero, List.set_cons_succ]
      refine wpAnyH_ready (rs := [37]) (by kernel_rfl) (by simp) (br_call (i := 37) 101 13 #[r1, .agg #[.int .i64 t, .int .i64 r], .agg #[.int .i64 pt, .int .i64 pr, .string nm, .bool d]] rfl rfl rfl (by go_simp) ((rset_any _ r1 m1 ⟨t, r, pt, pr, nm, d⟩ (G1.out _ BV.out) (by have := LM1.out; omega) RS1.out).mono ?_) AllReadyH.nil)
      rintro e v38 ⟨y37, rfl, ho, hb⟩
      have BV := Lib.hid (BV.out.trans (hb.mono BV.out.size))
      have TC := Lib.hid (TC.out.step hb)
      have RR10 := Lib.hid (RR10.out.step hb)
      have SK18 := Lib.hid (SK18.out.step hb)
      have SK23 := Lib.hid (SK23.out.step hb)
      have SK31 := Lib.hid (SK31.out.step hb)
      have RR37 := Lib.hid (own_liesK enc6_len ho)
      clear ho
      clear hb
      refine ⟨_, rfl, BV.out, fun _ => ?_⟩
      simp only [Act.put, List.setIfInBounds_toArray, List.set_cons_zero, List.set_cons_succ]
      refine wpAnyH_ready (rs := [41]) (by kernel_rfl) (by simp) (br_call (i := 41) 105 20 #[y37, .agg #[.int .i64 pt, .int .i64 pr]] rfl rfl rfl (by go_simp) ((rkids_any _ y37 (setF m1 ⟨t, r, pt, pr, nm, d⟩) RR37.out (by have := SL.out; omega) pt pr).mono ?_) AllReadyH.nil)
      rintro e v39 ⟨y41, rfl, ho, hb⟩
      have BV := Lib.hid (BV.out.trans (hb.mono BV.out.size))
      have TC := Lib.hid (TC.out.step hb)
      have RR10 := Lib.hid (RR10.out.step hb)
      have SK18 := Lib.hid (SK18.out.step hb)
      have SK23 := Lib.hid (SK23.out.step hb)
      have SK31 := Lib.hid (SK31.out.step hb)
      have RR37 := Lib.hid (RR37.out.step hb)
      have SK41 := Lib.hid (own_liesK encS_len ho)
      clear ho
      clear hb
      refine ⟨_, rfl, BV.out, fun _ => ?_⟩
      simp only [Act.put, List.setIfInBounds_toArray, List.set_cons_zero, List.set_cons_succ]
      refine wpAnyH_ready (rs := [42]) (by kernel_rfl) (by simp) (br_call (i := 42) 106 18 #[y31, y41] rfl rfl rfl (by go_simp) ((same_self _ _ _ _ SK31.out SK41.out).mono ?_) AllReadyH.nil)
      rintro e v40 ⟨rfl, hb⟩
      have BV := Lib.hid (BV.out.trans (hb.mono BV.out.size))
      have TC := Lib.hid (TC.out.step hb)
      have RR10 := Lib.hid (RR10.out.step hb)
      have SK18 := Lib.hid (SK18.out.step hb)
      have SK23 := Lib.hid (SK23.out.step hb)
      have SK31 := Lib.hid (SK31.out.step hb)
      have RR37 := Lib.hid (RR37.out.step hb)
      have SK41 := Lib.hid (SK41.out.step hb)
      clear hb
      refine ⟨_, rfl, BV.out, fun _ => ?_⟩
      simp only [Act.put, List.setIfInBounds_toArray, List.set_cons_zero, List.set_cons_succ]
      refine take_at (i := 43) 107 ?_ rfl rfl (by kernel_rfl) (by kernel_rfl) (by kernel_rfl) (fun _ _ _ h => h) (.inl ⟨rfl, ?_⟩) BV.out ?_
      rotate_left 1
      · intro w hSw; go_simp; try with_reducible rfl
      simp only [Act.put, List.setIfInBounds_toArray, List.set_cons_zero, List.set_cons_succ]
      refine take_at (i := 44) 108 ?_ rfl rfl (by kernel_rfl) (by kernel_rfl) (by kernel_rfl) (fun _ _ _ h => h) (.inl ⟨rfl, ?_⟩) BV.out ?_
      rotate_left 1
      · intro w hSw; go_simp; try with_reducible rfl
      simp only [Act.put, List.setIfInBounds_toArray, List.set_cons_zero, List.set_cons_succ]
      refine wpAnyH_ready (rs := [45]) (by kernel_rfl) (by simp) (br_call (i := 45) 109 24 #[] rfl rfl rfl (by go_simp) ((AW.out _).mono ?_) AllReadyH.nil)
      rintro e v41 ⟨rfl, hb⟩
      have BV := Lib.hid (BV.out.trans (hb.mono BV.out.size))
      have TC := Lib.hid (TC.out.step hb)
      have RR10 := Lib.hid (RR10.out.step hb)
      have SK18 := Lib.hid (SK18.out.step hb)
      have SK23 := Lib.hid (SK23.out.step hb)
      have SK31 := Lib.hid (SK31.out.step hb)
      have RR37 := Lib.hid (RR37.out.step hb)
      have SK41 := Lib.hid (SK41.out.step hb)
      clear hb
      refine ⟨_, rfl, BV.out, fun _ => ?_⟩
      simp only [Act.put, List.setIfInBounds_toArray, List.set_cons_zero, List.set_cons_succ]
      refine take_at (i := 46) 110 ?_ rfl rfl (by kernel_rfl) (by kernel_rfl) (by kernel_rfl) (fun _ _ _ h => h) (.inl ⟨rfl, ?_⟩) BV.out ?_
      rotate_left 1
      · intro w hSw; go_simp; try with_reducible rfl
      simp only [Act.put, List.setIfInBounds_toArray, List.set_cons_zero, List.set_cons_succ]
      refine take_at (i := 47) 6 ?_ rfl rfl (by kernel_rfl) (by kernel_rfl) (by kernel_rfl) (fun _ _ _ h => h) (.inl ⟨rfl, ?_⟩) BV.out ?_
      rotate_left 1
      · intro w hSw; go_simp; try with_reducible rfl
      simp only [Act.put, List.setIfInBounds_toArray, List.set_cons_zero, List.set_cons_succ]
      refine wpAnyH_done (by kernel_rfl) ?_ _
      go_wp2
      go_returns
      exact ⟨rfl, B8.out.trans (BV.out.mono B8.out.size)⟩
theorem clones_act (w : World) (v1 v2 : Value) (l1 l2 : List Rw) (h1 : LiesR w v1 l1) (hk1 : ∀ x ∈ l1, x.ok) (h2 : LiesR w v2 l2) (hk2 : ∀ x ∈ l2, x.ok) (x : Ac) (hx : x.ok) :
    Calls Try.prog 5 #[v1, v2, .agg (enc7 x).toArray] w fun e w' => e = .returned (.bool true) ∧ Below w.heap.size w w' := by
  obtain ⟨k, t, r, pt, pr, nm, d⟩ := x
  exact clones_law w v1 v2 l1 l2 h1 hk1 h2 hk2 k t r pt pr nm d ⟨hx.2.1, hx.2.2.1, hx.2.2.2.1, hx.2.2.2.2⟩
end Go.Proofs.Ytegmlekeielmoaa
