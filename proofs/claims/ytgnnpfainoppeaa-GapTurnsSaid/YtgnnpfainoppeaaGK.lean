/- gap.Lacks. -/
import Derived.Test.YtgnnpfainoppeaaGI
import Derived.Lib.AppendZerosOnto
set_option linter.unusedVariables false
set_option linter.unusedSimpArgs false
set_option maxRecDepth 100000
namespace Go.Proofs.Ytgnnpfainoppeaa
open Go.RowKit Go.WideMaps Go.Maps
open Ve (zs zs_len vw va RightP cs3 cs3_append)

theorem knw_getD (vv : List Int) (r : Int) : knw vv r = vv.getD r.toNat 0 := rfl
theorem lckS_len (s : List Int × List Rg) (o : O) : (lckS s o).1.length = s.1.length := by unfold lckS; split <;> simp
theorem lckS_out (s : List Int × List Rg) (o : O) : (lckS s o).2.length ≤ s.2.length + 1 := by
  unfold lckS
  split
  · omega
  · dsimp only
    split
    · simp
    · omega
theorem lckS_right (s : List Int × List Rg) (o : O) (h : RightP s.1) (hq : 0 ≤ o.q ∧ o.q ≤ 4294967296) : RightP (lckS s o).1 := by
  unfold lckS
  split
  · exact h
  · intro j x hx
    dsimp only at hx
    rw [List.getElem?_set] at hx
    split at hx
    · split at hx
      · injection hx with hx; omega
      · cases hx
    · exact h j x hx
def OkO (l : List O) : Prop := ∀ o ∈ l, (0 ≤ o.r ∧ o.r < 64) ∧ 1 ≤ o.q ∧ o.q ≤ 4294967296
theorem box_q {W : World} {g : Nat} {x : O} (h : W.heap[g]? = some (.cells (oCells x) 35 (0, 0))) : W.cell? ⟨g, 2, none⟩ = some (.int .i64 x.q) := (box3 h).2.2
theorem info66 : (Try.prog.info? 66).map (fun i => (i.zero, i.size, i.bytes)) = some (some (.agg #[.int .i64 0, .int .i64 0, .int .i64 0]), 3, 24) := by kernel_rfl
theorem lk_set {w w1 W : World} {ks : List Int} {j : Nat} {x : Int} {rv : Value} {out : List Rg} (hw : w.heap.size < w1.heap.size) (V : W.heap[w.heap.size]? = some (.cells (va ks) 29 (0, 0))) (R : W.ownsRow w1.heap.size 66 3 rv out.length (cs3 out)) (X : Below w.heap.size w W) (F : Far (fun k => k = w.heap.size) w1 W) :
    (W.setCell ⟨w.heap.size, j, none⟩ (.int .i64 x)).heap[w.heap.size]? = some (.cells (va (ks.set j x)) 29 (0, 0)) ∧ (W.setCell ⟨w.heap.size, j, none⟩ (.int .i64 x)).ownsRow w1.heap.size 66 3 rv out.length (cs3 out) ∧ Below w.heap.size w (W.setCell ⟨w.heap.size, j, none⟩ (.int .i64 x)) ∧ Far (fun k => k = w.heap.size) w1 (W.setCell ⟨w.heap.size, j, none⟩ (.int .i64 x)) := by
  have FS : Far (fun k => k = w.heap.size) W (W.setCell ⟨w.heap.size, j, none⟩ (.int .i64 x)) := ⟨rfl, rfl, rfl, by simp [World.setCell], fun k _ hn => heap_setCell_other W ⟨w.heap.size, j, none⟩ k _ (fun e => hn (by rw [e]))⟩
  refine ⟨by rw [Ve.row_setC V, Ve.va_set], FS.row R (fun m e q => by have := (own_lt R m e).1; omega), X.trans (FS.below X.size (fun k q => by omega)), F.trans FS (fun k _ q => q)⟩
set_option maxHeartbeats 6400000 in
theorem lacks_any (w : World) (p b : Nat) (l : List O) (h : GapI w p b l) (hl : l.length < 100000) (hr : OkO l) (vv : List Int) (hv : vv.length = 64) (hp : RightP vv) :
    Calls Try.prog 19 #[pv p, vw vv] w fun e w' => ∃ r, e = .returned r ∧ w'.ownsRow w.heap.size 66 3 r (lckP l vv).length (cs3 (lckP l vv)) ∧ Below w.heap.size w w' := by
  obtain ⟨i0, hi45, hz0, hz1, hz2⟩ := Ve.info_parts info66
  have B1 := vstep w (.cells (va vv) 29)
  have N1 := heap_alloc_new w (.cells (va vv) 29)
  obtain ⟨w0, hw0⟩ : ∃ z, w.alloc (.cells (va vv) 29) = z := ⟨_, rfl⟩
  have s1 : w0.heap.size = w.heap.size + 1 := by rw [← hw0]; simp
  rw [hw0] at N1 B1
  have AL := Lib.hid (all_any w0 p b l (h.step B1) hl)
  have HR := Lib.hid hr
  have N0 := Lib.hid N1
  have B0 := Lib.hid B1
  have S1 := Lib.hid s1
  have HV := Lib.hid hv
  have HP := Lib.hid hp
  have HVW := Lib.hid (show vw vv = .agg (va vv) from rfl)
  rw [HVW.out]
  obtain ⟨VA, hVA⟩ : ∃ z, va vv = z := ⟨_, rfl⟩
  rw [hVA] at hw0 ⊢
  clear hVA N1 B1 s1 h hr hv hp
  go_enter Try.func19, Try.ntmps19
  go_wp2_with fail
  refine AL.out.mono ?_
  rintro e w1 ⟨av, rfl, hrow⟩
  have N2 := Lib.hid ((hrow.2.block _ (lt_of_block N0.out)).trans N0.out)
  have RW := Lib.hid hrow.1
  have RB := Lib.hid (fun m (e : av.ownBlock = some m) => (own_lt hrow.1 m e).1)
  have X1 := Lib.hid (B0.out.trans (hrow.2.mono (by have := S1.out; omega)))
  have BG := Lib.hid (show w.heap.size + 1 ≤ w1.heap.size by have := hrow.2.size; have := S1.out; omega)
  obtain ⟨ao, cap, rfl⟩ := Ve.own_shape hrow.1
  clear hrow hw0 AL N0 B0
  go_wp2
  go_loopw [5, 13] (fun rv iv wr => ∃ (i : Nat) (ks : List Int) (out : List Rg), iv = .int .i64 i ∧ i ≤ l.length ∧ rv = rv ∧ out.length ≤ i ∧ Hid ((l.take i).foldl lckS (vv, []) = (ks, out)) ∧ Hid (ks.length = 64 ∧ RightP ks) ∧ Hid (wr.heap[w.heap.size]? = some (.cells (va ks) 29 (0, 0)) ∧ wr.ownsRow w1.heap.size 66 3 rv out.length (cs3 out) ∧ Below w.heap.size w wr ∧ Far (fun k => k = w.heap.size) w1 wr)) (fun _ iv _ => l.length - (intOf iv).toNat)
  case atStart => exact ⟨0, vv, [], rfl, Nat.zero_le _, rfl, Nat.zero_le _, Lib.hid rfl, Lib.hid ⟨HV.out, HP.out⟩, Lib.hid ⟨N2.out, World.ownsRow_nil _ _ _ _, X1.out, Far.refl _ _⟩⟩
  case round =>
    obtain ⟨i, ks, out, rfl, hi, _, hol, HF, HK, HI⟩ := hrel
    obtain ⟨ra, rc, rfl⟩ := Ve.own_shape HI.out.2.1
    by_cases hlt : i < l.length
    · have OLr := own_olies (HI.out.2.2.2.row RW.out (fun m e q => by have := RB.out m e; have := S1.out; omega))
      obtain ⟨g, k, x, rfl, hx, hg, hcx⟩ := OLr.atK hlt
      have htk := Ve.take_snoc' l i x hx
      have hxm := HR.out x (List.mem_of_getElem? hx)
      obtain ⟨j, hj, hj64, hkx⟩ := knw_at HK.out.1 hxm.1
      have hks := knw_small HK.out.1 HK.out.2 hxm.1
      have HN := Lib.hid (show (l.take (i + 1)).foldl lckS (vv, []) = lckS (ks, out) x by rw [htk, List.foldl_append, HF.out]; rfl)
      have LS := Lib.hid (show lckS (ks, out) x = (if x.q ≤ knw ks x.r then (ks, out) else (ks.set x.r.toNat x.q, if knw ks x.r + 1 < x.q then out ++ [(x.r, knw ks x.r + 1, x.q - 1)] else out)) from rfl)
      have LR := Lib.hid (lckS_right (ks, out) x HK.out.2 (by omega))
      have LL := Lib.hid (lckS_len (ks, out) x)
      have LX := Lib.hid (ldO hcx)
      have hi0 : (0 : Int) ≤ (i : Int) := by omega
      have hi1 : (i : Int) < (l.length : Int) := by omega
      obtain ⟨a4, w4, s4, b4, r4⟩ := box40 wr x
      obtain ⟨_, c1, c2⟩ := box3 r4
      have V4 := Lib.hid ((b4.block _ (lt_of_block HI.out.1)).trans HI.out.1)
      have R4 := Lib.hid (own_keep HI.out.2.1 b4)
      have X4 := Lib.hid (HI.out.2.2.1.trans (b4.mono HI.out.2.2.1.size))
      have F4 := Lib.hid (show Far (fun k => k = w.heap.size) w1 w4 from HI.out.2.2.2.trans (Far.of_below (P := fun _ => False) b4) (fun k _ q => q.elim))
      have c3 := Ve.cell_va V4.out hkx
      have A4 := Lib.hid a4
      have S4 := Lib.hid s4
      have Q4 := Lib.hid r4
      obtain ⟨kl, hkl⟩ : ∃ z, knw ks x.r = z := ⟨_, rfl⟩
      rw [hkl] at LS hks c3
      obtain ⟨xr, hxr⟩ : ∃ z, x.r = z := ⟨_, rfl⟩
      obtain ⟨xq, hxq⟩ : ∃ z, x.q = z := ⟨_, rfl⟩
      have HXQ := Lib.hid hxq
      rw [hxr, hxq] at LS hxm
      rw [hxr] at c1 hj
      rw [hxq] at c2
      rw [hj] at c1
      have TN := Lib.hid (show xr.toNat = j by omega)
      have HJ := Lib.hid hj
      rw [TN.out, hj] at LS
      obtain ⟨XV, hXV⟩ : ∃ z, oV x = z := ⟨_, rfl⟩
      rw [hXV] at LX S4
      have hj0 : (0 : Int) ≤ (j : Int) := by omega
      have hj1 : (j : Int) < 64 := by omega
      obtain ⟨q1, q2⟩ := hxm.2
      obtain ⟨k0, k1⟩ := hks
      have hw1 : wrap64 (kl + 1) = kl + 1 := by unfold wrap64; omega
      have hw2 : wrap64 (xq - 1) = xq - 1 := by unfold wrap64; omega
      obtain ⟨g4, hg4⟩ : ∃ z, wr.heap.size = z := ⟨_, rfl⟩
      rw [hg4] at A4 S4 Q4 c1 c2
      have KX := Lib.hid hkx
      have RL0 := Lib.hid (fun m (e : (Value.slice ra out.length rc).ownBlock = some m) => (show m < g4 by rw [← hg4]; exact (own_lt HI.out.2.1 m e).2))
      clear OLr htk hxm hcx hx hg a4 s4 b4 r4 hkl hxr hxq hj hXV hkx
      go_upto_region 5 with (first | (refine wpList_ld rfl (.tmp 15) 35 rfl (pvo g (k + i * 9)) XV rfl LX.out ?_; simp only [Act.put, List.setIfInBounds_toArray, List.set_cons_zero, List.set_cons_succ]) | (refine Ve.wpList_alloc_arr rfl 35 rfl _ _ A4.out ?_; simp only [Act.put, List.setIfInBounds_toArray, List.set_cons_zero, List.set_cons_succ]) | (refine Ve.wpList_store_arr rfl (.tmp 7) (.tmp 16) 35 rfl (pvo g4 0) XV rfl rfl _ S4.out ?_; simp only [Act.put, List.setIfInBounds_toArray, List.set_cons_zero, List.set_cons_succ]))
      clear hg4 A4 S4 LX
      go_quiet (fail)
      have V5 := Lib.hid (((below_drewN w4 nq).block _ (lt_of_block V4.out)).trans V4.out)
      have R5 := Lib.hid (own_keep R4.out (below_drewN w4 nq))
      have X5 := Lib.hid (X4.out.trans ((below_drewN w4 nq).mono X4.out.size))
      have F5 := Lib.hid (show Far (fun k => k = w.heap.size) w1 (w4.drewN nq) from F4.out.trans (Far.of_below (P := fun _ => False) (below_drewN w4 nq)) (fun k _ q => q.elim))
      have c1 := (show (w4.drewN nq).cell? ⟨g4, 1, none⟩ = some (.int .i64 (j : Int)) from c1)
      have c2 := (show (w4.drewN nq).cell? ⟨g4, 2, none⟩ = some (.int .i64 xq) from c2)
      have Q5 := Lib.hid (((below_drewN w4 nq).block _ (lt_of_block Q4.out)).trans Q4.out)
      obtain ⟨w5, hw5⟩ : ∃ z, w4.drewN nq = z := ⟨_, rfl⟩
      rw [hw5] at V5 R5 X5 F5 c1 c2 Q5 ⊢
      clear hw5 V4 R4 X4 F4 c3 Q4
      by_cases hq1 : xq ≤ kl
      · have HN2 := Lib.hid (show (l.take (i + 1)).foldl lckS (vv, []) = (ks, out) by rw [HN.out, LS.out, if_pos hq1])
        go_wp2
        go_roundw
        case rel => exact ⟨i + 1, ks, out, by go_num, by omega, by first | trivial | rfl, by omega, HN2, HK, Lib.hid ⟨V5.out, R5.out, X5.out, F5.out⟩⟩
        case measure => simp [intOf]; omega
      · have hq2 : ¬ (xq ≤ kl) := hq1
        have LK := Lib.hid (show (ks.set j xq).length = 64 ∧ RightP (ks.set j xq) by
          have h1 := LR.out
          have h2 := LL.out
          rw [LS.out, if_neg hq1] at h1 h2
          exact ⟨h2.trans HK.out.1, h1⟩)
        by_cases hg1 : kl + 1 < xq
        · have HN2 := Lib.hid (show (l.take (i + 1)).foldl lckS (vv, []) = (ks.set j xq, out ++ [((j : Int), kl + 1, xq - 1)]) by rw [HN.out, LS.out, if_neg hq1, if_pos hg1])
          have SR := Lib.hid (Ve.src_rg w5 ((j : Int), kl + 1, xq - 1))
          have B6 := vstep w5 (.cells #[.int .i64 (j : Int), .int .i64 (kl + 1), .int .i64 (xq - 1)] 66)
          have R6 := Lib.hid (own_keep R5.out B6)
          have V6 := Lib.hid ((B6.block _ (lt_of_block V5.out)).trans V5.out)
          have X6 := Lib.hid (X5.out.trans (B6.mono X5.out.size))
          have F6 := Lib.hid (show Far (fun k => k = w.heap.size) w1 (w5.alloc (.cells #[.int .i64 (j : Int), .int .i64 (kl + 1), .int .i64 (xq - 1)] 66)) from F5.out.trans (Far.of_below (P := fun _ => False) B6) (fun k _ q => q.elim))
          have QB := (B6.block _ (lt_of_block Q5.out)).trans Q5.out
          have BS := Lib.hid (show w1.heap.size ≤ (w5.alloc (.cells #[.int .i64 (j : Int), .int .i64 (kl + 1), .int .i64 (xq - 1)] 66)).heap.size from F6.out.size)
          have Q6 := Lib.hid QB
          clear c1 c2 QB B6
          have c2 := box_q Q5.out
          rw [HXQ.out] at c2
          go_upto_region 9 with (at_builtin; refine Wi.wpList_append_src_own rfl (.tmp 34) (.tmp 42) 50 50 rfl w1.heap.size 66 i0 (.agg #[.int .i64 0, .int .i64 0, .int .i64 0]) 3 24 Ve.Try.u38 hi45 hz0 hz1 hz2 rfl (by decide) (.slice ra out.length rc) out.length (cs3 out) rfl R6.out _ 1 (cs3 [((j : Int), kl + 1, xq - 1)]) rfl SR.out (by unfold maxLen; omega) (by omega) BS.out ?_; intro v7 w7 hown hgr hspr; have O7 := Lib.hid hown; have G7 := Lib.hid hgr; clear hown hgr hspr)
          obtain ⟨va7, vc7, rfl⟩ := Ve.own_shape O7.out
          have V7 := Lib.hid ((G7.out.block _ (lt_of_block V6.out) (fun e => by have := (own_lt R6.out _ e.symm).1; have := BG.out; omega)).trans V6.out)
          have Q7 := (G7.out.block _ (lt_of_block Q6.out) (fun e => by have := RL0.out _ e.symm; omega)).trans Q6.out
          have d2 := box_q Q7
          rw [HXQ.out] at d2
          have F7 := Lib.hid (show Far (fun k => k = w.heap.size) w1 w7 from F6.out.trans (Far.of_grown (P := fun k => w1.heap.size ≤ k) G7.out (fun k e => (own_lt R6.out k e).1)) (fun k hk q => by omega))
          have X7 := Lib.hid (X6.out.grown G7.out X6.out.size (fun k e => by have := (own_lt R6.out k e).1; have := BG.out; omega))
          have O8 := Lib.hid (show w7.ownsRow w1.heap.size 66 3 (.slice va7 (out.length + 1) vc7) (out ++ [((j : Int), kl + 1, xq - 1)]).length (cs3 (out ++ [((j : Int), kl + 1, xq - 1)])) by rw [cs3_append, List.length_append]; exact O7.out)
          have ST := Lib.hid (lk_set (j := j) (x := xq) (by have := BG.out; omega) V7.out O8.out X7.out F7.out)
          have fz := frozen_of_row (j := j) _ _ _ _ V7.out
          have c3 := Ve.cell_va V7.out KX.out
          clear c2 O7 G7 V6 X6 F6 R6 Q6
          go_wp2
          go_roundw
          case rel => exact ⟨i + 1, _, _, by go_num, by omega, by first | trivial | rfl, by rw [List.length_append]; simp; omega, HN2, LK, Lib.hid (by have := ST.out; rw [List.length_append] at this ⊢; exact this)⟩
          case measure => simp [intOf]; omega
        · have HN2 := Lib.hid (show (l.take (i + 1)).foldl lckS (vv, []) = (ks.set j xq, out) by rw [HN.out, LS.out, if_neg hq1, if_neg hg1])
          have hg2 : ¬ (kl + 1 < xq) := hg1
          have ST := Lib.hid (lk_set (j := j) (x := xq) (by have := BG.out; omega) V5.out R5.out X5.out F5.out)
          have fz := frozen_of_row (j := j) _ _ _ _ V5.out
          have c3 := Ve.cell_va V5.out KX.out
          go_wp2
          go_roundw
          case rel => exact ⟨i + 1, _, _, by go_num, by omega, by first | trivial | rfl, by omega, HN2, LK, ST⟩
          case measure => simp [intOf]; omega
    · have FIN := Lib.hid (show lckP l vv = out by
        unfold lckP
        have h1 := HF.out
        rw [List.take_of_length_le (Nat.le_of_not_lt hlt)] at h1
        rw [h1])
      go_wp2
      go_returns
      refine ⟨_, rfl, ?_, HI.out.2.2.1⟩
      rw [FIN.out]
      exact Ve.own_less HI.out.2.1 (by have := BG.out; omega)
end Go.Proofs.Ytgnnpfainoppeaa
