/- VecLacks, walked. -/
import Derived.Test.YtiljmkglmanddaaDoorRH
import Derived.Test.YtiljmkglmanddaaDoorVO
import Derived.Test.YtiljmkglmanddaaDoorLQ
set_option linter.unusedVariables false
namespace Go.Proofs.YtiljmkglmanddaaDoor
open Go.RowKit

theorem later_c {W : World} {p : Addr} {v : Value} (h : W.cell? p = some v) (x : Later W) : x.w.cell? p = some v := (x.below.cell (World.block_lt_of_cell? W p h)).trans h

set_option maxRecDepth 100000 in
set_option maxHeartbeats 8000000 in
theorem lacks_law (w : World) (v0 v1 : Value) (l k : List (Nat × Int)) (hl : LiesO w v0 l) (hk : LiesO w v1 k) (m : Int) (hm : w.cell? ⟨0, 0, none⟩ = some (.int .i64 m)) (ht : Tab w) :
    Calls Tryd.prog 4 #[v0, v1] w fun e w' => e = .returned (.bool true) ∧ Below w.heap.size w w' := by
  have hb0 : 0 < w.heap.size := World.block_lt_of_cell? w _ hm
  have AW := Lib.hid (fun W (h : Below w.heap.size w W) => awake_any W m ((h.cell (p := ⟨0, 0, none⟩) hb0).trans hm) (tab_later ht h))
  have M1 := Lib.hid (fun W (h : Below w.heap.size w W) => made_any W v0 l (hl.later h))
  have M2 := Lib.hid (fun W (h : Below w.heap.size w W) => made_any W v1 k (hk.later h))
  have oa := ok_clamp l
  have ob := ok_clamp k
  obtain ⟨a0, c0, rfl⟩ := hl.shape
  obtain ⟨a1, c1, rfl⟩ := hk.shape
  generalize clampF (madeF l) = a at *
  generalize clampF (madeF k) = b at *
  clear hl hk ht hm hb0
  have ha := oa.1
  have hb := ob.1
  have hj : (joinF [a, b]).length = 64 := jF_len (jF_len zs_len ha) hb
  have LK := Lib.hid (fun W => lacks_any W a b ha hb)
  have RK := Lib.hid (fun W => rlacks_any W a b ha hb)
  have SA := Lib.hid (fun W => sum_any W a ha)
  have RA := Lib.hid (fun W => rsum_any W a ha)
  have LA := Lib.hid (fun (W : World) (g : Nat) (h : VAt 24 W g a) => load_va v24 W g a ha h)
  have LB := Lib.hid (fun (W : World) (g : Nat) (h : VAt 24 W g b) => load_va v24 W g b hb h)
  have HA := Lib.hid ha
  have HB := Lib.hid hb
  have HP := Lib.hid (show ∀ p ∈ lackF a b 64, ∃ q : Nat, q < 64 ∧ p.1 = (q : Int) from fun p hp => by
    obtain ⟨j, hj⟩ := List.mem_iff_getElem?.1 hp
    obtain ⟨q, hq, e, _⟩ := lack_some 64 j p hj
    exact ⟨q, hq, by rw [e]⟩)
  have HJE := Lib.hid (lack_join oa ob)
  have HCE := Lib.hid (count_lack oa ob)
  have HNE := Lib.hid (lack_nil ha hb)
  have hLn := lackF_len a b 64
  have OA := Lib.hid oa
  have OB := Lib.hid ob
  generalize lackF a b 64 = L at *
  unfold vw at M1 M2 LK RK SA RA
  clear ha hb hj oa ob
  go_enter Tryd.func4, Tryd.ntmps4
  go_wp2_with fail
  refine (M1.out _ (Below.refl _ _)).mono ?_
  rintro e w1 ⟨rfl, hb1⟩
  have T1 := Lib.hid hb1
  clear hb1
  go_wp2_with fail
  refine (M2.out _ T1.out).mono ?_
  rintro e w2 ⟨rfl, hb2⟩
  have T2 := Lib.hid (T1.out.trans (hb2.mono T1.out.size))
  clear hb2 T1
  obtain ⟨W1, W2, W3, W4, h1, h2, h3, h4, b4, va4, vb4⟩ := two_box z24 v24 w2 a b HA.out HB.out
  have H1 := Lib.hid h1
  have H2 := Lib.hid h2
  have H3 := Lib.hid h3
  have H4 := Lib.hid h4
  have T4 := Lib.hid (T2.out.trans (b4.mono T2.out.size))
  have VA4 := Lib.hid va4
  have VB4 := Lib.hid vb4
  clear h1 h2 h3 h4 b4 va4 vb4 T2
  go_wp2_with (first | refine wpList_alloc_arr rfl 24 rfl _ _ H1.out ?_ | refine wpList_alloc_arr rfl 24 rfl _ _ H2.out ?_ | refine wpList_store_arr rfl (.tmp 5) (.tmp 12) 24 rfl (.pointer (some ⟨w2.heap.size, 0, none⟩)) (.agg (va a)) rfl rfl _ H3.out ?_ | refine wpList_store_arr rfl (.tmp 6) (.tmp 14) 24 rfl (.pointer (some ⟨w2.heap.size + 1, 0, none⟩)) (.agg (va b)) rfl rfl _ H4.out ?_ | refine wpList_load_arr rfl (.tmp 5) 24 rfl (.pointer (some ⟨w2.heap.size, 0, none⟩)) _ rfl (LA.out _ _ VA4.out) ?_ | refine wpList_load_arr rfl (.tmp 6) 24 rfl (.pointer (some ⟨w2.heap.size + 1, 0, none⟩)) _ rfl (LB.out _ _ VB4.out) ?_)
  refine (LK.out _).mono ?_
  rintro e w5 ⟨x, rfl, hx5, hb5⟩
  obtain ⟨g1, hg1⟩ : ∃ g, w2.heap.size = g := ⟨_, rfl⟩
  obtain ⟨g2, hg2⟩ : ∃ g, g1 + 1 = g := ⟨_, rfl⟩
  rw [hg1] at VA4 VB4 ⊢
  rw [hg2] at VB4 ⊢
  have LX5 := Lib.hid (lies_own hx5 (by omega))
  have T5 := Lib.hid (T4.out.trans (hb5.mono T4.out.size))
  have VA5 := Lib.hid (VA4.out.step hb5)
  have VB5 := Lib.hid (VB4.out.step hb5)
  obtain ⟨ax, cx, rfl⟩ := own_shape hx5
  clear hx5 hb5 hg1 hg2 VA4 VB4 T4 H1 H2 H3 H4
  go_wp2_with (first | refine wpList_load_arr rfl (.tmp 5) 24 rfl (.pointer (some ⟨g1, 0, none⟩)) _ rfl (LA.out _ _ VA5.out) ?_ | refine wpList_load_arr rfl (.tmp 6) 24 rfl (.pointer (some ⟨g2, 0, none⟩)) _ rfl (LB.out _ _ VB5.out) ?_)
  refine (RK.out _).mono ?_
  rintro e w6 ⟨y, rfl, hy6, hb6⟩
  have LX6 := Lib.hid (LX5.out.later hb6)
  have LY6 := Lib.hid (lies_own hy6 (by omega))
  have T6 := Lib.hid (T5.out.trans (hb6.mono T5.out.size))
  have VA6 := Lib.hid (VA5.out.step hb6)
  have VB6 := Lib.hid (VB5.out.step hb6)
  obtain ⟨ay, cy, rfl⟩ := own_shape hy6
  clear hy6 hb6 LX5 T5 VA5 VB5
  go_wp2
  have D24 := Lib.hid (fun x : Later w6 => SA.out x.w)
  have D25 := Lib.hid (fun x : Later w6 => RA.out x.w)
  have QA := Lib.hid (later_all (W := w6) (Q := fun w => (Instr.loadAt 24 (.pointer (some ⟨g1, 0, none⟩))).run Tryd.prog w = .ok (.agg (va a)) w) (fun x => LA.out x.w _ (VA6.out.step x.below)))
  have v1 : ((L.length : Int) != (L.length : Int)) = false := by simp
  have v2 : (sumW a != sumW a) = false := by simp
  refine wp_region_later (by kernel_rfl) (by kernel_rfl) ?_
  repeat (first
    | (go_big_quiet_want; refine quiet_load (.tmp 5) 24 rfl (.pointer (some ⟨g1, 0, none⟩)) (.agg (va a)) rfl QA.out ?_; (try simp only [Act.put, List.setIfInBounds_toArray, List.set_cons_zero, List.set_cons_succ]); go_big_quiet_on)
    | (go_big_quiet_step (first
      | (go_at_call 24; with_reducible exact later_call (D24.out _))
      | (go_at_call 25; with_reducible exact later_call (D25.out _)))))
  refine wpQuiet_nil ?_
  intro _ hw'
  obtain ⟨x7, hw''⟩ := hw'
  subst hw''
  have LX7 := Lib.hid (LX6.out.later x7.below)
  have LY7 := Lib.hid (LY6.out.later x7.below)
  have T7 := Lib.hid (T6.out.trans (x7.below.mono T6.out.size))
  have VA7 := Lib.hid (VA6.out.step x7.below)
  have VB7 := Lib.hid (VB6.out.step x7.below)
  clear D24 D25 QA LX6 LY6 T6 VA6 VB6 v1 v2
  obtain ⟨w7, hw7⟩ : ∃ y, x7.w = y := ⟨_, rfl⟩
  rw [hw7] at LX7 LY7 T7 VA7 VB7 ⊢
  clear hw7 x7
  obtain ⟨W8, W9, h8, h9, b9, vc9⟩ := one_box z24 v24 w7 a HA.out
  have H8 := Lib.hid h8
  have H9 := Lib.hid h9
  obtain ⟨g9, hg9⟩ : ∃ g, w7.heap.size = g := ⟨_, rfl⟩
  have B9 := Lib.hid b9
  rw [hg9] at H8 H9 vc9
  have VC9 := Lib.hid vc9
  have HG9 := Lib.hid hg9
  clear h8 h9 b9 vc9 hg9
  go_wp2_with (first | refine wpList_alloc_arr rfl 24 rfl _ _ H8.out ?_ | refine wpList_store_arr rfl (.tmp 9) (.tmp 33) 24 rfl (.pointer (some ⟨g9, 0, none⟩)) (.agg (va a)) rfl rfl _ H9.out ?_ | refine wpList_load_arr rfl (.tmp 5) 24 rfl (.pointer (some ⟨g1, 0, none⟩)) _ rfl (LA.out _ _ VA7.out) ?_)
  go_loopw [10] (fun iv wr => ∃ (i : Nat) (cur : List Int), iv = .int .i64 i ∧ i ≤ L.length ∧ Hid (cur = (L.take i).foldl putR a ∧ VAt 24 wr g9 cur ∧ Below w7.heap.size w7 wr)) (fun iv _ => L.length - (intOf iv).toNat)
  case atStart => exact ⟨0, a, rfl, Nat.zero_le _, Lib.hid ⟨rfl, VC9.out, B9.out⟩⟩
  case round =>
    obtain ⟨i, cur, rfl, hi, hI⟩ := hrel
    have HCL := Lib.hid (show cur.length = 64 by rw [hI.out.1, foldR_len, HA.out])
    by_cases hlt : i < L.length
    · obtain ⟨p, hp⟩ : ∃ p, L[i]? = some p := ⟨_, List.getElem?_eq_getElem hlt⟩
      obtain ⟨kx, ox, e1, x0, x1, x2⟩ := LX7.out.at hI.out.2.2 hp
      obtain ⟨ky, oy, e2, y0, y1, y2⟩ := LY7.out.at hI.out.2.2 hp
      obtain ⟨kx', ox', e1', hx0, _, _⟩ := LX7.out.at (Below.refl _ _) hp
      obtain ⟨ky', oy', e2', hy0, _, _⟩ := LY7.out.at (Below.refl _ _) hp
      have hbx : kx < w7.heap.size := by
        have e := e1.symm.trans e1'
        injection e with e; injection e with e _ _
        subst e
        exact World.block_lt_of_cell? w7 _ hx0
      have hby : ky < w7.heap.size := by
        have e := e2.symm.trans e2'
        injection e with e; injection e with e _ _
        subst e
        exact World.block_lt_of_cell? w7 _ hy0
      clear hx0 hy0 e1' e2'
      subst e1
      subst e2
      obtain ⟨q, hq, hpq⟩ := HP.out p (List.mem_of_getElem? hp)
      obtain ⟨p0, p1, p2⟩ := p
      dsimp only at hpq x0 x1 x2 y0 y1 y2
      subst hpq
      have HN : Hid (cur.set q p2 = (L.take (i + 1)).foldl putR a) := Lib.hid (by
        rw [take_snoc' L i _ hp, List.foldl_append, ← hI.out.1]
        show _ = putR cur _
        unfold putR
        have : ((q : Nat) : Int).toNat = q := by omega
        rw [this])
      have K0 := Lib.hid (And.intro y0 (And.intro y2 hby))
      have hn9 := HG9.out
      clear hp
      have z0 := later_c x0
      have z1 := later_c x1
      have z2 := later_c x2
      have u0 := later_c y0
      have u1 := later_c y1
      have u2 := later_c y2
      clear x0 x1 x2 y0 y1 y2 hbx hby hn9
      go_wp2
      refine wp_region_later (by kernel_rfl) (by kernel_rfl) ?_
      repeat (go_big_quiet_step (fail))
      refine wpQuiet_nil ?_
      intro _ hw'
      obtain ⟨xl, hw''⟩ := hw'
      subst hw''
      have BB := Lib.hid (hI.out.2.2.trans (xl.below.mono hI.out.2.2.size))
      have VV := Lib.hid (hI.out.2.1.step xl.below)
      have d0 := (xl.below.cell (p := ⟨ky, oy + i * 3, none⟩) (World.block_lt_of_cell? wr _ K0.out.1)).trans K0.out.1
      have d2 := (xl.below.cell (p := ⟨ky, oy + i * 3 + 2, none⟩) (World.block_lt_of_cell? wr _ K0.out.2.1)).trans K0.out.2.1
      have hne : ky ≠ g9 := by have := K0.out.2.2; have := HG9.out; omega
      have hne2 : g9 ≠ ky := Ne.symm hne
      have hg9 : w7.heap.size ≤ g9 := by have := HG9.out; omega
      obtain ⟨wq, hwq⟩ : ∃ y, xl.w = y := ⟨_, rfl⟩
      rw [hwq] at BB VV d0 d2 ⊢
      clear hwq z0 z1 z2 u0 u1 u2 hI xl
      obtain ⟨xo, hxo⟩ := va_len cur HCL.out q hq
      have g := cell_va VV.out hxo
      have f := frozen_of_row _ _ q _ _ VV.out
      have R1 := Lib.hid (show VAt 24 (wq.setCell ⟨g9, q, none⟩ (.int .i64 p2)).drew g9 (cur.set q p2) from set_va VV.out q p2)
      have BY := Lib.hid ((BB.out.setCell (p := ⟨g9, q, none⟩) hg9 (.int .i64 p2)).drew)
      have hq0 : (0 : Int) ≤ (q : Int) := by omega
      have hq1 : (q : Int) < 64 := by omega
      clear hxo
      go_wp2
      go_region_held3 (fun w' => w'.cell? ⟨ky, oy + i * 3, none⟩ = some (.int .i64 (q : Int)) ∧ w'.cell? ⟨ky, oy + i * 3 + 2, none⟩ = some (.int .i64 p2)) (go_keep) (fail)
      go_wp2
      go_roundw
      case rel => exact ⟨i + 1, cur.set q p2, by go_num, by omega, Lib.hid ⟨HN.out, R1.out, BY.out⟩⟩
      case measure => simp [intOf]; omega
    · have hin : i = L.length := by omega
      have HJ := Lib.hid (show cur = joinF [a, b] by rw [hI.out.1, hin, List.take_length, HJE.out])
      have BR := Lib.hid (T7.out.trans (hI.out.2.2.mono T7.out.size))
      have VA := Lib.hid (VA7.out.step hI.out.2.2)
      have VB := Lib.hid (VB7.out.step hI.out.2.2)
      have VC := Lib.hid hI.out.2.1
      have LX := Lib.hid (LX7.out.later hI.out.2.2)
      have hjl := HCL.out
      have hjl0 := HCL.out
      have CN := Lib.hid (fun W (h : Below wr.heap.size wr W) => count_any W _ _ (LX.out.later h))
      have SJ := Lib.hid (fun W => sum_any W cur hjl)
      have BSl := fun W => build_two W a b HA.out HB.out
      have JN := Lib.hid (fun (W : World) (g : Nat) (h : W.heap[g]? = some (.cells (va (a ++ b)) 24 (0, 0))) => join_any W _ _ (two_at HA.out HB.out h) (by simp))
      rw [← HJ.out] at JN
      obtain ⟨q1, hq1⟩ : ∃ c : Bool, c = true ↔ CovP a b := by classical exact ⟨decide (CovP a b), decide_eq_true_iff⟩
      have hq2 : ((L.length : Int) == 0) = q1 := by
        rw [Bool.eq_iff_iff, hq1, ← HNE.out]
        simp
      have CV := Lib.hid (fun W => covers_any W a b HA.out HB.out q1 hq1)
      have hce : countF L = wrap64 (sumW cur - sumW a) := by rw [HCE.out, HJ.out]
      rw [hce] at CN
      have EJ := Lib.hid (eqin_self cur hjl)
      have ej := EJ.out
      have e1 : (wrap64 (sumW cur - sumW a) == wrap64 (sumW cur - sumW a)) = true := by simp
      have e2 : (q1 == q1) = true := by simp
      have hlen : (L.length : Int) ≤ 64 := by omega
      have hsw : IntKind.i64.wrap (sumW cur - sumW a) = wrap64 (sumW cur - sumW a) := by rw [IntKind.wrap_i64]; unfold wrap64; omega
      clear hq1 hce hjl HP HCL
      unfold vw at *
      go_wp2
      refine wp_region_held_drew (S := fun w' => Below wr.heap.size wr w') (by kernel_rfl) (Below.refl _ _).drew (fun hHeld => ?_)
      refine take_at (i := 0) 72 (.agg (va cur)) rfl rfl (by kernel_rfl) (by kernel_rfl) (by kernel_rfl) (fun _ _ _ h => h) (yields_load (.tmp 9) g9 cur hjl0 (fun w h => VC.out.step h) rfl rfl rfl) hHeld ?_
      simp only [Act.put, List.setIfInBounds_toArray, List.set_cons_zero, List.set_cons_succ]
      refine take_at (i := 1) 73 (.agg (va a)) rfl rfl (by kernel_rfl) (by kernel_rfl) (by kernel_rfl) (fun _ _ _ h => h) (yields_load (.tmp 5) g1 a HA.out (fun w h => VA.out.step h) rfl rfl rfl) hHeld ?_
      simp only [Act.put, List.setIfInBounds_toArray, List.set_cons_zero, List.set_cons_succ]
      refine take_at (i := 2) 74 (.agg (va b)) rfl rfl (by kernel_rfl) (by kernel_rfl) (by kernel_rfl) (fun _ _ _ h => h) (yields_load (.tmp 6) g2 b HB.out (fun w h => VB.out.step h) rfl rfl rfl) hHeld ?_
      simp only [Act.put, List.setIfInBounds_toArray, List.set_cons_zero, List.set_cons_succ]
      refine one_bslice (i := 3) 75 60 2 _ #[(0, .agg (va a)), (1, .agg (va b))] _ _ rfl rfl (by kernel_rfl) rfl rfl rfl (BSl _) (below_alloc hHeld _) (fun hH => ?_)
      clear hHeld
      have hHeld := hH
      clear hH
      simp only [Act.put, List.setIfInBounds_toArray, List.set_cons_zero, List.set_cons_succ]
      refine one_call (i := 4) 76 8 #[.slice (some ⟨wr.drew.heap.size, 0, none⟩) 2 2] rfl rfl (by kernel_rfl) rfl (by go_simp) ?_
      refine (JN.out _ _ (heap_alloc_new _ _)).mono ?_
      rintro e w3 ⟨rfl, hb3⟩
      refine ⟨_, rfl, hHeld.trans (hb3.mono hHeld.size), fun hH => ?_⟩
      clear hHeld hb3
      have hHeld := hH
      clear hH
      simp only [Act.put, List.setIfInBounds_toArray, List.set_cons_zero, List.set_cons_succ]
      refine take_at (i := 5) 77 ?_ rfl rfl (by kernel_rfl) (by kernel_rfl) (by kernel_rfl) (fun _ _ _ h => h) (.inl ⟨rfl, ?_⟩) hHeld ?_
      rotate_left 1
      · intro w hSw; go_simp; try with_reducible rfl
      simp only [Act.put, List.setIfInBounds_toArray, List.set_cons_zero, List.set_cons_succ]
      refine take_at (i := 6) 78 ?_ rfl rfl (by kernel_rfl) (by kernel_rfl) (by kernel_rfl) (fun _ _ _ h => h) (.inl ⟨rfl, ?_⟩) hHeld ?_
      rotate_left 1
      · intro w hSw; go_simp; try with_reducible rfl
      simp only [Act.put, List.setIfInBounds_toArray, List.set_cons_zero, List.set_cons_succ]
      refine take_at (i := 7) 79 ?_ rfl rfl (by kernel_rfl) (by kernel_rfl) (by kernel_rfl) (fun _ _ _ h => h) (.inl ⟨rfl, ?_⟩) hHeld ?_
      rotate_left 1
      · intro w hSw; go_simp; try with_reducible rfl
      simp only [Act.put, List.setIfInBounds_toArray, List.set_cons_zero, List.set_cons_succ]
      refine take_at (i := 9) 81 (.agg (va cur)) rfl rfl (by kernel_rfl) (by kernel_rfl) (by kernel_rfl) (fun _ _ _ h => h) (yields_load (.tmp 9) g9 cur hjl0 (fun w h => VC.out.step h) rfl rfl rfl) hHeld ?_
      simp only [Act.put, List.setIfInBounds_toArray, List.set_cons_zero, List.set_cons_succ]
      refine take_at (i := 11) 83 (.agg (va a)) rfl rfl (by kernel_rfl) (by kernel_rfl) (by kernel_rfl) (fun _ _ _ h => h) (yields_load (.tmp 5) g1 a HA.out (fun w h => VA.out.step h) rfl rfl rfl) hHeld ?_
      simp only [Act.put, List.setIfInBounds_toArray, List.set_cons_zero, List.set_cons_succ]
      refine one_call (i := 8) 80 26 #[.slice ax L.length cx] rfl rfl (by kernel_rfl) rfl (by go_simp) ?_
      refine (CN.out _ hHeld).mono ?_
      rintro e w3 ⟨rfl, hb3⟩
      refine ⟨_, rfl, hHeld.trans (hb3.mono hHeld.size), fun hH => ?_⟩
      clear hHeld hb3
      have hHeld := hH
      clear hH
      simp only [Act.put, List.setIfInBounds_toArray, List.set_cons_zero, List.set_cons_succ]
      refine one_call (i := 10) 82 24 #[.agg (va cur)] rfl rfl (by kernel_rfl) rfl (by go_simp) ?_
      refine (SJ.out _).mono ?_
      rintro e w3 ⟨rfl, hb3⟩
      refine ⟨_, rfl, hHeld.trans (hb3.mono hHeld.size), fun hH => ?_⟩
      clear hHeld hb3
      have hHeld := hH
      clear hH
      simp only [Act.put, List.setIfInBounds_toArray, List.set_cons_zero, List.set_cons_succ]
      refine one_call (i := 12) 84 24 #[.agg (va a)] rfl rfl (by kernel_rfl) rfl (by go_simp) ?_
      refine (SA.out _).mono ?_
      rintro e w3 ⟨rfl, hb3⟩
      refine ⟨_, rfl, hHeld.trans (hb3.mono hHeld.size), fun hH => ?_⟩
      clear hHeld hb3
      have hHeld := hH
      clear hH
      simp only [Act.put, List.setIfInBounds_toArray, List.set_cons_zero, List.set_cons_succ]
      refine take_at (i := 13) 85 ?_ rfl rfl (by kernel_rfl) (by kernel_rfl) (by kernel_rfl) (fun _ _ _ h => h) (.inl ⟨rfl, ?_⟩) hHeld ?_
      rotate_left 1
      · intro w hSw; go_simp; try with_reducible rfl
      simp only [Act.put, List.setIfInBounds_toArray, List.set_cons_zero, List.set_cons_succ]
      refine take_at (i := 14) 86 ?_ rfl rfl (by kernel_rfl) (by kernel_rfl) (by kernel_rfl) (fun _ _ _ h => h) (.inl ⟨rfl, ?_⟩) hHeld ?_
      rotate_left 1
      · intro w hSw; go_simp; try with_reducible rfl
      simp only [Act.put, List.setIfInBounds_toArray, List.set_cons_zero, List.set_cons_succ]
      refine take_at (i := 15) 87 ?_ rfl rfl (by kernel_rfl) (by kernel_rfl) (by kernel_rfl) (fun _ _ _ h => h) (.inl ⟨rfl, ?_⟩) hHeld ?_
      rotate_left 1
      · intro w hSw; go_simp; try with_reducible rfl
      simp only [Act.put, List.setIfInBounds_toArray, List.set_cons_zero, List.set_cons_succ]
      refine take_at (i := 16) 88 ?_ rfl rfl (by kernel_rfl) (by kernel_rfl) (by kernel_rfl) (fun _ _ _ h => h) (.inl ⟨rfl, ?_⟩) hHeld ?_
      rotate_left 1
      · intro w hSw; go_simp; try with_reducible rfl
      simp only [Act.put, List.setIfInBounds_toArray, List.set_cons_zero, List.set_cons_succ]
      refine take_at (i := 17) 89 ?_ rfl rfl (by kernel_rfl) (by kernel_rfl) (by kernel_rfl) (fun _ _ _ h => h) (.inl ⟨rfl, ?_⟩) hHeld ?_
      rotate_left 1
      · intro w hSw; go_simp; try with_reducible rfl
      simp only [Act.put, List.setIfInBounds_toArray, List.set_cons_zero, List.set_cons_succ]
      refine take_at (i := 18) 90 ?_ rfl rfl (by kernel_rfl) (by kernel_rfl) (by kernel_rfl) (fun _ _ _ h => h) (.inl ⟨rfl, ?_⟩) hHeld ?_
      rotate_left 1
      · intro w hSw; go_simp; try with_reducible rfl
      simp only [Act.put, List.setIfInBounds_toArray, List.set_cons_zero, List.set_cons_succ]
      refine take_at (i := 19) 91 ?_ rfl rfl (by kernel_rfl) (by kernel_rfl) (by kernel_rfl) (fun _ _ _ h => h) (.inl ⟨rfl, ?_⟩) hHeld ?_
      rotate_left 1
      · intro w hSw; go_simp; try with_reducible rfl
      simp only [Act.put, List.setIfInBounds_toArray, List.set_cons_zero, List.set_cons_succ]
      refine take_at (i := 20) 92 (.agg (va a)) rfl rfl (by kernel_rfl) (by kernel_rfl) (by kernel_rfl) (fun _ _ _ h => h) (yields_load (.tmp 5) g1 a HA.out (fun w h => VA.out.step h) rfl rfl rfl) hHeld ?_
      simp only [Act.put, List.setIfInBounds_toArray, List.set_cons_zero, List.set_cons_succ]
      refine take_at (i := 21) 93 (.agg (va b)) rfl rfl (by kernel_rfl) (by kernel_rfl) (by kernel_rfl) (fun _ _ _ h => h) (yields_load (.tmp 6) g2 b HB.out (fun w h => VB.out.step h) rfl rfl rfl) hHeld ?_
      simp only [Act.put, List.setIfInBounds_toArray, List.set_cons_zero, List.set_cons_succ]
      refine one_call (i := 22) 94 14 #[.agg (va a), .agg (va b)] rfl rfl (by kernel_rfl) rfl (by go_simp) ?_
      refine (CV.out _).mono ?_
      rintro e w3 ⟨rfl, hb3⟩
      refine ⟨_, rfl, hHeld.trans (hb3.mono hHeld.size), fun hH => ?_⟩
      clear hHeld hb3
      have hHeld := hH
      clear hH
      simp only [Act.put, List.setIfInBounds_toArray, List.set_cons_zero, List.set_cons_succ]
      refine take_at (i := 23) 95 ?_ rfl rfl (by kernel_rfl) (by kernel_rfl) (by kernel_rfl) (fun _ _ _ h => h) (.inl ⟨rfl, ?_⟩) hHeld ?_
      rotate_left 1
      · intro w hSw; go_simp; try with_reducible rfl
      simp only [Act.put, List.setIfInBounds_toArray, List.set_cons_zero, List.set_cons_succ]
      refine take_at (i := 24) 96 ?_ rfl rfl (by kernel_rfl) (by kernel_rfl) (by kernel_rfl) (fun _ _ _ h => h) (.inl ⟨rfl, ?_⟩) hHeld ?_
      rotate_left 1
      · intro w hSw; go_simp; try with_reducible rfl
      simp only [Act.put, List.setIfInBounds_toArray, List.set_cons_zero, List.set_cons_succ]
      refine take_at (i := 25) 97 ?_ rfl rfl (by kernel_rfl) (by kernel_rfl) (by kernel_rfl) (fun _ _ _ h => h) (.inl ⟨rfl, ?_⟩) hHeld ?_
      rotate_left 1
      · intro w hSw; go_simp; try with_reducible rfl
      simp only [Act.put, List.setIfInBounds_toArray, List.set_cons_zero, List.set_cons_succ]
      refine one_call (i := 26) 98 20 #[] rfl rfl (by kernel_rfl) rfl (by go_simp) ?_
      refine (AW.out _ (BR.out.trans (hHeld.mono BR.out.size))).mono ?_
      rintro e w3 ⟨rfl, hb3⟩
      refine ⟨_, rfl, hHeld.trans (hb3.mono hHeld.size), fun hH => ?_⟩
      clear hHeld hb3
      have hHeld := hH
      clear hH
      simp only [Act.put, List.setIfInBounds_toArray, List.set_cons_zero, List.set_cons_succ]
      refine take_at (i := 27) 99 ?_ rfl rfl (by kernel_rfl) (by kernel_rfl) (by kernel_rfl) (fun _ _ _ h => h) (.inl ⟨rfl, ?_⟩) hHeld ?_
      rotate_left 1
      · intro w hSw; go_simp; try with_reducible rfl
      simp only [Act.put, List.setIfInBounds_toArray, List.set_cons_zero, List.set_cons_succ]
      refine take_at (i := 28) 4 ?_ rfl rfl (by kernel_rfl) (by kernel_rfl) (by kernel_rfl) (fun _ _ _ h => h) (.inl ⟨rfl, ?_⟩) hHeld ?_
      rotate_left 1
      · intro w hSw; go_simp; try with_reducible rfl
      simp only [Act.put, List.setIfInBounds_toArray, List.set_cons_zero, List.set_cons_succ]
      refine wpAnyH_done (by kernel_rfl) ?_ _
      go_wp2
      go_returns
      exact ⟨rfl, BR.out.trans (hHeld.mono BR.out.size)⟩
end Go.Proofs.YtiljmkglmanddaaDoor
