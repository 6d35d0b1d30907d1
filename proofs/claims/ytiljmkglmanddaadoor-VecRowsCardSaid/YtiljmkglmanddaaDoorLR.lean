/- VecRows, walked. Made by genlr4.py. -/
import Derived.Test.YtiljmkglmanddaaDoorRH
import Derived.Deep.CutRange
import Derived.Test.YtiljmkglmanddaaDoorVQ
set_option linter.unusedVariables false
namespace Go.Proofs.YtiljmkglmanddaaDoor
open Go.RowKit

set_option maxRecDepth 100000 in
set_option maxHeartbeats 16000000 in
theorem rows_law (w : World) (v0 v1 v2 : Value) (l k o : List (Nat × Int)) (hl : LiesO w v0 l) (hk : LiesO w v1 k) (ho : LiesO w v2 o) (m : Int) (hm : w.cell? ⟨0, 0, none⟩ = some (.int .i64 m)) (ht : Tab w) :
    Calls Tryd.prog 6 #[v0, v1, v2] w fun e w' => e = .returned (.bool true) ∧ Below w.heap.size w w' := by
  have hb0 : 0 < w.heap.size := World.block_lt_of_cell? w _ hm
  have AW := Lib.hid (fun W (h : Below w.heap.size w W) => awake_any W m ((h.cell (p := ⟨0, 0, none⟩) hb0).trans hm) (tab_later ht h))
  have M1 := Lib.hid (fun W (h : Below w.heap.size w W) => made_any W v0 l (hl.later h))
  have M2 := Lib.hid (fun W (h : Below w.heap.size w W) => made_any W v1 k (hk.later h))
  have M3 := Lib.hid (fun W (h : Below w.heap.size w W) => made_any W v2 o (ho.later h))
  have oa := ok_clamp l
  have ob := ok_clamp k
  have oc := ok_clamp o
  obtain ⟨a0, c0, rfl⟩ := hl.shape
  obtain ⟨a1, c1, rfl⟩ := hk.shape
  obtain ⟨a2, c2, rfl⟩ := ho.shape
  generalize clampF (madeF l) = a at *
  generalize clampF (madeF k) = b at *
  generalize clampF (madeF o) = c at *
  clear hl hk ho ht hm hb0
  have ha := oa.1
  have hb := ob.1
  have hc := oc.1
  have hj : (joinF [a, b, c]).length = 64 := join3_len ha hb hc
  have hjba : (joinF [b, a]).length = 64 := join2_len hb ha
  have hk2 : (joinF [a, b]).length = 64 := join2_len ha hb
  have hd : (meetF a b).length = 64 := meetF_len ha hb
  have HA := Lib.hid ha
  have HB := Lib.hid hb
  have HC := Lib.hid hc
  have HJ := Lib.hid hj
  have HK := Lib.hid hk2
  have HD := Lib.hid hd
  have CP := Lib.hid (cov_join3 oa ob oc)
  have BS3 := Lib.hid (fun W => build_three W a b c ha hb hc)
  have J3 := Lib.hid (fun (W : World) (g : Nat) (h : W.heap[g]? = some (.cells (va (a ++ b ++ c)) 24 (0, 0))) => join_any W _ _ (three_at ha hb hc h) (by simp))
  obtain ⟨abc, habc⟩ : ∃ x, a ++ b ++ c = x := ⟨_, rfl⟩
  rw [habc] at BS3 J3
  clear habc
  have BS1 := Lib.hid (fun W => build_two W b a hb ha)
  have J1 := Lib.hid (fun (W : World) (g : Nat) (h : W.heap[g]? = some (.cells (va (b ++ a)) 24 (0, 0))) => join_any W _ _ (two_at hb ha h) (by simp))
  have BS2 := Lib.hid (fun W => build_two W c (joinF [b, a]) hc hjba)
  have J2 := Lib.hid (fun (W : World) (g : Nat) (h : W.heap[g]? = some (.cells (va (c ++ joinF [b, a])) 24 (0, 0))) => join_any W _ _ (two_at hc hjba h) (by simp))
  rw [← join_turn oa ob oc] at J2
  have BS4 := Lib.hid (fun W => build_two W a a ha ha)
  have J4 := Lib.hid (fun (W : World) (g : Nat) (h : W.heap[g]? = some (.cells (va (a ++ a)) 24 (0, 0))) => join_any W _ _ (two_at ha ha h) (by simp))
  rw [join_self oa] at J4
  have BS5 := Lib.hid (fun W => build_two W a b ha hb)
  have J5 := Lib.hid (fun (W : World) (g : Nat) (h : W.heap[g]? = some (.cells (va (a ++ b)) 24 (0, 0))) => join_any W _ _ (two_at ha hb h) (by simp))
  have C1 := Lib.hid (fun W => covers_any W (joinF [a, b, c]) a hj ha true ⟨fun _ => CP.out.1, fun _ => rfl⟩)
  have C2 := Lib.hid (fun W => covers_any W (joinF [a, b, c]) b hj hb true ⟨fun _ => CP.out.2.1, fun _ => rfl⟩)
  have C3 := Lib.hid (fun W => covers_any W (joinF [a, b, c]) c hj hc true ⟨fun _ => CP.out.2.2, fun _ => rfl⟩)
  have MT := Lib.hid (fun W => meet_any W a b ha hb)
  have MU := Lib.hid (fun W => meet_any W b a hb ha)
  rw [← meet_turn oa ob] at MU
  obtain ⟨q1, hq1⟩ : ∃ q : Bool, q = true ↔ CovP c a := by classical exact ⟨decide (CovP c a), decide_eq_true_iff⟩
  obtain ⟨q2, hq2⟩ : ∃ q : Bool, q = true ↔ CovP c b := by classical exact ⟨decide (CovP c b), decide_eq_true_iff⟩
  obtain ⟨q3, hq3⟩ : ∃ q : Bool, q = true ↔ CovP c (joinF [a, b]) := by classical exact ⟨decide (CovP c (joinF [a, b])), decide_eq_true_iff⟩
  obtain ⟨q4, hq4⟩ : ∃ q : Bool, q = true ↔ CovP a c := by classical exact ⟨decide (CovP a c), decide_eq_true_iff⟩
  obtain ⟨q5, hq5⟩ : ∃ q : Bool, q = true ↔ CovP b c := by classical exact ⟨decide (CovP b c), decide_eq_true_iff⟩
  obtain ⟨q6, hq6⟩ : ∃ q : Bool, q = true ↔ CovP (meetF a b) c := by classical exact ⟨decide (CovP (meetF a b) c), decide_eq_true_iff⟩
  have K1 := Lib.hid (fun W => covers_any W c a hc ha q1 hq1)
  have K2 := Lib.hid (fun W => covers_any W c b hc hb q2 hq2)
  have K3 := Lib.hid (fun W => covers_any W c (joinF [a, b]) hc hk2 q3 hq3)
  have K4 := Lib.hid (fun W => covers_any W a c ha hc q4 hq4)
  have K5 := Lib.hid (fun W => covers_any W b c hb hc q5 hq5)
  have K6 := Lib.hid (fun W => covers_any W (meetF a b) c hd hc q6 hq6)
  have HQ := Lib.hid (show (q1 = true → q2 = true → q3 = true) ∧ (q4 = true → q5 = true → q6 = true) from
    ⟨fun h1 h2 => hq3.2 (cov_least oa ob oc (hq1.1 h1) (hq2.1 h2)), fun h1 h2 => hq6.2 (cov_most oa ob oc (hq4.1 h1) (hq5.1 h2))⟩)
  have SA := Lib.hid (fun W => sum_any W a ha)
  have SB := Lib.hid (fun W => sum_any W b hb)
  have SK := Lib.hid (fun W => sum_any W (joinF [a, b]) hk2)
  have SD := Lib.hid (fun W => sum_any W (meetF a b) hd)
  have HS := Lib.hid (show wrap64 (sumW (joinF [a, b]) + sumW (meetF a b)) = wrap64 (sumW a + sumW b) by
    rw [(sum_ok (ok_join2 oa ob)).1, (sum_ok (ok_meet oa ob)).1, (sum_ok oa).1, (sum_ok ob).1, sum_law oa ob])
  have LA := Lib.hid (fun (W : World) (g : Nat) (h : VAt 24 W g a) => load_va v24 W g a ha h)
  have LB := Lib.hid (fun (W : World) (g : Nat) (h : VAt 24 W g b) => load_va v24 W g b hb h)
  have LC := Lib.hid (fun (W : World) (g : Nat) (h : VAt 24 W g c) => load_va v24 W g c hc h)
  have LJ := Lib.hid (fun (W : World) (g : Nat) (h : VAt 24 W g (joinF [a, b, c])) => load_va v24 W g (joinF [a, b, c]) hj h)
  have LK := Lib.hid (fun (W : World) (g : Nat) (h : VAt 24 W g (joinF [a, b])) => load_va v24 W g (joinF [a, b]) hk2 h)
  have LD := Lib.hid (fun (W : World) (g : Nat) (h : VAt 24 W g (meetF a b)) => load_va v24 W g (meetF a b) hd h)
  have EJ := Lib.hid (eqin_self (joinF [a, b, c]) hj)
  have EA := Lib.hid (eqin_self a ha)
  have ED := Lib.hid (eqin_self (meetF a b) hd)
  unfold vw at *
  clear ha hb hc hj hk2 hd hq1 hq2 hq3 hq4 hq5 hq6 oa ob oc
  generalize joinF [a, b, c] = j at *
  generalize joinF [b, a] = jba at *
  generalize joinF [a, b] = kk at *
  generalize meetF a b = dd at *
  clear hjba CP
  go_enter Tryd.func6, Tryd.ntmps6
  go_upto_region 1 with (fail)
  go_cut [7, 8, 9] from 13 (fun av bv cv wx => ∃ g1 g2 g3, av = .pointer (some ⟨g1, 0, none⟩) ∧ bv = .pointer (some ⟨g2, 0, none⟩) ∧ cv = .pointer (some ⟨g3, 0, none⟩) ∧ VAt 24 wx g1 a ∧ VAt 24 wx g2 b ∧ VAt 24 wx g3 c ∧ Below w.heap.size w wx)
  case first =>
    clear AW BS3 J3 BS1 J1 BS2 J2 BS4 J4 BS5 J5 C1 C2 C3 MT MU K1 K2 K3 K4 K5 K6 HQ SA SB SK SD HS LA LB LC LJ LK LD EJ EA ED
    go_wp2_with fail
    refine (M1.out _ (Below.refl _ _)).mono ?_
    rintro e w1 ⟨rfl, hb1⟩
    have T1 := Lib.hid hb1
    clear hb1
    go_wp2_with fail
    refine (M2.out _ T1.out).mono ?_
    rintro e w2 ⟨rfl, hb2⟩
    have T2 := Lib.hid (T1.out.trans (hb2.mono T1.out.size))
    clear hb2 T1
    go_wp2_with fail
    refine (M3.out _ T2.out).mono ?_
    rintro e w3 ⟨rfl, hb3⟩
    have T3 := Lib.hid (T2.out.trans (hb3.mono T2.out.size))
    clear hb3 T2
    obtain ⟨W1, W2, W3, W4, W5, W6, h1, h2, h3, h4, h5, h6, b6, va6, vb6, vc6⟩ := three_box z24 v24 w3 a b c HA.out HB.out HC.out
    have H1 := Lib.hid h1
    have H2 := Lib.hid h2
    have H3 := Lib.hid h3
    have H4 := Lib.hid h4
    have H5 := Lib.hid h5
    have H6 := Lib.hid h6
    have T6 := Lib.hid (T3.out.trans (b6.mono T3.out.size))
    obtain ⟨g1, hg1⟩ : ∃ g, w3.heap.size = g := ⟨_, rfl⟩
    obtain ⟨g2, hg2⟩ : ∃ g, g1 + 1 = g := ⟨_, rfl⟩
    obtain ⟨g3, hg3⟩ : ∃ g, g1 + 2 = g := ⟨_, rfl⟩
    rw [hg1] at H1 H2 H3 H4 H5 H6 va6 vb6 vc6
    rw [hg2] at H2 H5 vb6
    rw [hg3] at H3 H6 vc6
    have VA6 := Lib.hid va6
    have VB6 := Lib.hid vb6
    have VC6 := Lib.hid vc6
    clear h1 h2 h3 h4 h5 h6 b6 va6 vb6 vc6 T3 hg1 hg2 hg3
    go_wp2_with (first | refine wpList_alloc_arr rfl 24 rfl _ _ H1.out ?_ | refine wpList_alloc_arr rfl 24 rfl _ _ H2.out ?_ | refine wpList_alloc_arr rfl 24 rfl _ _ H3.out ?_ | refine wpList_store_arr rfl (.tmp 7) (.tmp 14) 24 rfl (.pointer (some ⟨g1, 0, none⟩)) (.agg (va a)) rfl rfl _ H4.out ?_ | refine wpList_store_arr rfl (.tmp 8) (.tmp 16) 24 rfl (.pointer (some ⟨g2, 0, none⟩)) (.agg (va b)) rfl rfl _ H5.out ?_ | refine wpList_store_arr rfl (.tmp 9) (.tmp 18) 24 rfl (.pointer (some ⟨g3, 0, none⟩)) (.agg (va c)) rfl rfl _ H6.out ?_)
    go_meet
    exact ⟨_, _, _, rfl, rfl, rfl, VA6.out, VB6.out, VC6.out, T6.out⟩
  case rest =>
    obtain ⟨g1, g2, g3, rfl, rfl, rfl, va6, vb6, vc6, t6⟩ := hcut
    have VA6 := Lib.hid va6
    have VB6 := Lib.hid vb6
    have VC6 := Lib.hid vc6
    have T6 := Lib.hid t6
    clear va6 vb6 vc6 t6 M1 M2 M3
    obtain ⟨W6, hW6⟩ : ∃ y, wc = y := ⟨_, rfl⟩
    rw [hW6] at VA6 VB6 VC6 T6 ⊢
    clear hW6 wc
    go_upto_region 2 with (fail)
    go_cut [10] from 19 (fun jv wx => ∃ g4, jv = .pointer (some ⟨g4, 0, none⟩) ∧ VAt 24 wx g4 j ∧ VAt 24 wx g1 a ∧ VAt 24 wx g2 b ∧ VAt 24 wx g3 c ∧ Below w.heap.size w wx)
    case first =>
      clear AW BS1 J1 BS2 J2 BS4 J4 BS5 J5 C1 C2 C3 MT MU K1 K2 K3 K4 K5 K6 HQ SA SB SK SD HS LJ LK LD EJ EA ED
      go_wp2_with (first | refine wpList_load_arr rfl (.tmp 7) 24 rfl (.pointer (some ⟨g1, 0, none⟩)) (.agg (va a)) rfl (LA.out _ _ VA6.out) ?_ | refine wpList_load_arr rfl (.tmp 8) 24 rfl (.pointer (some ⟨g2, 0, none⟩)) (.agg (va b)) rfl (LB.out _ _ VB6.out) ?_ | refine wpList_load_arr rfl (.tmp 9) 24 rfl (.pointer (some ⟨g3, 0, none⟩)) (.agg (va c)) rfl (LC.out _ _ VC6.out) ?_ | refine wpList_bslice rfl 60 3 _ #[(0, .agg (va a)), (1, .agg (va b)), (2, .agg (va c))] rfl rfl _ _ (BS3.out _) ?_)
      have N7 := Lib.hid (heap_alloc_new W6 (.cells (va abc) 24))
      have L7 := Lib.hid (vstep W6 (.cells (va abc) 24))
      refine (J3.out _ _ N7.out).mono ?_
      rintro e w7 ⟨rfl, hb7⟩
      have T7 := Lib.hid ((T6.out.trans (L7.out.mono T6.out.size)).trans (hb7.mono (T6.out.trans (L7.out.mono T6.out.size)).size))
      have VA7 := Lib.hid ((VA6.out.step L7.out).step hb7)
      have VB7 := Lib.hid ((VB6.out.step L7.out).step hb7)
      have VC7 := Lib.hid ((VC6.out.step L7.out).step hb7)
      clear hb7 N7 L7 VA6 VB6 VC6 T6
      obtain ⟨W8, W9, h8, h9, b9, vj9⟩ := one_box z24 v24 w7 j HJ.out
      have H8 := Lib.hid h8
      have H9 := Lib.hid h9
      obtain ⟨g4, hg4⟩ : ∃ g, w7.heap.size = g := ⟨_, rfl⟩
      rw [hg4] at H8 H9 vj9
      have T9 := Lib.hid (T7.out.trans (b9.mono T7.out.size))
      have VA := Lib.hid (VA7.out.step b9)
      have VB := Lib.hid (VB7.out.step b9)
      have VC := Lib.hid (VC7.out.step b9)
      have VJ := Lib.hid vj9
      clear h8 h9 b9 vj9 T7 VA7 VB7 VC7 hg4
      go_wp2_with (first | refine wpList_alloc_arr rfl 24 rfl _ _ H8.out ?_ | refine wpList_store_arr rfl (.tmp 10) (.tmp 23) 24 rfl (.pointer (some ⟨g4, 0, none⟩)) (.agg (va j)) rfl rfl _ H9.out ?_)
      go_meet
      exact ⟨_, rfl, VJ.out, VA.out, VB.out, VC.out, T9.out⟩
    case rest =>
      obtain ⟨g4, rfl, vj9, va9, vb9, vc9, t9⟩ := hcut
      have VA := Lib.hid va9
      have VB := Lib.hid vb9
      have VC := Lib.hid vc9
      have VJ := Lib.hid vj9
      have T9 := Lib.hid t9
      clear va9 vb9 vc9 vj9 t9 VA6 VB6 VC6 T6 BS3 J3
      obtain ⟨wr, hwr⟩ : ∃ y, wc = y := ⟨_, rfl⟩
      rw [hwr] at VA VB VC VJ T9 ⊢
      clear hwr wc
      go_upto_region 3 with (fail)
      go_cut [58] from 24 (fun bv wx => bv = .bool false ∧ VAt 24 wx g1 a ∧ VAt 24 wx g2 b ∧ VAt 24 wx g3 c ∧ Below w.heap.size w wx)
      case first =>
        clear AW BS5 J5 MT MU K1 K2 K3 K4 K5 K6 HQ SA SB SK SD HS LK LD ED
        have ej := EJ.out
        have ea := EA.out
        refine wp_region_held_drew (S := fun w' => Below wr.heap.size wr w') (by kernel_rfl) (Below.refl _ _).drew (fun hHeld => ?_)
        refine take_at (i := 0) 24 (.agg (va j)) rfl rfl (by kernel_rfl) (by kernel_rfl) (by kernel_rfl) (fun _ _ _ h => h) (yields_load (.tmp 10) g4 j HJ.out (fun w h => VJ.out.step h) rfl rfl rfl) hHeld ?_
        simp only [Act.put, List.setIfInBounds_toArray, List.set_cons_zero, List.set_cons_succ]
        refine take_at (i := 1) 25 (.agg (va c)) rfl rfl (by kernel_rfl) (by kernel_rfl) (by kernel_rfl) (fun _ _ _ h => h) (yields_load (.tmp 9) g3 c HC.out (fun w h => VC.out.step h) rfl rfl rfl) hHeld ?_
        simp only [Act.put, List.setIfInBounds_toArray, List.set_cons_zero, List.set_cons_succ]
        refine take_at (i := 2) 26 (.agg (va b)) rfl rfl (by kernel_rfl) (by kernel_rfl) (by kernel_rfl) (fun _ _ _ h => h) (yields_load (.tmp 8) g2 b HB.out (fun w h => VB.out.step h) rfl rfl rfl) hHeld ?_
        simp only [Act.put, List.setIfInBounds_toArray, List.set_cons_zero, List.set_cons_succ]
        refine take_at (i := 3) 27 (.agg (va a)) rfl rfl (by kernel_rfl) (by kernel_rfl) (by kernel_rfl) (fun _ _ _ h => h) (yields_load (.tmp 7) g1 a HA.out (fun w h => VA.out.step h) rfl rfl rfl) hHeld ?_
        simp only [Act.put, List.setIfInBounds_toArray, List.set_cons_zero, List.set_cons_succ]
        refine one_bslice (i := 4) 28 60 2 _ #[(0, .agg (va b)), (1, .agg (va a))] _ _ rfl rfl (by kernel_rfl) rfl rfl rfl (BS1.out _) (below_alloc hHeld _) (fun hH => ?_)
        clear hHeld
        have hHeld := hH
        clear hH
        simp only [Act.put, List.setIfInBounds_toArray, List.set_cons_zero, List.set_cons_succ]
        refine one_call (i := 5) 29 8 #[.slice (some ⟨wr.drew.heap.size, 0, none⟩) 2 2] rfl rfl (by kernel_rfl) rfl (by go_simp) ?_
        refine (J1.out _ _ (heap_alloc_new _ _)).mono ?_
        rintro e y5 ⟨rfl, hb3⟩
        refine ⟨_, rfl, hHeld.trans (hb3.mono hHeld.size), fun hH => ?_⟩
        clear hb3
        clear hHeld
        have hHeld := hH
        clear hH
        simp only [Act.put, List.setIfInBounds_toArray, List.set_cons_zero, List.set_cons_succ]
        refine one_bslice (i := 6) 30 60 2 _ #[(0, .agg (va c)), (1, .agg (va jba))] _ _ rfl rfl (by kernel_rfl) rfl rfl rfl (BS2.out _) (below_alloc hHeld _) (fun hH => ?_)
        clear hHeld
        have hHeld := hH
        clear hH
        simp only [Act.put, List.setIfInBounds_toArray, List.set_cons_zero, List.set_cons_succ]
        refine one_call (i := 7) 31 8 #[.slice (some ⟨y5.heap.size, 0, none⟩) 2 2] rfl rfl (by kernel_rfl) rfl (by go_simp) ?_
        refine (J2.out _ _ (heap_alloc_new _ _)).mono ?_
        rintro e y7 ⟨rfl, hb3⟩
        refine ⟨_, rfl, hHeld.trans (hb3.mono hHeld.size), fun hH => ?_⟩
        clear hb3
        clear hHeld
        have hHeld := hH
        clear hH
        simp only [Act.put, List.setIfInBounds_toArray, List.set_cons_zero, List.set_cons_succ]
        refine take_at (i := 8) 32 ?_ rfl rfl (by kernel_rfl) (by kernel_rfl) (by kernel_rfl) (fun _ _ _ h => h) (.inl ⟨rfl, ?_⟩) hHeld ?_
        rotate_left 1
        · intro w hSw; go_simp; try with_reducible rfl
        simp only [Act.put, List.setIfInBounds_toArray, List.set_cons_zero, List.set_cons_succ]
        refine take_at (i := 9) 33 ?_ rfl rfl (by kernel_rfl) (by kernel_rfl) (by kernel_rfl) (fun _ _ _ h => h) (.inl ⟨rfl, ?_⟩) hHeld ?_
        rotate_left 1
        · intro w hSw; go_simp; try with_reducible rfl
        simp only [Act.put, List.setIfInBounds_toArray, List.set_cons_zero, List.set_cons_succ]
        refine take_at (i := 10) 34 (.agg (va j)) rfl rfl (by kernel_rfl) (by kernel_rfl) (by kernel_rfl) (fun _ _ _ h => h) (yields_load (.tmp 10) g4 j HJ.out (fun w h => VJ.out.step h) rfl rfl rfl) hHeld ?_
        simp only [Act.put, List.setIfInBounds_toArray, List.set_cons_zero, List.set_cons_succ]
        refine take_at (i := 11) 35 (.agg (va a)) rfl rfl (by kernel_rfl) (by kernel_rfl) (by kernel_rfl) (fun _ _ _ h => h) (yields_load (.tmp 7) g1 a HA.out (fun w h => VA.out.step h) rfl rfl rfl) hHeld ?_
        simp only [Act.put, List.setIfInBounds_toArray, List.set_cons_zero, List.set_cons_succ]
        refine one_call (i := 12) 36 14 #[.agg (va j), .agg (va a)] rfl rfl (by kernel_rfl) rfl (by go_simp) ?_
        refine (C1.out _).mono ?_
        rintro e y12 ⟨rfl, hb3⟩
        refine ⟨_, rfl, hHeld.trans (hb3.mono hHeld.size), fun hH => ?_⟩
        clear hb3
        clear hHeld
        have hHeld := hH
        clear hH
        simp only [Act.put, List.setIfInBounds_toArray, List.set_cons_zero, List.set_cons_succ]
        refine take_at (i := 13) 37 ?_ rfl rfl (by kernel_rfl) (by kernel_rfl) (by kernel_rfl) (fun _ _ _ h => h) (.inl ⟨rfl, ?_⟩) hHeld ?_
        rotate_left 1
        · intro w hSw; go_simp; try with_reducible rfl
        simp only [Act.put, List.setIfInBounds_toArray, List.set_cons_zero, List.set_cons_succ]
        refine take_at (i := 14) 38 ?_ rfl rfl (by kernel_rfl) (by kernel_rfl) (by kernel_rfl) (fun _ _ _ h => h) (.inl ⟨rfl, ?_⟩) hHeld ?_
        rotate_left 1
        · intro w hSw; go_simp; try with_reducible rfl
        simp only [Act.put, List.setIfInBounds_toArray, List.set_cons_zero, List.set_cons_succ]
        refine take_at (i := 15) 39 ?_ rfl rfl (by kernel_rfl) (by kernel_rfl) (by kernel_rfl) (fun _ _ _ h => h) (.inl ⟨rfl, ?_⟩) hHeld ?_
        rotate_left 1
        · intro w hSw; go_simp; try with_reducible rfl
        simp only [Act.put, List.setIfInBounds_toArray, List.set_cons_zero, List.set_cons_succ]
        refine take_at (i := 16) 40 (.agg (va j)) rfl rfl (by kernel_rfl) (by kernel_rfl) (by kernel_rfl) (fun _ _ _ h => h) (yields_load (.tmp 10) g4 j HJ.out (fun w h => VJ.out.step h) rfl rfl rfl) hHeld ?_
        simp only [Act.put, List.setIfInBounds_toArray, List.set_cons_zero, List.set_cons_succ]
        refine take_at (i := 17) 41 (.agg (va b)) rfl rfl (by kernel_rfl) (by kernel_rfl) (by kernel_rfl) (fun _ _ _ h => h) (yields_load (.tmp 8) g2 b HB.out (fun w h => VB.out.step h) rfl rfl rfl) hHeld ?_
        simp only [Act.put, List.setIfInBounds_toArray, List.set_cons_zero, List.set_cons_succ]
        refine one_call (i := 18) 42 14 #[.agg (va j), .agg (va b)] rfl rfl (by kernel_rfl) rfl (by go_simp) ?_
        refine (C2.out _).mono ?_
        rintro e y18 ⟨rfl, hb3⟩
        refine ⟨_, rfl, hHeld.trans (hb3.mono hHeld.size), fun hH => ?_⟩
        clear hb3
        clear hHeld
        have hHeld := hH
        clear hH
        simp only [Act.put, List.setIfInBounds_toArray, List.set_cons_zero, List.set_cons_succ]
        refine take_at (i := 19) 43 ?_ rfl rfl (by kernel_rfl) (by kernel_rfl) (by kernel_rfl) (fun _ _ _ h => h) (.inl ⟨rfl, ?_⟩) hHeld ?_
        rotate_left 1
        · intro w hSw; go_simp; try with_reducible rfl
        simp only [Act.put, List.setIfInBounds_toArray, List.set_cons_zero, List.set_cons_succ]
        refine take_at (i := 20) 44 ?_ rfl rfl (by kernel_rfl) (by kernel_rfl) (by kernel_rfl) (fun _ _ _ h => h) (.inl ⟨rfl, ?_⟩) hHeld ?_
        rotate_left 1
        · intro w hSw; go_simp; try with_reducible rfl
        simp only [Act.put, List.setIfInBounds_toArray, List.set_cons_zero, List.set_cons_succ]
        refine take_at (i := 21) 45 ?_ rfl rfl (by kernel_rfl) (by kernel_rfl) (by kernel_rfl) (fun _ _ _ h => h) (.inl ⟨rfl, ?_⟩) hHeld ?_
        rotate_left 1
        · intro w hSw; go_simp; try with_reducible rfl
        simp only [Act.put, List.setIfInBounds_toArray, List.set_cons_zero, List.set_cons_succ]
        refine take_at (i := 22) 46 (.agg (va j)) rfl rfl (by kernel_rfl) (by kernel_rfl) (by kernel_rfl) (fun _ _ _ h => h) (yields_load (.tmp 10) g4 j HJ.out (fun w h => VJ.out.step h) rfl rfl rfl) hHeld ?_
        simp only [Act.put, List.setIfInBounds_toArray, List.set_cons_zero, List.set_cons_succ]
        refine take_at (i := 23) 47 (.agg (va c)) rfl rfl (by kernel_rfl) (by kernel_rfl) (by kernel_rfl) (fun _ _ _ h => h) (yields_load (.tmp 9) g3 c HC.out (fun w h => VC.out.step h) rfl rfl rfl) hHeld ?_
        simp only [Act.put, List.setIfInBounds_toArray, List.set_cons_zero, List.set_cons_succ]
        refine one_call (i := 24) 48 14 #[.agg (va j), .agg (va c)] rfl rfl (by kernel_rfl) rfl (by go_simp) ?_
        refine (C3.out _).mono ?_
        rintro e y24 ⟨rfl, hb3⟩
        refine ⟨_, rfl, hHeld.trans (hb3.mono hHeld.size), fun hH => ?_⟩
        clear hb3
        clear hHeld
        have hHeld := hH
        clear hH
        simp only [Act.put, List.setIfInBounds_toArray, List.set_cons_zero, List.set_cons_succ]
        refine take_at (i := 25) 49 ?_ rfl rfl (by kernel_rfl) (by kernel_rfl) (by kernel_rfl) (fun _ _ _ h => h) (.inl ⟨rfl, ?_⟩) hHeld ?_
        rotate_left 1
        · intro w hSw; go_simp; try with_reducible rfl
        simp only [Act.put, List.setIfInBounds_toArray, List.set_cons_zero, List.set_cons_succ]
        refine take_at (i := 26) 50 ?_ rfl rfl (by kernel_rfl) (by kernel_rfl) (by kernel_rfl) (fun _ _ _ h => h) (.inl ⟨rfl, ?_⟩) hHeld ?_
        rotate_left 1
        · intro w hSw; go_simp; try with_reducible rfl
        simp only [Act.put, List.setIfInBounds_toArray, List.set_cons_zero, List.set_cons_succ]
        refine take_at (i := 27) 51 ?_ rfl rfl (by kernel_rfl) (by kernel_rfl) (by kernel_rfl) (fun _ _ _ h => h) (.inl ⟨rfl, ?_⟩) hHeld ?_
        rotate_left 1
        · intro w hSw; go_simp; try with_reducible rfl
        simp only [Act.put, List.setIfInBounds_toArray, List.set_cons_zero, List.set_cons_succ]
        refine take_at (i := 28) 52 (.agg (va a)) rfl rfl (by kernel_rfl) (by kernel_rfl) (by kernel_rfl) (fun _ _ _ h => h) (yields_load (.tmp 7) g1 a HA.out (fun w h => VA.out.step h) rfl rfl rfl) hHeld ?_
        simp only [Act.put, List.setIfInBounds_toArray, List.set_cons_zero, List.set_cons_succ]
        refine take_at (i := 29) 53 (.agg (va a)) rfl rfl (by kernel_rfl) (by kernel_rfl) (by kernel_rfl) (fun _ _ _ h => h) (yields_load (.tmp 7) g1 a HA.out (fun w h => VA.out.step h) rfl rfl rfl) hHeld ?_
        simp only [Act.put, List.setIfInBounds_toArray, List.set_cons_zero, List.set_cons_succ]
        refine take_at (i := 32) 56 (.agg (va a)) rfl rfl (by kernel_rfl) (by kernel_rfl) (by kernel_rfl) (fun _ _ _ h => h) (yields_load (.tmp 7) g1 a HA.out (fun w h => VA.out.step h) rfl rfl rfl) hHeld ?_
        simp only [Act.put, List.setIfInBounds_toArray, List.set_cons_zero, List.set_cons_succ]
        refine one_bslice (i := 30) 54 60 2 _ #[(0, .agg (va a)), (1, .agg (va a))] _ _ rfl rfl (by kernel_rfl) rfl rfl rfl (BS4.out _) (below_alloc hHeld _) (fun hH => ?_)
        clear hHeld
        have hHeld := hH
        clear hH
        simp only [Act.put, List.setIfInBounds_toArray, List.set_cons_zero, List.set_cons_succ]
        refine one_call (i := 31) 55 8 #[.slice (some ⟨y24.heap.size, 0, none⟩) 2 2] rfl rfl (by kernel_rfl) rfl (by go_simp) ?_
        refine (J4.out _ _ (heap_alloc_new _ _)).mono ?_
        rintro e y31 ⟨rfl, hb3⟩
        refine ⟨_, rfl, hHeld.trans (hb3.mono hHeld.size), fun hH => ?_⟩
        clear hb3
        clear hHeld
        have hHeld := hH
        clear hH
        simp only [Act.put, List.setIfInBounds_toArray, List.set_cons_zero, List.set_cons_succ]
        refine take_at (i := 33) 57 ?_ rfl rfl (by kernel_rfl) (by kernel_rfl) (by kernel_rfl) (fun _ _ _ h => h) (.inl ⟨rfl, ?_⟩) hHeld ?_
        rotate_left 1
        · intro w hSw; go_simp; try with_reducible rfl
        simp only [Act.put, List.setIfInBounds_toArray, List.set_cons_zero, List.set_cons_succ]
        refine take_at (i := 34) 58 ?_ rfl rfl (by kernel_rfl) (by kernel_rfl) (by kernel_rfl) (fun _ _ _ h => h) (.inl ⟨rfl, ?_⟩) hHeld ?_
        rotate_left 1
        · intro w hSw; go_simp; try with_reducible rfl
        simp only [Act.put, List.setIfInBounds_toArray, List.set_cons_zero, List.set_cons_succ]
        refine wpAnyH_done (by kernel_rfl) ?_ _
        have T10 := Lib.hid (T9.out.trans (hHeld.mono T9.out.size))
        have VA10 := Lib.hid (VA.out.step hHeld)
        have VB10 := Lib.hid (VB.out.step hHeld)
        have VC10 := Lib.hid (VC.out.step hHeld)
        clear BS1 BS2 BS4 J1 J2 J4 C1 C2 C3 ej EJ ea EA LJ HJ VJ
        go_wp2_with fail
        go_meet
        exact ⟨rfl, VA10.out, VB10.out, VC10.out, T10.out⟩
      case rest =>
        obtain ⟨rfl, va9, vb9, vc9, t9⟩ := hcut
        have VA10 := Lib.hid va9
        have VB10 := Lib.hid vb9
        have VC10 := Lib.hid vc9
        have T10 := Lib.hid t9
        clear va9 vb9 vc9 t9 VA VB VC VJ T9 BS1 BS2 BS4 J1 J2 J4 C1 C2 C3 EJ EA LJ HJ
        go_upto_region 5 with (fail)
        go_cut [11, 12] from 59 (fun kv dv wx => ∃ gk gd, kv = .pointer (some ⟨gk, 0, none⟩) ∧ dv = .pointer (some ⟨gd, 0, none⟩) ∧ VAt 24 wx gk kk ∧ VAt 24 wx gd dd ∧ VAt 24 wx g1 a ∧ VAt 24 wx g2 b ∧ VAt 24 wx g3 c ∧ Below w.heap.size w wx)
        case first =>
          clear AW K1 K2 K3 K4 K5 K6 HQ SA SB SK SD HS LC LK LD MU ED HC
          obtain ⟨W0, hW0⟩ : ∃ y, wc = y := ⟨_, rfl⟩
          rw [hW0] at T10 VA10 VB10 VC10 ⊢
          clear hW0 wc
          refine wp_region_held_drew (S := fun w' => Below W0.heap.size W0 w') (by kernel_rfl) (Below.refl _ _).drew (fun hHeld => ?_)
          refine take_at (i := 0) 59 (.agg (va a)) rfl rfl (by kernel_rfl) (by kernel_rfl) (by kernel_rfl) (fun _ _ _ h => h) (yields_load (.tmp 7) g1 a HA.out (fun w h => VA10.out.step h) rfl rfl rfl) hHeld ?_
          simp only [Act.put, List.setIfInBounds_toArray, List.set_cons_zero, List.set_cons_succ]
          refine take_at (i := 1) 60 (.agg (va b)) rfl rfl (by kernel_rfl) (by kernel_rfl) (by kernel_rfl) (fun _ _ _ h => h) (yields_load (.tmp 8) g2 b HB.out (fun w h => VB10.out.step h) rfl rfl rfl) hHeld ?_
          simp only [Act.put, List.setIfInBounds_toArray, List.set_cons_zero, List.set_cons_succ]
          refine take_at (i := 4) 63 (.agg (va a)) rfl rfl (by kernel_rfl) (by kernel_rfl) (by kernel_rfl) (fun _ _ _ h => h) (yields_load (.tmp 7) g1 a HA.out (fun w h => VA10.out.step h) rfl rfl rfl) hHeld ?_
          simp only [Act.put, List.setIfInBounds_toArray, List.set_cons_zero, List.set_cons_succ]
          refine take_at (i := 5) 64 (.agg (va b)) rfl rfl (by kernel_rfl) (by kernel_rfl) (by kernel_rfl) (fun _ _ _ h => h) (yields_load (.tmp 8) g2 b HB.out (fun w h => VB10.out.step h) rfl rfl rfl) hHeld ?_
          simp only [Act.put, List.setIfInBounds_toArray, List.set_cons_zero, List.set_cons_succ]
          refine wpAnyH_ready (rs := [2, 7, 8]) (by kernel_rfl) (by simp) ?_
          refine br_bslice (i := 2) 61 60 2 _ #[(0, .agg (va a)), (1, .agg (va b))] _ _ rfl rfl rfl rfl rfl (BS5.out _) (below_alloc hHeld _) (fun hH => ?_) ?_
          · have hst := vstep W0.drew (.cells (va (a ++ b)) 24)
            have NS := heap_alloc_new W0.drew (.cells (va (a ++ b)) 24)
            have hHeld := hH
            obtain ⟨X_2, hX⟩ : ∃ y, (W0.drew.alloc (.cells (va (a ++ b)) 24)) = y := ⟨_, rfl⟩
            obtain ⟨gs, hgs⟩ : ∃ g, W0.drew.heap.size = g := ⟨_, rfl⟩
            rw [hX] at hHeld NS ⊢
            rw [hgs] at NS ⊢
            clear hX hgs hst hH
            simp only [Act.put, List.setIfInBounds_toArray, List.set_cons_zero, List.set_cons_succ]
            refine wpAnyH_ready (rs := [3, 7, 8]) (by kernel_rfl) (by simp) ?_
            refine br_call (i := 3) 62 8 #[.slice (some ⟨gs, 0, none⟩) 2 2] rfl rfl rfl (by go_simp) ((J5.out _ _ NS).mono ?_) ?_
            · rintro e X_3 ⟨rfl, hst⟩
              refine ⟨_, rfl, hHeld.trans (hst.mono hHeld.size), fun hH => ?_⟩
              have hHeld := hH
              clear hst NS hH
              simp only [Act.put, List.setIfInBounds_toArray, List.set_cons_zero, List.set_cons_succ]
              refine wpAnyH_ready (rs := [6, 7, 8]) (by kernel_rfl) (by simp) ?_
              refine br_call (i := 6) 65 10 #[.agg (va a), .agg (va b)] rfl rfl rfl (by go_simp) ((MT.out _).mono ?_) ?_
              · rintro e X_4 ⟨rfl, hst⟩
                refine ⟨_, rfl, hHeld.trans (hst.mono hHeld.size), fun hH => ?_⟩
                have hHeld := hH
                clear hst hH
                simp only [Act.put, List.setIfInBounds_toArray, List.set_cons_zero, List.set_cons_succ]
                refine wpAnyH_ready (rs := [7, 8]) (by kernel_rfl) (by simp) ?_
                obtain ⟨X_5_11, hal11, hst11, Vn11, _⟩ := boxed z24 X_4
                refine br_alloc (i := 7) 11 24 _ X_5_11 rfl rfl rfl rfl hal11 (hHeld.trans (hst11.mono hHeld.size)) (fun hH => ?_) ?_
                · have V11 := Vn11
                  have L11 := hHeld.size
                  have hHeld := hH
                  obtain ⟨g11, hg11⟩ : ∃ g, X_4.heap.size = g := ⟨_, rfl⟩
                  rw [hg11] at V11 L11 ⊢
                  clear hg11 hal11 hst11 Vn11 hH
                  simp only [Act.put, List.setIfInBounds_toArray, List.set_cons_zero, List.set_cons_succ]
                  refine wpAnyH_ready (rs := [8]) (by kernel_rfl) (by simp) ?_
                  obtain ⟨X_6_12, hal12, hst12, Vn12, _⟩ := boxed z24 X_5_11
                  refine br_alloc (i := 8) 12 24 _ X_6_12 rfl rfl rfl rfl hal12 (hHeld.trans (hst12.mono hHeld.size)) (fun hH => ?_) ?_
                  · have V12 := Vn12
                    have L12 := hHeld.size
                    have NE := Nat.ne_of_lt (lt_of_block V11)
                    have V11 := V11.step hst12
                    have hHeld := hH
                    obtain ⟨g12, hg12⟩ : ∃ g, X_5_11.heap.size = g := ⟨_, rfl⟩
                    rw [hg12] at V12 L12 NE ⊢
                    clear hg12 hal12 hst12 Vn12 hH
                    simp only [Act.put, List.setIfInBounds_toArray, List.set_cons_zero, List.set_cons_succ]
                    have hle11 : W0.heap.size ≤ g11 := L11
                    have hle12 : W0.heap.size ≤ g12 := L12
                    obtain ⟨X1, x1, x2, x3, x4, x5⟩ := filled v24 zs_len V11 kk HK.out
                    have B1 := x5 W0 hle11 hHeld
                    have V12' : VAt 24 X1 g12 zs := x3 _ _ (by have := NE; omega) V12
                    obtain ⟨X2, y1, y2, y3, y4, y5⟩ := filled v24 zs_len V12' dd HD.out
                    have B2 := y5 W0 hle12 B1
                    have V11' : VAt 24 X2 g11 kk := y3 _ _ (by have := NE; omega) x2
                    refine wpAnyH_ready (rs := [9]) (by kernel_rfl) (by simp) (br_store 24 (.tmp 11) (.tmp 62) (.pointer (some ⟨g11, 0, none⟩)) (.agg (va kk)) X1 rfl rfl rfl rfl rfl rfl x1 B1 (fun _ => ?_) AllReadyH.nil)
                    simp only [Act.put]
                    refine wpAnyH_ready (rs := [10]) (by kernel_rfl) (by simp) (br_store 24 (.tmp 12) (.tmp 65) (.pointer (some ⟨g12, 0, none⟩)) (.agg (va dd)) X2 rfl rfl rfl rfl rfl rfl y1 B2 (fun _ => ?_) AllReadyH.nil)
                    simp only [Act.put]
                    refine wpAnyH_done (by kernel_rfl) ?_ _
                    go_wp2_with fail
                    go_meet
                    exact ⟨_, _, rfl, rfl, V11', y2, VA10.out.step B2, VB10.out.step B2, VC10.out.step B2, T10.out.trans (B2.mono T10.out.size)⟩
                  exact AllReadyH.nil
                obtain ⟨X_5_12, hal12, hst12, Vn12, _⟩ := boxed z24 X_4
                refine br_alloc (i := 8) 12 24 _ X_5_12 rfl rfl rfl rfl hal12 (hHeld.trans (hst12.mono hHeld.size)) (fun hH => ?_) ?_
                · have V12 := Vn12
                  have L12 := hHeld.size
                  have hHeld := hH
                  obtain ⟨g12, hg12⟩ : ∃ g, X_4.heap.size = g := ⟨_, rfl⟩
                  rw [hg12] at V12 L12 ⊢
                  clear hg12 hal12 hst12 Vn12 hH
                  simp only [Act.put, List.setIfInBounds_toArray, List.set_cons_zero, List.set_cons_succ]
                  refine wpAnyH_ready (rs := [7]) (by kernel_rfl) (by simp) ?_
                  obtain ⟨X_6_11, hal11, hst11, Vn11, _⟩ := boxed z24 X_5_12
                  refine br_alloc (i := 7) 11 24 _ X_6_11 rfl rfl rfl rfl hal11 (hHeld.trans (hst11.mono hHeld.size)) (fun hH => ?_) ?_
                  · have V11 := Vn11
                    have L11 := hHeld.size
                    have NE := Nat.ne_of_lt (lt_of_block V12)
                    have V12 := V12.step hst11
                    have hHeld := hH
                    obtain ⟨g11, hg11⟩ : ∃ g, X_5_12.heap.size = g := ⟨_, rfl⟩
                    rw [hg11] at V11 L11 NE ⊢
                    clear hg11 hal11 hst11 Vn11 hH
                    simp only [Act.put, List.setIfInBounds_toArray, List.set_cons_zero, List.set_cons_succ]
                    have hle11 : W0.heap.size ≤ g11 := L11
                    have hle12 : W0.heap.size ≤ g12 := L12
                    obtain ⟨X1, x1, x2, x3, x4, x5⟩ := filled v24 zs_len V11 kk HK.out
                    have B1 := x5 W0 hle11 hHeld
                    have V12' : VAt 24 X1 g12 zs := x3 _ _ (by have := NE; omega) V12
                    obtain ⟨X2, y1, y2, y3, y4, y5⟩ := filled v24 zs_len V12' dd HD.out
                    have B2 := y5 W0 hle12 B1
                    have V11' : VAt 24 X2 g11 kk := y3 _ _ (by have := NE; omega) x2
                    refine wpAnyH_ready (rs := [9]) (by kernel_rfl) (by simp) (br_store 24 (.tmp 11) (.tmp 62) (.pointer (some ⟨g11, 0, none⟩)) (.agg (va kk)) X1 rfl rfl rfl rfl rfl rfl x1 B1 (fun _ => ?_) AllReadyH.nil)
                    simp only [Act.put]
                    refine wpAnyH_ready (rs := [10]) (by kernel_rfl) (by simp) (br_store 24 (.tmp 12) (.tmp 65) (.pointer (some ⟨g12, 0, none⟩)) (.agg (va dd)) X2 rfl rfl rfl rfl rfl rfl y1 B2 (fun _ => ?_) AllReadyH.nil)
                    simp only [Act.put]
                    refine wpAnyH_done (by kernel_rfl) ?_ _
                    go_wp2_with fail
                    go_meet
                    exact ⟨_, _, rfl, rfl, V11', y2, VA10.out.step B2, VB10.out.step B2, VC10.out.step B2, T10.out.trans (B2.mono T10.out.size)⟩
                  exact AllReadyH.nil
                exact AllReadyH.nil
              obtain ⟨X_4_11, hal11, hst11, Vn11, _⟩ := boxed z24 X_3
              refine br_alloc (i := 7) 11 24 _ X_4_11 rfl rfl rfl rfl hal11 (hHeld.trans (hst11.mono hHeld.size)) (fun hH => ?_) ?_
              · have V11 := Vn11
                have L11 := hHeld.size
                have hHeld := hH
                obtain ⟨g11, hg11⟩ : ∃ g, X_3.heap.size = g := ⟨_, rfl⟩
                rw [hg11] at V11 L11 ⊢
                clear hg11 hal11 hst11 Vn11 hH
                simp only [Act.put, List.setIfInBounds_toArray, List.set_cons_zero, List.set_cons_succ]
                refine wpAnyH_ready (rs := [6, 8]) (by kernel_rfl) (by simp) ?_
                refine br_call (i := 6) 65 10 #[.agg (va a), .agg (va b)] rfl rfl rfl (by go_simp) ((MT.out _).mono ?_) ?_
                · rintro e X_5 ⟨rfl, hst⟩
                  refine ⟨_, rfl, hHeld.trans (hst.mono hHeld.size), fun hH => ?_⟩
                  have V11 := V11.step hst
                  have hHeld := hH
                  clear hst hH
                  simp only [Act.put, List.setIfInBounds_toArray, List.set_cons_zero, List.set_cons_succ]
                  refine wpAnyH_ready (rs := [8]) (by kernel_rfl) (by simp) ?_
                  obtain ⟨X_6_12, hal12, hst12, Vn12, _⟩ := boxed z24 X_5
                  refine br_alloc (i := 8) 12 24 _ X_6_12 rfl rfl rfl rfl hal12 (hHeld.trans (hst12.mono hHeld.size)) (fun hH => ?_) ?_
                  · have V12 := Vn12
                    have L12 := hHeld.size
                    have NE := Nat.ne_of_lt (lt_of_block V11)
                    have V11 := V11.step hst12
                    have hHeld := hH
                    obtain ⟨g12, hg12⟩ : ∃ g, X_5.heap.size = g := ⟨_, rfl⟩
                    rw [hg12] at V12 L12 NE ⊢
                    clear hg12 hal12 hst12 Vn12 hH
                    simp only [Act.put, List.setIfInBounds_toArray, List.set_cons_zero, List.set_cons_succ]
                    have hle11 : W0.heap.size ≤ g11 := L11
                    have hle12 : W0.heap.size ≤ g12 := L12
                    obtain ⟨X1, x1, x2, x3, x4, x5⟩ := filled v24 zs_len V11 kk HK.out
                    have B1 := x5 W0 hle11 hHeld
                    have V12' : VAt 24 X1 g12 zs := x3 _ _ (by have := NE; omega) V12
                    obtain ⟨X2, y1, y2, y3, y4, y5⟩ := filled v24 zs_len V12' dd HD.out
                    have B2 := y5 W0 hle12 B1
                    have V11' : VAt 24 X2 g11 kk := y3 _ _ (by have := NE; omega) x2
                    refine wpAnyH_ready (rs := [9]) (by kernel_rfl) (by simp) (br_store 24 (.tmp 11) (.tmp 62) (.pointer (some ⟨g11, 0, none⟩)) (.agg (va kk)) X1 rfl rfl rfl rfl rfl rfl x1 B1 (fun _ => ?_) AllReadyH.nil)
                    simp only [Act.put]
                    refine wpAnyH_ready (rs := [10]) (by kernel_rfl) (by simp) (br_store 24 (.tmp 12) (.tmp 65) (.pointer (some ⟨g12, 0, none⟩)) (.agg (va dd)) X2 rfl rfl rfl rfl rfl rfl y1 B2 (fun _ => ?_) AllReadyH.nil)
                    simp only [Act.put]
                    refine wpAnyH_done (by kernel_rfl) ?_ _
                    go_wp2_with fail
                    go_meet
                    exact ⟨_, _, rfl, rfl, V11', y2, VA10.out.step B2, VB10.out.step B2, VC10.out.step B2, T10.out.trans (B2.mono T10.out.size)⟩
                  exact AllReadyH.nil
                obtain ⟨X_5_12, hal12, hst12, Vn12, _⟩ := boxed z24 X_4_11
                refine br_alloc (i := 8) 12 24 _ X_5_12 rfl rfl rfl rfl hal12 (hHeld.trans (hst12.mono hHeld.size)) (fun hH => ?_) ?_
                · have V12 := Vn12
                  have L12 := hHeld.size
                  have NE := Nat.ne_of_lt (lt_of_block V11)
                  have V11 := V11.step hst12
                  have hHeld := hH
                  obtain ⟨g12, hg12⟩ : ∃ g, X_4_11.heap.size = g := ⟨_, rfl⟩
                  rw [hg12] at V12 L12 NE ⊢
                  clear hg12 hal12 hst12 Vn12 hH
                  simp only [Act.put, List.setIfInBounds_toArray, List.set_cons_zero, List.set_cons_succ]
                  refine wpAnyH_ready (rs := [6]) (by kernel_rfl) (by simp) ?_
                  refine br_call (i := 6) 65 10 #[.agg (va a), .agg (va b)] rfl rfl rfl (by go_simp) ((MT.out _).mono ?_) ?_
                  · rintro e X_6 ⟨rfl, hst⟩
                    refine ⟨_, rfl, hHeld.trans (hst.mono hHeld.size), fun hH => ?_⟩
                    have V11 := V11.step hst
                    have V12 := V12.step hst
                    have hHeld := hH
                    clear hst hH
                    simp only [Act.put, List.setIfInBounds_toArray, List.set_cons_zero, List.set_cons_succ]
                    have hle11 : W0.heap.size ≤ g11 := L11
                    have hle12 : W0.heap.size ≤ g12 := L12
                    obtain ⟨X1, x1, x2, x3, x4, x5⟩ := filled v24 zs_len V11 kk HK.out
                    have B1 := x5 W0 hle11 hHeld
                    have V12' : VAt 24 X1 g12 zs := x3 _ _ (by have := NE; omega) V12
                    obtain ⟨X2, y1, y2, y3, y4, y5⟩ := filled v24 zs_len V12' dd HD.out
                    have B2 := y5 W0 hle12 B1
                    have V11' : VAt 24 X2 g11 kk := y3 _ _ (by have := NE; omega) x2
                    refine wpAnyH_ready (rs := [9]) (by kernel_rfl) (by simp) (br_store 24 (.tmp 11) (.tmp 62) (.pointer (some ⟨g11, 0, none⟩)) (.agg (va kk)) X1 rfl rfl rfl rfl rfl rfl x1 B1 (fun _ => ?_) AllReadyH.nil)
                    simp only [Act.put]
                    refine wpAnyH_ready (rs := [10]) (by kernel_rfl) (by simp) (br_store 24 (.tmp 12) (.tmp 65) (.pointer (some ⟨g12, 0, none⟩)) (.agg (va dd)) X2 rfl rfl rfl rfl rfl rfl y1 B2 (fun _ => ?_) AllReadyH.nil)
                    simp only [Act.put]
                    refine wpAnyH_done (by kernel_rfl) ?_ _
                    go_wp2_with fail
                    go_meet
                    exact ⟨_, _, rfl, rfl, V11', y2, VA10.out.step B2, VB10.out.step B2, VC10.out.step B2, T10.out.trans (B2.mono T10.out.size)⟩
                  exact AllReadyH.nil
                exact AllReadyH.nil
              obtain ⟨X_4_12, hal12, hst12, Vn12, _⟩ := boxed z24 X_3
              refine br_alloc (i := 8) 12 24 _ X_4_12 rfl rfl rfl rfl hal12 (hHeld.trans (hst12.mono hHeld.size)) (fun hH => ?_) ?_
              · have V12 := Vn12
                have L12 := hHeld.size
                have hHeld := hH
                obtain ⟨g12, hg12⟩ : ∃ g, X_3.heap.size = g := ⟨_, rfl⟩
                rw [hg12] at V12 L12 ⊢
                clear hg12 hal12 hst12 Vn12 hH
                simp only [Act.put, List.setIfInBounds_toArray, List.set_cons_zero, List.set_cons_succ]
                refine wpAnyH_ready (rs := [6, 7]) (by kernel_rfl) (by simp) ?_
                refine br_call (i := 6) 65 10 #[.agg (va a), .agg (va b)] rfl rfl rfl (by go_simp) ((MT.out _).mono ?_) ?_
                · rintro e X_5 ⟨rfl, hst⟩
                  refine ⟨_, rfl, hHeld.trans (hst.mono hHeld.size), fun hH => ?_⟩
                  have V12 := V12.step hst
                  have hHeld := hH
                  clear hst hH
                  simp only [Act.put, List.setIfInBounds_toArray, List.set_cons_zero, List.set_cons_succ]
                  refine wpAnyH_ready (rs := [7]) (by kernel_rfl) (by simp) ?_
                  obtain ⟨X_6_11, hal11, hst11, Vn11, _⟩ := boxed z24 X_5
                  refine br_alloc (i := 7) 11 24 _ X_6_11 rfl rfl rfl rfl hal11 (hHeld.trans (hst11.mono hHeld.size)) (fun hH => ?_) ?_
                  · have V11 := Vn11
                    have L11 := hHeld.size
                    have NE := Nat.ne_of_lt (lt_of_block V12)
                    have V12 := V12.step hst11
                    have hHeld := hH
                    obtain ⟨g11, hg11⟩ : ∃ g, X_5.heap.size = g := ⟨_, rfl⟩
                    rw [hg11] at V11 L11 NE ⊢
                    clear hg11 hal11 hst11 Vn11 hH
                    simp only [Act.put, List.setIfInBounds_toArray, List.set_cons_zero, List.set_cons_succ]
                    have hle11 : W0.heap.size ≤ g11 := L11
                    have hle12 : W0.heap.size ≤ g12 := L12
                    obtain ⟨X1, x1, x2, x3, x4, x5⟩ := filled v24 zs_len V11 kk HK.out
                    have B1 := x5 W0 hle11 hHeld
                    have V12' : VAt 24 X1 g12 zs := x3 _ _ (by have := NE; omega) V12
                    obtain ⟨X2, y1, y2, y3, y4, y5⟩ := filled v24 zs_len V12' dd HD.out
                    have B2 := y5 W0 hle12 B1
                    have V11' : VAt 24 X2 g11 kk := y3 _ _ (by have := NE; omega) x2
                    refine wpAnyH_ready (rs := [9]) (by kernel_rfl) (by simp) (br_store 24 (.tmp 11) (.tmp 62) (.pointer (some ⟨g11, 0, none⟩)) (.agg (va kk)) X1 rfl rfl rfl rfl rfl rfl x1 B1 (fun _ => ?_) AllReadyH.nil)
                    simp only [Act.put]
                    refine wpAnyH_ready (rs := [10]) (by kernel_rfl) (by simp) (br_store 24 (.tmp 12) (.tmp 65) (.pointer (some ⟨g12, 0, none⟩)) (.agg (va dd)) X2 rfl rfl rfl rfl rfl rfl y1 B2 (fun _ => ?_) AllReadyH.nil)
                    simp only [Act.put]
                    refine wpAnyH_done (by kernel_rfl) ?_ _
                    go_wp2_with fail
                    go_meet
                    exact ⟨_, _, rfl, rfl, V11', y2, VA10.out.step B2, VB10.out.step B2, VC10.out.step B2, T10.out.trans (B2.mono T10.out.size)⟩
                  exact AllReadyH.nil
                obtain ⟨X_5_11, hal11, hst11, Vn11, _⟩ := boxed z24 X_4_12
                refine br_alloc (i := 7) 11 24 _ X_5_11 rfl rfl rfl rfl hal11 (hHeld.trans (hst11.mono hHeld.size)) (fun hH => ?_) ?_
                · have V11 := Vn11
                  have L11 := hHeld.size
                  have NE := Nat.ne_of_lt (lt_of_block V12)
                  have V12 := V12.step hst11
                  have hHeld := hH
                  obtain ⟨g11, hg11⟩ : ∃ g, X_4_12.heap.size = g := ⟨_, rfl⟩
                  rw [hg11] at V11 L11 NE ⊢
                  clear hg11 hal11 hst11 Vn11 hH
                  simp only [Act.put, List.setIfInBounds_toArray, List.set_cons_zero, List.set_cons_succ]
                  refine wpAnyH_ready (rs := [6]) (by kernel_rfl) (by simp) ?_
                  refine br_call (i := 6) 65 10 #[.agg (va a), .agg (va b)] rfl rfl rfl (by go_simp) ((MT.out _).mono ?_) ?_
                  · rintro e X_6 ⟨rfl, hst⟩
                    refine ⟨_, rfl, hHeld.trans (hst.mono hHeld.size), fun hH => ?_⟩
                    have V11 := V11.step hst
                    have V12 := V12.step hst
                    have hHeld := hH
                    clear hst hH
                    simp only [Act.put, List.setIfInBounds_toArray, List.set_cons_zero, List.set_cons_succ]
                    have hle11 : W0.heap.size ≤ g11 := L11
                    have hle12 : W0.heap.size ≤ g12 := L12
                    obtain ⟨X1, x1, x2, x3, x4, x5⟩ := filled v24 zs_len V11 kk HK.out
                    have B1 := x5 W0 hle11 hHeld
                    have V12' : VAt 24 X1 g12 zs := x3 _ _ (by have := NE; omega) V12
                    obtain ⟨X2, y1, y2, y3, y4, y5⟩ := filled v24 zs_len V12' dd HD.out
                    have B2 := y5 W0 hle12 B1
                    have V11' : VAt 24 X2 g11 kk := y3 _ _ (by have := NE; omega) x2
                    refine wpAnyH_ready (rs := [9]) (by kernel_rfl) (by simp) (br_store 24 (.tmp 11) (.tmp 62) (.pointer (some ⟨g11, 0, none⟩)) (.agg (va kk)) X1 rfl rfl rfl rfl rfl rfl x1 B1 (fun _ => ?_) AllReadyH.nil)
                    simp only [Act.put]
                    refine wpAnyH_ready (rs := [10]) (by kernel_rfl) (by simp) (br_store 24 (.tmp 12) (.tmp 65) (.pointer (some ⟨g12, 0, none⟩)) (.agg (va dd)) X2 rfl rfl rfl rfl rfl rfl y1 B2 (fun _ => ?_) AllReadyH.nil)
                    simp only [Act.put]
                    refine wpAnyH_done (by kernel_rfl) ?_ _
                    go_wp2_with fail
                    go_meet
                    exact ⟨_, _, rfl, rfl, V11', y2, VA10.out.step B2, VB10.out.step B2, VC10.out.step B2, T10.out.trans (B2.mono T10.out.size)⟩
                  exact AllReadyH.nil
                exact AllReadyH.nil
              exact AllReadyH.nil
            obtain ⟨X_3_11, hal11, hst11, Vn11, _⟩ := boxed z24 X_2
            refine br_alloc (i := 7) 11 24 _ X_3_11 rfl rfl rfl rfl hal11 (hHeld.trans (hst11.mono hHeld.size)) (fun hH => ?_) ?_
            · have V11 := Vn11
              have L11 := hHeld.size
              have NS := (hst11.block _ (lt_of_block NS)).trans NS
              have hHeld := hH
              obtain ⟨g11, hg11⟩ : ∃ g, X_2.heap.size = g := ⟨_, rfl⟩
              rw [hg11] at V11 L11 ⊢
              clear hg11 hal11 hst11 Vn11 hH
              simp only [Act.put, List.setIfInBounds_toArray, List.set_cons_zero, List.set_cons_succ]
              refine wpAnyH_ready (rs := [3, 8]) (by kernel_rfl) (by simp) ?_
              refine br_call (i := 3) 62 8 #[.slice (some ⟨gs, 0, none⟩) 2 2] rfl rfl rfl (by go_simp) ((J5.out _ _ NS).mono ?_) ?_
              · rintro e X_4 ⟨rfl, hst⟩
                refine ⟨_, rfl, hHeld.trans (hst.mono hHeld.size), fun hH => ?_⟩
                have V11 := V11.step hst
                have hHeld := hH
                clear hst NS hH
                simp only [Act.put, List.setIfInBounds_toArray, List.set_cons_zero, List.set_cons_succ]
                refine wpAnyH_ready (rs := [6, 8]) (by kernel_rfl) (by simp) ?_
                refine br_call (i := 6) 65 10 #[.agg (va a), .agg (va b)] rfl rfl rfl (by go_simp) ((MT.out _).mono ?_) ?_
                · rintro e X_5 ⟨rfl, hst⟩
                  refine ⟨_, rfl, hHeld.trans (hst.mono hHeld.size), fun hH => ?_⟩
                  have V11 := V11.step hst
                  have hHeld := hH
                  clear hst hH
                  simp only [Act.put, List.setIfInBounds_toArray, List.set_cons_zero, List.set_cons_succ]
                  refine wpAnyH_ready (rs := [8]) (by kernel_rfl) (by simp) ?_
                  obtain ⟨X_6_12, hal12, hst12, Vn12, _⟩ := boxed z24 X_5
                  refine br_alloc (i := 8) 12 24 _ X_6_12 rfl rfl rfl rfl hal12 (hHeld.trans (hst12.mono hHeld.size)) (fun hH => ?_) ?_
                  · have V12 := Vn12
                    have L12 := hHeld.size
                    have NE := Nat.ne_of_lt (lt_of_block V11)
                    have V11 := V11.step hst12
                    have hHeld := hH
                    obtain ⟨g12, hg12⟩ : ∃ g, X_5.heap.size = g := ⟨_, rfl⟩
                    rw [hg12] at V12 L12 NE ⊢
                    clear hg12 hal12 hst12 Vn12 hH
                    simp only [Act.put, List.setIfInBounds_toArray, List.set_cons_zero, List.set_cons_succ]
                    have hle11 : W0.heap.size ≤ g11 := L11
                    have hle12 : W0.heap.size ≤ g12 := L12
                    obtain ⟨X1, x1, x2, x3, x4, x5⟩ := filled v24 zs_len V11 kk HK.out
                    have B1 := x5 W0 hle11 hHeld
                    have V12' : VAt 24 X1 g12 zs := x3 _ _ (by have := NE; omega) V12
                    obtain ⟨X2, y1, y2, y3, y4, y5⟩ := filled v24 zs_len V12' dd HD.out
                    have B2 := y5 W0 hle12 B1
                    have V11' : VAt 24 X2 g11 kk := y3 _ _ (by have := NE; omega) x2
                    refine wpAnyH_ready (rs := [9]) (by kernel_rfl) (by simp) (br_store 24 (.tmp 11) (.tmp 62) (.pointer (some ⟨g11, 0, none⟩)) (.agg (va kk)) X1 rfl rfl rfl rfl rfl rfl x1 B1 (fun _ => ?_) AllReadyH.nil)
                    simp only [Act.put]
                    refine wpAnyH_ready (rs := [10]) (by kernel_rfl) (by simp) (br_store 24 (.tmp 12) (.tmp 65) (.pointer (some ⟨g12, 0, none⟩)) (.agg (va dd)) X2 rfl rfl rfl rfl rfl rfl y1 B2 (fun _ => ?_) AllReadyH.nil)
                    simp only [Act.put]
                    refine wpAnyH_done (by kernel_rfl) ?_ _
                    go_wp2_with fail
                    go_meet
                    exact ⟨_, _, rfl, rfl, V11', y2, VA10.out.step B2, VB10.out.step B2, VC10.out.step B2, T10.out.trans (B2.mono T10.out.size)⟩
                  exact AllReadyH.nil
                obtain ⟨X_5_12, hal12, hst12, Vn12, _⟩ := boxed z24 X_4
                refine br_alloc (i := 8) 12 24 _ X_5_12 rfl rfl rfl rfl hal12 (hHeld.trans (hst12.mono hHeld.size)) (fun hH => ?_) ?_
                · have V12 := Vn12
                  have L12 := hHeld.size
                  have NE := Nat.ne_of_lt (lt_of_block V11)
                  have V11 := V11.step hst12
                  have hHeld := hH
                  obtain ⟨g12, hg12⟩ : ∃ g, X_4.heap.size = g := ⟨_, rfl⟩
                  rw [hg12] at V12 L12 NE ⊢
                  clear hg12 hal12 hst12 Vn12 hH
                  simp only [Act.put, List.setIfInBounds_toArray, List.set_cons_zero, List.set_cons_succ]
                  refine wpAnyH_ready (rs := [6]) (by kernel_rfl) (by simp) ?_
                  refine br_call (i := 6) 65 10 #[.agg (va a), .agg (va b)] rfl rfl rfl (by go_simp) ((MT.out _).mono ?_) ?_
                  · rintro e X_6 ⟨rfl, hst⟩
                    refine ⟨_, rfl, hHeld.trans (hst.mono hHeld.size), fun hH => ?_⟩
                    have V11 := V11.step hst
                    have V12 := V12.step hst
                    have hHeld := hH
                    clear hst hH
                    simp only [Act.put, List.setIfInBounds_toArray, List.set_cons_zero, List.set_cons_succ]
                    have hle11 : W0.heap.size ≤ g11 := L11
                    have hle12 : W0.heap.size ≤ g12 := L12
                    obtain ⟨X1, x1, x2, x3, x4, x5⟩ := filled v24 zs_len V11 kk HK.out
                    have B1 := x5 W0 hle11 hHeld
                    have V12' : VAt 24 X1 g12 zs := x3 _ _ (by have := NE; omega) V12
                    obtain ⟨X2, y1, y2, y3, y4, y5⟩ := filled v24 zs_len V12' dd HD.out
                    have B2 := y5 W0 hle12 B1
                    have V11' : VAt 24 X2 g11 kk := y3 _ _ (by have := NE; omega) x2
                    refine wpAnyH_ready (rs := [9]) (by kernel_rfl) (by simp) (br_store 24 (.tmp 11) (.tmp 62) (.pointer (some ⟨g11, 0, none⟩)) (.agg (va kk)) X1 rfl rfl rfl rfl rfl rfl x1 B1 (fun _ => ?_) AllReadyH.nil)
                    simp only [Act.put]
                    refine wpAnyH_ready (rs := [10]) (by kernel_rfl) (by simp) (br_store 24 (.tmp 12) (.tmp 65) (.pointer (some ⟨g12, 0, none⟩)) (.agg (va dd)) X2 rfl rfl rfl rfl rfl rfl y1 B2 (fun _ => ?_) AllReadyH.nil)
                    simp only [Act.put]
                    refine wpAnyH_done (by kernel_rfl) ?_ _
                    go_wp2_with fail
                    go_meet
                    exact ⟨_, _, rfl, rfl, V11', y2, VA10.out.step B2, VB10.out.step B2, VC10.out.step B2, T10.out.trans (B2.mono T10.out.size)⟩
                  exact AllReadyH.nil
                exact AllReadyH.nil
              obtain ⟨X_4_12, hal12, hst12, Vn12, _⟩ := boxed z24 X_3_11
              refine br_alloc (i := 8) 12 24 _ X_4_12 rfl rfl rfl rfl hal12 (hHeld.trans (hst12.mono hHeld.size)) (fun hH => ?_) ?_
              · have V12 := Vn12
                have L12 := hHeld.size
                have NE := Nat.ne_of_lt (lt_of_block V11)
                have V11 := V11.step hst12
                have NS := (hst12.block _ (lt_of_block NS)).trans NS
                have hHeld := hH
                obtain ⟨g12, hg12⟩ : ∃ g, X_3_11.heap.size = g := ⟨_, rfl⟩
                rw [hg12] at V12 L12 NE ⊢
                clear hg12 hal12 hst12 Vn12 hH
                simp only [Act.put, List.setIfInBounds_toArray, List.set_cons_zero, List.set_cons_succ]
                refine wpAnyH_ready (rs := [3]) (by kernel_rfl) (by simp) ?_
                refine br_call (i := 3) 62 8 #[.slice (some ⟨gs, 0, none⟩) 2 2] rfl rfl rfl (by go_simp) ((J5.out _ _ NS).mono ?_) ?_
                · rintro e X_5 ⟨rfl, hst⟩
                  refine ⟨_, rfl, hHeld.trans (hst.mono hHeld.size), fun hH => ?_⟩
                  have V11 := V11.step hst
                  have V12 := V12.step hst
                  have hHeld := hH
                  clear hst NS hH
                  simp only [Act.put, List.setIfInBounds_toArray, List.set_cons_zero, List.set_cons_succ]
                  refine wpAnyH_ready (rs := [6]) (by kernel_rfl) (by simp) ?_
                  refine br_call (i := 6) 65 10 #[.agg (va a), .agg (va b)] rfl rfl rfl (by go_simp) ((MT.out _).mono ?_) ?_
                  · rintro e X_6 ⟨rfl, hst⟩
                    refine ⟨_, rfl, hHeld.trans (hst.mono hHeld.size), fun hH => ?_⟩
                    have V11 := V11.step hst
                    have V12 := V12.step hst
                    have hHeld := hH
                    clear hst hH
                    simp only [Act.put, List.setIfInBounds_toArray, List.set_cons_zero, List.set_cons_succ]
                    have hle11 : W0.heap.size ≤ g11 := L11
                    have hle12 : W0.heap.size ≤ g12 := L12
                    obtain ⟨X1, x1, x2, x3, x4, x5⟩ := filled v24 zs_len V11 kk HK.out
                    have B1 := x5 W0 hle11 hHeld
                    have V12' : VAt 24 X1 g12 zs := x3 _ _ (by have := NE; omega) V12
                    obtain ⟨X2, y1, y2, y3, y4, y5⟩ := filled v24 zs_len V12' dd HD.out
                    have B2 := y5 W0 hle12 B1
                    have V11' : VAt 24 X2 g11 kk := y3 _ _ (by have := NE; omega) x2
                    refine wpAnyH_ready (rs := [9]) (by kernel_rfl) (by simp) (br_store 24 (.tmp 11) (.tmp 62) (.pointer (some ⟨g11, 0, none⟩)) (.agg (va kk)) X1 rfl rfl rfl rfl rfl rfl x1 B1 (fun _ => ?_) AllReadyH.nil)
                    simp only [Act.put]
                    refine wpAnyH_ready (rs := [10]) (by kernel_rfl) (by simp) (br_store 24 (.tmp 12) (.tmp 65) (.pointer (some ⟨g12, 0, none⟩)) (.agg (va dd)) X2 rfl rfl rfl rfl rfl rfl y1 B2 (fun _ => ?_) AllReadyH.nil)
                    simp only [Act.put]
                    refine wpAnyH_done (by kernel_rfl) ?_ _
                    go_wp2_with fail
                    go_meet
                    exact ⟨_, _, rfl, rfl, V11', y2, VA10.out.step B2, VB10.out.step B2, VC10.out.step B2, T10.out.trans (B2.mono T10.out.size)⟩
                  exact AllReadyH.nil
                exact AllReadyH.nil
              exact AllReadyH.nil
            obtain ⟨X_3_12, hal12, hst12, Vn12, _⟩ := boxed z24 X_2
            refine br_alloc (i := 8) 12 24 _ X_3_12 rfl rfl rfl rfl hal12 (hHeld.trans (hst12.mono hHeld.size)) (fun hH => ?_) ?_
            · have V12 := Vn12
              have L12 := hHeld.size
              have NS := (hst12.block _ (lt_of_block NS)).trans NS
              have hHeld := hH
              obtain ⟨g12, hg12⟩ : ∃ g, X_2.heap.size = g := ⟨_, rfl⟩
              rw [hg12] at V12 L12 ⊢
              clear hg12 hal12 hst12 Vn12 hH
              simp only [Act.put, List.setIfInBounds_toArray, List.set_cons_zero, List.set_cons_succ]
              refine wpAnyH_ready (rs := [3, 7]) (by kernel_rfl) (by simp) ?_
              refine br_call (i := 3) 62 8 #[.slice (some ⟨gs, 0, none⟩) 2 2] rfl rfl rfl (by go_simp) ((J5.out _ _ NS).mono ?_) ?_
              · rintro e X_4 ⟨rfl, hst⟩
                refine ⟨_, rfl, hHeld.trans (hst.mono hHeld.size), fun hH => ?_⟩
                have V12 := V12.step hst
                have hHeld := hH
                clear hst NS hH
                simp only [Act.put, List.setIfInBounds_toArray, List.set_cons_zero, List.set_cons_succ]
                refine wpAnyH_ready (rs := [6, 7]) (by kernel_rfl) (by simp) ?_
                refine br_call (i := 6) 65 10 #[.agg (va a), .agg (va b)] rfl rfl rfl (by go_simp) ((MT.out _).mono ?_) ?_
                · rintro e X_5 ⟨rfl, hst⟩
                  refine ⟨_, rfl, hHeld.trans (hst.mono hHeld.size), fun hH => ?_⟩
                  have V12 := V12.step hst
                  have hHeld := hH
                  clear hst hH
                  simp only [Act.put, List.setIfInBounds_toArray, List.set_cons_zero, List.set_cons_succ]
                  refine wpAnyH_ready (rs := [7]) (by kernel_rfl) (by simp) ?_
                  obtain ⟨X_6_11, hal11, hst11, Vn11, _⟩ := boxed z24 X_5
                  refine br_alloc (i := 7) 11 24 _ X_6_11 rfl rfl rfl rfl hal11 (hHeld.trans (hst11.mono hHeld.size)) (fun hH => ?_) ?_
                  · have V11 := Vn11
                    have L11 := hHeld.size
                    have NE := Nat.ne_of_lt (lt_of_block V12)
                    have V12 := V12.step hst11
                    have hHeld := hH
                    obtain ⟨g11, hg11⟩ : ∃ g, X_5.heap.size = g := ⟨_, rfl⟩
                    rw [hg11] at V11 L11 NE ⊢
                    clear hg11 hal11 hst11 Vn11 hH
                    simp only [Act.put, List.setIfInBounds_toArray, List.set_cons_zero, List.set_cons_succ]
                    have hle11 : W0.heap.size ≤ g11 := L11
                    have hle12 : W0.heap.size ≤ g12 := L12
                    obtain ⟨X1, x1, x2, x3, x4, x5⟩ := filled v24 zs_len V11 kk HK.out
                    have B1 := x5 W0 hle11 hHeld
                    have V12' : VAt 24 X1 g12 zs := x3 _ _ (by have := NE; omega) V12
                    obtain ⟨X2, y1, y2, y3, y4, y5⟩ := filled v24 zs_len V12' dd HD.out
                    have B2 := y5 W0 hle12 B1
                    have V11' : VAt 24 X2 g11 kk := y3 _ _ (by have := NE; omega) x2
                    refine wpAnyH_ready (rs := [9]) (by kernel_rfl) (by simp) (br_store 24 (.tmp 11) (.tmp 62) (.pointer (some ⟨g11, 0, none⟩)) (.agg (va kk)) X1 rfl rfl rfl rfl rfl rfl x1 B1 (fun _ => ?_) AllReadyH.nil)
                    simp only [Act.put]
                    refine wpAnyH_ready (rs := [10]) (by kernel_rfl) (by simp) (br_store 24 (.tmp 12) (.tmp 65) (.pointer (some ⟨g12, 0, none⟩)) (.agg (va dd)) X2 rfl rfl rfl rfl rfl rfl y1 B2 (fun _ => ?_) AllReadyH.nil)
                    simp only [Act.put]
                    refine wpAnyH_done (by kernel_rfl) ?_ _
                    go_wp2_with fail
                    go_meet
                    exact ⟨_, _, rfl, rfl, V11', y2, VA10.out.step B2, VB10.out.step B2, VC10.out.step B2, T10.out.trans (B2.mono T10.out.size)⟩
                  exact AllReadyH.nil
                obtain ⟨X_5_11, hal11, hst11, Vn11, _⟩ := boxed z24 X_4
                refine br_alloc (i := 7) 11 24 _ X_5_11 rfl rfl rfl rfl hal11 (hHeld.trans (hst11.mono hHeld.size)) (fun hH => ?_) ?_
                · have V11 := Vn11
                  have L11 := hHeld.size
                  have NE := Nat.ne_of_lt (lt_of_block V12)
                  have V12 := V12.step hst11
                  have hHeld := hH
                  obtain ⟨g11, hg11⟩ : ∃ g, X_4.heap.size = g := ⟨_, rfl⟩
                  rw [hg11] at V11 L11 NE ⊢
                  clear hg11 hal11 hst11 Vn11 hH
                  simp only [Act.put, List.setIfInBounds_toArray, List.set_cons_zero, List.set_cons_succ]
                  refine wpAnyH_ready (rs := [6]) (by kernel_rfl) (by simp) ?_
                  refine br_call (i := 6) 65 10 #[.agg (va a), .agg (va b)] rfl rfl rfl (by go_simp) ((MT.out _).mono ?_) ?_
                  · rintro e X_6 ⟨rfl, hst⟩
                    refine ⟨_, rfl, hHeld.trans (hst.mono hHeld.size), fun hH => ?_⟩
                    have V11 := V11.step hst
                    have V12 := V12.step hst
                    have hHeld := hH
                    clear hst hH
                    simp only [Act.put, List.setIfInBounds_toArray, List.set_cons_zero, List.set_cons_succ]
                    have hle11 : W0.heap.size ≤ g11 := L11
                    have hle12 : W0.heap.size ≤ g12 := L12
                    obtain ⟨X1, x1, x2, x3, x4, x5⟩ := filled v24 zs_len V11 kk HK.out
                    have B1 := x5 W0 hle11 hHeld
                    have V12' : VAt 24 X1 g12 zs := x3 _ _ (by have := NE; omega) V12
                    obtain ⟨X2, y1, y2, y3, y4, y5⟩ := filled v24 zs_len V12' dd HD.out
                    have B2 := y5 W0 hle12 B1
                    have V11' : VAt 24 X2 g11 kk := y3 _ _ (by have := NE; omega) x2
                    refine wpAnyH_ready (rs := [9]) (by kernel_rfl) (by simp) (br_store 24 (.tmp 11) (.tmp 62) (.pointer (some ⟨g11, 0, none⟩)) (.agg (va kk)) X1 rfl rfl rfl rfl rfl rfl x1 B1 (fun _ => ?_) AllReadyH.nil)
                    simp only [Act.put]
                    refine wpAnyH_ready (rs := [10]) (by kernel_rfl) (by simp) (br_store 24 (.tmp 12) (.tmp 65) (.pointer (some ⟨g12, 0, none⟩)) (.agg (va dd)) X2 rfl rfl rfl rfl rfl rfl y1 B2 (fun _ => ?_) AllReadyH.nil)
                    simp only [Act.put]
                    refine wpAnyH_done (by kernel_rfl) ?_ _
                    go_wp2_with fail
                    go_meet
                    exact ⟨_, _, rfl, rfl, V11', y2, VA10.out.step B2, VB10.out.step B2, VC10.out.step B2, T10.out.trans (B2.mono T10.out.size)⟩
                  exact AllReadyH.nil
                exact AllReadyH.nil
              obtain ⟨X_4_11, hal11, hst11, Vn11, _⟩ := boxed z24 X_3_12
              refine br_alloc (i := 7) 11 24 _ X_4_11 rfl rfl rfl rfl hal11 (hHeld.trans (hst11.mono hHeld.size)) (fun hH => ?_) ?_
              · have V11 := Vn11
                have L11 := hHeld.size
                have NE := Nat.ne_of_lt (lt_of_block V12)
                have V12 := V12.step hst11
                have NS := (hst11.block _ (lt_of_block NS)).trans NS
                have hHeld := hH
                obtain ⟨g11, hg11⟩ : ∃ g, X_3_12.heap.size = g := ⟨_, rfl⟩
                rw [hg11] at V11 L11 NE ⊢
                clear hg11 hal11 hst11 Vn11 hH
                simp only [Act.put, List.setIfInBounds_toArray, List.set_cons_zero, List.set_cons_succ]
                refine wpAnyH_ready (rs := [3]) (by kernel_rfl) (by simp) ?_
                refine br_call (i := 3) 62 8 #[.slice (some ⟨gs, 0, none⟩) 2 2] rfl rfl rfl (by go_simp) ((J5.out _ _ NS).mono ?_) ?_
                · rintro e X_5 ⟨rfl, hst⟩
                  refine ⟨_, rfl, hHeld.trans (hst.mono hHeld.size), fun hH => ?_⟩
                  have V11 := V11.step hst
                  have V12 := V12.step hst
                  have hHeld := hH
                  clear hst NS hH
                  simp only [Act.put, List.setIfInBounds_toArray, List.set_cons_zero, List.set_cons_succ]
                  refine wpAnyH_ready (rs := [6]) (by kernel_rfl) (by simp) ?_
                  refine br_call (i := 6) 65 10 #[.agg (va a), .agg (va b)] rfl rfl rfl (by go_simp) ((MT.out _).mono ?_) ?_
                  · rintro e X_6 ⟨rfl, hst⟩
                    refine ⟨_, rfl, hHeld.trans (hst.mono hHeld.size), fun hH => ?_⟩
                    have V11 := V11.step hst
                    have V12 := V12.step hst
                    have hHeld := hH
                    clear hst hH
                    simp only [Act.put, List.setIfInBounds_toArray, List.set_cons_zero, List.set_cons_succ]
                    have hle11 : W0.heap.size ≤ g11 := L11
                    have hle12 : W0.heap.size ≤ g12 := L12
                    obtain ⟨X1, x1, x2, x3, x4, x5⟩ := filled v24 zs_len V11 kk HK.out
                    have B1 := x5 W0 hle11 hHeld
                    have V12' : VAt 24 X1 g12 zs := x3 _ _ (by have := NE; omega) V12
                    obtain ⟨X2, y1, y2, y3, y4, y5⟩ := filled v24 zs_len V12' dd HD.out
                    have B2 := y5 W0 hle12 B1
                    have V11' : VAt 24 X2 g11 kk := y3 _ _ (by have := NE; omega) x2
                    refine wpAnyH_ready (rs := [9]) (by kernel_rfl) (by simp) (br_store 24 (.tmp 11) (.tmp 62) (.pointer (some ⟨g11, 0, none⟩)) (.agg (va kk)) X1 rfl rfl rfl rfl rfl rfl x1 B1 (fun _ => ?_) AllReadyH.nil)
                    simp only [Act.put]
                    refine wpAnyH_ready (rs := [10]) (by kernel_rfl) (by simp) (br_store 24 (.tmp 12) (.tmp 65) (.pointer (some ⟨g12, 0, none⟩)) (.agg (va dd)) X2 rfl rfl rfl rfl rfl rfl y1 B2 (fun _ => ?_) AllReadyH.nil)
                    simp only [Act.put]
                    refine wpAnyH_done (by kernel_rfl) ?_ _
                    go_wp2_with fail
                    go_meet
                    exact ⟨_, _, rfl, rfl, V11', y2, VA10.out.step B2, VB10.out.step B2, VC10.out.step B2, T10.out.trans (B2.mono T10.out.size)⟩
                  exact AllReadyH.nil
                exact AllReadyH.nil
              exact AllReadyH.nil
            exact AllReadyH.nil
          obtain ⟨X_2_11, hal11, hst11, Vn11, _⟩ := boxed z24 W0.drew
          refine br_alloc (i := 7) 11 24 _ X_2_11 rfl rfl rfl rfl hal11 (hHeld.trans (hst11.mono hHeld.size)) (fun hH => ?_) ?_
          · have V11 := Vn11
            have L11 := hHeld.size
            have hHeld := hH
            obtain ⟨g11, hg11⟩ : ∃ g, W0.drew.heap.size = g := ⟨_, rfl⟩
            rw [hg11] at V11 L11 ⊢
            clear hg11 hal11 hst11 Vn11 hH
            simp only [Act.put, List.setIfInBounds_toArray, List.set_cons_zero, List.set_cons_succ]
            refine wpAnyH_ready (rs := [2, 8]) (by kernel_rfl) (by simp) ?_
            refine br_bslice (i := 2) 61 60 2 _ #[(0, .agg (va a)), (1, .agg (va b))] _ _ rfl rfl rfl rfl rfl (BS5.out _) (below_alloc hHeld _) (fun hH => ?_) ?_
            · have hst := vstep X_2_11 (.cells (va (a ++ b)) 24)
              have V11 := V11.step hst
              have NS := heap_alloc_new X_2_11 (.cells (va (a ++ b)) 24)
              have hHeld := hH
              obtain ⟨X_3, hX⟩ : ∃ y, (X_2_11.alloc (.cells (va (a ++ b)) 24)) = y := ⟨_, rfl⟩
              obtain ⟨gs, hgs⟩ : ∃ g, X_2_11.heap.size = g := ⟨_, rfl⟩
              rw [hX] at hHeld NS V11 ⊢
              rw [hgs] at NS ⊢
              clear hX hgs hst hH
              simp only [Act.put, List.setIfInBounds_toArray, List.set_cons_zero, List.set_cons_succ]
              refine wpAnyH_ready (rs := [3, 8]) (by kernel_rfl) (by simp) ?_
              refine br_call (i := 3) 62 8 #[.slice (some ⟨gs, 0, none⟩) 2 2] rfl rfl rfl (by go_simp) ((J5.out _ _ NS).mono ?_) ?_
              · rintro e X_4 ⟨rfl, hst⟩
                refine ⟨_, rfl, hHeld.trans (hst.mono hHeld.size), fun hH => ?_⟩
                have V11 := V11.step hst
                have hHeld := hH
                clear hst NS hH
                simp only [Act.put, List.setIfInBounds_toArray, List.set_cons_zero, List.set_cons_succ]
                refine wpAnyH_ready (rs := [6, 8]) (by kernel_rfl) (by simp) ?_
                refine br_call (i := 6) 65 10 #[.agg (va a), .agg (va b)] rfl rfl rfl (by go_simp) ((MT.out _).mono ?_) ?_
                · rintro e X_5 ⟨rfl, hst⟩
                  refine ⟨_, rfl, hHeld.trans (hst.mono hHeld.size), fun hH => ?_⟩
                  have V11 := V11.step hst
                  have hHeld := hH
                  clear hst hH
                  simp only [Act.put, List.setIfInBounds_toArray, List.set_cons_zero, List.set_cons_succ]
                  refine wpAnyH_ready (rs := [8]) (by kernel_rfl) (by simp) ?_
                  obtain ⟨X_6_12, hal12, hst12, Vn12, _⟩ := boxed z24 X_5
                  refine br_alloc (i := 8) 12 24 _ X_6_12 rfl rfl rfl rfl hal12 (hHeld.trans (hst12.mono hHeld.size)) (fun hH => ?_) ?_
                  · have V12 := Vn12
                    have L12 := hHeld.size
                    have NE := Nat.ne_of_lt (lt_of_block V11)
                    have V11 := V11.step hst12
                    have hHeld := hH
                    obtain ⟨g12, hg12⟩ : ∃ g, X_5.heap.size = g := ⟨_, rfl⟩
                    rw [hg12] at V12 L12 NE ⊢
                    clear hg12 hal12 hst12 Vn12 hH
                    simp only [Act.put, List.setIfInBounds_toArray, List.set_cons_zero, List.set_cons_succ]
                    have hle11 : W0.heap.size ≤ g11 := L11
                    have hle12 : W0.heap.size ≤ g12 := L12
                    obtain ⟨X1, x1, x2, x3, x4, x5⟩ := filled v24 zs_len V11 kk HK.out
                    have B1 := x5 W0 hle11 hHeld
                    have V12' : VAt 24 X1 g12 zs := x3 _ _ (by have := NE; omega) V12
                    obtain ⟨X2, y1, y2, y3, y4, y5⟩ := filled v24 zs_len V12' dd HD.out
                    have B2 := y5 W0 hle12 B1
                    have V11' : VAt 24 X2 g11 kk := y3 _ _ (by have := NE; omega) x2
                    refine wpAnyH_ready (rs := [9]) (by kernel_rfl) (by simp) (br_store 24 (.tmp 11) (.tmp 62) (.pointer (some ⟨g11, 0, none⟩)) (.agg (va kk)) X1 rfl rfl rfl rfl rfl rfl x1 B1 (fun _ => ?_) AllReadyH.nil)
                    simp only [Act.put]
                    refine wpAnyH_ready (rs := [10]) (by kernel_rfl) (by simp) (br_store 24 (.tmp 12) (.tmp 65) (.pointer (some ⟨g12, 0, none⟩)) (.agg (va dd)) X2 rfl rfl rfl rfl rfl rfl y1 B2 (fun _ => ?_) AllReadyH.nil)
                    simp only [Act.put]
                    refine wpAnyH_done (by kernel_rfl) ?_ _
                    go_wp2_with fail
                    go_meet
                    exact ⟨_, _, rfl, rfl, V11', y2, VA10.out.step B2, VB10.out.step B2, VC10.out.step B2, T10.out.trans (B2.mono T10.out.size)⟩
                  exact AllReadyH.nil
                obtain ⟨X_5_12, hal12, hst12, Vn12, _⟩ := boxed z24 X_4
                refine br_alloc (i := 8) 12 24 _ X_5_12 rfl rfl rfl rfl hal12 (hHeld.trans (hst12.mono hHeld.size)) (fun hH => ?_) ?_
                · have V12 := Vn12
                  have L12 := hHeld.size
                  have NE := Nat.ne_of_lt (lt_of_block V11)
                  have V11 := V11.step hst12
                  have hHeld := hH
                  obtain ⟨g12, hg12⟩ : ∃ g, X_4.heap.size = g := ⟨_, rfl⟩
                  rw [hg12] at V12 L12 NE ⊢
                  clear hg12 hal12 hst12 Vn12 hH
                  simp only [Act.put, List.setIfInBounds_toArray, List.set_cons_zero, List.set_cons_succ]
                  refine wpAnyH_ready (rs := [6]) (by kernel_rfl) (by simp) ?_
                  refine br_call (i := 6) 65 10 #[.agg (va a), .agg (va b)] rfl rfl rfl (by go_simp) ((MT.out _).mono ?_) ?_
                  · rintro e X_6 ⟨rfl, hst⟩
                    refine ⟨_, rfl, hHeld.trans (hst.mono hHeld.size), fun hH => ?_⟩
                    have V11 := V11.step hst
                    have V12 := V12.step hst
                    have hHeld := hH
                    clear hst hH
                    simp only [Act.put, List.setIfInBounds_toArray, List.set_cons_zero, List.set_cons_succ]
                    have hle11 : W0.heap.size ≤ g11 := L11
                    have hle12 : W0.heap.size ≤ g12 := L12
                    obtain ⟨X1, x1, x2, x3, x4, x5⟩ := filled v24 zs_len V11 kk HK.out
                    have B1 := x5 W0 hle11 hHeld
                    have V12' : VAt 24 X1 g12 zs := x3 _ _ (by have := NE; omega) V12
                    obtain ⟨X2, y1, y2, y3, y4, y5⟩ := filled v24 zs_len V12' dd HD.out
                    have B2 := y5 W0 hle12 B1
                    have V11' : VAt 24 X2 g11 kk := y3 _ _ (by have := NE; omega) x2
                    refine wpAnyH_ready (rs := [9]) (by kernel_rfl) (by simp) (br_store 24 (.tmp 11) (.tmp 62) (.pointer (some ⟨g11, 0, none⟩)) (.agg (va kk)) X1 rfl rfl rfl rfl rfl rfl x1 B1 (fun _ => ?_) AllReadyH.nil)
                    simp only [Act.put]
                    refine wpAnyH_ready (rs := [10]) (by kernel_rfl) (by simp) (br_store 24 (.tmp 12) (.tmp 65) (.pointer (some ⟨g12, 0, none⟩)) (.agg (va dd)) X2 rfl rfl rfl rfl rfl rfl y1 B2 (fun _ => ?_) AllReadyH.nil)
                    simp only [Act.put]
                    refine wpAnyH_done (by kernel_rfl) ?_ _
                    go_wp2_with fail
                    go_meet
                    exact ⟨_, _, rfl, rfl, V11', y2, VA10.out.step B2, VB10.out.step B2, VC10.out.step B2, T10.out.trans (B2.mono T10.out.size)⟩
                  exact AllReadyH.nil
                exact AllReadyH.nil
              obtain ⟨X_4_12, hal12, hst12, Vn12, _⟩ := boxed z24 X_3
              refine br_alloc (i := 8) 12 24 _ X_4_12 rfl rfl rfl rfl hal12 (hHeld.trans (hst12.mono hHeld.size)) (fun hH => ?_) ?_
              · have V12 := Vn12
                have L12 := hHeld.size
                have NE := Nat.ne_of_lt (lt_of_block V11)
                have V11 := V11.step hst12
                have NS := (hst12.block _ (lt_of_block NS)).trans NS
                have hHeld := hH
                obtain ⟨g12, hg12⟩ : ∃ g, X_3.heap.size = g := ⟨_, rfl⟩
                rw [hg12] at V12 L12 NE ⊢
                clear hg12 hal12 hst12 Vn12 hH
                simp only [Act.put, List.setIfInBounds_toArray, List.set_cons_zero, List.set_cons_succ]
                refine wpAnyH_ready (rs := [3]) (by kernel_rfl) (by simp) ?_
                refine br_call (i := 3) 62 8 #[.slice (some ⟨gs, 0, none⟩) 2 2] rfl rfl rfl (by go_simp) ((J5.out _ _ NS).mono ?_) ?_
                · rintro e X_5 ⟨rfl, hst⟩
                  refine ⟨_, rfl, hHeld.trans (hst.mono hHeld.size), fun hH => ?_⟩
                  have V11 := V11.step hst
                  have V12 := V12.step hst
                  have hHeld := hH
                  clear hst NS hH
                  simp only [Act.put, List.setIfInBounds_toArray, List.set_cons_zero, List.set_cons_succ]
                  refine wpAnyH_ready (rs := [6]) (by kernel_rfl) (by simp) ?_
                  refine br_call (i := 6) 65 10 #[.agg (va a), .agg (va b)] rfl rfl rfl (by go_simp) ((MT.out _).mono ?_) ?_
                  · rintro e X_6 ⟨rfl, hst⟩
                    refine ⟨_, rfl, hHeld.trans (hst.mono hHeld.size), fun hH => ?_⟩
                    have V11 := V11.step hst
                    have V12 := V12.step hst
                    have hHeld := hH
                    clear hst hH
                    simp only [Act.put, List.setIfInBounds_toArray, List.set_cons_zero, List.set_cons_succ]
                    have hle11 : W0.heap.size ≤ g11 := L11
                    have hle12 : W0.heap.size ≤ g12 := L12
                    obtain ⟨X1, x1, x2, x3, x4, x5⟩ := filled v24 zs_len V11 kk HK.out
                    have B1 := x5 W0 hle11 hHeld
                    have V12' : VAt 24 X1 g12 zs := x3 _ _ (by have := NE; omega) V12
                    obtain ⟨X2, y1, y2, y3, y4, y5⟩ := filled v24 zs_len V12' dd HD.out
                    have B2 := y5 W0 hle12 B1
                    have V11' : VAt 24 X2 g11 kk := y3 _ _ (by have := NE; omega) x2
                    refine wpAnyH_ready (rs := [9]) (by kernel_rfl) (by simp) (br_store 24 (.tmp 11) (.tmp 62) (.pointer (some ⟨g11, 0, none⟩)) (.agg (va kk)) X1 rfl rfl rfl rfl rfl rfl x1 B1 (fun _ => ?_) AllReadyH.nil)
                    simp only [Act.put]
                    refine wpAnyH_ready (rs := [10]) (by kernel_rfl) (by simp) (br_store 24 (.tmp 12) (.tmp 65) (.pointer (some ⟨g12, 0, none⟩)) (.agg (va dd)) X2 rfl rfl rfl rfl rfl rfl y1 B2 (fun _ => ?_) AllReadyH.nil)
                    simp only [Act.put]
                    refine wpAnyH_done (by kernel_rfl) ?_ _
                    go_wp2_with fail
                    go_meet
                    exact ⟨_, _, rfl, rfl, V11', y2, VA10.out.step B2, VB10.out.step B2, VC10.out.step B2, T10.out.trans (B2.mono T10.out.size)⟩
                  exact AllReadyH.nil
                exact AllReadyH.nil
              exact AllReadyH.nil
            obtain ⟨X_3_12, hal12, hst12, Vn12, _⟩ := boxed z24 X_2_11
            refine br_alloc (i := 8) 12 24 _ X_3_12 rfl rfl rfl rfl hal12 (hHeld.trans (hst12.mono hHeld.size)) (fun hH => ?_) ?_
            · have V12 := Vn12
              have L12 := hHeld.size
              have NE := Nat.ne_of_lt (lt_of_block V11)
              have V11 := V11.step hst12
              have hHeld := hH
              obtain ⟨g12, hg12⟩ : ∃ g, X_2_11.heap.size = g := ⟨_, rfl⟩
              rw [hg12] at V12 L12 NE ⊢
              clear hg12 hal12 hst12 Vn12 hH
              simp only [Act.put, List.setIfInBounds_toArray, List.set_cons_zero, List.set_cons_succ]
              refine wpAnyH_ready (rs := [2]) (by kernel_rfl) (by simp) ?_
              refine br_bslice (i := 2) 61 60 2 _ #[(0, .agg (va a)), (1, .agg (va b))] _ _ rfl rfl rfl rfl rfl (BS5.out _) (below_alloc hHeld _) (fun hH => ?_) ?_
              · have hst := vstep X_3_12 (.cells (va (a ++ b)) 24)
                have V11 := V11.step hst
                have V12 := V12.step hst
                have NS := heap_alloc_new X_3_12 (.cells (va (a ++ b)) 24)
                have hHeld := hH
                obtain ⟨X_4, hX⟩ : ∃ y, (X_3_12.alloc (.cells (va (a ++ b)) 24)) = y := ⟨_, rfl⟩
                obtain ⟨gs, hgs⟩ : ∃ g, X_3_12.heap.size = g := ⟨_, rfl⟩
                rw [hX] at hHeld NS V11 V12 ⊢
                rw [hgs] at NS ⊢
                clear hX hgs hst hH
                simp only [Act.put, List.setIfInBounds_toArray, List.set_cons_zero, List.set_cons_succ]
                refine wpAnyH_ready (rs := [3]) (by kernel_rfl) (by simp) ?_
                refine br_call (i := 3) 62 8 #[.slice (some ⟨gs, 0, none⟩) 2 2] rfl rfl rfl (by go_simp) ((J5.out _ _ NS).mono ?_) ?_
                · rintro e X_5 ⟨rfl, hst⟩
                  refine ⟨_, rfl, hHeld.trans (hst.mono hHeld.size), fun hH => ?_⟩
                  have V11 := V11.step hst
                  have V12 := V12.step hst
                  have hHeld := hH
                  clear hst NS hH
                  simp only [Act.put, List.setIfInBounds_toArray, List.set_cons_zero, List.set_cons_succ]
                  refine wpAnyH_ready (rs := [6]) (by kernel_rfl) (by simp) ?_
                  refine br_call (i := 6) 65 10 #[.agg (va a), .agg (va b)] rfl rfl rfl (by go_simp) ((MT.out _).mono ?_) ?_
                  · rintro e X_6 ⟨rfl, hst⟩
                    refine ⟨_, rfl, hHeld.trans (hst.mono hHeld.size), fun hH => ?_⟩
                    have V11 := V11.step hst
                    have V12 := V12.step hst
                    have hHeld := hH
                    clear hst hH
                    simp only [Act.put, List.setIfInBounds_toArray, List.set_cons_zero, List.set_cons_succ]
                    have hle11 : W0.heap.size ≤ g11 := L11
                    have hle12 : W0.heap.size ≤ g12 := L12
                    obtain ⟨X1, x1, x2, x3, x4, x5⟩ := filled v24 zs_len V11 kk HK.out
                    have B1 := x5 W0 hle11 hHeld
                    have V12' : VAt 24 X1 g12 zs := x3 _ _ (by have := NE; omega) V12
                    obtain ⟨X2, y1, y2, y3, y4, y5⟩ := filled v24 zs_len V12' dd HD.out
                    have B2 := y5 W0 hle12 B1
                    have V11' : VAt 24 X2 g11 kk := y3 _ _ (by have := NE; omega) x2
                    refine wpAnyH_ready (rs := [9]) (by kernel_rfl) (by simp) (br_store 24 (.tmp 11) (.tmp 62) (.pointer (some ⟨g11, 0, none⟩)) (.agg (va kk)) X1 rfl rfl rfl rfl rfl rfl x1 B1 (fun _ => ?_) AllReadyH.nil)
                    simp only [Act.put]
                    refine wpAnyH_ready (rs := [10]) (by kernel_rfl) (by simp) (br_store 24 (.tmp 12) (.tmp 65) (.pointer (some ⟨g12, 0, none⟩)) (.agg (va dd)) X2 rfl rfl rfl rfl rfl rfl y1 B2 (fun _ => ?_) AllReadyH.nil)
                    simp only [Act.put]
                    refine wpAnyH_done (by kernel_rfl) ?_ _
                    go_wp2_with fail
                    go_meet
                    exact ⟨_, _, rfl, rfl, V11', y2, VA10.out.step B2, VB10.out.step B2, VC10.out.step B2, T10.out.trans (B2.mono T10.out.size)⟩
                  exact AllReadyH.nil
                exact AllReadyH.nil
              exact AllReadyH.nil
            exact AllReadyH.nil
          obtain ⟨X_2_12, hal12, hst12, Vn12, _⟩ := boxed z24 W0.drew
          refine br_alloc (i := 8) 12 24 _ X_2_12 rfl rfl rfl rfl hal12 (hHeld.trans (hst12.mono hHeld.size)) (fun hH => ?_) ?_
          · have V12 := Vn12
            have L12 := hHeld.size
            have hHeld := hH
            obtain ⟨g12, hg12⟩ : ∃ g, W0.drew.heap.size = g := ⟨_, rfl⟩
            rw [hg12] at V12 L12 ⊢
            clear hg12 hal12 hst12 Vn12 hH
            simp only [Act.put, List.setIfInBounds_toArray, List.set_cons_zero, List.set_cons_succ]
            refine wpAnyH_ready (rs := [2, 7]) (by kernel_rfl) (by simp) ?_
            refine br_bslice (i := 2) 61 60 2 _ #[(0, .agg (va a)), (1, .agg (va b))] _ _ rfl rfl rfl rfl rfl (BS5.out _) (below_alloc hHeld _) (fun hH => ?_) ?_
            · have hst := vstep X_2_12 (.cells (va (a ++ b)) 24)
              have V12 := V12.step hst
              have NS := heap_alloc_new X_2_12 (.cells (va (a ++ b)) 24)
              have hHeld := hH
              obtain ⟨X_3, hX⟩ : ∃ y, (X_2_12.alloc (.cells (va (a ++ b)) 24)) = y := ⟨_, rfl⟩
              obtain ⟨gs, hgs⟩ : ∃ g, X_2_12.heap.size = g := ⟨_, rfl⟩
              rw [hX] at hHeld NS V12 ⊢
              rw [hgs] at NS ⊢
              clear hX hgs hst hH
              simp only [Act.put, List.setIfInBounds_toArray, List.set_cons_zero, List.set_cons_succ]
              refine wpAnyH_ready (rs := [3, 7]) (by kernel_rfl) (by simp) ?_
              refine br_call (i := 3) 62 8 #[.slice (some ⟨gs, 0, none⟩) 2 2] rfl rfl rfl (by go_simp) ((J5.out _ _ NS).mono ?_) ?_
              · rintro e X_4 ⟨rfl, hst⟩
                refine ⟨_, rfl, hHeld.trans (hst.mono hHeld.size), fun hH => ?_⟩
                have V12 := V12.step hst
                have hHeld := hH
                clear hst NS hH
                simp only [Act.put, List.setIfInBounds_toArray, List.set_cons_zero, List.set_cons_succ]
                refine wpAnyH_ready (rs := [6, 7]) (by kernel_rfl) (by simp) ?_
                refine br_call (i := 6) 65 10 #[.agg (va a), .agg (va b)] rfl rfl rfl (by go_simp) ((MT.out _).mono ?_) ?_
                · rintro e X_5 ⟨rfl, hst⟩
                  refine ⟨_, rfl, hHeld.trans (hst.mono hHeld.size), fun hH => ?_⟩
                  have V12 := V12.step hst
                  have hHeld := hH
                  clear hst hH
                  simp only [Act.put, List.setIfInBounds_toArray, List.set_cons_zero, List.set_cons_succ]
                  refine wpAnyH_ready (rs := [7]) (by kernel_rfl) (by simp) ?_
                  obtain ⟨X_6_11, hal11, hst11, Vn11, _⟩ := boxed z24 X_5
                  refine br_alloc (i := 7) 11 24 _ X_6_11 rfl rfl rfl rfl hal11 (hHeld.trans (hst11.mono hHeld.size)) (fun hH => ?_) ?_
                  · have V11 := Vn11
                    have L11 := hHeld.size
                    have NE := Nat.ne_of_lt (lt_of_block V12)
                    have V12 := V12.step hst11
                    have hHeld := hH
                    obtain ⟨g11, hg11⟩ : ∃ g, X_5.heap.size = g := ⟨_, rfl⟩
                    rw [hg11] at V11 L11 NE ⊢
                    clear hg11 hal11 hst11 Vn11 hH
                    simp only [Act.put, List.setIfInBounds_toArray, List.set_cons_zero, List.set_cons_succ]
                    have hle11 : W0.heap.size ≤ g11 := L11
                    have hle12 : W0.heap.size ≤ g12 := L12
                    obtain ⟨X1, x1, x2, x3, x4, x5⟩ := filled v24 zs_len V11 kk HK.out
                    have B1 := x5 W0 hle11 hHeld
                    have V12' : VAt 24 X1 g12 zs := x3 _ _ (by have := NE; omega) V12
                    obtain ⟨X2, y1, y2, y3, y4, y5⟩ := filled v24 zs_len V12' dd HD.out
                    have B2 := y5 W0 hle12 B1
                    have V11' : VAt 24 X2 g11 kk := y3 _ _ (by have := NE; omega) x2
                    refine wpAnyH_ready (rs := [9]) (by kernel_rfl) (by simp) (br_store 24 (.tmp 11) (.tmp 62) (.pointer (some ⟨g11, 0, none⟩)) (.agg (va kk)) X1 rfl rfl rfl rfl rfl rfl x1 B1 (fun _ => ?_) AllReadyH.nil)
                    simp only [Act.put]
                    refine wpAnyH_ready (rs := [10]) (by kernel_rfl) (by simp) (br_store 24 (.tmp 12) (.tmp 65) (.pointer (some ⟨g12, 0, none⟩)) (.agg (va dd)) X2 rfl rfl rfl rfl rfl rfl y1 B2 (fun _ => ?_) AllReadyH.nil)
                    simp only [Act.put]
                    refine wpAnyH_done (by kernel_rfl) ?_ _
                    go_wp2_with fail
                    go_meet
                    exact ⟨_, _, rfl, rfl, V11', y2, VA10.out.step B2, VB10.out.step B2, VC10.out.step B2, T10.out.trans (B2.mono T10.out.size)⟩
                  exact AllReadyH.nil
                obtain ⟨X_5_11, hal11, hst11, Vn11, _⟩ := boxed z24 X_4
                refine br_alloc (i := 7) 11 24 _ X_5_11 rfl rfl rfl rfl hal11 (hHeld.trans (hst11.mono hHeld.size)) (fun hH => ?_) ?_
                · have V11 := Vn11
                  have L11 := hHeld.size
                  have NE := Nat.ne_of_lt (lt_of_block V12)
                  have V12 := V12.step hst11
                  have hHeld := hH
                  obtain ⟨g11, hg11⟩ : ∃ g, X_4.heap.size = g := ⟨_, rfl⟩
                  rw [hg11] at V11 L11 NE ⊢
                  clear hg11 hal11 hst11 Vn11 hH
                  simp only [Act.put, List.setIfInBounds_toArray, List.set_cons_zero, List.set_cons_succ]
                  refine wpAnyH_ready (rs := [6]) (by kernel_rfl) (by simp) ?_
                  refine br_call (i := 6) 65 10 #[.agg (va a), .agg (va b)] rfl rfl rfl (by go_simp) ((MT.out _).mono ?_) ?_
                  · rintro e X_6 ⟨rfl, hst⟩
                    refine ⟨_, rfl, hHeld.trans (hst.mono hHeld.size), fun hH => ?_⟩
                    have V11 := V11.step hst
                    have V12 := V12.step hst
                    have hHeld := hH
                    clear hst hH
                    simp only [Act.put, List.setIfInBounds_toArray, List.set_cons_zero, List.set_cons_succ]
                    have hle11 : W0.heap.size ≤ g11 := L11
                    have hle12 : W0.heap.size ≤ g12 := L12
                    obtain ⟨X1, x1, x2, x3, x4, x5⟩ := filled v24 zs_len V11 kk HK.out
                    have B1 := x5 W0 hle11 hHeld
                    have V12' : VAt 24 X1 g12 zs := x3 _ _ (by have := NE; omega) V12
                    obtain ⟨X2, y1, y2, y3, y4, y5⟩ := filled v24 zs_len V12' dd HD.out
                    have B2 := y5 W0 hle12 B1
                    have V11' : VAt 24 X2 g11 kk := y3 _ _ (by have := NE; omega) x2
                    refine wpAnyH_ready (rs := [9]) (by kernel_rfl) (by simp) (br_store 24 (.tmp 11) (.tmp 62) (.pointer (some ⟨g11, 0, none⟩)) (.agg (va kk)) X1 rfl rfl rfl rfl rfl rfl x1 B1 (fun _ => ?_) AllReadyH.nil)
                    simp only [Act.put]
                    refine wpAnyH_ready (rs := [10]) (by kernel_rfl) (by simp) (br_store 24 (.tmp 12) (.tmp 65) (.pointer (some ⟨g12, 0, none⟩)) (.agg (va dd)) X2 rfl rfl rfl rfl rfl rfl y1 B2 (fun _ => ?_) AllReadyH.nil)
                    simp only [Act.put]
                    refine wpAnyH_done (by kernel_rfl) ?_ _
                    go_wp2_with fail
                    go_meet
                    exact ⟨_, _, rfl, rfl, V11', y2, VA10.out.step B2, VB10.out.step B2, VC10.out.step B2, T10.out.trans (B2.mono T10.out.size)⟩
                  exact AllReadyH.nil
                exact AllReadyH.nil
              obtain ⟨X_4_11, hal11, hst11, Vn11, _⟩ := boxed z24 X_3
              refine br_alloc (i := 7) 11 24 _ X_4_11 rfl rfl rfl rfl hal11 (hHeld.trans (hst11.mono hHeld.size)) (fun hH => ?_) ?_
              · have V11 := Vn11
                have L11 := hHeld.size
                have NE := Nat.ne_of_lt (lt_of_block V12)
                have V12 := V12.step hst11
                have NS := (hst11.block _ (lt_of_block NS)).trans NS
                have hHeld := hH
                obtain ⟨g11, hg11⟩ : ∃ g, X_3.heap.size = g := ⟨_, rfl⟩
                rw [hg11] at V11 L11 NE ⊢
                clear hg11 hal11 hst11 Vn11 hH
                simp only [Act.put, List.setIfInBounds_toArray, List.set_cons_zero, List.set_cons_succ]
                refine wpAnyH_ready (rs := [3]) (by kernel_rfl) (by simp) ?_
                refine br_call (i := 3) 62 8 #[.slice (some ⟨gs, 0, none⟩) 2 2] rfl rfl rfl (by go_simp) ((J5.out _ _ NS).mono ?_) ?_
                · rintro e X_5 ⟨rfl, hst⟩
                  refine ⟨_, rfl, hHeld.trans (hst.mono hHeld.size), fun hH => ?_⟩
                  have V11 := V11.step hst
                  have V12 := V12.step hst
                  have hHeld := hH
                  clear hst NS hH
                  simp only [Act.put, List.setIfInBounds_toArray, List.set_cons_zero, List.set_cons_succ]
                  refine wpAnyH_ready (rs := [6]) (by kernel_rfl) (by simp) ?_
                  refine br_call (i := 6) 65 10 #[.agg (va a), .agg (va b)] rfl rfl rfl (by go_simp) ((MT.out _).mono ?_) ?_
                  · rintro e X_6 ⟨rfl, hst⟩
                    refine ⟨_, rfl, hHeld.trans (hst.mono hHeld.size), fun hH => ?_⟩
                    have V11 := V11.step hst
                    have V12 := V12.step hst
                    have hHeld := hH
                    clear hst hH
                    simp only [Act.put, List.setIfInBounds_toArray, List.set_cons_zero, List.set_cons_succ]
                    have hle11 : W0.heap.size ≤ g11 := L11
                    have hle12 : W0.heap.size ≤ g12 := L12
                    obtain ⟨X1, x1, x2, x3, x4, x5⟩ := filled v24 zs_len V11 kk HK.out
                    have B1 := x5 W0 hle11 hHeld
                    have V12' : VAt 24 X1 g12 zs := x3 _ _ (by have := NE; omega) V12
                    obtain ⟨X2, y1, y2, y3, y4, y5⟩ := filled v24 zs_len V12' dd HD.out
                    have B2 := y5 W0 hle12 B1
                    have V11' : VAt 24 X2 g11 kk := y3 _ _ (by have := NE; omega) x2
                    refine wpAnyH_ready (rs := [9]) (by kernel_rfl) (by simp) (br_store 24 (.tmp 11) (.tmp 62) (.pointer (some ⟨g11, 0, none⟩)) (.agg (va kk)) X1 rfl rfl rfl rfl rfl rfl x1 B1 (fun _ => ?_) AllReadyH.nil)
                    simp only [Act.put]
                    refine wpAnyH_ready (rs := [10]) (by kernel_rfl) (by simp) (br_store 24 (.tmp 12) (.tmp 65) (.pointer (some ⟨g12, 0, none⟩)) (.agg (va dd)) X2 rfl rfl rfl rfl rfl rfl y1 B2 (fun _ => ?_) AllReadyH.nil)
                    simp only [Act.put]
                    refine wpAnyH_done (by kernel_rfl) ?_ _
                    go_wp2_with fail
                    go_meet
                    exact ⟨_, _, rfl, rfl, V11', y2, VA10.out.step B2, VB10.out.step B2, VC10.out.step B2, T10.out.trans (B2.mono T10.out.size)⟩
                  exact AllReadyH.nil
                exact AllReadyH.nil
              exact AllReadyH.nil
            obtain ⟨X_3_11, hal11, hst11, Vn11, _⟩ := boxed z24 X_2_12
            refine br_alloc (i := 7) 11 24 _ X_3_11 rfl rfl rfl rfl hal11 (hHeld.trans (hst11.mono hHeld.size)) (fun hH => ?_) ?_
            · have V11 := Vn11
              have L11 := hHeld.size
              have NE := Nat.ne_of_lt (lt_of_block V12)
              have V12 := V12.step hst11
              have hHeld := hH
              obtain ⟨g11, hg11⟩ : ∃ g, X_2_12.heap.size = g := ⟨_, rfl⟩
              rw [hg11] at V11 L11 NE ⊢
              clear hg11 hal11 hst11 Vn11 hH
              simp only [Act.put, List.setIfInBounds_toArray, List.set_cons_zero, List.set_cons_succ]
              refine wpAnyH_ready (rs := [2]) (by kernel_rfl) (by simp) ?_
              refine br_bslice (i := 2) 61 60 2 _ #[(0, .agg (va a)), (1, .agg (va b))] _ _ rfl rfl rfl rfl rfl (BS5.out _) (below_alloc hHeld _) (fun hH => ?_) ?_
              · have hst := vstep X_3_11 (.cells (va (a ++ b)) 24)
                have V11 := V11.step hst
                have V12 := V12.step hst
                have NS := heap_alloc_new X_3_11 (.cells (va (a ++ b)) 24)
                have hHeld := hH
                obtain ⟨X_4, hX⟩ : ∃ y, (X_3_11.alloc (.cells (va (a ++ b)) 24)) = y := ⟨_, rfl⟩
                obtain ⟨gs, hgs⟩ : ∃ g, X_3_11.heap.size = g := ⟨_, rfl⟩
                rw [hX] at hHeld NS V11 V12 ⊢
                rw [hgs] at NS ⊢
                clear hX hgs hst hH
                simp only [Act.put, List.setIfInBounds_toArray, List.set_cons_zero, List.set_cons_succ]
                refine wpAnyH_ready (rs := [3]) (by kernel_rfl) (by simp) ?_
                refine br_call (i := 3) 62 8 #[.slice (some ⟨gs, 0, none⟩) 2 2] rfl rfl rfl (by go_simp) ((J5.out _ _ NS).mono ?_) ?_
                · rintro e X_5 ⟨rfl, hst⟩
                  refine ⟨_, rfl, hHeld.trans (hst.mono hHeld.size), fun hH => ?_⟩
                  have V11 := V11.step hst
                  have V12 := V12.step hst
                  have hHeld := hH
                  clear hst NS hH
                  simp only [Act.put, List.setIfInBounds_toArray, List.set_cons_zero, List.set_cons_succ]
                  refine wpAnyH_ready (rs := [6]) (by kernel_rfl) (by simp) ?_
                  refine br_call (i := 6) 65 10 #[.agg (va a), .agg (va b)] rfl rfl rfl (by go_simp) ((MT.out _).mono ?_) ?_
                  · rintro e X_6 ⟨rfl, hst⟩
                    refine ⟨_, rfl, hHeld.trans (hst.mono hHeld.size), fun hH => ?_⟩
                    have V11 := V11.step hst
                    have V12 := V12.step hst
                    have hHeld := hH
                    clear hst hH
                    simp only [Act.put, List.setIfInBounds_toArray, List.set_cons_zero, List.set_cons_succ]
                    have hle11 : W0.heap.size ≤ g11 := L11
                    have hle12 : W0.heap.size ≤ g12 := L12
                    obtain ⟨X1, x1, x2, x3, x4, x5⟩ := filled v24 zs_len V11 kk HK.out
                    have B1 := x5 W0 hle11 hHeld
                    have V12' : VAt 24 X1 g12 zs := x3 _ _ (by have := NE; omega) V12
                    obtain ⟨X2, y1, y2, y3, y4, y5⟩ := filled v24 zs_len V12' dd HD.out
                    have B2 := y5 W0 hle12 B1
                    have V11' : VAt 24 X2 g11 kk := y3 _ _ (by have := NE; omega) x2
                    refine wpAnyH_ready (rs := [9]) (by kernel_rfl) (by simp) (br_store 24 (.tmp 11) (.tmp 62) (.pointer (some ⟨g11, 0, none⟩)) (.agg (va kk)) X1 rfl rfl rfl rfl rfl rfl x1 B1 (fun _ => ?_) AllReadyH.nil)
                    simp only [Act.put]
                    refine wpAnyH_ready (rs := [10]) (by kernel_rfl) (by simp) (br_store 24 (.tmp 12) (.tmp 65) (.pointer (some ⟨g12, 0, none⟩)) (.agg (va dd)) X2 rfl rfl rfl rfl rfl rfl y1 B2 (fun _ => ?_) AllReadyH.nil)
                    simp only [Act.put]
                    refine wpAnyH_done (by kernel_rfl) ?_ _
                    go_wp2_with fail
                    go_meet
                    exact ⟨_, _, rfl, rfl, V11', y2, VA10.out.step B2, VB10.out.step B2, VC10.out.step B2, T10.out.trans (B2.mono T10.out.size)⟩
                  exact AllReadyH.nil
                exact AllReadyH.nil
              exact AllReadyH.nil
            exact AllReadyH.nil
          exact AllReadyH.nil
        case rest =>
          obtain ⟨gk, gd, rfl, rfl, vk, vd, va1, vb1, vc1, bw⟩ := hcut
          have VK := Lib.hid vk
          have VD := Lib.hid vd
          have VA := Lib.hid va1
          have VB := Lib.hid vb1
          have VC := Lib.hid vc1
          have T0 := Lib.hid bw
          clear vk vd va1 vb1 vc1 bw VA10 VB10 VC10 T10 BS5 J5 MT
          go_upto_region 6 with (fail)
          go_cut [95] from 66 (fun bv wx => bv = .bool false ∧ Below wc.heap.size wc wx)
          case first =>
            have BB := Lib.hid (Below.refl wc.heap.size wc)
            obtain ⟨hq3, hq6⟩ := HQ.out
            clear SA SB SK SD HS MU AW HQ ED
            rcases q1 with _ | _
            · rcases q4 with _ | _
              · go_wp2_with (first | refine wpList_load_arrG rfl (.tmp 9) 24 rfl (.pointer (some ⟨g3, 0, none⟩)) (.agg (va c)) rfl (LC.out _ _ (VC.out.step BB.out)) ?_ | refine wpList_load_arrG rfl (.tmp 7) 24 rfl (.pointer (some ⟨g1, 0, none⟩)) (.agg (va a)) rfl (LA.out _ _ (VA.out.step BB.out)) ?_)
                refine (K1.out _).mono ?_
                rintro e w9 ⟨rfl, hb9⟩
                have BB := Lib.hid (BB.out.trans (hb9.mono BB.out.size))
                clear hb9
                go_wp2_with (first | refine wpList_load_arrG rfl (.tmp 7) 24 rfl (.pointer (some ⟨g1, 0, none⟩)) (.agg (va a)) rfl (LA.out _ _ (VA.out.step BB.out)) ?_ | refine wpList_load_arrG rfl (.tmp 9) 24 rfl (.pointer (some ⟨g3, 0, none⟩)) (.agg (va c)) rfl (LC.out _ _ (VC.out.step BB.out)) ?_)
                refine (K4.out _).mono ?_
                rintro e w9 ⟨rfl, hb9⟩
                have BB := Lib.hid (BB.out.trans (hb9.mono BB.out.size))
                clear hb9
                go_wp2_with fail
                go_meet
                exact ⟨rfl, BB.out⟩
              · rcases q5 with _ | _
                · go_wp2_with (first | refine wpList_load_arrG rfl (.tmp 9) 24 rfl (.pointer (some ⟨g3, 0, none⟩)) (.agg (va c)) rfl (LC.out _ _ (VC.out.step BB.out)) ?_ | refine wpList_load_arrG rfl (.tmp 7) 24 rfl (.pointer (some ⟨g1, 0, none⟩)) (.agg (va a)) rfl (LA.out _ _ (VA.out.step BB.out)) ?_)
                  refine (K1.out _).mono ?_
                  rintro e w9 ⟨rfl, hb9⟩
                  have BB := Lib.hid (BB.out.trans (hb9.mono BB.out.size))
                  clear hb9
                  go_wp2_with (first | refine wpList_load_arrG rfl (.tmp 7) 24 rfl (.pointer (some ⟨g1, 0, none⟩)) (.agg (va a)) rfl (LA.out _ _ (VA.out.step BB.out)) ?_ | refine wpList_load_arrG rfl (.tmp 9) 24 rfl (.pointer (some ⟨g3, 0, none⟩)) (.agg (va c)) rfl (LC.out _ _ (VC.out.step BB.out)) ?_)
                  refine (K4.out _).mono ?_
                  rintro e w9 ⟨rfl, hb9⟩
                  have BB := Lib.hid (BB.out.trans (hb9.mono BB.out.size))
                  clear hb9
                  go_wp2_with (first | refine wpList_load_arrG rfl (.tmp 8) 24 rfl (.pointer (some ⟨g2, 0, none⟩)) (.agg (va b)) rfl (LB.out _ _ (VB.out.step BB.out)) ?_ | refine wpList_load_arrG rfl (.tmp 9) 24 rfl (.pointer (some ⟨g3, 0, none⟩)) (.agg (va c)) rfl (LC.out _ _ (VC.out.step BB.out)) ?_)
                  refine (K5.out _).mono ?_
                  rintro e w9 ⟨rfl, hb9⟩
                  have BB := Lib.hid (BB.out.trans (hb9.mono BB.out.size))
                  clear hb9
                  go_wp2_with fail
                  go_meet
                  exact ⟨rfl, BB.out⟩
                · obtain rfl := hq6 rfl rfl
                  go_wp2_with (first | refine wpList_load_arrG rfl (.tmp 9) 24 rfl (.pointer (some ⟨g3, 0, none⟩)) (.agg (va c)) rfl (LC.out _ _ (VC.out.step BB.out)) ?_ | refine wpList_load_arrG rfl (.tmp 7) 24 rfl (.pointer (some ⟨g1, 0, none⟩)) (.agg (va a)) rfl (LA.out _ _ (VA.out.step BB.out)) ?_)
                  refine (K1.out _).mono ?_
                  rintro e w9 ⟨rfl, hb9⟩
                  have BB := Lib.hid (BB.out.trans (hb9.mono BB.out.size))
                  clear hb9
                  go_wp2_with (first | refine wpList_load_arrG rfl (.tmp 7) 24 rfl (.pointer (some ⟨g1, 0, none⟩)) (.agg (va a)) rfl (LA.out _ _ (VA.out.step BB.out)) ?_ | refine wpList_load_arrG rfl (.tmp 9) 24 rfl (.pointer (some ⟨g3, 0, none⟩)) (.agg (va c)) rfl (LC.out _ _ (VC.out.step BB.out)) ?_)
                  refine (K4.out _).mono ?_
                  rintro e w9 ⟨rfl, hb9⟩
                  have BB := Lib.hid (BB.out.trans (hb9.mono BB.out.size))
                  clear hb9
                  go_wp2_with (first | refine wpList_load_arrG rfl (.tmp 8) 24 rfl (.pointer (some ⟨g2, 0, none⟩)) (.agg (va b)) rfl (LB.out _ _ (VB.out.step BB.out)) ?_ | refine wpList_load_arrG rfl (.tmp 9) 24 rfl (.pointer (some ⟨g3, 0, none⟩)) (.agg (va c)) rfl (LC.out _ _ (VC.out.step BB.out)) ?_)
                  refine (K5.out _).mono ?_
                  rintro e w9 ⟨rfl, hb9⟩
                  have BB := Lib.hid (BB.out.trans (hb9.mono BB.out.size))
                  clear hb9
                  go_wp2_with (first | refine wpList_load_arrG rfl (.tmp 12) 24 rfl (.pointer (some ⟨gd, 0, none⟩)) (.agg (va dd)) rfl (LD.out _ _ (VD.out.step BB.out)) ?_ | refine wpList_load_arrG rfl (.tmp 9) 24 rfl (.pointer (some ⟨g3, 0, none⟩)) (.agg (va c)) rfl (LC.out _ _ (VC.out.step BB.out)) ?_)
                  refine (K6.out _).mono ?_
                  rintro e w9 ⟨rfl, hb9⟩
                  have BB := Lib.hid (BB.out.trans (hb9.mono BB.out.size))
                  clear hb9
                  go_wp2_with fail
                  go_meet
                  exact ⟨rfl, BB.out⟩
            · rcases q2 with _ | _
              · rcases q4 with _ | _
                · go_wp2_with (first | refine wpList_load_arrG rfl (.tmp 9) 24 rfl (.pointer (some ⟨g3, 0, none⟩)) (.agg (va c)) rfl (LC.out _ _ (VC.out.step BB.out)) ?_ | refine wpList_load_arrG rfl (.tmp 7) 24 rfl (.pointer (some ⟨g1, 0, none⟩)) (.agg (va a)) rfl (LA.out _ _ (VA.out.step BB.out)) ?_)
                  refine (K1.out _).mono ?_
                  rintro e w9 ⟨rfl, hb9⟩
                  have BB := Lib.hid (BB.out.trans (hb9.mono BB.out.size))
                  clear hb9
                  go_wp2_with (first | refine wpList_load_arrG rfl (.tmp 9) 24 rfl (.pointer (some ⟨g3, 0, none⟩)) (.agg (va c)) rfl (LC.out _ _ (VC.out.step BB.out)) ?_ | refine wpList_load_arrG rfl (.tmp 8) 24 rfl (.pointer (some ⟨g2, 0, none⟩)) (.agg (va b)) rfl (LB.out _ _ (VB.out.step BB.out)) ?_)
                  refine (K2.out _).mono ?_
                  rintro e w9 ⟨rfl, hb9⟩
                  have BB := Lib.hid (BB.out.trans (hb9.mono BB.out.size))
                  clear hb9
                  go_wp2_with (first | refine wpList_load_arrG rfl (.tmp 7) 24 rfl (.pointer (some ⟨g1, 0, none⟩)) (.agg (va a)) rfl (LA.out _ _ (VA.out.step BB.out)) ?_ | refine wpList_load_arrG rfl (.tmp 9) 24 rfl (.pointer (some ⟨g3, 0, none⟩)) (.agg (va c)) rfl (LC.out _ _ (VC.out.step BB.out)) ?_)
                  refine (K4.out _).mono ?_
                  rintro e w9 ⟨rfl, hb9⟩
                  have BB := Lib.hid (BB.out.trans (hb9.mono BB.out.size))
                  clear hb9
                  go_wp2_with fail
                  go_meet
                  exact ⟨rfl, BB.out⟩
                · rcases q5 with _ | _
                  · go_wp2_with (first | refine wpList_load_arrG rfl (.tmp 9) 24 rfl (.pointer (some ⟨g3, 0, none⟩)) (.agg (va c)) rfl (LC.out _ _ (VC.out.step BB.out)) ?_ | refine wpList_load_arrG rfl (.tmp 7) 24 rfl (.pointer (some ⟨g1, 0, none⟩)) (.agg (va a)) rfl (LA.out _ _ (VA.out.step BB.out)) ?_)
                    refine (K1.out _).mono ?_
                    rintro e w9 ⟨rfl, hb9⟩
                    have BB := Lib.hid (BB.out.trans (hb9.mono BB.out.size))
                    clear hb9
                    go_wp2_with (first | refine wpList_load_arrG rfl (.tmp 9) 24 rfl (.pointer (some ⟨g3, 0, none⟩)) (.agg (va c)) rfl (LC.out _ _ (VC.out.step BB.out)) ?_ | refine wpList_load_arrG rfl (.tmp 8) 24 rfl (.pointer (some ⟨g2, 0, none⟩)) (.agg (va b)) rfl (LB.out _ _ (VB.out.step BB.out)) ?_)
                    refine (K2.out _).mono ?_
                    rintro e w9 ⟨rfl, hb9⟩
                    have BB := Lib.hid (BB.out.trans (hb9.mono BB.out.size))
                    clear hb9
                    go_wp2_with (first | refine wpList_load_arrG rfl (.tmp 7) 24 rfl (.pointer (some ⟨g1, 0, none⟩)) (.agg (va a)) rfl (LA.out _ _ (VA.out.step BB.out)) ?_ | refine wpList_load_arrG rfl (.tmp 9) 24 rfl (.pointer (some ⟨g3, 0, none⟩)) (.agg (va c)) rfl (LC.out _ _ (VC.out.step BB.out)) ?_)
                    refine (K4.out _).mono ?_
                    rintro e w9 ⟨rfl, hb9⟩
                    have BB := Lib.hid (BB.out.trans (hb9.mono BB.out.size))
                    clear hb9
                    go_wp2_with (first | refine wpList_load_arrG rfl (.tmp 8) 24 rfl (.pointer (some ⟨g2, 0, none⟩)) (.agg (va b)) rfl (LB.out _ _ (VB.out.step BB.out)) ?_ | refine wpList_load_arrG rfl (.tmp 9) 24 rfl (.pointer (some ⟨g3, 0, none⟩)) (.agg (va c)) rfl (LC.out _ _ (VC.out.step BB.out)) ?_)
                    refine (K5.out _).mono ?_
                    rintro e w9 ⟨rfl, hb9⟩
                    have BB := Lib.hid (BB.out.trans (hb9.mono BB.out.size))
                    clear hb9
                    go_wp2_with fail
                    go_meet
                    exact ⟨rfl, BB.out⟩
                  · obtain rfl := hq6 rfl rfl
                    go_wp2_with (first | refine wpList_load_arrG rfl (.tmp 9) 24 rfl (.pointer (some ⟨g3, 0, none⟩)) (.agg (va c)) rfl (LC.out _ _ (VC.out.step BB.out)) ?_ | refine wpList_load_arrG rfl (.tmp 7) 24 rfl (.pointer (some ⟨g1, 0, none⟩)) (.agg (va a)) rfl (LA.out _ _ (VA.out.step BB.out)) ?_)
                    refine (K1.out _).mono ?_
                    rintro e w9 ⟨rfl, hb9⟩
                    have BB := Lib.hid (BB.out.trans (hb9.mono BB.out.size))
                    clear hb9
                    go_wp2_with (first | refine wpList_load_arrG rfl (.tmp 9) 24 rfl (.pointer (some ⟨g3, 0, none⟩)) (.agg (va c)) rfl (LC.out _ _ (VC.out.step BB.out)) ?_ | refine wpList_load_arrG rfl (.tmp 8) 24 rfl (.pointer (some ⟨g2, 0, none⟩)) (.agg (va b)) rfl (LB.out _ _ (VB.out.step BB.out)) ?_)
                    refine (K2.out _).mono ?_
                    rintro e w9 ⟨rfl, hb9⟩
                    have BB := Lib.hid (BB.out.trans (hb9.mono BB.out.size))
                    clear hb9
                    go_wp2_with (first | refine wpList_load_arrG rfl (.tmp 7) 24 rfl (.pointer (some ⟨g1, 0, none⟩)) (.agg (va a)) rfl (LA.out _ _ (VA.out.step BB.out)) ?_ | refine wpList_load_arrG rfl (.tmp 9) 24 rfl (.pointer (some ⟨g3, 0, none⟩)) (.agg (va c)) rfl (LC.out _ _ (VC.out.step BB.out)) ?_)
                    refine (K4.out _).mono ?_
                    rintro e w9 ⟨rfl, hb9⟩
                    have BB := Lib.hid (BB.out.trans (hb9.mono BB.out.size))
                    clear hb9
                    go_wp2_with (first | refine wpList_load_arrG rfl (.tmp 8) 24 rfl (.pointer (some ⟨g2, 0, none⟩)) (.agg (va b)) rfl (LB.out _ _ (VB.out.step BB.out)) ?_ | refine wpList_load_arrG rfl (.tmp 9) 24 rfl (.pointer (some ⟨g3, 0, none⟩)) (.agg (va c)) rfl (LC.out _ _ (VC.out.step BB.out)) ?_)
                    refine (K5.out _).mono ?_
                    rintro e w9 ⟨rfl, hb9⟩
                    have BB := Lib.hid (BB.out.trans (hb9.mono BB.out.size))
                    clear hb9
                    go_wp2_with (first | refine wpList_load_arrG rfl (.tmp 12) 24 rfl (.pointer (some ⟨gd, 0, none⟩)) (.agg (va dd)) rfl (LD.out _ _ (VD.out.step BB.out)) ?_ | refine wpList_load_arrG rfl (.tmp 9) 24 rfl (.pointer (some ⟨g3, 0, none⟩)) (.agg (va c)) rfl (LC.out _ _ (VC.out.step BB.out)) ?_)
                    refine (K6.out _).mono ?_
                    rintro e w9 ⟨rfl, hb9⟩
                    have BB := Lib.hid (BB.out.trans (hb9.mono BB.out.size))
                    clear hb9
                    go_wp2_with fail
                    go_meet
                    exact ⟨rfl, BB.out⟩
              · obtain rfl := hq3 rfl rfl
                rcases q4 with _ | _
                · go_wp2_with (first | refine wpList_load_arrG rfl (.tmp 9) 24 rfl (.pointer (some ⟨g3, 0, none⟩)) (.agg (va c)) rfl (LC.out _ _ (VC.out.step BB.out)) ?_ | refine wpList_load_arrG rfl (.tmp 7) 24 rfl (.pointer (some ⟨g1, 0, none⟩)) (.agg (va a)) rfl (LA.out _ _ (VA.out.step BB.out)) ?_)
                  refine (K1.out _).mono ?_
                  rintro e w9 ⟨rfl, hb9⟩
                  have BB := Lib.hid (BB.out.trans (hb9.mono BB.out.size))
                  clear hb9
                  go_wp2_with (first | refine wpList_load_arrG rfl (.tmp 9) 24 rfl (.pointer (some ⟨g3, 0, none⟩)) (.agg (va c)) rfl (LC.out _ _ (VC.out.step BB.out)) ?_ | refine wpList_load_arrG rfl (.tmp 8) 24 rfl (.pointer (some ⟨g2, 0, none⟩)) (.agg (va b)) rfl (LB.out _ _ (VB.out.step BB.out)) ?_)
                  refine (K2.out _).mono ?_
                  rintro e w9 ⟨rfl, hb9⟩
                  have BB := Lib.hid (BB.out.trans (hb9.mono BB.out.size))
                  clear hb9
                  go_wp2_with (first | refine wpList_load_arrG rfl (.tmp 9) 24 rfl (.pointer (some ⟨g3, 0, none⟩)) (.agg (va c)) rfl (LC.out _ _ (VC.out.step BB.out)) ?_ | refine wpList_load_arrG rfl (.tmp 11) 24 rfl (.pointer (some ⟨gk, 0, none⟩)) (.agg (va kk)) rfl (LK.out _ _ (VK.out.step BB.out)) ?_)
                  refine (K3.out _).mono ?_
                  rintro e w9 ⟨rfl, hb9⟩
                  have BB := Lib.hid (BB.out.trans (hb9.mono BB.out.size))
                  clear hb9
                  go_wp2_with (first | refine wpList_load_arrG rfl (.tmp 7) 24 rfl (.pointer (some ⟨g1, 0, none⟩)) (.agg (va a)) rfl (LA.out _ _ (VA.out.step BB.out)) ?_ | refine wpList_load_arrG rfl (.tmp 9) 24 rfl (.pointer (some ⟨g3, 0, none⟩)) (.agg (va c)) rfl (LC.out _ _ (VC.out.step BB.out)) ?_)
                  refine (K4.out _).mono ?_
                  rintro e w9 ⟨rfl, hb9⟩
                  have BB := Lib.hid (BB.out.trans (hb9.mono BB.out.size))
                  clear hb9
                  go_wp2_with fail
                  go_meet
                  exact ⟨rfl, BB.out⟩
                · rcases q5 with _ | _
                  · go_wp2_with (first | refine wpList_load_arrG rfl (.tmp 9) 24 rfl (.pointer (some ⟨g3, 0, none⟩)) (.agg (va c)) rfl (LC.out _ _ (VC.out.step BB.out)) ?_ | refine wpList_load_arrG rfl (.tmp 7) 24 rfl (.pointer (some ⟨g1, 0, none⟩)) (.agg (va a)) rfl (LA.out _ _ (VA.out.step BB.out)) ?_)
                    refine (K1.out _).mono ?_
                    rintro e w9 ⟨rfl, hb9⟩
                    have BB := Lib.hid (BB.out.trans (hb9.mono BB.out.size))
                    clear hb9
                    go_wp2_with (first | refine wpList_load_arrG rfl (.tmp 9) 24 rfl (.pointer (some ⟨g3, 0, none⟩)) (.agg (va c)) rfl (LC.out _ _ (VC.out.step BB.out)) ?_ | refine wpList_load_arrG rfl (.tmp 8) 24 rfl (.pointer (some ⟨g2, 0, none⟩)) (.agg (va b)) rfl (LB.out _ _ (VB.out.step BB.out)) ?_)
                    refine (K2.out _).mono ?_
                    rintro e w9 ⟨rfl, hb9⟩
                    have BB := Lib.hid (BB.out.trans (hb9.mono BB.out.size))
                    clear hb9
                    go_wp2_with (first | refine wpList_load_arrG rfl (.tmp 9) 24 rfl (.pointer (some ⟨g3, 0, none⟩)) (.agg (va c)) rfl (LC.out _ _ (VC.out.step BB.out)) ?_ | refine wpList_load_arrG rfl (.tmp 11) 24 rfl (.pointer (some ⟨gk, 0, none⟩)) (.agg (va kk)) rfl (LK.out _ _ (VK.out.step BB.out)) ?_)
                    refine (K3.out _).mono ?_
                    rintro e w9 ⟨rfl, hb9⟩
                    have BB := Lib.hid (BB.out.trans (hb9.mono BB.out.size))
                    clear hb9
                    go_wp2_with (first | refine wpList_load_arrG rfl (.tmp 7) 24 rfl (.pointer (some ⟨g1, 0, none⟩)) (.agg (va a)) rfl (LA.out _ _ (VA.out.step BB.out)) ?_ | refine wpList_load_arrG rfl (.tmp 9) 24 rfl (.pointer (some ⟨g3, 0, none⟩)) (.agg (va c)) rfl (LC.out _ _ (VC.out.step BB.out)) ?_)
                    refine (K4.out _).mono ?_
                    rintro e w9 ⟨rfl, hb9⟩
                    have BB := Lib.hid (BB.out.trans (hb9.mono BB.out.size))
                    clear hb9
                    go_wp2_with (first | refine wpList_load_arrG rfl (.tmp 8) 24 rfl (.pointer (some ⟨g2, 0, none⟩)) (.agg (va b)) rfl (LB.out _ _ (VB.out.step BB.out)) ?_ | refine wpList_load_arrG rfl (.tmp 9) 24 rfl (.pointer (some ⟨g3, 0, none⟩)) (.agg (va c)) rfl (LC.out _ _ (VC.out.step BB.out)) ?_)
                    refine (K5.out _).mono ?_
                    rintro e w9 ⟨rfl, hb9⟩
                    have BB := Lib.hid (BB.out.trans (hb9.mono BB.out.size))
                    clear hb9
                    go_wp2_with fail
                    go_meet
                    exact ⟨rfl, BB.out⟩
                  · obtain rfl := hq6 rfl rfl
                    go_wp2_with (first | refine wpList_load_arrG rfl (.tmp 9) 24 rfl (.pointer (some ⟨g3, 0, none⟩)) (.agg (va c)) rfl (LC.out _ _ (VC.out.step BB.out)) ?_ | refine wpList_load_arrG rfl (.tmp 7) 24 rfl (.pointer (some ⟨g1, 0, none⟩)) (.agg (va a)) rfl (LA.out _ _ (VA.out.step BB.out)) ?_)
                    refine (K1.out _).mono ?_
                    rintro e w9 ⟨rfl, hb9⟩
                    have BB := Lib.hid (BB.out.trans (hb9.mono BB.out.size))
                    clear hb9
                    go_wp2_with (first | refine wpList_load_arrG rfl (.tmp 9) 24 rfl (.pointer (some ⟨g3, 0, none⟩)) (.agg (va c)) rfl (LC.out _ _ (VC.out.step BB.out)) ?_ | refine wpList_load_arrG rfl (.tmp 8) 24 rfl (.pointer (some ⟨g2, 0, none⟩)) (.agg (va b)) rfl (LB.out _ _ (VB.out.step BB.out)) ?_)
                    refine (K2.out _).mono ?_
                    rintro e w9 ⟨rfl, hb9⟩
                    have BB := Lib.hid (BB.out.trans (hb9.mono BB.out.size))
                    clear hb9
                    go_wp2_with (first | refine wpList_load_arrG rfl (.tmp 9) 24 rfl (.pointer (some ⟨g3, 0, none⟩)) (.agg (va c)) rfl (LC.out _ _ (VC.out.step BB.out)) ?_ | refine wpList_load_arrG rfl (.tmp 11) 24 rfl (.pointer (some ⟨gk, 0, none⟩)) (.agg (va kk)) rfl (LK.out _ _ (VK.out.step BB.out)) ?_)
                    refine (K3.out _).mono ?_
                    rintro e w9 ⟨rfl, hb9⟩
                    have BB := Lib.hid (BB.out.trans (hb9.mono BB.out.size))
                    clear hb9
                    go_wp2_with (first | refine wpList_load_arrG rfl (.tmp 7) 24 rfl (.pointer (some ⟨g1, 0, none⟩)) (.agg (va a)) rfl (LA.out _ _ (VA.out.step BB.out)) ?_ | refine wpList_load_arrG rfl (.tmp 9) 24 rfl (.pointer (some ⟨g3, 0, none⟩)) (.agg (va c)) rfl (LC.out _ _ (VC.out.step BB.out)) ?_)
                    refine (K4.out _).mono ?_
                    rintro e w9 ⟨rfl, hb9⟩
                    have BB := Lib.hid (BB.out.trans (hb9.mono BB.out.size))
                    clear hb9
                    go_wp2_with (first | refine wpList_load_arrG rfl (.tmp 8) 24 rfl (.pointer (some ⟨g2, 0, none⟩)) (.agg (va b)) rfl (LB.out _ _ (VB.out.step BB.out)) ?_ | refine wpList_load_arrG rfl (.tmp 9) 24 rfl (.pointer (some ⟨g3, 0, none⟩)) (.agg (va c)) rfl (LC.out _ _ (VC.out.step BB.out)) ?_)
                    refine (K5.out _).mono ?_
                    rintro e w9 ⟨rfl, hb9⟩
                    have BB := Lib.hid (BB.out.trans (hb9.mono BB.out.size))
                    clear hb9
                    go_wp2_with (first | refine wpList_load_arrG rfl (.tmp 12) 24 rfl (.pointer (some ⟨gd, 0, none⟩)) (.agg (va dd)) rfl (LD.out _ _ (VD.out.step BB.out)) ?_ | refine wpList_load_arrG rfl (.tmp 9) 24 rfl (.pointer (some ⟨g3, 0, none⟩)) (.agg (va c)) rfl (LC.out _ _ (VC.out.step BB.out)) ?_)
                    refine (K6.out _).mono ?_
                    rintro e w9 ⟨rfl, hb9⟩
                    have BB := Lib.hid (BB.out.trans (hb9.mono BB.out.size))
                    clear hb9
                    go_wp2_with fail
                    go_meet
                    exact ⟨rfl, BB.out⟩
          case rest =>
            obtain ⟨rfl, bw⟩ := hcut
            have hs1 : IntKind.i64.wrap (sumW kk + sumW dd) = wrap64 (sumW a + sumW b) := by rw [IntWalk.i64_left]; exact HS.out
            have hs2 : IntKind.i64.wrap (sumW a + sumW b) = wrap64 (sumW a + sumW b) := by rw [IntWalk.i64_left]
            clear HS K1 K2 K3 K4 K5 K6 HQ
            obtain ⟨z, hz⟩ : ∃ z, wrap64 (sumW a + sumW b) = z := ⟨_, rfl⟩
            rw [hz] at hs1 hs2
            obtain ⟨s1, e1⟩ : ∃ x, sumW a = x := ⟨_, rfl⟩
            obtain ⟨s2, e2⟩ : ∃ x, sumW b = x := ⟨_, rfl⟩
            obtain ⟨s3, e3⟩ : ∃ x, sumW kk = x := ⟨_, rfl⟩
            obtain ⟨s4, e4⟩ : ∃ x, sumW dd = x := ⟨_, rfl⟩
            rw [e1] at SA hs2 
            rw [e2] at SB hs2
            rw [e3] at SK hs1
            rw [e4] at SD hs1
            clear e1 e2 e3 e4 hz
            have VA := Lib.hid (VA.out.step bw)
            have VB := Lib.hid (VB.out.step bw)
            have VK := Lib.hid (VK.out.step bw)
            have VD := Lib.hid (VD.out.step bw)
            have T0 := Lib.hid (T0.out.trans (bw.mono T0.out.size))
            clear bw VC
            go_upto_region 8 with (fail)
            obtain ⟨wq, hwq⟩ : ∃ y, wc = y := ⟨_, rfl⟩
            rw [hwq] at VA VB VK VD T0 ⊢
            clear hwq
            have QA := Lib.hid (later_all (W := wq) (Q := fun w => (Instr.loadAt 24 (.pointer (some ⟨g1, 0, none⟩))).run Tryd.prog w = .ok (.agg (va a)) w) (fun x => LA.out x.w _ (VA.out.step x.below)))
            have QB := Lib.hid (later_all (W := wq) (Q := fun w => (Instr.loadAt 24 (.pointer (some ⟨g2, 0, none⟩))).run Tryd.prog w = .ok (.agg (va b)) w) (fun x => LB.out x.w _ (VB.out.step x.below)))
            have QK := Lib.hid (later_all (W := wq) (Q := fun w => (Instr.loadAt 24 (.pointer (some ⟨gk, 0, none⟩))).run Tryd.prog w = .ok (.agg (va kk)) w) (fun x => LK.out x.w _ (VK.out.step x.below)))
            have QD := Lib.hid (later_all (W := wq) (Q := fun w => (Instr.loadAt 24 (.pointer (some ⟨gd, 0, none⟩))).run Tryd.prog w = .ok (.agg (va dd)) w) (fun x => LD.out x.w _ (VD.out.step x.below)))
            have DA := Lib.hid (fun x : Later wq => SA.out x.w)
            have DB := Lib.hid (fun x : Later wq => SB.out x.w)
            have DK := Lib.hid (fun x : Later wq => SK.out x.w)
            have DD := Lib.hid (fun x : Later wq => SD.out x.w)
            have DM := Lib.hid (fun x : Later wq => MU.out x.w)
            have DW := Lib.hid (fun x : Later wq => AW.out x.w (T0.out.trans (x.below.mono T0.out.size)))
            have ed := ED.out
            have v1 : (z == z) = true := by simp
            refine wp_region_later (by kernel_rfl) (by kernel_rfl) ?_
            repeat (first
              | (go_big_quiet_want; refine quiet_load (.tmp 7) 24 rfl (.pointer (some ⟨g1, 0, none⟩)) (.agg (va a)) rfl QA.out ?_; (try simp only [Act.put, List.setIfInBounds_toArray, List.set_cons_zero, List.set_cons_succ]); go_big_quiet_on)
              | (go_big_quiet_want; refine quiet_load (.tmp 8) 24 rfl (.pointer (some ⟨g2, 0, none⟩)) (.agg (va b)) rfl QB.out ?_; (try simp only [Act.put, List.setIfInBounds_toArray, List.set_cons_zero, List.set_cons_succ]); go_big_quiet_on)
              | (go_big_quiet_want; refine quiet_load (.tmp 11) 24 rfl (.pointer (some ⟨gk, 0, none⟩)) (.agg (va kk)) rfl QK.out ?_; (try simp only [Act.put, List.setIfInBounds_toArray, List.set_cons_zero, List.set_cons_succ]); go_big_quiet_on)
              | (go_big_quiet_want; refine quiet_load (.tmp 12) 24 rfl (.pointer (some ⟨gd, 0, none⟩)) (.agg (va dd)) rfl QD.out ?_; (try simp only [Act.put, List.setIfInBounds_toArray, List.set_cons_zero, List.set_cons_succ]); go_big_quiet_on)
              | (go_big_quiet_step (first
                | (go_at_call 24; with_reducible exact later_call (DA.out _))
                | (go_at_call 24; with_reducible exact later_call (DB.out _))
                | (go_at_call 24; with_reducible exact later_call (DK.out _))
                | (go_at_call 24; with_reducible exact later_call (DD.out _))
                | (go_at_call 10; with_reducible exact later_call (DM.out _))
                | (go_at_call 20; with_reducible exact later_call (DW.out _)))))
            refine wpQuiet_nil ?_
            intro _ hw'
            obtain ⟨x13, hw''⟩ := hw'
            subst hw''
            have T13 := Lib.hid (T0.out.trans (x13.below.mono T0.out.size))
            go_wp2
            go_returns
            exact ⟨rfl, T13.out⟩
end Go.Proofs.YtiljmkglmanddaaDoor
