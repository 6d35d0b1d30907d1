/- VecTells, walked. -/
import Derived.Test.YtiljmkglmanddaaDoorVZ
set_option linter.unusedVariables false
namespace Go.Proofs.YtiljmkglmanddaaDoor
open Go.RowKit

set_option maxRecDepth 100000 in
set_option maxHeartbeats 8000000 in
theorem tells_law (w : World) (v0 v1 : Value) (l k : List (Nat × Int)) (rep n : Int) (hl : LiesO w v0 l) (hk : LiesO w v1 k) (m : Int) (hm : w.cell? ⟨0, 0, none⟩ = some (.int .i64 m)) (ht : Tab w) :
    Calls Tryd.prog 3 #[v0, v1, .int .i64 rep, .int .i64 n] w fun e w' => e = .returned (.bool true) ∧ Below w.heap.size w w' := by
  have hb0 : 0 < w.heap.size := World.block_lt_of_cell? w _ hm
  have AW := Lib.hid (fun W (h : Below w.heap.size w W) => awake_any W m ((h.cell (p := ⟨0, 0, none⟩) hb0).trans hm) (tab_later ht h))
  have M1 := Lib.hid (fun W (h : Below w.heap.size w W) => Made_any W v0 l (hl.later h))
  have M2 := Lib.hid (fun W (h : Below w.heap.size w W) => Made_any W v1 k (hk.later h))
  have ha := madeF_len l
  have hb := madeF_len k
  obtain ⟨a0, c0, rfl⟩ := hl.shape
  obtain ⟨a1, c1, rfl⟩ := hk.shape
  generalize madeF l = a at *
  generalize madeF k = b at *
  clear hl hk ht hm hb0
  have hj : (joinF [a, b]).length = 64 := jF_len (jF_len zs_len ha) hb
  have BS := Lib.hid (fun W => build_two W a b ha hb)
  have JN := Lib.hid (fun (W : World) (g : Nat) (h : W.heap[g]? = some (.cells (va (a ++ b)) 24 (0, 0))) => join_any W _ _ (two_at ha hb h) (by simp))
  have RJ := Lib.hid (fun W => rjoin_any W a b ha hb)
  have JE := Lib.hid (fun W => join_empty W)
  have hmt : (meetF a b).length = 64 := meetF_len ha hb
  have MT := Lib.hid (fun W => meet_any W a b ha hb)
  have RM := Lib.hid (fun W => rmeet_any W a b ha hb)
  obtain ⟨q1, hq1⟩ : ∃ c : Bool, c = true ↔ CovP a b := by classical exact ⟨decide (CovP a b), decide_eq_true_iff⟩
  obtain ⟨q2, hq2⟩ : ∃ c : Bool, c = true ↔ CovP b a := by classical exact ⟨decide (CovP b a), decide_eq_true_iff⟩
  obtain ⟨q3, hq3⟩ : ∃ c : Bool, c = true ↔ RightP a := by classical exact ⟨decide (RightP a), decide_eq_true_iff⟩
  have OD := Lib.hid (fun W => order_any W a b ha hb q1 q2 hq1 hq2)
  have RO := Lib.hid (fun W => rorder_any W a b ha hb q1 q2 hq1 hq2)
  have CV := Lib.hid (fun W => covers_any W a b ha hb q1 hq1)
  have RC := Lib.hid (fun W => rcovers_any W a b ha hb q1 hq1)
  have RI := Lib.hid (fun W => right_any W a ha q3 hq3)
  have RR := Lib.hid (fun W => rright_any W a ha q3 hq3)
  have hwl : (withF a rep n).length = 64 := (withF_len a rep n).trans ha
  have GT := Lib.hid (fun W => get_any W a ha rep)
  have WT := Lib.hid (fun W => with_any W a ha rep n)
  have HW := Lib.hid hwl
  have HWE := Lib.hid (show (isB rep = false → withF a rep n = a ∧ getF a rep = 0) ∧ (∀ k : Nat, k < 64 → rep = (k : Int) → withF a rep n = a.set k n ∧ a[k]? = some (getF a rep)) from
    ⟨fun h => ⟨by unfold withF; rw [h]; rfl, by unfold getF; rw [h]; rfl⟩, fun k hk e => by
      have hb : isB rep = true := decide_eq_true (by omega)
      obtain ⟨x, hx⟩ := va_len a ha k hk
      have e2 : rep.toNat = k := by omega
      exact ⟨by unfold withF; rw [hb, e2]; rfl, by unfold getF; rw [hb, e2, getD_of hx]; exact hx⟩⟩)
  have E5 := Lib.hid (eqin_self (withF a rep n) hwl)
  have LW := Lib.hid (fun (W : World) (g : Nat) (h : VAt 24 W g (withF a rep n)) => load_va v24 W g (withF a rep n) hwl h)
  have LA := Lib.hid (fun (W : World) (g : Nat) (h : VAt 24 W g a) => load_va v24 W g a ha h)
  have LB := Lib.hid (fun (W : World) (g : Nat) (h : VAt 24 W g b) => load_va v24 W g b hb h)
  have LJ := Lib.hid (fun (W : World) (g : Nat) (h : VAt 24 W g (joinF [a, b])) => load_va v24 W g (joinF [a, b]) hj h)
  have E1 := Lib.hid (eqin_self (joinF [a, b]) hj)
  have E2 := Lib.hid (eqin_self (meetF a b) hmt)
  have E3 := Lib.hid (eqin_self zs zs_len)
  have E4 := Lib.hid (eqin_self a ha)
  have HA := Lib.hid ha
  have HB := Lib.hid hb
  have HJ := Lib.hid hj
  unfold vw at *
  clear hq1 hq2 hq3 ha hb
  generalize joinF [a, b] = j at *
  generalize meetF a b = mt at *
  generalize ordB q1 q2 = od at *
  generalize withF a rep n = wv at *
  generalize getF a rep = gv at *
  clear hwl
  clear hj hmt
  go_enter Tryd.func3, Tryd.ntmps3
  go_wp2_with fail
  refine (M1.out _ (Below.refl _ _)).mono ?_
  rintro e w1 ⟨rfl, hb1⟩
  have T1 := Lib.hid hb1
  clear hb1
  go_wp2_with fail
  refine (M2.out _ T1.out).mono ?_
  rintro e w2 ⟨rfl, hb2⟩
  have T2 := Lib.hid (T1.out.trans (hb2.mono T1.out.size))
  clear hb2 T1
  obtain ⟨W1, W2, W3, W4, h1, h2, h3, h4, b4, va4, vb4⟩ := two_box z24 v24 w2 a b HA.out HB.out
  have H1 := Lib.hid h1
  have H2 := Lib.hid h2
  have H3 := Lib.hid h3
  have H4 := Lib.hid h4
  have T4 := Lib.hid (T2.out.trans (b4.mono T2.out.size))
  have VA4 := Lib.hid va4
  have VB4 := Lib.hid vb4
  clear h1 h2 h3 h4 b4 va4 vb4 T2
  go_wp2_with (first | refine wpList_alloc_arr rfl 24 rfl _ _ H1.out ?_ | refine wpList_alloc_arr rfl 24 rfl _ _ H2.out ?_ | refine wpList_store_arr rfl (.tmp 9) (.tmp 15) 24 rfl (.pointer (some ⟨w2.heap.size, 0, none⟩)) (.agg (va a)) rfl rfl _ H3.out ?_ | refine wpList_store_arr rfl (.tmp 10) (.tmp 17) 24 rfl (.pointer (some ⟨w2.heap.size + 1, 0, none⟩)) (.agg (va b)) rfl rfl _ H4.out ?_ | refine wpList_load_arr rfl (.tmp 9) 24 rfl (.pointer (some ⟨w2.heap.size, 0, none⟩)) _ rfl (LA.out _ _ VA4.out) ?_ | refine wpList_load_arr rfl (.tmp 10) 24 rfl (.pointer (some ⟨w2.heap.size + 1, 0, none⟩)) _ rfl (LB.out _ _ VB4.out) ?_ | refine wpList_bslice rfl 60 2 _ #[(0, .agg (va a)), (1, .agg (va b))] rfl rfl _ _ (BS.out _) ?_)
  have N5 := Lib.hid (heap_alloc_new W4 (.cells (va (a ++ b)) 24))
  have L5 := Lib.hid (vstep W4 (.cells (va (a ++ b)) 24))
  refine (JN.out _ _ N5.out).mono ?_
  rintro e w5 ⟨rfl, hb5⟩
  have T5 := Lib.hid ((T4.out.trans (L5.out.mono T4.out.size)).trans (hb5.mono (T4.out.trans (L5.out.mono T4.out.size)).size))
  have VA5 := Lib.hid ((VA4.out.step L5.out).step hb5)
  have VB5 := Lib.hid ((VB4.out.step L5.out).step hb5)
  clear hb5 N5 L5 VA4 VB4 T4 H1 H2 H3 H4
  obtain ⟨W6, W7, h6, h7, b7, vj7⟩ := one_box z24 v24 w5 j HJ.out
  have H6 := Lib.hid h6
  have H7 := Lib.hid h7
  have T7 := Lib.hid (T5.out.trans (b7.mono T5.out.size))
  have VA7 := Lib.hid (VA5.out.step b7)
  have VB7 := Lib.hid (VB5.out.step b7)
  have VJ7 := Lib.hid vj7
  clear h6 h7 b7 vj7 T5 VA5 VB5
  go_wp2_with (first | refine wpList_alloc_arr rfl 24 rfl _ _ H6.out ?_ | refine wpList_store_arr rfl (.tmp 11) (.tmp 21) 24 rfl (.pointer (some ⟨w5.heap.size, 0, none⟩)) (.agg (va j)) rfl rfl _ H7.out ?_)
  obtain ⟨g1, hg1⟩ : ∃ g, w2.heap.size = g := ⟨_, rfl⟩
  obtain ⟨g2, hg2⟩ : ∃ g, g1 + 1 = g := ⟨_, rfl⟩
  obtain ⟨g3, hg3⟩ : ∃ g, w5.heap.size = g := ⟨_, rfl⟩
  rw [hg1] at VA7 VB7 ⊢
  rw [hg2] at VB7 ⊢
  rw [hg3] at VJ7 ⊢
  clear hg1 hg2 hg3 H6 H7
  have D9 := Lib.hid (fun x : Later W7 => RJ.out x.w)
  have D10 := Lib.hid (fun x : Later W7 => MT.out x.w)
  have D11 := Lib.hid (fun x : Later W7 => RM.out x.w)
  have D12 := Lib.hid (fun x : Later W7 => OD.out x.w)
  have D13 := Lib.hid (fun x : Later W7 => RO.out x.w)
  have D14 := Lib.hid (fun x : Later W7 => CV.out x.w)
  have D15 := Lib.hid (fun x : Later W7 => RC.out x.w)
  have D16 := Lib.hid (fun x : Later W7 => RI.out x.w)
  have D17 := Lib.hid (fun x : Later W7 => RR.out x.w)
  have D8 := Lib.hid (fun x : Later W7 => JE.out x.w)
  have QA := Lib.hid (later_all (W := W7) (Q := fun w => (Instr.loadAt 24 (.pointer (some ⟨g1, 0, none⟩))).run Tryd.prog w = .ok (.agg (va a)) w) (fun x => LA.out x.w _ (VA7.out.step x.below)))
  have QB := Lib.hid (later_all (W := W7) (Q := fun w => (Instr.loadAt 24 (.pointer (some ⟨g2, 0, none⟩))).run Tryd.prog w = .ok (.agg (va b)) w) (fun x => LB.out x.w _ (VB7.out.step x.below)))
  have QJ := Lib.hid (later_all (W := W7) (Q := fun w => (Instr.loadAt 24 (.pointer (some ⟨g3, 0, none⟩))).run Tryd.prog w = .ok (.agg (va j)) w) (fun x => LJ.out x.w _ (VJ7.out.step x.below)))
  have BZ := Lib.hid (fun W => build_va W)
  have v1 : (q1 != q1) = false := by cases q1 <;> rfl
  have v3 : (q3 != q3) = false := by cases q3 <;> rfl
  have v5 : (od != od) = false := by simp
  have e1 := E1.out
  have e2 := E2.out
  have e3 := E3.out
  have e4 := E4.out
  have bz := BZ.out
  simp only [Act.put, List.setIfInBounds_toArray, List.set_cons_zero, List.set_cons_succ]
  refine wp_region_later (by kernel_rfl) (by kernel_rfl) ?_
  repeat (first
    | (go_big_quiet_want; refine quiet_load (.tmp 9) 24 rfl (.pointer (some ⟨g1, 0, none⟩)) (.agg (va a)) rfl QA.out ?_; (try simp only [Act.put, List.setIfInBounds_toArray, List.set_cons_zero, List.set_cons_succ]); go_big_quiet_on)
    | (go_big_quiet_want; refine quiet_load (.tmp 10) 24 rfl (.pointer (some ⟨g2, 0, none⟩)) (.agg (va b)) rfl QB.out ?_; (try simp only [Act.put, List.setIfInBounds_toArray, List.set_cons_zero, List.set_cons_succ]); go_big_quiet_on)
    | (go_big_quiet_want; refine quiet_load (.tmp 11) 24 rfl (.pointer (some ⟨g3, 0, none⟩)) (.agg (va j)) rfl QJ.out ?_; (try simp only [Act.put, List.setIfInBounds_toArray, List.set_cons_zero, List.set_cons_succ]); go_big_quiet_on)
    | (go_big_quiet_want; refine quiet_build 24 rfl (.agg (va zs)) BZ.out ?_; (try simp only [Act.put, List.setIfInBounds_toArray, List.set_cons_zero, List.set_cons_succ]); go_big_quiet_on)
    | (go_big_quiet_step (first
      | (go_at_call 8; with_reducible exact later_call (D8.out _))
      | (go_at_call 9; with_reducible exact later_call (D9.out _))
      | (go_at_call 10; with_reducible exact later_call (D10.out _))
      | (go_at_call 11; with_reducible exact later_call (D11.out _))
      | (go_at_call 12; with_reducible exact later_call (D12.out _))
      | (go_at_call 13; with_reducible exact later_call (D13.out _))
      | (go_at_call 14; with_reducible exact later_call (D14.out _))
      | (go_at_call 15; with_reducible exact later_call (D15.out _))
      | (go_at_call 16; with_reducible exact later_call (D16.out _))
      | (go_at_call 17; with_reducible exact later_call (D17.out _)))))
  refine wpQuiet_nil ?_
  intro _ hw'
  obtain ⟨x8, hw''⟩ := hw'
  subst hw''
  have T8 := Lib.hid (T7.out.trans (x8.below.mono T7.out.size))
  have VA8 := Lib.hid (VA7.out.step x8.below)
  clear D9 D10 D11 D12 D13 D14 D15 D16 D17 D8 QA QB QJ VJ7 VB7 e1 e2 e3 bz v1 v3 v5 T7 VA7
  obtain ⟨w8, hw8⟩ : ∃ y, x8.w = y := ⟨_, rfl⟩
  rw [hw8] at T8 VA8 ⊢
  clear hw8 x8
  go_wp2_with (refine wpList_load_arr rfl (.tmp 9) 24 rfl (.pointer (some ⟨g1, 0, none⟩)) _ rfl (LA.out _ _ VA8.out) ?_)
  refine (WT.out _).mono ?_
  rintro e w9 ⟨rfl, hb9⟩
  have T9 := Lib.hid (T8.out.trans (hb9.mono T8.out.size))
  have VA9 := Lib.hid (VA8.out.step hb9)
  obtain ⟨WA, WB, ha9, hb9', b10, vw10⟩ := one_box z24 v24 w9 wv HW.out
  have HA9 := Lib.hid ha9
  have HB9 := Lib.hid hb9'
  have T10 := Lib.hid (T9.out.trans (b10.mono T9.out.size))
  have VA10 := Lib.hid (VA9.out.step b10)
  have VW10 := Lib.hid vw10
  clear hb9 ha9 hb9' b10 vw10 T9 VA9 T8 VA8
  by_cases hin : 0 ≤ rep ∧ rep < 64
  · obtain ⟨r0, r1⟩ := hin
    obtain ⟨i, rfl⟩ : ∃ i : Nat, rep = (i : Int) := ⟨rep.toNat, by omega⟩
    have hi : i < 64 := by omega
    obtain ⟨hwe, hge⟩ := HWE.out.2 i hi rfl
    have EW := Lib.hid hwe
    have EG := Lib.hid hge
    have hge' := hge
    clear hwe hge HWE r0 r1
    obtain ⟨g4, hg4⟩ : ∃ g, w9.heap.size = g := ⟨_, rfl⟩
    rw [hg4] at HA9 HB9 VW10
    have hne : g1 ≠ WB.heap.size ∧ g4 ≠ WB.heap.size := ⟨Nat.ne_of_lt (lt_of_block VA10.out), Nat.ne_of_lt (lt_of_block VW10.out)⟩
    obtain ⟨WC, WD, hc1, hd1, b11, vd11⟩ := one_box z24 v24 WB a HA.out
    have HC1 := Lib.hid hc1
    have HD1 := Lib.hid hd1
    have T11 := Lib.hid (T10.out.trans (b11.mono T10.out.size))
    have VA11 := Lib.hid (VA10.out.step b11)
    have VW11 := Lib.hid (VW10.out.step b11)
    have VD11 := Lib.hid vd11
    obtain ⟨g5, hg5⟩ : ∃ g, WB.heap.size = g := ⟨_, rfl⟩
    have hwg : w.heap.size ≤ g5 := by rw [← hg5]; exact T10.out.size
    rw [hg5] at HC1 HD1 VD11 hne
    clear hc1 hd1 b11 vd11 hg4 hg5
    have f5 := frozen_of_row _ _ i _ _ VD11.out
    have g5c := cell_va VD11.out hge'
    have T12 := Lib.hid (T11.out.setCell (p := ⟨g5, i, none⟩) hwg (.int .i64 n))
    have VA12 := Lib.hid (show VAt 24 (WD.setCell ⟨g5, i, none⟩ (.int .i64 n)) g1 a from (Below.heap_setCell _ _ _ _ hne.1).trans VA11.out)
    have VW12 := Lib.hid (show VAt 24 (WD.setCell ⟨g5, i, none⟩ (.int .i64 n)) g4 wv from (Below.heap_setCell _ _ _ _ hne.2).trans VW11.out)
    have VD12 := Lib.hid (show VAt 24 (WD.setCell ⟨g5, i, none⟩ (.int .i64 n)) g5 wv by rw [EW.out]; exact set_va VD11.out i n)
    clear hge' hne
    go_wp2_with (first | refine wpList_alloc_arr rfl 24 rfl _ _ HA9.out ?_ | refine wpList_store_arr rfl (.tmp 12) (.tmp 69) 24 rfl (.pointer (some ⟨g4, 0, none⟩)) (.agg (va wv)) rfl rfl _ HB9.out ?_ | refine wpList_load_arr rfl (.tmp 9) 24 rfl (.pointer (some ⟨g1, 0, none⟩)) _ rfl (LA.out _ _ VA10.out) ?_ | refine wpList_alloc_arr rfl 24 rfl _ _ HC1.out ?_ | refine wpList_store_arr rfl (.tmp 13) (.tmp 88) 24 rfl (.pointer (some ⟨g5, 0, none⟩)) (.agg (va a)) rfl rfl _ HD1.out ?_)
    obtain ⟨WE, hWE⟩ : ∃ W, WD.setCell ⟨g5, i, none⟩ (.int .i64 n) = W := ⟨_, rfl⟩
    rw [hWE] at T12 VA12 VW12 VD12 ⊢
    clear hWE HA9 HB9 HC1 HD1 f5 g5c T10 T11 VA10 VA11 VW10 VW11 VD11
    have D19 := Lib.hid (fun x : Later WE => GT.out x.w)
    have D20 := Lib.hid (fun x : Later WE => AW.out x.w (T12.out.trans (x.below.mono T12.out.size)))
    have QA := Lib.hid (later_all (W := WE) (Q := fun w => (Instr.loadAt 24 (.pointer (some ⟨g1, 0, none⟩))).run Tryd.prog w = .ok (.agg (va a)) w) (fun x => LA.out x.w _ (VA12.out.step x.below)))
    have QW := Lib.hid (later_all (W := WE) (Q := fun w => (Instr.loadAt 24 (.pointer (some ⟨g4, 0, none⟩))).run Tryd.prog w = .ok (.agg (va wv)) w) (fun x => LW.out x.w _ (VW12.out.step x.below)))
    have QD := Lib.hid (later_all (W := WE) (Q := fun w => (Instr.loadAt 24 (.pointer (some ⟨g5, 0, none⟩))).run Tryd.prog w = .ok (.agg (va wv)) w) (fun x => LW.out x.w _ (VD12.out.step x.below)))
    have k1 := fun x : Later WE => cell_va (VA12.out.step x.below) EG.out
    have e5 := E5.out
    have v1 : (gv == gv) = true := by simp
    clear e4
    refine wp_region_later (by kernel_rfl) (by kernel_rfl) ?_
    repeat (first
      | (go_big_quiet_want; refine quiet_load (.tmp 9) 24 rfl (.pointer (some ⟨g1, 0, none⟩)) (.agg (va a)) rfl QA.out ?_; (try simp only [Act.put, List.setIfInBounds_toArray, List.set_cons_zero, List.set_cons_succ]); go_big_quiet_on)
      | (go_big_quiet_want; refine quiet_load (.tmp 12) 24 rfl (.pointer (some ⟨g4, 0, none⟩)) (.agg (va wv)) rfl QW.out ?_; (try simp only [Act.put, List.setIfInBounds_toArray, List.set_cons_zero, List.set_cons_succ]); go_big_quiet_on)
      | (go_big_quiet_want; refine quiet_load (.tmp 13) 24 rfl (.pointer (some ⟨g5, 0, none⟩)) (.agg (va wv)) rfl QD.out ?_; (try simp only [Act.put, List.setIfInBounds_toArray, List.set_cons_zero, List.set_cons_succ]); go_big_quiet_on)
      | (go_big_quiet_step (first
        | (go_at_call 19; with_reducible exact later_call (D19.out _))
        | (go_at_call 20; with_reducible exact later_call (D20.out _)))))
    refine wpQuiet_nil ?_
    intro _ hw'
    obtain ⟨x13, hw''⟩ := hw'
    subst hw''
    have T13 := Lib.hid (T12.out.trans (x13.below.mono T12.out.size))
    go_wp2
    go_returns
    exact ⟨rfl, T13.out⟩
  · have hd : rep < 0 ∨ (¬ rep < 0 ∧ 63 < rep) := by omega
    obtain ⟨hwe, hge⟩ := HWE.out.1 (decide_eq_false hin)
    have EG := Lib.hid hge
    have e6 : ∀ w, (Op.equalIn 10000 24 (.agg (va wv)) (.agg (va a))).run Tryd.prog w = .ok true w := by rw [hwe]; exact E4.out
    clear HWE hin hge hwe e4
    rw [EG.out] at GT
    clear EG
    rcases hd with hd | ⟨hd, hd2⟩
    all_goals
      go_wp2_with (first | refine wpList_alloc_arr rfl 24 rfl _ _ HA9.out ?_ | refine wpList_store_arr rfl (.tmp 12) (.tmp 69) 24 rfl (.pointer (some ⟨w9.heap.size, 0, none⟩)) (.agg (va wv)) rfl rfl _ HB9.out ?_ | refine wpList_load_arr rfl (.tmp 9) 24 rfl (.pointer (some ⟨g1, 0, none⟩)) _ rfl (LA.out _ _ VA10.out) ?_)
      refine (GT.out _).mono ?_
      rintro e w11 ⟨rfl, hb11⟩
      have T11 := Lib.hid (T10.out.trans (hb11.mono T10.out.size))
      have VA11 := Lib.hid (VA10.out.step hb11)
      have VW11 := Lib.hid (VW10.out.step hb11)
      clear hb11
      go_wp2_with (first | refine wpList_load_arrG rfl (.tmp 9) 24 rfl (.pointer (some ⟨g1, 0, none⟩)) _ rfl (LA.out _ _ VA11.out) ?_ | refine wpList_load_arrG rfl (.tmp 12) 24 rfl (.pointer (some ⟨w9.heap.size, 0, none⟩)) _ rfl (LW.out _ _ VW11.out) ?_)
      refine (AW.out _ T11.out).mono ?_
      rintro e w12 ⟨rfl, hb12⟩
      have T12 := Lib.hid (T11.out.trans (hb12.mono T11.out.size))
      clear hb12
      go_wp2
      go_returns
      exact ⟨rfl, T12.out⟩
end Go.Proofs.YtiljmkglmanddaaDoor
