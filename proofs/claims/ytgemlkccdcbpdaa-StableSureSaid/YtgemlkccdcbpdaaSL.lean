/- StableSure, walked: four walks, one for each way. Made by gensl.py. -/
import Derived.Test.YtgemlkccdcbpdaaSK
import Derived.Test.YtgemlkccdcbpdaaVL
set_option linter.unusedVariables false
namespace Go.Proofs.Ytgemlkccdcbpdaa
open Go.RowKit

theorem getD_of' {l : List Int} {i : Nat} {x : Int} (h : l[i]? = some x) : l.getD i 0 = x := by rw [List.getD_eq_getElem?_getD, h]; rfl
theorem VAt.grown {W W' : World} {q g : Nat} {l : List Int} (h : VAt 34 W g l) (hg : W.grownBy W' (some q)) (hn : q ≠ g) : VAt 34 W' g l := (hg.block _ (lt_of_block h) (fun e => hn (by injection e with e; exact e.symm))).trans h
theorem sure_mem {v u : List Int} {a t : Int} : memF [(v, a), (u, t)] 1 = (u, t) := by
  unfold memF
  rw [show isM ([(v, a), (u, t)] : List Mb).length 1 = true from by show isM 2 1 = true; decide]
  rfl

set_option maxRecDepth 100000 in
set_option maxHeartbeats 6400000 in
theorem sure_A (w : World) (v0 v1 : Value) (l k : List (Nat × Int)) (a b : Int) (hl : LiesO w v0 l) (hk : LiesO w v1 k) (q1 q2 : Bool) (hq1 : q1 = true ↔ RightP (madeF l)) (hq2 : q2 = true ↔ RightP (madeF k)) (hr1 : rightM q1 a = false) :
    Calls Try.prog 5 #[v0, v1, .int .i64 a, .int .i64 b] w fun e w' => e = .returned (.bool true) ∧ Below w.heap.size w w' := by
  have NW := Lib.hid (new_any w 0 2 (by omega) (by omega))
  have M1 := Lib.hid (fun W (h : Below w.heap.size w W) => Made_any W v0 l (hl.later h))
  have M2 := Lib.hid (fun W (h : Below w.heap.size w W) => Made_any W v1 k (hk.later h))
  have hv := madeF_len l
  have hu := madeF_len k
  obtain ⟨a0, c0, rfl⟩ := hl.shape
  obtain ⟨a1, c1, rfl⟩ := hk.shape
  generalize madeF l = v at *
  generalize madeF k = u at *
  clear hl hk
  have HV := Lib.hid hv
  have HU := Lib.hid hu
  have LV := Lib.hid (fun (W : World) (g : Nat) (h : VAt 34 W g v) => load_va v34 W g v hv h)
  have LU := Lib.hid (fun (W : World) (g : Nat) (h : VAt 34 W g u) => load_va v34 W g u hu h)
  have MI := Lib.hid (fun W p q (h : WAt W p ((0 : Nat) : Int) q ex0) => mine_any W p q 0 ex0 h (by rw [ex_l0]; omega) v hv q1 hq1 a)
  have AW := Lib.hid (fun W => awake_any W)
  have FL := Lib.hid (fun W p q ms (h : WAt W p ((0 : Nat) : Int) q ms) => floor_any W (.pointer (some ⟨p, 0, none⟩)) _ ms (.inr ⟨p, _, rfl, h.rd⟩) h.rd.m64)
  rw [show List.replicate 2 mz = ex0 from rfl] at NW
  rw [hr1, if_neg Bool.false_ne_true] at MI
  have FL := Lib.hid (fun W p q (h : WAt W p ((0 : Nat) : Int) q ex0) => FL.out W p q ex0 h)
  rw [ex0_floor] at FL
  generalize hx0 : ex0 = x0 at *
  clear hx0
  unfold vw at *
  clear hv hu hq1 hq2 hr1
  go_enter Try.func5, Try.ntmps5
  go_wp2_with fail
  refine NW.out.mono ?_
  rintro e w1 ⟨p, q, rfl, h1, b1, hp, hq⟩
  have H1 := Lib.hid h1
  have B1 := Lib.hid b1
  have HQ := Lib.hid hq
  clear h1 b1 hp hq NW
  go_wp2_with fail
  refine (M1.out _ B1.out).mono ?_
  rintro e w2 ⟨rfl, b2⟩
  have H2 := Lib.hid (H1.out.step b2)
  have B2 := Lib.hid (B1.out.trans (b2.mono B1.out.size))
  clear b2
  go_wp2_with fail
  refine (M2.out _ B2.out).mono ?_
  rintro e w3 ⟨rfl, b3⟩
  have H3 := Lib.hid (H2.out.step b3)
  have B3 := Lib.hid (B2.out.trans (b3.mono B2.out.size))
  clear b3 H1 H2 B1 B2
  obtain ⟨W1, W2, W3, W4, e1, e2, e3, e4, b4, vv4, vu4⟩ := two_box z34 v34 w3 v u HV.out HU.out
  have E1 := Lib.hid e1
  have E2 := Lib.hid e2
  have E3 := Lib.hid e3
  have E4 := Lib.hid e4
  have H4 := Lib.hid (H3.out.step b4)
  have B4 := Lib.hid (B3.out.trans (b4.mono B3.out.size))
  obtain ⟨g1, hg1⟩ : ∃ g, w3.heap.size = g := ⟨_, rfl⟩
  obtain ⟨g2, hg2⟩ : ∃ g, g1 + 1 = g := ⟨_, rfl⟩
  have hq1' : q ≠ g1 := by rw [← hg1]; exact Nat.ne_of_lt H3.out.qlt
  have hq2' : q ≠ g2 := by rw [← hg2, ← hg1]; have := H3.out.qlt; omega
  rw [hg1] at E1 E2 E3 E4 vv4 vu4
  rw [hg2] at E2 E4 vu4
  have VV := Lib.hid vv4
  have VU := Lib.hid vu4
  have HQN := Lib.hid (And.intro hq1' hq2')
  clear e1 e2 e3 e4 b4 vv4 vu4 H3 B3 hg1 hg2 hq1' hq2' M1 M2
  go_wp2_with (first | refine wpList_alloc_arr rfl 34 rfl _ _ E1.out ?_ | refine wpList_alloc_arr rfl 34 rfl _ _ E2.out ?_ | refine wpList_store_arr rfl (.tmp 11) (.tmp 18) 34 rfl (.pointer (some ⟨g1, 0, none⟩)) (.agg (va v)) rfl rfl _ E3.out ?_ | refine wpList_store_arr rfl (.tmp 12) (.tmp 20) 34 rfl (.pointer (some ⟨g2, 0, none⟩)) (.agg (va u)) rfl rfl _ E4.out ?_ | refine wpList_load_arrG rfl (.tmp 11) 34 rfl (.pointer (some ⟨g1, 0, none⟩)) (.agg (va v)) rfl (LV.out _ _ (VV.out)) ?_)
  refine (MI.out _ _ _ H4.out).mono ?_
  rintro e w5 ⟨rfl, h5, g5⟩
  have H5 := Lib.hid h5
  have B5 := Lib.hid (below_own B4.out HQ.out g5)
  have VV := Lib.hid (VV.out.grown g5 HQN.out.1)
  have VU := Lib.hid (VU.out.grown g5 HQN.out.2)
  clear h5 g5 H4 B4 E1 E2 E3 E4 MI
  go_wp2_with fail
  refine (FL.out _ _ _ H5.out).mono ?_
  rintro e w7 ⟨rfl, b7⟩
  have H7 := Lib.hid (H5.out.step b7)
  have B7 := Lib.hid (B5.out.trans (b7.mono B5.out.size))
  clear b7
  go_wp2_with fail
  refine (AW.out _).mono ?_
  rintro e w8 ⟨rfl, b8⟩
  have H8 := Lib.hid (H7.out.step b8)
  have B8 := Lib.hid (B7.out.trans (b8.mono B7.out.size))
  clear b8
  go_wp2
  go_returns
  exact ⟨rfl, B8.out⟩

set_option maxRecDepth 100000 in
set_option maxHeartbeats 6400000 in
theorem sure_B (w : World) (v0 v1 : Value) (l k : List (Nat × Int)) (a b : Int) (hl : LiesO w v0 l) (hk : LiesO w v1 k) (q1 q2 : Bool) (hq1 : q1 = true ↔ RightP (madeF l)) (hq2 : q2 = true ↔ RightP (madeF k)) (hr1 : rightM q1 a = true) (hr2 : rightM q2 b = false) :
    Calls Try.prog 5 #[v0, v1, .int .i64 a, .int .i64 b] w fun e w' => e = .returned (.bool true) ∧ Below w.heap.size w w' := by
  have NW := Lib.hid (new_any w 0 2 (by omega) (by omega))
  have M1 := Lib.hid (fun W (h : Below w.heap.size w W) => Made_any W v0 l (hl.later h))
  have M2 := Lib.hid (fun W (h : Below w.heap.size w W) => Made_any W v1 k (hk.later h))
  have hv := madeF_len l
  have hu := madeF_len k
  obtain ⟨a0, c0, rfl⟩ := hl.shape
  obtain ⟨a1, c1, rfl⟩ := hk.shape
  generalize madeF l = v at *
  generalize madeF k = u at *
  clear hl hk
  have HV := Lib.hid hv
  have HU := Lib.hid hu
  have LV := Lib.hid (fun (W : World) (g : Nat) (h : VAt 34 W g v) => load_va v34 W g v hv h)
  have LU := Lib.hid (fun (W : World) (g : Nat) (h : VAt 34 W g u) => load_va v34 W g u hu h)
  have MI := Lib.hid (fun W p q (h : WAt W p ((0 : Nat) : Int) q ex0) => mine_any W p q 0 ex0 h (by rw [ex_l0]; omega) v hv q1 hq1 a)
  have AW := Lib.hid (fun W => awake_any W)
  have FL := Lib.hid (fun W p q ms (h : WAt W p ((0 : Nat) : Int) q ms) => floor_any W (.pointer (some ⟨p, 0, none⟩)) _ ms (.inr ⟨p, _, rfl, h.rd⟩) h.rd.m64)
  have HE := Lib.hid (fun W p q (h : WAt W p ((0 : Nat) : Int) q [(v, a), mz]) => heard_any W p q 0 [(v, a), mz] h (by show 0 < 2; omega) 1 u hu q2 hq2 b)
  rw [show ([(v, a), mz] : List Mb).length = 2 from rfl, sure_heardB] at HE
  rw [show List.replicate 2 mz = ex0 from rfl] at NW
  obtain ⟨hc1, ha0, -⟩ := right_time hr1
  rw [hr1, if_pos rfl, sure_ms1 hv (hq1.1 hc1) ha0] at MI
  rw [hr2, sure_same hr2] at HE
  have FL := Lib.hid (fun W p q (h : WAt W p ((0 : Nat) : Int) q [(v, a), mz]) => FL.out W p q [(v, a), mz] h)
  rw [sure_floor1 ha0] at FL
  generalize hx1 : ([(v, a), mz] : List Mb) = x1 at *
  clear hx1
  generalize hx0 : ex0 = x0 at *
  clear hx0
  unfold vw at *
  clear hv hu hq1 hq2 hr1 hr2 hc1 ha0
  go_enter Try.func5, Try.ntmps5
  go_wp2_with fail
  refine NW.out.mono ?_
  rintro e w1 ⟨p, q, rfl, h1, b1, hp, hq⟩
  have H1 := Lib.hid h1
  have B1 := Lib.hid b1
  have HQ := Lib.hid hq
  clear h1 b1 hp hq NW
  go_wp2_with fail
  refine (M1.out _ B1.out).mono ?_
  rintro e w2 ⟨rfl, b2⟩
  have H2 := Lib.hid (H1.out.step b2)
  have B2 := Lib.hid (B1.out.trans (b2.mono B1.out.size))
  clear b2
  go_wp2_with fail
  refine (M2.out _ B2.out).mono ?_
  rintro e w3 ⟨rfl, b3⟩
  have H3 := Lib.hid (H2.out.step b3)
  have B3 := Lib.hid (B2.out.trans (b3.mono B2.out.size))
  clear b3 H1 H2 B1 B2
  obtain ⟨W1, W2, W3, W4, e1, e2, e3, e4, b4, vv4, vu4⟩ := two_box z34 v34 w3 v u HV.out HU.out
  have E1 := Lib.hid e1
  have E2 := Lib.hid e2
  have E3 := Lib.hid e3
  have E4 := Lib.hid e4
  have H4 := Lib.hid (H3.out.step b4)
  have B4 := Lib.hid (B3.out.trans (b4.mono B3.out.size))
  obtain ⟨g1, hg1⟩ : ∃ g, w3.heap.size = g := ⟨_, rfl⟩
  obtain ⟨g2, hg2⟩ : ∃ g, g1 + 1 = g := ⟨_, rfl⟩
  have hq1' : q ≠ g1 := by rw [← hg1]; exact Nat.ne_of_lt H3.out.qlt
  have hq2' : q ≠ g2 := by rw [← hg2, ← hg1]; have := H3.out.qlt; omega
  rw [hg1] at E1 E2 E3 E4 vv4 vu4
  rw [hg2] at E2 E4 vu4
  have VV := Lib.hid vv4
  have VU := Lib.hid vu4
  have HQN := Lib.hid (And.intro hq1' hq2')
  clear e1 e2 e3 e4 b4 vv4 vu4 H3 B3 hg1 hg2 hq1' hq2' M1 M2
  go_wp2_with (first | refine wpList_alloc_arr rfl 34 rfl _ _ E1.out ?_ | refine wpList_alloc_arr rfl 34 rfl _ _ E2.out ?_ | refine wpList_store_arr rfl (.tmp 11) (.tmp 18) 34 rfl (.pointer (some ⟨g1, 0, none⟩)) (.agg (va v)) rfl rfl _ E3.out ?_ | refine wpList_store_arr rfl (.tmp 12) (.tmp 20) 34 rfl (.pointer (some ⟨g2, 0, none⟩)) (.agg (va u)) rfl rfl _ E4.out ?_ | refine wpList_load_arrG rfl (.tmp 11) 34 rfl (.pointer (some ⟨g1, 0, none⟩)) (.agg (va v)) rfl (LV.out _ _ (VV.out)) ?_)
  refine (MI.out _ _ _ H4.out).mono ?_
  rintro e w5 ⟨rfl, h5, g5⟩
  have H5 := Lib.hid h5
  have B5 := Lib.hid (below_own B4.out HQ.out g5)
  have VV := Lib.hid (VV.out.grown g5 HQN.out.1)
  have VU := Lib.hid (VU.out.grown g5 HQN.out.2)
  clear h5 g5 H4 B4 E1 E2 E3 E4 MI
  go_wp2_with (refine wpList_load_arrG rfl (.tmp 12) 34 rfl (.pointer (some ⟨g2, 0, none⟩)) (.agg (va u)) rfl (LU.out _ _ (VU.out)) ?_)
  refine (HE.out _ _ _ H5.out).mono ?_
  rintro e w6 ⟨rfl, h6, g6⟩
  have H6 := Lib.hid h6
  have B6 := Lib.hid (below_own B5.out HQ.out g6)
  have VV := Lib.hid (VV.out.grown g6 HQN.out.1)
  have VU := Lib.hid (VU.out.grown g6 HQN.out.2)
  clear h6 g6 H5 B5 HE
  go_wp2_with fail
  refine (FL.out _ _ _ H6.out).mono ?_
  rintro e w7 ⟨rfl, b7⟩
  have H7 := Lib.hid (H6.out.step b7)
  have B7 := Lib.hid (B6.out.trans (b7.mono B6.out.size))
  clear b7
  go_wp2_with fail
  refine (AW.out _).mono ?_
  rintro e w8 ⟨rfl, b8⟩
  have H8 := Lib.hid (H7.out.step b8)
  have B8 := Lib.hid (B7.out.trans (b8.mono B7.out.size))
  clear b8
  go_wp2
  go_returns
  exact ⟨rfl, B8.out⟩

set_option maxRecDepth 100000 in
set_option maxHeartbeats 6400000 in
theorem sure_C (w : World) (v0 v1 : Value) (l k : List (Nat × Int)) (a b : Int) (hl : LiesO w v0 l) (hk : LiesO w v1 k) (q1 q2 : Bool) (hq1 : q1 = true ↔ RightP (madeF l)) (hq2 : q2 = true ↔ RightP (madeF k)) (hr1 : rightM q1 a = true) (hr2 : rightM q2 b = true) (hlt0 : getF (madeF l) 1 < getF (madeF k) 1) :
    Calls Try.prog 5 #[v0, v1, .int .i64 a, .int .i64 b] w fun e w' => e = .returned (.bool true) ∧ Below w.heap.size w w' := by
  have NW := Lib.hid (new_any w 0 2 (by omega) (by omega))
  have M1 := Lib.hid (fun W (h : Below w.heap.size w W) => Made_any W v0 l (hl.later h))
  have M2 := Lib.hid (fun W (h : Below w.heap.size w W) => Made_any W v1 k (hk.later h))
  have hv := madeF_len l
  have hu := madeF_len k
  obtain ⟨a0, c0, rfl⟩ := hl.shape
  obtain ⟨a1, c1, rfl⟩ := hk.shape
  generalize madeF l = v at *
  generalize madeF k = u at *
  clear hl hk
  have HV := Lib.hid hv
  have HU := Lib.hid hu
  have LV := Lib.hid (fun (W : World) (g : Nat) (h : VAt 34 W g v) => load_va v34 W g v hv h)
  have LU := Lib.hid (fun (W : World) (g : Nat) (h : VAt 34 W g u) => load_va v34 W g u hu h)
  have MI := Lib.hid (fun W p q (h : WAt W p ((0 : Nat) : Int) q ex0) => mine_any W p q 0 ex0 h (by rw [ex_l0]; omega) v hv q1 hq1 a)
  have AW := Lib.hid (fun W => awake_any W)
  have FL := Lib.hid (fun W p q ms (h : WAt W p ((0 : Nat) : Int) q ms) => floor_any W (.pointer (some ⟨p, 0, none⟩)) _ ms (.inr ⟨p, _, rfl, h.rd⟩) h.rd.m64)
  have HE := Lib.hid (fun W p q (h : WAt W p ((0 : Nat) : Int) q [(v, a), mz]) => heard_any W p q 0 [(v, a), mz] h (by show 0 < 2; omega) 1 u hu q2 hq2 b)
  rw [show ([(v, a), mz] : List Mb).length = 2 from rfl, sure_heardB] at HE
  have TM := Lib.hid (fun W p q ms (h : WAt W p ((0 : Nat) : Int) q ms) => time_any W (.pointer (some ⟨p, 0, none⟩)) _ ms (.inr ⟨p, _, rfl, h.rd⟩) h.rd.m64 1)
  have ME := Lib.hid (fun W p q ms (h : WAt W p ((0 : Nat) : Int) q ms) => meetm_any W (.pointer (some ⟨p, 0, none⟩)) _ ms (.inr ⟨p, _, rfl, h.rd⟩) h.rd.m64)
  have MV := Lib.hid (fun W => meet_any W v u hv hu)
  have EM := Lib.hid (eqin_self (meetF v u) (meetF_len hv hu))
  rw [show List.replicate 2 mz = ex0 from rfl] at NW
  obtain ⟨hc1, ha0, -⟩ := right_time hr1
  rw [hr1, if_pos rfl, sure_ms1 hv (hq1.1 hc1) ha0] at MI
  obtain ⟨hc2, hb0, -⟩ := right_time hr2
  rw [hr2, sure_ms2 hu (hq2.1 hc2) hb0 hr2, if_pos hlt0] at HE
  have FL := Lib.hid (fun W p q (h : WAt W p ((0 : Nat) : Int) q [(v, a), (u, 0)]) => FL.out W p q [(v, a), (u, 0)] h)
  rw [sure_floor2] at FL
  rw [show min a 0 = 0 from by omega] at FL
  have TM := Lib.hid (fun W p q (h : WAt W p ((0 : Nat) : Int) q [(v, a), (u, 0)]) => TM.out W p q [(v, a), (u, 0)] h)
  rw [sure_mem] at TM
  clear ME MV EM
  generalize hx2 : ([(v, a), (u, 0)] : List Mb) = x2 at *
  clear hx2
  generalize hx1 : ([(v, a), mz] : List Mb) = x1 at *
  clear hx1
  generalize hx0 : ex0 = x0 at *
  clear hx0
  obtain ⟨y1, hy1⟩ := va_len v hv 1 (by omega)
  obtain ⟨y2, hy2⟩ := va_len u hu 1 (by omega)
  have hlt : y1 < y2 := by
    have e1 : getF v 1 = y1 := by unfold getF; rw [show isB 1 = true from by decide, if_pos rfl]; exact getD_of' hy1
    have e2 : getF u 1 = y2 := by unfold getF; rw [show isB 1 = true from by decide, if_pos rfl]; exact getD_of' hy2
    rw [e1, e2] at hlt0; exact hlt0
  have HY1 := Lib.hid hy1
  have HY2 := Lib.hid hy2
  have HLT := Lib.hid hlt
  clear hy1 hy2 hlt hlt0
  unfold vw at *
  clear hv hu hq1 hq2 hr1 hr2 hc1 ha0 hc2 hb0
  go_enter Try.func5, Try.ntmps5
  go_wp2_with fail
  refine NW.out.mono ?_
  rintro e w1 ⟨p, q, rfl, h1, b1, hp, hq⟩
  have H1 := Lib.hid h1
  have B1 := Lib.hid b1
  have HQ := Lib.hid hq
  clear h1 b1 hp hq NW
  go_wp2_with fail
  refine (M1.out _ B1.out).mono ?_
  rintro e w2 ⟨rfl, b2⟩
  have H2 := Lib.hid (H1.out.step b2)
  have B2 := Lib.hid (B1.out.trans (b2.mono B1.out.size))
  clear b2
  go_wp2_with fail
  refine (M2.out _ B2.out).mono ?_
  rintro e w3 ⟨rfl, b3⟩
  have H3 := Lib.hid (H2.out.step b3)
  have B3 := Lib.hid (B2.out.trans (b3.mono B2.out.size))
  clear b3 H1 H2 B1 B2
  obtain ⟨W1, W2, W3, W4, e1, e2, e3, e4, b4, vv4, vu4⟩ := two_box z34 v34 w3 v u HV.out HU.out
  have E1 := Lib.hid e1
  have E2 := Lib.hid e2
  have E3 := Lib.hid e3
  have E4 := Lib.hid e4
  have H4 := Lib.hid (H3.out.step b4)
  have B4 := Lib.hid (B3.out.trans (b4.mono B3.out.size))
  obtain ⟨g1, hg1⟩ : ∃ g, w3.heap.size = g := ⟨_, rfl⟩
  obtain ⟨g2, hg2⟩ : ∃ g, g1 + 1 = g := ⟨_, rfl⟩
  have hq1' : q ≠ g1 := by rw [← hg1]; exact Nat.ne_of_lt H3.out.qlt
  have hq2' : q ≠ g2 := by rw [← hg2, ← hg1]; have := H3.out.qlt; omega
  rw [hg1] at E1 E2 E3 E4 vv4 vu4
  rw [hg2] at E2 E4 vu4
  have VV := Lib.hid vv4
  have VU := Lib.hid vu4
  have HQN := Lib.hid (And.intro hq1' hq2')
  clear e1 e2 e3 e4 b4 vv4 vu4 H3 B3 hg1 hg2 hq1' hq2' M1 M2
  go_wp2_with (first | refine wpList_alloc_arr rfl 34 rfl _ _ E1.out ?_ | refine wpList_alloc_arr rfl 34 rfl _ _ E2.out ?_ | refine wpList_store_arr rfl (.tmp 11) (.tmp 18) 34 rfl (.pointer (some ⟨g1, 0, none⟩)) (.agg (va v)) rfl rfl _ E3.out ?_ | refine wpList_store_arr rfl (.tmp 12) (.tmp 20) 34 rfl (.pointer (some ⟨g2, 0, none⟩)) (.agg (va u)) rfl rfl _ E4.out ?_ | refine wpList_load_arrG rfl (.tmp 11) 34 rfl (.pointer (some ⟨g1, 0, none⟩)) (.agg (va v)) rfl (LV.out _ _ (VV.out)) ?_)
  refine (MI.out _ _ _ H4.out).mono ?_
  rintro e w5 ⟨rfl, h5, g5⟩
  have H5 := Lib.hid h5
  have B5 := Lib.hid (below_own B4.out HQ.out g5)
  have VV := Lib.hid (VV.out.grown g5 HQN.out.1)
  have VU := Lib.hid (VU.out.grown g5 HQN.out.2)
  clear h5 g5 H4 B4 E1 E2 E3 E4 MI
  go_wp2_with (refine wpList_load_arrG rfl (.tmp 12) 34 rfl (.pointer (some ⟨g2, 0, none⟩)) (.agg (va u)) rfl (LU.out _ _ (VU.out)) ?_)
  refine (HE.out _ _ _ H5.out).mono ?_
  rintro e w6 ⟨rfl, h6, g6⟩
  have H6 := Lib.hid h6
  have B6 := Lib.hid (below_own B5.out HQ.out g6)
  have VV := Lib.hid (VV.out.grown g6 HQN.out.1)
  have VU := Lib.hid (VU.out.grown g6 HQN.out.2)
  clear h6 g6 H5 B5 HE
  have d1 := cell_va VV.out HY1.out
  have d2 := cell_va VU.out HY2.out
  have hlt := HLT.out
  go_wp2_with fail
  refine (FL.out _ _ _ H6.out).mono ?_
  rintro e w7 ⟨rfl, b7⟩
  have H7 := Lib.hid (H6.out.step b7)
  have B7 := Lib.hid (B6.out.trans (b7.mono B6.out.size))
  clear b7
  clear d1 d2 hlt
  go_wp2_with fail
  refine (TM.out _ _ _ H7.out).mono ?_
  rintro e w8 ⟨rfl, b8⟩
  have H8 := Lib.hid (H7.out.step b8)
  have B8 := Lib.hid (B7.out.trans (b8.mono B7.out.size))
  clear b8
  go_wp2_with fail
  refine (AW.out _).mono ?_
  rintro e w9 ⟨rfl, b9⟩
  have H9 := Lib.hid (H8.out.step b9)
  have B9 := Lib.hid (B8.out.trans (b9.mono B8.out.size))
  clear b9
  go_wp2
  go_returns
  exact ⟨rfl, B9.out⟩

set_option maxRecDepth 100000 in
set_option maxHeartbeats 6400000 in
theorem sure_D (w : World) (v0 v1 : Value) (l k : List (Nat × Int)) (a b : Int) (hl : LiesO w v0 l) (hk : LiesO w v1 k) (q1 q2 : Bool) (hq1 : q1 = true ↔ RightP (madeF l)) (hq2 : q2 = true ↔ RightP (madeF k)) (hr1 : rightM q1 a = true) (hr2 : rightM q2 b = true) (hlt0 : ¬ getF (madeF l) 1 < getF (madeF k) 1) :
    Calls Try.prog 5 #[v0, v1, .int .i64 a, .int .i64 b] w fun e w' => e = .returned (.bool true) ∧ Below w.heap.size w w' := by
  have NW := Lib.hid (new_any w 0 2 (by omega) (by omega))
  have M1 := Lib.hid (fun W (h : Below w.heap.size w W) => Made_any W v0 l (hl.later h))
  have M2 := Lib.hid (fun W (h : Below w.heap.size w W) => Made_any W v1 k (hk.later h))
  have hv := madeF_len l
  have hu := madeF_len k
  obtain ⟨a0, c0, rfl⟩ := hl.shape
  obtain ⟨a1, c1, rfl⟩ := hk.shape
  generalize madeF l = v at *
  generalize madeF k = u at *
  clear hl hk
  have HV := Lib.hid hv
  have HU := Lib.hid hu
  have LV := Lib.hid (fun (W : World) (g : Nat) (h : VAt 34 W g v) => load_va v34 W g v hv h)
  have LU := Lib.hid (fun (W : World) (g : Nat) (h : VAt 34 W g u) => load_va v34 W g u hu h)
  have MI := Lib.hid (fun W p q (h : WAt W p ((0 : Nat) : Int) q ex0) => mine_any W p q 0 ex0 h (by rw [ex_l0]; omega) v hv q1 hq1 a)
  have AW := Lib.hid (fun W => awake_any W)
  have FL := Lib.hid (fun W p q ms (h : WAt W p ((0 : Nat) : Int) q ms) => floor_any W (.pointer (some ⟨p, 0, none⟩)) _ ms (.inr ⟨p, _, rfl, h.rd⟩) h.rd.m64)
  have HE := Lib.hid (fun W p q (h : WAt W p ((0 : Nat) : Int) q [(v, a), mz]) => heard_any W p q 0 [(v, a), mz] h (by show 0 < 2; omega) 1 u hu q2 hq2 b)
  rw [show ([(v, a), mz] : List Mb).length = 2 from rfl, sure_heardB] at HE
  have TM := Lib.hid (fun W p q ms (h : WAt W p ((0 : Nat) : Int) q ms) => time_any W (.pointer (some ⟨p, 0, none⟩)) _ ms (.inr ⟨p, _, rfl, h.rd⟩) h.rd.m64 1)
  have ME := Lib.hid (fun W p q ms (h : WAt W p ((0 : Nat) : Int) q ms) => meetm_any W (.pointer (some ⟨p, 0, none⟩)) _ ms (.inr ⟨p, _, rfl, h.rd⟩) h.rd.m64)
  have MV := Lib.hid (fun W => meet_any W v u hv hu)
  have EM := Lib.hid (eqin_self (meetF v u) (meetF_len hv hu))
  rw [show List.replicate 2 mz = ex0 from rfl] at NW
  obtain ⟨hc1, ha0, -⟩ := right_time hr1
  rw [hr1, if_pos rfl, sure_ms1 hv (hq1.1 hc1) ha0] at MI
  obtain ⟨hc2, hb0, -⟩ := right_time hr2
  rw [hr2, sure_ms2 hu (hq2.1 hc2) hb0 hr2, if_neg hlt0] at HE
  have FL := Lib.hid (fun W p q (h : WAt W p ((0 : Nat) : Int) q [(v, a), (u, b)]) => FL.out W p q [(v, a), (u, b)] h)
  rw [sure_floor2] at FL
  have ME := Lib.hid (fun W p q (h : WAt W p ((0 : Nat) : Int) q [(v, a), (u, b)]) => ME.out W p q [(v, a), (u, b)] h)
  rw [sure_meet] at ME
  clear TM
  generalize hx2 : ([(v, a), (u, b)] : List Mb) = x2 at *
  clear hx2
  generalize hx1 : ([(v, a), mz] : List Mb) = x1 at *
  clear hx1
  generalize hx0 : ex0 = x0 at *
  clear hx0
  obtain ⟨y1, hy1⟩ := va_len v hv 1 (by omega)
  obtain ⟨y2, hy2⟩ := va_len u hu 1 (by omega)
  have hlt : ¬ y1 < y2 := by
    have e1 : getF v 1 = y1 := by unfold getF; rw [show isB 1 = true from by decide, if_pos rfl]; exact getD_of' hy1
    have e2 : getF u 1 = y2 := by unfold getF; rw [show isB 1 = true from by decide, if_pos rfl]; exact getD_of' hy2
    rw [e1, e2] at hlt0; exact hlt0
  have HY1 := Lib.hid hy1
  have HY2 := Lib.hid hy2
  have HLT := Lib.hid hlt
  clear hy1 hy2 hlt hlt0
  unfold vw at *
  generalize meetF v u = mm at *
  clear hv hu hq1 hq2 hr1 hr2 hc1 ha0 hc2 hb0
  go_enter Try.func5, Try.ntmps5
  go_wp2_with fail
  refine NW.out.mono ?_
  rintro e w1 ⟨p, q, rfl, h1, b1, hp, hq⟩
  have H1 := Lib.hid h1
  have B1 := Lib.hid b1
  have HQ := Lib.hid hq
  clear h1 b1 hp hq NW
  go_wp2_with fail
  refine (M1.out _ B1.out).mono ?_
  rintro e w2 ⟨rfl, b2⟩
  have H2 := Lib.hid (H1.out.step b2)
  have B2 := Lib.hid (B1.out.trans (b2.mono B1.out.size))
  clear b2
  go_wp2_with fail
  refine (M2.out _ B2.out).mono ?_
  rintro e w3 ⟨rfl, b3⟩
  have H3 := Lib.hid (H2.out.step b3)
  have B3 := Lib.hid (B2.out.trans (b3.mono B2.out.size))
  clear b3 H1 H2 B1 B2
  obtain ⟨W1, W2, W3, W4, e1, e2, e3, e4, b4, vv4, vu4⟩ := two_box z34 v34 w3 v u HV.out HU.out
  have E1 := Lib.hid e1
  have E2 := Lib.hid e2
  have E3 := Lib.hid e3
  have E4 := Lib.hid e4
  have H4 := Lib.hid (H3.out.step b4)
  have B4 := Lib.hid (B3.out.trans (b4.mono B3.out.size))
  obtain ⟨g1, hg1⟩ : ∃ g, w3.heap.size = g := ⟨_, rfl⟩
  obtain ⟨g2, hg2⟩ : ∃ g, g1 + 1 = g := ⟨_, rfl⟩
  have hq1' : q ≠ g1 := by rw [← hg1]; exact Nat.ne_of_lt H3.out.qlt
  have hq2' : q ≠ g2 := by rw [← hg2, ← hg1]; have := H3.out.qlt; omega
  rw [hg1] at E1 E2 E3 E4 vv4 vu4
  rw [hg2] at E2 E4 vu4
  have VV := Lib.hid vv4
  have VU := Lib.hid vu4
  have HQN := Lib.hid (And.intro hq1' hq2')
  clear e1 e2 e3 e4 b4 vv4 vu4 H3 B3 hg1 hg2 hq1' hq2' M1 M2
  go_wp2_with (first | refine wpList_alloc_arr rfl 34 rfl _ _ E1.out ?_ | refine wpList_alloc_arr rfl 34 rfl _ _ E2.out ?_ | refine wpList_store_arr rfl (.tmp 11) (.tmp 18) 34 rfl (.pointer (some ⟨g1, 0, none⟩)) (.agg (va v)) rfl rfl _ E3.out ?_ | refine wpList_store_arr rfl (.tmp 12) (.tmp 20) 34 rfl (.pointer (some ⟨g2, 0, none⟩)) (.agg (va u)) rfl rfl _ E4.out ?_ | refine wpList_load_arrG rfl (.tmp 11) 34 rfl (.pointer (some ⟨g1, 0, none⟩)) (.agg (va v)) rfl (LV.out _ _ (VV.out)) ?_)
  refine (MI.out _ _ _ H4.out).mono ?_
  rintro e w5 ⟨rfl, h5, g5⟩
  have H5 := Lib.hid h5
  have B5 := Lib.hid (below_own B4.out HQ.out g5)
  have VV := Lib.hid (VV.out.grown g5 HQN.out.1)
  have VU := Lib.hid (VU.out.grown g5 HQN.out.2)
  clear h5 g5 H4 B4 E1 E2 E3 E4 MI
  go_wp2_with (refine wpList_load_arrG rfl (.tmp 12) 34 rfl (.pointer (some ⟨g2, 0, none⟩)) (.agg (va u)) rfl (LU.out _ _ (VU.out)) ?_)
  refine (HE.out _ _ _ H5.out).mono ?_
  rintro e w6 ⟨rfl, h6, g6⟩
  have H6 := Lib.hid h6
  have B6 := Lib.hid (below_own B5.out HQ.out g6)
  have VV := Lib.hid (VV.out.grown g6 HQN.out.1)
  have VU := Lib.hid (VU.out.grown g6 HQN.out.2)
  clear h6 g6 H5 B5 HE
  have d1 := cell_va VV.out HY1.out
  have d2 := cell_va VU.out HY2.out
  have hlt := HLT.out
  go_upto_region 9 with (fail)
  clear d1 d2 hlt
  have QV := Lib.hid (later_all (W := w6) (Q := fun w => (Instr.loadAt 34 (.pointer (some ⟨g1, 0, none⟩))).run Try.prog w = .ok (.agg (va v)) w) (fun x => LV.out x.w _ (VV.out.step x.below)))
  have QU := Lib.hid (later_all (W := w6) (Q := fun w => (Instr.loadAt 34 (.pointer (some ⟨g2, 0, none⟩))).run Try.prog w = .ok (.agg (va u)) w) (fun x => LU.out x.w _ (VU.out.step x.below)))
  have D1 := Lib.hid (fun x : Later w6 => FL.out x.w _ _ (H6.out.step x.below))
  have D2 := Lib.hid (fun x : Later w6 => ME.out x.w _ _ (H6.out.step x.below))
  have D3 := Lib.hid (fun x : Later w6 => MV.out x.w)
  have D4 := Lib.hid (fun x : Later w6 => AW.out x.w)
  have em := EM.out
  generalize hf : min a b = f at *
  have v1 : (f == f) = true := by simp
  refine wp_region_later (by kernel_rfl) (by kernel_rfl) ?_
  repeat (first
    | (go_big_quiet_want; refine quiet_load (.tmp 11) 34 rfl (.pointer (some ⟨g1, 0, none⟩)) (.agg (va v)) rfl QV.out ?_; (try simp only [Act.put, List.setIfInBounds_toArray, List.set_cons_zero, List.set_cons_succ]); go_big_quiet_on)
    | (go_big_quiet_want; refine quiet_load (.tmp 12) 34 rfl (.pointer (some ⟨g2, 0, none⟩)) (.agg (va u)) rfl QU.out ?_; (try simp only [Act.put, List.setIfInBounds_toArray, List.set_cons_zero, List.set_cons_succ]); go_big_quiet_on)
    | (go_big_quiet_step (first
      | (go_at_call 16; with_reducible exact later_call (D1.out _))
      | (go_at_call 17; with_reducible exact later_call (D2.out _))
      | (go_at_call 23; with_reducible exact later_call (D3.out _))
      | (go_at_call 9; with_reducible exact later_call (D4.out _)))))
  refine wpQuiet_nil ?_
  intro _ hw'
  obtain ⟨x13, hw''⟩ := hw'
  subst hw''
  have T13 := Lib.hid (B6.out.trans (x13.below.mono B6.out.size))
  go_wp2
  go_returns
  exact ⟨rfl, T13.out⟩

theorem sure_law (w : World) (v0 v1 : Value) (l k : List (Nat × Int)) (a b : Int) (hl : LiesO w v0 l) (hk : LiesO w v1 k) :
    Calls Try.prog 5 #[v0, v1, .int .i64 a, .int .i64 b] w fun e w' => e = .returned (.bool true) ∧ Below w.heap.size w w' := by
  obtain ⟨q1, hq1⟩ : ∃ c : Bool, c = true ↔ RightP (madeF l) := by classical exact ⟨decide _, decide_eq_true_iff⟩
  obtain ⟨q2, hq2⟩ : ∃ c : Bool, c = true ↔ RightP (madeF k) := by classical exact ⟨decide _, decide_eq_true_iff⟩
  cases hr1 : rightM q1 a with
  | false => exact sure_A w v0 v1 l k a b hl hk q1 q2 hq1 hq2 hr1
  | true =>
    cases hr2 : rightM q2 b with
    | false => exact sure_B w v0 v1 l k a b hl hk q1 q2 hq1 hq2 hr1 hr2
    | true =>
      by_cases hlt : getF (madeF l) 1 < getF (madeF k) 1
      · exact sure_C w v0 v1 l k a b hl hk q1 q2 hq1 hq2 hr1 hr2 hlt
      · exact sure_D w v0 v1 l k a b hl hk q1 q2 hq1 hq2 hr1 hr2 hlt
end Go.Proofs.Ytgemlkccdcbpdaa
