/- The methods of no journal, awake, and the law of nobody. Made by genji12.py. -/
import Derived.Test.YtgbihpfpiaacfaaGreatDoorJH
import Derived.Lib.SlBytesConst
set_option linter.unusedVariables false
set_option linter.unusedSimpArgs false
set_option maxRecDepth 100000
namespace Go.Proofs.YtgbihpfpiaacfaaGreatDoor
open Go.RowKit Go.Shelf Go.WideMaps Go.Maps

namespace Rc
theorem byt_ab : Byt [97, 98] := by intro x hx; simp at hx; omega
theorem lies_const (w : World) (l : List Nat) (hl : l.length ≤ maxLen) (fr : Nat × Nat) : Lies (w.alloc (.cells (u8s l).toArray 5 fr)) (.slice (some ⟨w.heap.size, 0, none⟩) l.length l.length) l := by
  have hg : (w.alloc (.cells (u8s l).toArray 5 fr)).heap[w.heap.size]? = some (.cells (u8s l).toArray 5 fr) := heap_alloc_new w _
  refine ⟨_, l.length, rfl, Nat.le_refl _, hl, (fun e => by cases e), fun b hb _ => ?_⟩
  cases hb
  refine ⟨w.heap.size, 0, rfl, (Array.getElem?_eq_some_iff.1 hg).1, fun j x hj => ?_⟩
  rw [cell_of_row _ _ _ _ _ _ hg, Nat.zero_add, List.getElem?_toArray, u8s_get, hj]
  rfl
theorem recs_nil : ∀ at_, recsAt at_ [] = [] := fun at_ => recsAt_no (by decide)
theorem recs_one (b c : List Nat) (hb : b.length ≤ 65536) (at_ : Nat) : recsAt at_ (rec b ++ c) = (at_, b) :: recsAt (at_ + (b.length + 8)) c := by
  have h := fst_rec b c hb
  rw [recsAt_ok (by rw [h]), h]
  dsimp only
  rw [List.drop_left' (rec_length b)]
theorem recs_ab : recs (rec [97, 98]) = [(0, [97, 98])] := by
  have := recs_one [97, 98] [] (by simp) 0
  rw [List.append_nil, recs_nil] at this
  exact this
end Rc
theorem nil14 (w : World) (v : Value) : Calls Tryz.prog 14 #[.pointer none, v] w fun e w' => e = .returned (.int .i64 1) ∧ w = w' := by
  go_enter Tryz.func14, Tryz.ntmps14
  go_wp2
  go_returns
  exact ⟨rfl, rfl⟩
theorem nil16 (w : World) : Calls Tryz.prog 16 #[.pointer none] w fun e w' => e = .returned (.int .i64 1) ∧ w = w' := by
  go_enter Tryz.func16, Tryz.ntmps16
  go_wp2
  go_returns
  exact ⟨rfl, rfl⟩
theorem nil18 (w : World) (v : Value) : Calls Tryz.prog 18 #[.pointer none, v] w fun e w' => e = .returned (.int .i64 1) ∧ w = w' := by
  go_enter Tryz.func18, Tryz.ntmps18
  go_wp2
  go_returns
  exact ⟨rfl, rfl⟩
theorem nil22 (w : World) : Calls Tryz.prog 22 #[.pointer none] w fun e w' => e = .returned (.int .i64 0) ∧ w = w' := by
  go_enter Tryz.func22, Tryz.ntmps22
  go_wp2
  go_returns
  exact ⟨rfl, rfl⟩
theorem nil23 (w : World) : Calls Tryz.prog 23 #[.pointer none] w fun e w' => e = .returned (.int .i64 0) ∧ w = w' := by
  go_enter Tryz.func23, Tryz.ntmps23
  go_wp2
  go_returns
  exact ⟨rfl, rfl⟩
theorem nil25 (w : World) : Calls Tryz.prog 25 #[.pointer none] w fun e w' => e = .returned (.int .i64 0) ∧ w = w' := by
  go_enter Tryz.func25, Tryz.ntmps25
  go_wp2
  go_returns
  exact ⟨rfl, rfl⟩
theorem len_jk (w : World) (q d : Nat) (a1 a2 a3 a4 : Int) (h : w.heap[q]? = some (.cells #[pv d, .int .i64 a1, .int .i64 a2, .int .i64 a3, .int .i64 a4] 74 (0, 0))) : Calls Tryz.prog 25 #[.pointer (some ⟨q, 0, none⟩)] w fun e w' => e = .returned (.int .i64 a4) ∧ w = w' := by
  have c4 : w.cell? ⟨q, 4, none⟩ = some (.int .i64 a4) := (cell_of_row _ _ _ _ _ _ h).trans rfl
  clear h
  go_enter Tryz.func25, Tryz.ntmps25
  go_wp2
  go_returns
  exact ⟨rfl, rfl⟩
set_option maxHeartbeats 1600000 in
theorem open_fail (w : World) (B d : Nat) (s : DS) (h : DK w B d s) (hB : B ≤ w.heap.size) (hd : s.dn = false) (ht : tk s 1 < 1) (most : Int) (hm : 16 ≤ most ∧ most ≤ 16777216) (hl : s.l = []) :
    Calls Tryz.prog 11 #[pv d, .int .i64 most] w fun e w' => ∃ m', e = .returned (.tuple #[.pointer none, .slice none 0 0, .int .i64 12]) ∧ Out B d s { aft s 1 with m := m' } w w' := by
  have D := Lib.hid (down_any w B d s h)
  rw [hd] at D
  have SG := Lib.hid (segs_any w B d s h [] (by rw [hl]; rfl) (by intro n hn; cases hn) (by simp))
  have HD := Lib.hid h
  have CE : crE s (sg 1) = 12 ∧ crS s (sg 1) = aft s 1 := by
    have f8 : fnd s (sg 1) = 8 := by unfold fnd; rw [hd, hl]; rfl
    unfold crE crS
    rw [f8]
    simp [ht]
  have CR := Lib.hid (show ∀ W, Below w.heap.size w W → Calls Tryz.prog 33 #[pv d, .string (sg 1)] W (fun e w' => e = .returned (.int .i64 12) ∧ ∃ m', Out B d s { aft s 1 with m := m' } W w') from fun W hb => by
    have := create_any W B d s (HD.out.step hb) (Nat.le_trans hB hb.size) (sg 1) (by have := sg_size (n := 1) (by omega); unfold maxLen; omega) (by rw [hl]; exact Nat.zero_lt_succ _)
    rw [CE.1, CE.2] at this
    exact this)
  have NM := Lib.hid (show ∀ W, Calls Tryz.prog 37 #[.int .i64 1] W (fun e w' => e = .returned (.string (sg 1)) ∧ W = w') from fun W => name_any W 1 (by omega) (by omega))
  have HB := Lib.hid hB
  have hm1 : ¬ (most < 16) := by omega
  have hm2 : ¬ (16777216 < most) := by omega
  clear h hl hB hd CE ht
  go_enter Tryz.func11, Tryz.ntmps11
  go_wp2_with fail
  refine D.out.mono ?_
  rintro e w1 ⟨rfl, rfl⟩
  go_wp2_with fail
  refine SG.out.mono ?_
  rintro e w2 ⟨nv, ks, rfl, ho, hp, -, hb2⟩
  have hk : ks = [] := List.perm_nil.1 hp
  subst hk
  obtain ⟨ao, co, rfl⟩ : ∃ ao co, nv = .slice ao 0 co := by
    rcases ho.2 with ⟨e, _⟩ | ⟨g, cap, _, e, _⟩
    · exact ⟨none, 0, e⟩
    · exact ⟨_, cap, e⟩
  have B2 := Lib.hid hb2
  clear ho hp hb2 D SG
  go_wp2_with fail
  refine (NM.out _).mono ?_
  rintro e w3 ⟨rfl, rfl⟩
  go_wp2_with fail
  refine (CR.out _ B2.out).mono ?_
  rintro e w4 ⟨rfl, m', ho⟩
  have HO := Lib.hid ho
  clear ho CR NM
  go_wp2
  go_returns
  exact ⟨m', rfl, HO.out.dk, (Far.of_below (P := Has d s) B2.out).trans HO.out.far (fun _ _ e => e), fun k e => (HO.out.sub k e).elim .inl (fun e2 => .inr (Nat.le_trans B2.out.size e2))⟩
theorem sg1 : sg 1 = ⟨#[108, 111, 103, 46, 49]⟩ := by
  unfold sg dg
  rw [dd_small (by omega)]
  decide +kernel
theorem set_one {x y : Fl} (h : x.n = y.n) : setF [x] y = [y] := by
  have := set_set (l := []) h
  rw [show setF [] x = [x] from by simp [setF], show setF [] y = [y] from by simp [setF]] at this
  exact this
theorem one_f {s : DS} {x : Fl} (hl : s.l = [x]) (hn : x.n = sg 1) (hd : s.dn = false) : fnd s (sg 1) = 0 ∧ fval s (sg 1) = x := by
  unfold fnd fval
  rw [hd, hl]
  unfold getF isN
  simp [hn]
set_option maxHeartbeats 6400000 in
theorem awake_any (w : World) : Calls Tryz.prog 10 #[] w fun e w' => e = .returned (.bool true) ∧ Below w.heap.size w w' := by
  have kc := fun (w : World) (C : Array Value) (n c : Nat) => Lib.run_convert_bytes_const (P := Tryz.prog) w 39 5 C n c Tryz.underlying39 Tryz.underlying5
  have NW := Lib.hid (new_any w 1000 (by omega))
  have NM := Lib.hid (show ∀ W, Calls Tryz.prog 37 #[.int .i64 1] W (fun e w' => e = .returned (.string ⟨#[108, 111, 103, 46, 49]⟩) ∧ W = w') from fun W => by
    have := name_any W 1 (by omega) (by omega)
    rw [sg1] at this
    exact this)
  go_enter Tryz.func10, Tryz.ntmps10
  go_wp2_with fail
  refine NW.out.mono ?_
  rintro e w1 ⟨rfl, hd, hb1⟩
  have D1 := Lib.hid hd
  have B1 := Lib.hid hb1
  obtain ⟨d, hdq⟩ : ∃ z, w.heap.size = z := ⟨_, rfl⟩
  rw [hdq] at D1 ⊢
  have hd1 : d ≤ w1.heap.size := by have := B1.out.size; omega
  have OP := Lib.hid (open_new w1 d d ⟨none, 1000, [], false, 0, false⟩ D1.out hd1 rfl rfl 100 (by omega) rfl)
  have HD1 := Lib.hid hd1
  have HDQ := Lib.hid hdq
  clear hd hb1 NW hd1 hdq
  go_wp2_with fail
  refine OP.out.mono ?_
  rintro e w2 ⟨q, sv, m', rfl, hqw, hj, hsy, hfar⟩
  obtain ⟨vs, h1, h2, -⟩ := hsy
  have hv0 : vs = [] := List.eq_nil_of_length_eq_zero h2
  subst hv0
  obtain ⟨sa, sc, rfl⟩ := own_shapeK h1
  have J2 := Lib.hid (show JK w2 d q d ⟨m', 1000, [zf (sg 1)], false, 0, false⟩ 100 1 1 0 from hj)
  have B2 := Lib.hid (show Below d w1 w2 from hfar.below HD1.out (fun k hk => (D1.out.base k hk).1))
  have XA := Lib.hid (show Below w2.heap.size w2 (w2.alloc (.cells #[.int .u8 97, .int .u8 98] 5 (2, 3))) from (Below.refl _ _).alloc (Nat.le_refl _) _)
  have LC := Lib.hid (show Rc.Lies (w2.alloc (.cells #[.int .u8 97, .int .u8 98] 5 (2, 3))) (.slice (some ⟨w2.heap.size, 0, none⟩) 2 2) [97, 98] from Rc.lies_const w2 [97, 98] (by unfold maxLen; simp) (2, 3))
  have JA := Lib.hid (J2.out.step XA.out)
  have F1 := Lib.hid (one_f (s := ⟨m', 1000, [zf (sg 1)], false, 0, false⟩) (x := zf (sg 1)) rfl rfl rfl)
  have AP := Lib.hid ((japp_fit (w2.alloc (.cells #[.int .u8 97, .int .u8 98] 5 (2, 3))) d q d ⟨m', 1000, [zf (sg 1)], false, 0, false⟩ 100 1 1 0 JA.out (by omega) (by omega) (by simp) F1.out.1 rfl (.slice (some ⟨w2.heap.size, 0, none⟩) 2 2) [97, 98] LC.out Rc.byt_ab (by simp) (by simp [usedF]) (.inl rfl)).mono (fun e w' h => show e = .returned (.int .i64 0) ∧ ∃ a' c', JK w' d q d ⟨m', 1000, [⟨sg 1, a', c', bi (Rc.rec [97, 98]), 10⟩], false, 0, false⟩ 100 1 1 10 ∧ Below d (w2.alloc (.cells #[.int .u8 97, .int .u8 98] 5 (2, 3))) w' from by
    obtain ⟨g1, a', c', g2, g3⟩ := h
    refine ⟨g1, a', c', ?_, g3.below JA.out.size (fun k hk => hk.elim (fun e => (JA.out.dk.base k e).1) (fun e => by rw [e]; exact JA.out.bq))⟩
    rw [F1.out.2] at g2
    have e1 : (zf (sg 1)).b ++ bi (Rc.rec [97, 98]) = bi (Rc.rec [97, 98]) := List.nil_append _
    rw [e1, show lenI (bi (Rc.rec [97, 98])) = 10 from by unfold lenI; rw [bi_len, Rc.rec_length]; rfl] at g2
    have e2 : setF [zf (sg 1)] ⟨sg 1, a', c', bi (Rc.rec [97, 98]), 10⟩ = [⟨sg 1, a', c', bi (Rc.rec [97, 98]), 10⟩] := set_one rfl
    dsimp only at g2
    rw [e2] at g2
    exact g2))
  obtain ⟨WA, hWA⟩ : ∃ z, w2.alloc (.cells #[.int .u8 97, .int .u8 98] 5 (2, 3)) = z := ⟨_, rfl⟩
  have HWA := Lib.hid hWA
  clear hj h1 h2 hfar OP hqw hWA
  go_wp2_with fail
  refine AP.out.mono ?_
  rintro e w3 ⟨rfl, a', c', hj, hb⟩
  have J3 := Lib.hid hj
  have B3 := Lib.hid ((B2.out.trans (XA.out.mono (show d ≤ w2.heap.size from J2.out.size))).trans hb)
  clear hj hb AP HWA LC JA F1 kc
  have RL := Lib.hid (show (Rc.rec [97, 98]).length = 10 from Rc.rec_length _)
  have OP := Lib.hid (open_one w3 d d ⟨m', 1000, [⟨sg 1, a', c', bi (Rc.rec [97, 98]), 10⟩], false, 0, false⟩ J3.out.dk J3.out.size rfl 100 (by omega) _ rfl rfl (Rc.rec [97, 98]) rfl (Rc.rec_byt Rc.byt_ab) (by rw [RL.out]; omega) (by rw [Rc.recs_ab, RL.out]; rfl) (by rw [RL.out]; rfl))
  rw [Rc.recs_ab] at OP
  go_wp2_with fail
  refine OP.out.mono ?_
  rintro e w4 ⟨q2, sv, rfl, hqw, -, hsy, hfar⟩
  obtain ⟨vs, h1, h2, h3⟩ := hsy
  obtain ⟨u, rfl⟩ : ∃ u, vs = [u] := by
    match vs, h2 with
    | [u], _ => exact ⟨u, rfl⟩
  have LU := Lib.hid (show Rc.Lies w4 u [97, 98] from h3 0 u [97, 98] rfl rfl)
  have BX := Lib.hid ((hfar.block q (J3.out.lt) J3.out.nq).trans J3.out.box)
  have B4 := Lib.hid (show Below d w w4 from ((B1.out.mono (by have := HDQ.out; omega)).trans B3.out).trans (hfar.below J3.out.size (fun k hk => (J3.out.dk.base k hk).1)))
  obtain ⟨g, cap, rfl⟩ : ∃ g cap, sv = .slice (some ⟨g, 0, none⟩) 1 cap := by
    rcases h1.2 with ⟨_, e⟩ | ⟨g, cap, _, e, _⟩
    · cases e
    · exact ⟨g, cap, e⟩
  have cu : w4.cell? ⟨g, 0, none⟩ = some u := by
    have := h1.cells (g := g) rfl 0 u rfl
    rwa [rk_addr, Nat.zero_add] at this
  have cv : (convert 39 9 u).run Tryz.prog w4 = .ok (.string ⟨#[97, 98]⟩) w4 := Rc.conv_lies LU.out (by simp)
  obtain ⟨ua, uc, hu⟩ : ∃ ua uc, u = .slice ua 2 uc := Rc.lies_shape LU.out
  subst hu
  clear h1 h2 h3 hfar hqw OP
  go_wp2_with fail
  refine (NM.out _).mono ?_
  rintro e w5 ⟨rfl, rfl⟩
  go_wp2_with fail
  refine (len_jk _ q d _ _ _ _ BX.out).mono ?_
  rintro e w5 ⟨rfl, rfl⟩
  go_wp2
  go_returns
  exact ⟨rfl, by rw [HDQ.out]; exact B4.out⟩
set_option maxHeartbeats 6400000 in
theorem nobody_any (w : World) (a v : Value) : Calls Tryz.prog 7 #[a, v] w fun e w' => e = .returned (.bool true) ∧ Below w.heap.size w w' := by
  have N1 := Lib.hid (open_nil w)
  have N2 := Lib.hid (nil14 w v)
  have N3 := Lib.hid (nil16 w)
  have N4 := Lib.hid (nil18 w a)
  have N5 := Lib.hid (nil22 w)
  have N6 := Lib.hid (nil23 w)
  have N7 := Lib.hid (nil25 w)
  have NW := Lib.hid (new_any w 100 (by omega))
  have AW := Lib.hid awake_any
  go_enter Tryz.func7, Tryz.ntmps7
  go_wp2_with fail
  refine N1.out.mono ?_
  rintro e w1 ⟨rfl, rfl⟩
  go_wp2_with fail
  refine N2.out.mono ?_
  rintro e w1 ⟨rfl, rfl⟩
  go_wp2_with fail
  refine N3.out.mono ?_
  rintro e w1 ⟨rfl, rfl⟩
  go_wp2_with fail
  refine N4.out.mono ?_
  rintro e w1 ⟨rfl, rfl⟩
  go_wp2_with fail
  refine N5.out.mono ?_
  rintro e w1 ⟨rfl, rfl⟩
  go_wp2_with fail
  refine N6.out.mono ?_
  rintro e w1 ⟨rfl, rfl⟩
  go_wp2_with fail
  refine N7.out.mono ?_
  rintro e w1 ⟨rfl, rfl⟩
  clear N1 N2 N3 N4 N5 N6 N7
  go_wp2_with fail
  refine NW.out.mono ?_
  rintro e w1 ⟨rfl, hd, hb1⟩
  have D1 := Lib.hid hd
  have B1 := Lib.hid hb1
  obtain ⟨d, hdq⟩ : ∃ z, w.heap.size = z := ⟨_, rfl⟩
  rw [hdq] at D1 ⊢
  have hd1 : d ≤ w1.heap.size := by have := B1.out.size; omega
  have AR := Lib.hid (show Calls Tryz.prog 29 #[pv d, .int .i64 0] w1 (fun e w' => e = .returned (.tuple #[]) ∧ Out d d ⟨none, 100, [], false, 0, false⟩ ⟨none, 100, [], true, 0, false⟩ w1 w') from arm_any w1 d d _ D1.out 0 (by omega))
  have HD1 := Lib.hid hd1
  have HDQ := Lib.hid hdq
  clear hd hb1 NW hd1 hdq
  go_wp2_with fail
  refine AR.out.mono ?_
  rintro e w2 ⟨rfl, ho⟩
  have O2 := Lib.hid ho
  have B2 := Lib.hid (show Below d w1 w2 from ho.far.below HD1.out (fun k hk => (D1.out.base k hk).1))
  have hd2 : d ≤ w2.heap.size := by have := B2.out.size; have := HD1.out; omega
  have OF := Lib.hid (open_fail w2 d d ⟨none, 100, [], true, 0, false⟩ O2.out.dk hd2 rfl (by decide) 64 (by omega) rfl)
  have HD2 := Lib.hid hd2
  clear ho AR hd2
  go_wp2_with fail
  refine OF.out.mono ?_
  rintro e w3 ⟨m', rfl, ho⟩
  have O3 := Lib.hid ho
  have B3 := Lib.hid (show Below d w2 w3 from ho.far.below HD2.out (fun k hk => (O2.out.dk.base k hk).1))
  have OD := Lib.hid (open_down w3 d d _ O3.out.dk (by rfl))
  clear ho OF
  go_wp2_with fail
  refine OD.out.mono ?_
  rintro e w4 ⟨rfl, rfl⟩
  go_wp2_with fail
  refine (AW.out _).mono ?_
  rintro e w5 ⟨rfl, hb⟩
  have B5 := Lib.hid hb
  clear hb OD AW
  go_wp2
  go_returns
  refine ⟨rfl, ?_⟩
  have e := HDQ.out
  rw [e]
  exact (((B1.out.mono (by omega)).trans B2.out).trans B3.out).trans (B5.out.mono (by have := B3.out.size; have := HD2.out; omega))
end Go.Proofs.YtgbihpfpiaacfaaGreatDoor
