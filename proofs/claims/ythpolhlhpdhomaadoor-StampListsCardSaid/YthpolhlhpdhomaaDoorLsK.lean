/- StampLists, walked. -/
import Derived.Test.YthpolhlhpdhomaaDoorLsJ
import Derived.Deep.RegionHeld3
import Derived.Deep.Cut
set_option linter.unusedVariables false
namespace Go.Proofs.YthpolhlhpdhomaaDoor
open Go.RowKit

set_option maxRecDepth 100000 in
set_option maxHeartbeats 800000 in
theorem lists_long (w : World) (ao : Option Addr) (n cap : Nat) (s : St) (hn : 60 < n) :
    Calls Tryd.prog 5 #[.slice ao n cap, .agg #[.int .i64 s.1, .int .i64 s.2]] w fun e w' => e = .returned (.bool true) ∧ Below w.heap.size w w' := by
  have X := Lib.hid ((Below.refl w.heap.size w).alloc (Nat.le_refl _) (.cells #[.int .i64 s.1, .int .i64 s.2] 23))
  have A := Lib.hid awake_any
  have h1 : (60 : Int) < (n : Int) := by omega
  go_enter Tryd.func5, Tryd.ntmps5
  go_wp2_with fail
  refine (A.out _).mono ?_
  rintro e w1 ⟨rfl, hb1⟩
  have B1 := Lib.hid (X.out.trans (hb1.mono X.out.size))
  clear hb1
  go_wp2
  go_returns
  exact ⟨rfl, B1.out⟩

set_option maxRecDepth 100000 in
set_option maxHeartbeats 8000000 in
theorem lists_small (w : World) (v : Value) (l : List St) (s : St) (h : LiesS w v l) (hl : l.length ≤ 60) :
    Calls Tryd.prog 5 #[v, .agg #[.int .i64 s.1, .int .i64 s.2]] w fun e w' => e = .returned (.bool true) ∧ Below w.heap.size w w' := by
  obtain ⟨s1, s2⟩ := s
  have X := Lib.hid ((Below.refl w.heap.size w).alloc (Nat.le_refl _) (.cells #[.int .i64 s1, .int .i64 s2] 23))
  have N := Lib.hid (heap_alloc_new w (.cells #[.int .i64 s1, .int .i64 s2] 23))
  have H := Lib.hid (h.later X.out)
  obtain ⟨W0, hW0⟩ : ∃ W0, w.alloc (.cells #[.int .i64 s1, .int .i64 s2] 23) = W0 := ⟨_, rfl⟩
  rw [hW0] at X N H
  have HW := Lib.hid hW0
  have S0 := Lib.hid (fun W (hW : Below W0.heap.size W0 W) => rsort_any W v l (H.out.later hW) hl)
  have A := Lib.hid awake_any
  obtain ⟨ao, cap, rfl⟩ := h.shape
  clear hW0 h
  obtain ⟨m0, hm0⟩ : ∃ m0, sortF l = m0 := ⟨_, rfl⟩
  have hml : m0.length ≤ 60 := by rw [← hm0]; exact Nat.le_trans (sort_len l) hl
  have HMU := Lib.hid (show Up m0 by rw [← hm0]; exact sort_up l)
  rw [hm0] at S0
  have hml2 : m0.length ≤ 1000 := by omega
  clear hm0 hml
  go_enter Tryd.func5, Tryd.ntmps5
  go_wp2_with fail
  rw [HW.out]
  refine (S0.out _ (Below.refl _ _)).mono ?_
  rintro e w1 ⟨m, rfl, ho⟩
  have LM := Lib.hid (own_liesS ho.1)
  have B1 := Lib.hid ho.2
  have BX := Lib.hid (fun W (hW : Below w1.heap.size w1 W) => by
    obtain ⟨b0, b1, _, _⟩ := two_cells (box_step N.out (ho.2.trans (hW.mono ho.2.size)))
    exact And.intro b0 b1)
  have P23 := Lib.hid (fun W (hW : Below w1.heap.size w1 W) => put_any W m m0 (s1, s2) (LM.out.later hW) HMU.out hml2)
  have P24 := Lib.hid (fun W (hW : Below w1.heap.size w1 W) => drop_any W m m0 (s1, s2) (LM.out.later hW) HMU.out hml2)
  have P25 := Lib.hid (fun W (hW : Below w1.heap.size w1 W) => has_any W m m0 (s1, s2) (LM.out.later hW) HMU.out hml2)
  have P26 := Lib.hid (fun W (hW : Below w1.heap.size w1 W) => rhas_any W m m0 (s1, s2) (LM.out.later hW))
  have P28 := Lib.hid (fun W (hW : Below w1.heap.size w1 W) => rput_any W m m0 (s1, s2) (LM.out.later hW) hml2)
  have P29 := Lib.hid (fun W (hW : Below w1.heap.size w1 W) => rdrop_any W m m0 (s1, s2) (LM.out.later hW) hml2)
  have P22 := Lib.hid (fun W (hW : Below w1.heap.size w1 W) => S0.out W (B1.out.trans (hW.mono B1.out.size)))
  have PU := Lib.hid (put_up m0 (s1, s2) HMU.out)
  have DU := Lib.hid (drop_up (s1, s2) HMU.out)
  have P27c := Lib.hid (fun W (hW : Below w1.heap.size w1 W) r (hr : LiesS W r m0) => rsame_any W m r m0 (LM.out.later hW) hr)
  obtain ⟨lp, hlp⟩ : ∃ lp, putF false m0 (s1, s2) = lp := ⟨_, rfl⟩
  obtain ⟨ld, hld⟩ : ∃ ld, dropF m0 (s1, s2) = ld := ⟨_, rfl⟩
  rw [hlp] at P23 P28 PU
  rw [hld] at P24 P29 DU
  obtain ⟨bb, hbb⟩ : ∃ bb, decide ((s1, s2) ∈ m0) = bb := ⟨_, rfl⟩
  rw [hbb] at P25 P26
  clear hlp hld hbb ho hml2
  go_upto_region 4 with (fail)
  go_cut [6, 7] from 8 (fun av bv wx => LiesS wx av lp ∧ LiesS wx bv ld ∧ Below w1.heap.size w1 wx)
  case first =>
    have BB := Lib.hid (below_drewN w1 1)
    go_region_held3 (fun w' => w'.cell? ⟨w.heap.size, 0, none⟩ = some (.int .i64 s1) ∧ w'.cell? ⟨w.heap.size, 1, none⟩ = some (.int .i64 s2)) (exact BX.out _ BB.out)
      (first
      | (go_at_call 23; refine (P23.out _ BB.out).mono ?_; rintro e w2 ⟨r2, rfl, ho⟩; have HP := Lib.hid (own_liesS ho.1); have HLAST := Lib.hid ho.2; have BB := Lib.hid (BB.out.trans (ho.2.mono BB.out.size)); clear ho)
      | (go_at_call 24; refine (P24.out _ BB.out).mono ?_; rintro e w3 ⟨r3, rfl, ho⟩; have HD := Lib.hid (own_liesS ho.1); have HLAST := Lib.hid ho.2; have BB := Lib.hid (BB.out.trans (ho.2.mono BB.out.size)); clear ho))
    all_goals (go_wp2_with fail; go_meet; first | exact ⟨HP.out, HD.out.later HLAST.out, BB.out⟩ | exact ⟨HP.out.later HLAST.out, HD.out, BB.out⟩)
  case rest =>
    obtain ⟨la, lb, hbw⟩ := hcut
    have BC := Lib.hid hbw
    have BB := Lib.hid (below_drewN wc 1)
    have BX := Lib.hid (fun W (hW : Below wc.heap.size wc W) => BX.out W (hbw.trans (hW.mono hbw.size)))
    have Q25 := Lib.hid (fun W (hW : Below wc.heap.size wc W) => P25.out W (hbw.trans (hW.mono hbw.size)))
    have Q26 := Lib.hid (fun W (hW : Below wc.heap.size wc W) => P26.out W (hbw.trans (hW.mono hbw.size)))
    have Q28 := Lib.hid (fun W (hW : Below wc.heap.size wc W) => P28.out W (hbw.trans (hW.mono hbw.size)))
    have Q29 := Lib.hid (fun W (hW : Below wc.heap.size wc W) => P29.out W (hbw.trans (hW.mono hbw.size)))
    have Q22 := Lib.hid (fun W (hW : Below wc.heap.size wc W) => P22.out W (hbw.trans (hW.mono hbw.size)))
    have P27a := Lib.hid (fun W (hW : Below wc.heap.size wc W) r (hr : LiesS W r lp) => rsame_any W _ r lp (la.later hW) hr)
    have P27b := Lib.hid (fun W (hW : Below wc.heap.size wc W) r (hr : LiesS W r ld) => rsame_any W _ r ld (lb.later hW) hr)
    have Q27c := Lib.hid (fun W (hW : Below wc.heap.size wc W) => P27c.out W (hbw.trans (hW.mono hbw.size)))
    have P30a := Lib.hid (fun W (hW : Below wc.heap.size wc W) => rrises_any W _ lp (la.later hW) PU.out)
    have P30b := Lib.hid (fun W (hW : Below wc.heap.size wc W) => rrises_any W _ ld (lb.later hW) DU.out)
    clear la lb hbw P23 P24 P25 P26 P28 P29 P22 P27c S0
    cases bb
    all_goals
      go_upto_region 5 with (fail)
      go_region_held3 (fun w' => w'.cell? ⟨w.heap.size, 0, none⟩ = some (.int .i64 s1) ∧ w'.cell? ⟨w.heap.size, 1, none⟩ = some (.int .i64 s2)) (exact BX.out _ BB.out)
        (first
        | (go_at_call 25; refine (Q25.out _ BB.out).mono ?_; rintro e w2 ⟨rfl, ho⟩; have BB := Lib.hid (BB.out.trans (ho.mono BB.out.size)); clear ho)
        | (go_at_call 26; refine (Q26.out _ BB.out).mono ?_; rintro e w3 ⟨rfl, ho⟩; have BB := Lib.hid (BB.out.trans (ho.mono BB.out.size)); clear ho)
        | (go_at_call 28; refine (Q28.out _ BB.out).mono ?_; rintro e w4 ⟨r4, rfl, ho⟩; have HL := Lib.hid (own_liesS ho.1); have BB := Lib.hid (BB.out.trans (ho.2.mono BB.out.size)); clear ho)
        | (go_at_call 29; refine (Q29.out _ BB.out).mono ?_; rintro e w5 ⟨r5, rfl, ho⟩; have HL := Lib.hid (own_liesS ho.1); have BB := Lib.hid (BB.out.trans (ho.2.mono BB.out.size)); clear ho)
        | (go_at_call 22; refine (Q22.out _ BB.out).mono ?_; rintro e w6 ⟨r6, rfl, ho⟩; have HL := Lib.hid (own_liesS ho.1); have BB := Lib.hid (BB.out.trans (ho.2.mono BB.out.size)); clear ho)
        | (go_at_call 27; with_reducible refine (P27a.out _ BB.out _ HL.out).mono ?_; rintro e w7 ⟨rfl, ho⟩; have BB := Lib.hid (BB.out.trans (ho.mono BB.out.size)); clear ho)
        | (go_at_call 27; with_reducible refine (P27b.out _ BB.out _ HL.out).mono ?_; rintro e w7 ⟨rfl, ho⟩; have BB := Lib.hid (BB.out.trans (ho.mono BB.out.size)); clear ho)
        | (go_at_call 27; with_reducible refine (Q27c.out _ BB.out _ HL.out).mono ?_; rintro e w7 ⟨rfl, ho⟩; have BB := Lib.hid (BB.out.trans (ho.mono BB.out.size)); clear ho)
        | (go_at_call 30; with_reducible refine (P30a.out _ BB.out).mono ?_; rintro e w8 ⟨rfl, ho⟩; have BB := Lib.hid (BB.out.trans (ho.mono BB.out.size)); clear ho)
        | (go_at_call 30; with_reducible refine (P30b.out _ BB.out).mono ?_; rintro e w8 ⟨rfl, ho⟩; have BB := Lib.hid (BB.out.trans (ho.mono BB.out.size)); clear ho)
        | (go_at_call 8; refine (A.out _).mono ?_; rintro e w9 ⟨rfl, ho⟩; have BB := Lib.hid (BB.out.trans (ho.mono BB.out.size)); clear ho))
    all_goals
      go_wp2
      go_returns
      exact ⟨rfl, X.out.trans ((B1.out.trans ((BC.out.trans (BB.out.mono BC.out.size)).mono B1.out.size)).mono X.out.size)⟩
end Go.Proofs.YthpolhlhpdhomaaDoor
