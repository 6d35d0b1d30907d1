/- Undo's law: what takes changes back, upon a table. Made by genhn38.py. -/
import Derived.Test.YthbmbpnpigpgpaaHM
set_option linter.unusedVariables false
set_option linter.unusedSimpArgs false
set_option maxRecDepth 100000
namespace Go.Proofs.Ythbmbpnpigpgpaa
open Go.RowKit

theorem backF_len (T : List Rw) (N : List Ch) : (backF T N).length ≤ N.length := by
  have h := List.length_filterMap_le (bkF T) N.reverse
  rw [List.length_reverse] at h
  exact h
set_option maxHeartbeats 6400000 in
theorem tells_law (w : World) (v c m : Value) (l : List Rw) (cl : List Ch) (made : List Sp) (h : LiesR w v l) (hc : LiesK encH 7 w c cl) (hm : LiesK encS 2 w m made) (hk : ∀ x ∈ l, x.ok) (hco : ∀ x ∈ cl, OkH x) (hmk : ∀ m ∈ made, I64 m.1 ∧ I64 m.2) :
    Calls Try.prog 3 #[v, c, m] w fun e w' => e = .returned (.bool true) ∧ Below w.heap.size w w' := by
  have MY := Lib.hid (may5_any w v c m l cl made h hc hm)
  have AW := Lib.hid (fun W => hawake_any W)
  have L0 := Lib.hid h
  have C0 := Lib.hid hc
  have M0 := Lib.hid hm
  have HK := Lib.hid (And.intro hk (And.intro hco hmk))
  clear h hc hm hk hco hmk
  go_enter Try.func3, Try.ntmps3
  go_wp2_with fail
  refine MY.out.mono ?_
  rintro e w1 ⟨bb, rfl, hb, hM⟩
  have B1 := Lib.hid hb
  have MO := Lib.hid hM
  clear hb hM MY
  cases bb
  · have AW1 := Lib.hid (AW.out w1)
    go_wp2_with fail
    refine AW1.out.mono ?_
    rintro e w2 ⟨rfl, hb⟩
    have FIN := Lib.hid (B1.out.trans (hb.mono B1.out.size))
    clear hb
    go_wp2
    go_returns
    exact ⟨rfl, FIN.out⟩
  · have MF := Lib.hid (MO.out rfl)
    have LE := Lib.hid MF.out.len
    have RM := Lib.hid (rmade_any w1 v l (L0.out.step B1.out) (by have := LE.out.1; omega))
    clear MO MF
    go_wp2_with fail
    refine RM.out.mono ?_
    rintro e w2 ⟨rr, rfl, hr, hb⟩
    have B2 := Lib.hid (B1.out.trans (hb.mono B1.out.size))
    have R2 := Lib.hid hr
    have L2 := Lib.hid (L0.out.step B2.out)
    have C2 := Lib.hid (C0.out.step B2.out)
    have M2 := Lib.hid (M0.out.step B2.out)
    clear hr hb RM B1 L0 C0 M0
    have KM := Lib.hid (kmade_any w2 v l L2.out (by have := LE.out.1; omega) HK.out.1)
    go_wp2_with fail
    refine KM.out.mono ?_
    rintro e w3 ⟨k, p, b, tb, rfl, hcn⟩
    have N3 := Lib.hid hcn
    clear hcn KM
    have ML := Lib.hid (show (madeF l).length ≤ 24 from Nat.le_trans (madeF_len l) LE.out.1)
    have MR := Lib.hid (madeF_rise l)
    obtain ⟨M, hMM⟩ : ∃ z, madeF l = z := ⟨_, rfl⟩
    rw [hMM] at N3 ML MR R2
    clear hMM
    have NL := Lib.hid (show (namedF made cl).length ≤ 24 from Nat.le_trans (named_len made cl) LE.out.2.1)
    have MI := Lib.hid (mine_any w3 c cl (C2.out.step N3.out.bel) (by have := LE.out.2.1; omega))
    go_wp2_with fail
    refine MI.out.mono ?_
    rintro e w4 ⟨r1, rfl, ho, hb⟩
    have N4 := Lib.hid (N3.out.step hb)
    have B34 := Lib.hid hb.size
    have HB3 := Lib.hid (show b < w3.heap.size from N3.out.ci.tab.blt)
    have BK := Lib.hid (back_any w4 k p b tb M r1 m cl made N4.out.ci (own_liesK encH_len ho) (M2.out.step N4.out.bel) (by have := LE.out.2.1; omega) (by have := LE.out.2.2; omega) (by have := ML.out; omega) HK.out.2.1 HK.out.2.2)
    clear ho hb MI N3
    go_wp2_with fail
    refine BK.out.mono ?_
    rintro e w5 ⟨rb, rfl, ho, hb⟩
    have O5 := Lib.hid ho
    have N5 := Lib.hid (N4.out.step hb)
    clear ho hb BK N4
    have MI := Lib.hid (mine_any w5 c cl (C2.out.step N5.out.bel) (by have := LE.out.2.1; omega))
    go_wp2_with fail
    refine MI.out.mono ?_
    rintro e w6 ⟨r2, rfl, ho, hb⟩
    have O6 := Lib.hid (own_belowK O5.out hb)
    have N6 := Lib.hid (N5.out.step hb)
    have PL := Lib.hid (play_any w2 w6 k p b tb M r2 m cl made N6.out (own_liesK encH_len ho) (M2.out.step N6.out.bel) (by have := LE.out.2.1; omega) (by have := LE.out.2.2; omega) (by have := ML.out; omega) HK.out.2.1 HK.out.2.2)
    clear ho hb MI N5 O5
    go_wp2_with fail
    refine PL.out.mono ?_
    rintro e w7 ⟨rfl, hcn, hgw⟩
    have N7 := Lib.hid hcn
    have O7 := Lib.hid (own_grown O6.out hgw (fun j hj e => by have := (O6.out.lt j hj).1; have := HB3.out; have := B34.out; injection e with e; omega))
    clear hcn hgw PL N6 O6
    have BL := Lib.hid (Nat.le_trans (backF_len M (namedF made cl)) NL.out)
    obtain ⟨BB, hBB⟩ : ∃ z, backF M (namedF made cl) = z := ⟨_, rfl⟩
    have HBB := Lib.hid hBB
    rw [hBB] at O7 BL
    clear hBB
    have TH := Lib.hid (theirs_any w7 rb BB (own_liesK encH_len O7.out) (by have := BL.out; omega))
    go_wp2_with fail
    refine TH.out.mono ?_
    rintro e w8 ⟨r3, rfl, ho, hb⟩
    have O8 := Lib.hid (own_liesK encH_len ho)
    have N8 := Lib.hid (N7.out.step hb)
    clear ho hb TH N7 O7
    have RB := Lib.hid (rback_any w8 rr c m M cl made (R2.out.step N8.out.bel) (C2.out.step N8.out.bel) (M2.out.step N8.out.bel) (by have := LE.out.2.1; omega) (by have := LE.out.2.2; omega) MR.out)
    rw [HBB.out] at RB
    go_wp2_with fail
    refine RB.out.mono ?_
    rintro e w9 ⟨r4, rfl, ho, hb⟩
    have O9 := Lib.hid (own_liesK encH_len ho)
    have P9 := Lib.hid (O8.out.step hb)
    have N9 := Lib.hid (N8.out.step hb)
    clear ho hb RB N8 O8
    have CS := Lib.hid (csame_any w9 r3 r4 BB P9.out O9.out)
    go_wp2_with fail
    refine CS.out.mono ?_
    rintro e w10 ⟨rfl, hb⟩
    have N10 := Lib.hid (N9.out.step hb)
    clear hb CS N9 P9 O9
    have RN := Lib.hid (rnamed_any w10 c m cl made (C2.out.step N10.out.bel) (M2.out.step N10.out.bel) (by have := LE.out.2.1; omega) (by have := LE.out.2.2; omega))
    go_wp2_with fail
    refine RN.out.mono ?_
    rintro e w11 ⟨r5, rfl, ho, hb⟩
    obtain ⟨a5, c5, rfl⟩ := own_shapeK ho
    have N11 := Lib.hid (N10.out.step hb)
    have DL := Lib.hid (show (doneF M (namedF made cl)).length ≤ 48 from by have := done_len M (namedF made cl); have := ML.out; have := NL.out; omega)
    have DR := Lib.hid (done_rise MR.out (namedF made cl))
    clear ho hb RN N10
    have t0 : (((namedF made cl).length : Int) == ((namedF made cl).length : Int)) = true := by simp
    have TB := Lib.hid (table_any w11 k p b tb (doneF M (namedF made cl)) N11.out.ci (by have := DL.out; omega))
    go_wp2_with fail
    refine TB.out.mono ?_
    rintro e w12 ⟨q, qb, rfl, ho⟩
    have T12 := Lib.hid ho.tab
    have N12 := Lib.hid (N11.out.step ho.bel)
    clear ho TB N11
    have RP := Lib.hid (rplay_any w12 rr c m M cl made (R2.out.step N12.out.bel) (C2.out.step N12.out.bel) (M2.out.step N12.out.bel) (by have := LE.out.2.1; omega) (by have := LE.out.2.2; omega) (by have := ML.out; omega) MR.out)
    go_wp2_with fail
    refine RP.out.mono ?_
    rintro e w13 ⟨r6, rfl, hl6, hb⟩
    have T13 := Lib.hid (T12.out.step hb)
    have N13 := Lib.hid (N12.out.step hb)
    have MD := Lib.hid (made_rows w13 r6 (doneF M (namedF made cl)) hl6 (by have := DL.out; omega) T12.out.map.oks)
    rw [made_perm DR.out (List.Perm.refl _)] at MD
    clear hl6 hb RP N12 T12
    go_wp2_with fail
    refine MD.out.mono ?_
    rintro e w14 ⟨p2, b2, rfl, ht, h1, h2, hb⟩
    have N14 := Lib.hid (N13.out.step hb)
    have TS := Lib.hid (show Calls Try.prog 16 #[.pointer (some ⟨q, 0, none⟩), .pointer (some ⟨p2, 0, none⟩)] w14 (fun e w' => e = .returned (.bool true) ∧ Below w14.heap.size w14 w') from (tsame_any w14 q qb p2 b2 _ _ (T13.out.step hb) ht (by have := DL.out; omega)).mono (by rintro e w' ⟨rfl, hb⟩; exact ⟨by simp, hb⟩))
    clear ht h1 h2 hb MD N13 T13
    go_wp2_with fail
    refine TS.out.mono ?_
    rintro e w15 ⟨rfl, hb⟩
    have N15 := Lib.hid (N14.out.step hb)
    have AW1 := Lib.hid (AW.out w15)
    clear hb TS N14
    go_wp2_with fail
    refine AW1.out.mono ?_
    rintro e w16 ⟨rfl, hb⟩
    have N16 := Lib.hid (N15.out.step hb)
    have FIN := Lib.hid (B2.out.trans (N16.out.bel.mono B2.out.size))
    clear hb N15
    go_wp2
    go_returns
    exact ⟨rfl, FIN.out⟩
end Go.Proofs.Ythbmbpnpigpgpaa
