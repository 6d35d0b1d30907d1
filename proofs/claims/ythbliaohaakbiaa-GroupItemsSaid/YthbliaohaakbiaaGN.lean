/- GroupSame, GroupTells. -/
import Derived.Test.YthbliaohaakbiaaGL
set_option linter.unusedVariables false
set_option linter.unusedSimpArgs false
set_option maxRecDepth 100000
namespace Go.Proofs.Ythbliaohaakbiaa
open Go.RowKit Go.Sort

set_option maxHeartbeats 6400000 in
theorem same_law (w : World) (v0 v1 : Value) (a b : List Gn) (h0 : GsL w v0 a) (h1 : GsL w v1 b) :
    Calls Try.prog 6 #[v0, v1] w fun e w' => e = .returned (.bool true) ∧ Below w.heap.size w w' := by
  have H0 := Lib.hid h0
  have H1 := Lib.hid h1
  have hl0 := h0.1.len
  have hl1 := h1.1.len
  obtain ⟨a0, c0, rfl⟩ := h0.1.shape
  obtain ⟨a1, c1, rfl⟩ := h1.1.shape
  have AW := Lib.hid (fun W => awake_any W)
  clear h0 h1
  by_cases ha : 40 < a.length
  · go_enter Try.func6, Try.ntmps6
    go_wp2_with (go_at_call 8; with_reducible refine (AW.out _).mono ?_; rintro e w' ⟨rfl, hb⟩; have BB := Lib.hid hb; clear hb)
    go_returns
    exact ⟨rfl, BB.out⟩
  · by_cases hb : 40 < b.length
    · go_enter Try.func6, Try.ntmps6
      go_wp2_with (go_at_call 8; with_reducible refine (AW.out _).mono ?_; rintro e w' ⟨rfl, hb⟩; have BB := Lib.hid hb; clear hb)
      go_returns
      exact ⟨rfl, BB.out⟩
    · have HL := Lib.hid (And.intro (show a.length ≤ 1000 by omega) (show b.length ≤ 1000 by omega))
      have T1 := Lib.hid (to_any w _ a H0.out HL.out.1)
      go_enter Try.func6, Try.ntmps6
      go_wp2_with fail
      refine T1.out.mono ?_
      rintro e w1 ⟨r1, rfl, g1, b1⟩
      have G1 := Lib.hid g1
      have B1 := Lib.hid b1
      have T2 := Lib.hid (to_any w1 _ b (H1.out.step b1) HL.out.2)
      clear g1 b1 T1
      go_wp2_with fail
      refine T2.out.mono ?_
      rintro e w2 ⟨r2, rfl, g2, b2⟩
      have B2 := Lib.hid (B1.out.trans (b2.mono B1.out.size))
      have S2 := Lib.hid (same_any w2 _ _ a b (G1.out.step b2) g2)
      clear g2 b2 T2 G1
      go_wp2_with fail
      refine S2.out.mono ?_
      rintro e w3 ⟨rfl, b3⟩
      have B3 := Lib.hid (B2.out.trans (b3.mono B2.out.size))
      have S3 := Lib.hid (rsameG_any w3 _ _ a b (H0.out.step B3.out) (H1.out.step B3.out))
      clear b3 S2
      go_wp2_with fail
      refine S3.out.mono ?_
      rintro e w4 ⟨rfl, b4⟩
      have B4 := Lib.hid (B3.out.trans (b4.mono B3.out.size))
      have T4 := Lib.hid (to_any w4 _ a (H0.out.step B4.out) HL.out.1)
      clear b4 S3
      obtain ⟨sg, hsg⟩ : ∃ zz, sameG (a.map Gn.p) (b.map Gn.p) = zz := ⟨_, rfl⟩
      rw [hsg]
      have t1 : (sg == sg) = true := by simp
      go_wp2_with fail
      refine T4.out.mono ?_
      rintro e w5 ⟨r5, rfl, g5, b5⟩
      have B5 := Lib.hid (B4.out.trans (b5.mono B4.out.size))
      have G5 := Lib.hid g5
      have T5 := Lib.hid (to_any w5 _ a (H0.out.step B5.out) HL.out.1)
      clear b5 T4 g5
      go_wp2_with fail
      refine T5.out.mono ?_
      rintro e w6 ⟨r6, rfl, g6, b6⟩
      have B6 := Lib.hid (B5.out.trans (b6.mono B5.out.size))
      have S6 := Lib.hid (same_any w6 _ _ a a (G5.out.step b6) g6)
      rw [sameG_t rfl] at S6
      clear b6 T5 g6
      go_wp2_with fail
      refine S6.out.mono ?_
      rintro e w7 ⟨rfl, b7⟩
      have B7 := Lib.hid (B6.out.trans (b7.mono B6.out.size))
      clear b7 S6
      go_wp2_with fail
      refine (AW.out _).mono ?_
      rintro e w8 ⟨rfl, b8⟩
      have B8 := Lib.hid (B7.out.trans (b8.mono B7.out.size))
      clear b8
      go_wp2
      go_returns
      exact ⟨rfl, B8.out⟩
theorem grp_ne {l : List It} {x : It} (hx : x ∈ l) : (grpBy sortF l x).l ≠ [] := by
  unfold grpBy
  cases hd : x.d with
  | false => simp
  | true =>
    intro e
    have e : sortF (mates l x.n) = [] := by simpa using e
    have : ndI x ∈ sortF (mates l x.n) := (mem_sort _ _).2 (by unfold mates; exact List.mem_map.2 ⟨x, List.mem_filter.2 ⟨hx, by unfold isD; rw [hd]; simp⟩, rfl⟩)
    rw [e] at this
    cases this
theorem rof_ne {l : List It} (hu : Unlike l) (i : Nat) : ∀ g ∈ rOf l (l.take i), g.l ≠ [] := fun g hg => by
  obtain ⟨x, hx, _, rfl⟩ := ((rOf_is l (l.take i) (hu.sublist ((List.take_sublist i l).map ndI))).2 g).1 hg
  exact grp_ne (List.mem_of_mem_take hx)
theorem of_ne {l : List It} {G : List Gp} (hu : Unlike l) (h : IsOf l G) : ∀ g ∈ G, g.l ≠ [] := fun g hg => by
  obtain ⟨x, hx, rfl⟩ := (of_mem h g).1 hg
  exact grp_ne hx
theorem cmpI_vals (x y : Int) : cmpI x y = if x < y then -1 else if y < x then 1 else 0 := rfl
theorem cmpG_lt1 {a b : ByteArray × List Sp} (h : ltG a b = true) : cmpG a b = -1 ∧ cmpG b a = 1 := by
  unfold ltG at h
  unfold cmpG
  by_cases e : a.1 = b.1
  · rw [if_pos e] at h
    rw [if_pos e, if_pos e.symm]
    rw [ltP_iff] at h
    unfold cmpS cmpI
    rcases h with h | ⟨h1, h2⟩
    · constructor <;> (repeat' split) <;> omega
    · constructor <;> (repeat' split) <;> omega
  · rw [if_neg e] at h
    rw [if_neg e, if_neg (fun q => e q.symm)]
    unfold cmpT
    rw [h, ltB_asymm h, if_pos rfl, if_neg (by decide), if_neg (fun q => e q.symm)]
    exact ⟨rfl, rfl⟩
theorem cmpG_self (a : ByteArray × List Sp) : cmpG a a = 0 := by
  unfold cmpG cmpS cmpI
  rw [if_pos rfl, if_pos rfl, if_neg (by omega), if_neg (by omega)]
set_option maxHeartbeats 12800000 in
theorem tells_law (w : World) (v0 : Value) (l : List It) (h0 : LiesK encI 4 w v0 l) (hok : ∀ x ∈ l, x.n.size ≤ maxLen) :
    Calls Try.prog 3 #[v0] w fun e w' => e = .returned (.bool true) ∧ Below w.heap.size w w' := by
  have H0 := Lib.hid h0
  have hl0 := h0.len
  have HOK := Lib.hid hok
  obtain ⟨a0, c0, rfl⟩ := h0.shape
  have AW := Lib.hid (fun W => awake_any W)
  have MY := Lib.hid (may_any w _ l h0)
  clear h0 hok
  by_cases ha : 40 < l.length
  · go_enter Try.func3, Try.ntmps3
    go_wp2_with (go_at_call 8; with_reducible refine (AW.out _).mono ?_; rintro e w' ⟨rfl, hb⟩; have BB := Lib.hid hb; clear hb)
    go_returns
    exact ⟨rfl, BB.out⟩
  · have HL := Lib.hid (show l.length ≤ 1000 by omega)
    cases hun : unlikeB l with
    | false =>
      rw [hun] at MY
      go_enter Try.func3, Try.ntmps3
      go_wp2_with (first
        | (go_at_call 7; with_reducible refine MY.out.mono ?_; rintro e w1 ⟨rfl, hb⟩; have B1 := Lib.hid hb; clear hb)
        | (go_at_call 8; with_reducible refine (AW.out _).mono ?_; rintro e w2 ⟨rfl, hb⟩; have BB := Lib.hid (B1.out.trans (hb.mono B1.out.size)); clear hb))
      go_returns
      exact ⟨rfl, BB.out⟩
    | true =>
      rw [hun] at MY
      have HU := Lib.hid (show Unlike l from of_decide_eq_true (p := (l.map ndI).Nodup) hun)
      clear hun
      go_enter Try.func3, Try.ntmps3
      go_wp2_with fail
      refine MY.out.mono ?_
      rintro e w1 ⟨rfl, b1⟩
      have MI := Lib.hid (mine_any w1 _ l (H0.out.step b1) HL.out)
      have B1 := Lib.hid b1
      clear b1 MY
      go_wp2_with fail
      refine MI.out.mono ?_
      rintro e w2 ⟨r2, rfl, l2, b2⟩
      have B2 := Lib.hid (B1.out.trans (b2.mono B1.out.size))
      have OF := Lib.hid (of_any w2 r2 l l2 HL.out HU.out HOK.out)
      clear l2 b2 MI
      go_wp2_with fail
      refine OF.out.mono ?_
      rintro e w3 ⟨r3, gs, rfl, g3, i3, b3⟩
      have B3 := Lib.hid (B2.out.trans (b3.mono B2.out.size))
      have G3 := Lib.hid g3
      have IS := Lib.hid i3
      obtain ⟨a3, c3, rfl⟩ := g3.1.shape
      have hgl := g3.1.len
      have GL := Lib.hid (show gs.length ≤ 1000 from by
        have h := i3
        rw [of_ref HU.out h] at h
        have := rOf_len l l
        rw [← of_ref HU.out i3, List.length_map] at this
        have := HL.out
        omega)
      clear g3 i3 b3 OF
      go_wp2_with fail
      go_loopw [4] (fun kv wr => ∃ i : Nat, kv = .int .i64 i ∧ 1 ≤ i ∧ Hid (Below w3.heap.size w3 wr)) (fun kv _ => gs.length - (intOf kv).toNat)
      case atStart => exact ⟨1, rfl, Nat.le_refl _, Lib.hid (Below.refl _ _)⟩
      case round =>
        obtain ⟨i, rfl, hi, hB⟩ := hrel
        have KB := Lib.hid hB.out
        clear hB
        have hg1000 := GL.out
        by_cases hlt : i < gs.length
        · obtain ⟨j, rfl⟩ : ∃ j, i = j + 1 := ⟨i - 1, by omega⟩
          obtain ⟨g, o, x, hao, hx, hg, d0, d1, d2⟩ := grN G3.out.1 (i := j) (by omega)
          obtain ⟨g', o', y, hao', hy, hg', e0, e1, e2⟩ := grN G3.out.1 hlt
          subst hao
          injection hao' with hao'
          injection hao' with q1 q2
          subst q1 q2
          have AF := Lib.hid (fun W (hb : Below w3.heap.size w3 W) => And.intro (GR3 hg d0 d1 d2 W hb) (GR3 hg' e0 e1 e2 W hb))
          have hxm := List.mem_of_getElem? hx
          have hym := List.mem_of_getElem? hy
          have hxn : x.l ≠ [] := of_ne HU.out IS.out x.p (List.mem_map.2 ⟨x, hxm, rfl⟩)
          have hyn : y.l ≠ [] := of_ne HU.out IS.out y.p (List.mem_map.2 ⟨y, hym, rfl⟩)
          have hlt2 : ltG x.key y.key = true := by
            obtain ⟨_, _, _, _, hup⟩ := IS.out
            have := List.pairwise_iff_getElem.1 (List.pairwise_map.1 hup) j (j + 1) (by omega) hlt (by omega)
            rw [(List.getElem?_eq_some_iff.1 hx).2, (List.getElem?_eq_some_iff.1 hy).2] at this
            exact this
          have CXY := Lib.hid (fun W (hb : Below w3.heap.size w3 W) => cmp_gr W x.n x.d _ x.l y.n y.d _ y.l ((G3.out.2 x hxm).step hb) hxn ((G3.out.2 y hym).step hb) hyn)
          have CYX := Lib.hid (fun W (hb : Below w3.heap.size w3 W) => cmp_gr W y.n y.d _ y.l x.n x.d _ x.l ((G3.out.2 y hym).step hb) hyn ((G3.out.2 x hxm).step hb) hxn)
          have CYY := Lib.hid (fun W (hb : Below w3.heap.size w3 W) => cmp_gr W y.n y.d _ y.l y.n y.d _ y.l ((G3.out.2 y hym).step hb) hyn ((G3.out.2 y hym).step hb) hyn)
          rw [show cmpG (x.n, x.l) (y.n, y.l) = -1 from (cmpG_lt1 hlt2).1] at CXY
          rw [show cmpG (y.n, y.l) (x.n, x.l) = 1 from (cmpG_lt1 hlt2).2] at CYX
          rw [cmpG_self] at CYY
          rw [show x.v = .slice x.a x.l.length x.c from rfl, show y.v = .slice y.a y.l.length y.c from rfl] at CXY CYX
          rw [show y.v = .slice y.a y.l.length y.c from rfl] at CYY
          have LC := Lib.hid (fun (z : Later wr) => KB.out.trans (z.below.mono KB.out.size))
          clear d0 d1 d2 e0 e1 e2 hg hg' hx hy hxm hym hxn hyn hlt2
          go_upto_region 7 with (fail)
          have x0 := fun z : Later wr => (AF.out z.w (LC.out z)).1.1
          have x1 := fun z : Later wr => (AF.out z.w (LC.out z)).1.2.1
          have x2 := fun z : Later wr => (AF.out z.w (LC.out z)).1.2.2
          have y0 := fun z : Later wr => (AF.out z.w (LC.out z)).2.1
          have y1 := fun z : Later wr => (AF.out z.w (LC.out z)).2.2.1
          have y2 := fun z : Later wr => (AF.out z.w (LC.out z)).2.2.2
          refine wp_region_later (by kernel_rfl) (by kernel_rfl) ?_
          repeat (go_big_quiet_step (first
            | (go_at_call 11; with_reducible exact later_call ((CXY.out _ (LC.out _)).mono (fun e w' h => ⟨h.1, h.2.below⟩)))
            | (go_at_call 11; with_reducible exact later_call ((CYX.out _ (LC.out _)).mono (fun e w' h => ⟨h.1, h.2.below⟩)))
            | (go_at_call 11; with_reducible exact later_call ((CYY.out _ (LC.out _)).mono (fun e w' h => ⟨h.1, h.2.below⟩)))))
          refine wpQuiet_nil ?_
          rintro _ ⟨xl1, rfl⟩
          have K1 := Lib.hid (KB.out.trans (xl1.below.mono KB.out.size))
          generalize xl1.w = w4 at *
          clear x0 x1 x2 y0 y1 y2
          go_wp2
          go_roundw
          case rel => exact ⟨j + 1 + 1, by go_num, by omega, K1⟩
          case measure => simp [intOf]; omega
        · have TH := Lib.hid (theirs_any wr _ gs (G3.out.step KB.out) GL.out)
          have BR := Lib.hid (B3.out.trans (KB.out.mono B3.out.size))
          go_wp2_with fail
          refine TH.out.mono ?_
          rintro e w4 ⟨r4, rfl, g4, b4⟩
          have G4 := Lib.hid g4
          have B4 := Lib.hid (BR.out.trans (b4.mono BR.out.size))
          have RO := Lib.hid (rof_any w4 _ l (H0.out.step B4.out) HL.out (fun x hx => grp_ne hx) (rof_ne HU.out))
          clear g4 b4 TH
          go_wp2_with fail
          refine RO.out.mono ?_
          rintro e w5 ⟨r5, gs5, rfl, g5, h5, b5⟩
          have B5 := Lib.hid (B4.out.trans (b5.mono B4.out.size))
          have SM := Lib.hid (rsameG_any w5 _ _ gs gs5 (G4.out.step b5) g5)
          rw [sameG_t ((of_ref HU.out IS.out).trans h5.symm)] at SM
          clear g5 h5 b5 RO
          go_wp2_with fail
          refine SM.out.mono ?_
          rintro e w6 ⟨rfl, b6⟩
          have B6 := Lib.hid (B5.out.trans (b6.mono B5.out.size))
          clear b6 SM
          go_wp2_with fail
          refine (AW.out _).mono ?_
          rintro e w7 ⟨rfl, b7⟩
          have B7 := Lib.hid (B6.out.trans (b7.mono B6.out.size))
          clear b7
          go_wp2
          go_returns
          exact ⟨rfl, B7.out⟩
end Go.Proofs.Ythbliaohaakbiaa
