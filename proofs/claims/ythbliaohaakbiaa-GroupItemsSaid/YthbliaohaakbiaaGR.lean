/- GroupItems, GroupOrder. Made by gengr17.py. -/
import Derived.Test.YthbliaohaakbiaaGN
set_option linter.unusedVariables false
set_option linter.unusedSimpArgs false
set_option maxRecDepth 100000
namespace Go.Proofs.Ythbliaohaakbiaa
open Go.RowKit Go.Sort

theorem of_one {l : List It} {G H : List Gp} (h : IsOf l G) (k : IsOf l H) : G = H := of_perm (List.Perm.refl _) h k
def cntI (l : List It) (z : It) : Nat := l.countP (fun y => decide (ndI y = ndI z))
theorem cnt_snoc (l : List It) (y z : It) : cntI (l ++ [y]) z = cntI l z + (if ndI y = ndI z then 1 else 0) := by
  unfold cntI
  rw [List.countP_append]
  by_cases h : ndI y = ndI z <;> simp [h]
theorem cnt_one {l : List It} (hu : Unlike l) {z : It} (hz : z ∈ l) : cntI l z = 1 := by
  induction l using snoc_rec with
  | nil => cases hz
  | snoc l x ih =>
    have hu' := hu
    unfold Unlike at hu
    rw [List.map_append] at hu
    obtain ⟨h1, h2⟩ := nodup_snoc.1 (show (l.map ndI ++ [ndI x]).Nodup from hu)
    rw [cnt_snoc]
    rcases List.mem_append.1 hz with hz | hz
    · rw [ih h1 hz, if_neg]
      intro e
      exact h2 (by rw [e]; exact List.mem_map.2 ⟨z, hz, rfl⟩)
    · rw [List.mem_singleton] at hz
      subst hz
      rw [if_pos rfl]
      have : cntI l z = 0 := by
        unfold cntI
        rw [List.countP_eq_zero]
        intro y hy
        simp only [decide_eq_true_eq]
        intro e
        exact h2 (by rw [← e]; exact List.mem_map.2 ⟨y, hy, rfl⟩)
      omega
theorem unlike_eq {l : List It} (hu : Unlike l) {a b : It} (ha : a ∈ l) (hb : b ∈ l) (h : ndI a = ndI b) : a = b := by
  obtain ⟨i, hi⟩ := List.mem_iff_getElem?.1 ha
  obtain ⟨j, hj⟩ := List.mem_iff_getElem?.1 hb
  have hil := (List.getElem?_eq_some_iff.1 hi).1
  have hjl := (List.getElem?_eq_some_iff.1 hj).1
  have e : i = j := by
    have hn : (l.map ndI).Nodup := hu
    rcases Nat.lt_trichotomy i j with q | q | q
    · have := List.pairwise_iff_getElem.1 hn i j (by simpa using hil) (by simpa using hjl) q
      simp [(List.getElem?_eq_some_iff.1 hi).2, (List.getElem?_eq_some_iff.1 hj).2, h] at this
    · exact q
    · have := List.pairwise_iff_getElem.1 hn j i (by simpa using hjl) (by simpa using hil) q
      simp [(List.getElem?_eq_some_iff.1 hi).2, (List.getElem?_eq_some_iff.1 hj).2, h] at this
  subst e
  rw [hi] at hj
  injection hj
theorem items_lenG {gs : List Gn} (x : Gn) : (itemsOf ([x].map Gn.p)).length = x.l.length := by
  unfold itemsOf
  simp [Gn.p]
theorem ivl_eta (z : It) : (⟨z.t, z.r, z.n, z.d⟩ : It) = z := rfl
set_option maxHeartbeats 12800000 in
theorem items_law (w : World) (v0 : Value) (l : List It) (h0 : LiesK encI 4 w v0 l) (hok : ∀ x ∈ l, x.n.size ≤ maxLen) :
    Calls Try.prog 4 #[v0] w fun e w' => e = .returned (.bool true) ∧ Below w.heap.size w w' := by
  have H0 := Lib.hid h0
  have hl0 := h0.len
  have HOK := Lib.hid hok
  obtain ⟨a0, c0, rfl⟩ := h0.shape
  have AW := Lib.hid (fun W => awake_any W)
  have MY := Lib.hid (may_any w _ l h0)
  clear h0 hok
  by_cases ha : 40 < l.length
  · go_enter Try.func4, Try.ntmps4
    go_wp2_with (go_at_call 8; with_reducible refine (AW.out _).mono ?_; rintro e w' ⟨rfl, hb⟩; have BB := Lib.hid hb; clear hb)
    go_returns
    exact ⟨rfl, BB.out⟩
  · have HL := Lib.hid (show l.length ≤ 1000 by omega)
    cases hun : unlikeB l with
    | false =>
      rw [hun] at MY
      go_enter Try.func4, Try.ntmps4
      go_wp2_with (first
        | (go_at_call 7; with_reducible refine MY.out.mono ?_; rintro e w1 ⟨rfl, hb⟩; have B1 := Lib.hid hb; clear hb)
        | (go_at_call 8; with_reducible refine (AW.out _).mono ?_; rintro e w2 ⟨rfl, hb⟩; have BB := Lib.hid (B1.out.trans (hb.mono B1.out.size)); clear hb))
      go_returns
      exact ⟨rfl, BB.out⟩
    | true =>
      rw [hun] at MY
      have HU := Lib.hid (show Unlike l from of_decide_eq_true (p := (l.map ndI).Nodup) hun)
      clear hun
      go_enter Try.func4, Try.ntmps4
      go_wp2_with fail
      refine MY.out.mono ?_
      rintro e w1 ⟨rfl, b1⟩
      have MI := Lib.hid (mine_any w1 _ l (H0.out.step b1) HL.out)
      have B1 := Lib.hid b1
      clear b1 MY
      go_wp2_with fail
      refine MI.out.mono ?_
      rintro e w2 ⟨r2, rfl, l2, b2⟩
      have B2 := Lib.hid (B1.out.trans (b2.mono B1.out.size))
      have OF := Lib.hid (of_any w2 r2 l l2 HL.out HU.out HOK.out)
      clear l2 b2 MI
      go_wp2_with fail
      refine OF.out.mono ?_
      rintro e w3 ⟨r3, gs, rfl, g3, i3, b3⟩
      have B3 := Lib.hid (B2.out.trans (b3.mono B2.out.size))
      have IS := Lib.hid i3
      obtain ⟨a3, c3, rfl⟩ := g3.1.shape
      have GL := Lib.hid (show gs.length ≤ 1000 from by
        have := rOf_len l l
        rw [← of_ref HU.out i3, List.length_map] at this
        have := HL.out
        omega)
      have PM := Lib.hid (items_of HU.out i3)
      have IM := Lib.hid (items_any w3 _ gs g3 (by rw [PM.out.length_eq]; exact HL.out))
      obtain ⟨T, hT⟩ : ∃ zz, itemsOf (gs.map Gn.p) = zz := ⟨_, rfl⟩
      rw [hT] at PM IM
      have TT := Lib.hid hT
      have TL := Lib.hid PM.out.length_eq
      have G3 := Lib.hid g3
      clear g3 i3 b3 OF hT
      go_wp2_with fail
      refine IM.out.mono ?_
      rintro e w5 ⟨r5, rfl, l5, b5⟩
      have G5 := Lib.hid (G3.out.step b5)
      have T5 := Lib.hid l5
      have B5 := Lib.hid (B3.out.trans (b5.mono B3.out.size))
      obtain ⟨a5, c5, rfl⟩ := l5.shape
      have hTl := TL.out
      have t0 : ((T.length : Int) != (l.length : Int)) = false := by simp [hTl]
      clear l5 b5 IM G3
      go_wp2_with fail
      clear t0
      have hgl := G5.out.1.len
      go_loopw [5, 6] (fun kv iv wr => ∃ (i : Nat) (pre : List It), iv = .int .i64 i ∧ i ≤ gs.length ∧ kv = .int .i64 (pre.length : Nat) ∧ Hid (Below w5.heap.size w5 wr ∧ T = pre ++ itemsOf ((gs.drop i).map Gn.p))) (fun _ iv _ => gs.length - (intOf iv).toNat)
      case atStart => exact ⟨0, [], rfl, Nat.zero_le _, rfl, Lib.hid ⟨Below.refl _ _, TT.out.symm⟩⟩
      case round =>
        obtain ⟨i, pre, rfl, hi, rfl, hK⟩ := hrel
        have KK := Lib.hid hK.out
        clear hK
        have hg1000 := GL.out
        have hl1000 := HL.out
        have hpre : pre.length ≤ T.length := by have := congrArg List.length KK.out.2; rw [List.length_append] at this; omega
        by_cases hlt : i < gs.length
        · obtain ⟨g, o, x, hao, hx, hg, d0, d1, d2⟩ := grN G5.out.1 hlt
          subst hao
          have AF := Lib.hid (fun W (hb : Below w5.heap.size w5 W) => GR3 hg d0 d1 d2 W hb)
          have XL := Lib.hid (G5.out.2 x (List.mem_of_getElem? hx))
          have DR := Lib.hid (show T = pre ++ (x.l.map (mkI x) ++ itemsOf ((gs.drop (i + 1)).map Gn.p)) from by rw [KK.out.2, List.drop_eq_getElem_cons hlt, (List.getElem?_eq_some_iff.1 hx).2, items_cons])
          have XLL := Lib.hid (show x.l.length ≤ 1000 from by
            have := congrArg List.length DR.out
            rw [List.length_append, List.length_append, List.length_map] at this
            omega)
          clear d0 d1 d2 hg hx
          go_wp2_with fail
          have I0 := Lib.hid KK.out.1
          go_loopw [5, 7] (fun kv jv wr => ∃ (j : Nat) (n : List It), jv = .int .i64 j ∧ j ≤ x.l.length ∧ kv = .int .i64 (n.length : Nat) ∧ Hid (Below w5.heap.size w5 wr ∧ T = n ++ ((x.l.drop j).map (mkI x) ++ itemsOf ((gs.drop (i + 1)).map Gn.p)))) (fun _ jv _ => x.l.length - (intOf jv).toNat)
          case atStart => exact ⟨0, pre, rfl, Nat.zero_le _, rfl, Lib.hid ⟨I0.out, DR.out⟩⟩
          case round =>
            obtain ⟨j, n, rfl, hj, rfl, hJ⟩ := hrel
            have KB := Lib.hid hJ.out.1
            have JT := Lib.hid hJ.out.2
            clear hJ I0 DR KK
            have hx1000 := XLL.out
            have hnT : n.length ≤ T.length := by have := congrArg List.length JT.out; rw [List.length_append] at this; omega
            obtain ⟨d0, d1, d2⟩ := AF.out wr KB.out
            by_cases hlj : j < x.l.length
            · obtain ⟨g6, o6, p, hxa, hp, hg6, e0, e1⟩ := LiesK.st (show LiesK encS 2 w5 (.slice x.a x.l.length x.c) x.l from XL.out) hlj
              obtain ⟨p1, p2⟩ := p
              have JN := Lib.hid (show T = (n ++ [(⟨p1, p2, x.n, x.d⟩ : It)]) ++ ((x.l.drop (j + 1)).map (mkI x) ++ itemsOf ((gs.drop (i + 1)).map Gn.p)) from by
                rw [JT.out, List.drop_eq_getElem_cons hlj, (List.getElem?_eq_some_iff.1 hp).2, List.map_cons]
                simp [mkI])
              have hTn : T[n.length]? = some ⟨p1, p2, x.n, x.d⟩ := by rw [JN.out, List.append_assoc, List.getElem?_append_right (Nat.le_refl _)]; simp
              have hnlt : n.length < T.length := (List.getElem?_eq_some_iff.1 hTn).1
              obtain ⟨g7, o7, z, ha5, hz, hg7, f0, f1, f2, f3⟩ := T5.out.it hnlt
              rw [hTn] at hz
              injection hz with hz
              subst hz
              have ZM := Lib.hid (show (⟨p1, p2, x.n, x.d⟩ : It) ∈ l from PM.out.mem_iff.1 (List.mem_of_getElem? hTn))
              subst ha5
              have HXA := Lib.hid hxa
              have PF := Lib.hid (fun W (hb : Below w5.heap.size w5 W) => show (W.cell? ⟨g6, o6 + j * 2, none⟩ = some (.int .i64 p1) ∧ W.cell? ⟨g6, o6 + j * 2 + 1, none⟩ = some (.int .i64 p2)) from ⟨(hb.cell (p := ⟨g6, o6 + j * 2, none⟩) hg6).trans e0, (hb.cell (p := ⟨g6, o6 + j * 2 + 1, none⟩) hg6).trans e1⟩)
              have ZF := Lib.hid (fun W (hb : Below w5.heap.size w5 W) => AFI hg7 f0 f1 f2 f3 W hb)
              have NT := Lib.hid (show n.length < l.length from by omega)
              have hnl := NT.out
              clear e0 e1 f0 f1 f2 f3 hg6 hg7 hp hTn JT hxa
              go_upto_region 14 with (fail)
              clear d0 d1 d2
              have LC := Lib.hid (fun (z : Later wr) => KB.out.trans (z.below.mono KB.out.size))
              have x0 := fun z : Later wr => (AF.out z.w (LC.out z)).1
              have x1 := fun z : Later wr => (AF.out z.w (LC.out z)).2.1
              have x2 := fun z : Later wr => (AF.out z.w (LC.out z)).2.2
              simp only [HXA.out] at x2
              have y0 := fun z : Later wr => (PF.out z.w (LC.out z)).1
              have y1 := fun z : Later wr => (PF.out z.w (LC.out z)).2
              have z0 := fun z : Later wr => (ZF.out z.w (LC.out z)).1
              have z1 := fun z : Later wr => (ZF.out z.w (LC.out z)).2.1
              have z2 := fun z : Later wr => (ZF.out z.w (LC.out z)).2.2.1
              have z3 := fun z : Later wr => (ZF.out z.w (LC.out z)).2.2.2
              have hnb : ¬ ((l.length : Int) ≤ (n.length : Int)) := by omega
              refine wp_region_later (by kernel_rfl) (by kernel_rfl) ?_
              repeat (go_big_quiet_step (fail))
              refine wpQuiet_nil ?_
              rintro _ ⟨xl1, rfl⟩
              have K1 := Lib.hid (KB.out.trans (xl1.below.mono KB.out.size))
              generalize xl1.w = w6 at *
              clear x0 x1 x2 y0 y1 z0 z1 z2 z3 hnb KB LC hnl
              go_wp2_with fail
              go_loopw [8, 9] (fun nv mv wr => ∃ (m : Nat), mv = .int .i64 m ∧ m ≤ l.length ∧ nv = .int .i64 (cntI (l.take m) ⟨p1, p2, x.n, x.d⟩ : Nat) ∧ Hid (Below w5.heap.size w5 wr)) (fun _ mv _ => l.length - (intOf mv).toNat)
              case atStart => exact ⟨0, rfl, Nat.zero_le _, rfl, Lib.hid K1.out⟩
              case round =>
                obtain ⟨m, rfl, hm, rfl, hM⟩ := hrel
                have KB := Lib.hid hM.out
                clear hM K1
                have hc1000 : cntI (l.take m) ⟨p1, p2, x.n, x.d⟩ ≤ 1000 := by
                  have : cntI (l.take m) ⟨p1, p2, x.n, x.d⟩ ≤ (l.take m).length := List.countP_le_length
                  rw [List.length_take] at this
                  omega
                have hnT := NT.out
                by_cases hml : m < l.length
                · obtain ⟨g8, o8, y, ha0, hy, hg8, f0, f1, f2, f3⟩ := H0.out.it hml
                  subst ha0
                  have YF := Lib.hid (fun W (hb : Below w.heap.size w W) => AFI hg8 f0 f1 f2 f3 W hb)
                  have CS := Lib.hid (cnt_snoc (l.take m) y ⟨p1, p2, x.n, x.d⟩)
                  rw [← take_snoc hy] at CS
                  have hym := List.mem_of_getElem? hy
                  have LC := Lib.hid (fun (z : Later wr) => KB.out.trans (z.below.mono KB.out.size))
                  have LW := Lib.hid (fun (z : Later wr) => B5.out.trans ((LC.out z).mono B5.out.size))
                  by_cases hpp : y.t = p1 ∧ y.r = p2
                  · have hyz := unlike_eq HU.out hym ZM.out (show ndI y = ndI ⟨p1, p2, x.n, x.d⟩ from by unfold ndI; rw [hpp.1, hpp.2])
                    subst hyz
                    have CS := Lib.hid (show cntI (l.take (m + 1)) ⟨p1, p2, x.n, x.d⟩ = cntI (l.take m) ⟨p1, p2, x.n, x.d⟩ + 1 from by rw [CS.out, if_pos rfl])
                    clear hpp hym hy f0 f1 f2 f3 hg8
                    go_upto_region 20 with (fail)
                    have z0 := fun z : Later wr => (ZF.out z.w (LC.out z)).1
                    have z1 := fun z : Later wr => (ZF.out z.w (LC.out z)).2.1
                    have z2 := fun z : Later wr => (ZF.out z.w (LC.out z)).2.2.1
                    have z3 := fun z : Later wr => (ZF.out z.w (LC.out z)).2.2.2
                    have y0 := fun z : Later wr => (YF.out z.w (LW.out z)).1
                    have y1 := fun z : Later wr => (YF.out z.w (LW.out z)).2.1
                    have y2 := fun z : Later wr => (YF.out z.w (LW.out z)).2.2.1
                    have y3 := fun z : Later wr => (YF.out z.w (LW.out z)).2.2.2
                    refine wp_region_later (by kernel_rfl) (by kernel_rfl) ?_
                    repeat (go_big_quiet_step (fail))
                    refine wpQuiet_nil ?_
                    rintro _ ⟨xl1, rfl⟩
                    have K1 := Lib.hid (KB.out.trans (xl1.below.mono KB.out.size))
                    generalize xl1.w = w6 at *
                    clear y0 y1 y2 y3 z0 z1 z2 z3 LC LW
                    go_wp2
                    go_roundw
                    case rel => exact ⟨m + 1, by go_num, by omega, by rw [CS.out]; go_num, K1⟩
                    case measure => simp [intOf]; omega
                  · have CS := Lib.hid (show cntI (l.take (m + 1)) ⟨p1, p2, x.n, x.d⟩ = cntI (l.take m) ⟨p1, p2, x.n, x.d⟩ from by rw [CS.out, if_neg (fun e => hpp (by unfold ndI at e; injection e with a b; exact ⟨a, b⟩))]; rfl)
                    rcases no2 hpp with t1 | ⟨t1, t2⟩
                    all_goals
                      clear hpp hym hy f0 f1 f2 f3 hg8
                      go_upto_region 20 with (fail)
                      have z0 := fun z : Later wr => (ZF.out z.w (LC.out z)).1
                      have z1 := fun z : Later wr => (ZF.out z.w (LC.out z)).2.1
                      have y0 := fun z : Later wr => (YF.out z.w (LW.out z)).1
                      have y1 := fun z : Later wr => (YF.out z.w (LW.out z)).2.1
                      refine wp_region_later (by kernel_rfl) (by kernel_rfl) ?_
                      repeat (go_big_quiet_step (fail))
                      refine wpQuiet_nil ?_
                      rintro _ ⟨xl1, rfl⟩
                      have K1 := Lib.hid (KB.out.trans (xl1.below.mono KB.out.size))
                      generalize xl1.w = w6 at *
                      clear y0 y1 z0 z1 LC LW
                      go_wp2
                      go_roundw
                      case rel => exact ⟨m + 1, by go_num, by omega, by rw [CS.out], K1⟩
                      case measure => simp [intOf]; omega
                · have hc : cntI (l.take m) ⟨p1, p2, x.n, x.d⟩ = 1 := by rw [List.take_of_length_le (by omega)]; exact cnt_one HU.out ZM.out
                  rw [hc]
                  have FN := Lib.hid (show n.length + 1 = (n ++ [(⟨p1, p2, x.n, x.d⟩ : It)]).length from by simp)
                  go_wp2
                  go_roundw
                  case rel => exact ⟨j + 1, n ++ [(⟨p1, p2, x.n, x.d⟩ : It)], by go_num, by omega, by rw [← FN.out]; go_num, Lib.hid ⟨KB.out, JN.out⟩⟩
                  case measure => simp [intOf]; omega
            · have FIN := Lib.hid (show Below w5.heap.size w5 wr ∧ T = n ++ itemsOf ((gs.drop (i + 1)).map Gn.p) from ⟨KB.out, by have := JT.out; rw [List.drop_of_length_le (show x.l.length ≤ j by omega)] at this; simpa using this⟩)
              clear JT
              go_wp2
              go_roundw
              case rel => exact ⟨i + 1, n, by go_num, by omega, rfl, FIN⟩
              case measure => simp [intOf]; omega
        · have hTp : T = pre := by have h := KK.out.2; rw [List.drop_of_length_le (show gs.length ≤ i by omega)] at h; simpa [itemsOf] using h
          have hTp2 : T.length = pre.length := by rw [← hTp]
          rw [← hTp2]
          have BR := Lib.hid (B5.out.trans (KK.out.1.mono B5.out.size))
          have OF2 := Lib.hid (of_any wr (.slice a5 l.length c5) T (by rw [← TL.out]; exact T5.out.step KK.out.1) (by rw [TL.out]; exact HL.out) ((PM.out.map ndI).nodup_iff.2 HU.out) (fun x hx => HOK.out x (PM.out.mem_iff.1 hx)))
          have G7 := Lib.hid (G5.out.step KK.out.1)
          clear KK hTp hTp2 hpre
          go_wp2_with fail
          refine OF2.out.mono ?_
          rintro e w6 ⟨r6, gs6, rfl, g6, i6, b6⟩
          have SM := Lib.hid (same_any w6 _ _ gs6 gs g6 (G7.out.step b6))
          rw [sameG_t (of_perm PM.out i6 IS.out)] at SM
          have B6 := Lib.hid (BR.out.trans (b6.mono BR.out.size))
          clear g6 i6 b6 OF2
          go_wp2_with fail
          refine SM.out.mono ?_
          rintro e w7 ⟨rfl, b7⟩
          have B7 := Lib.hid (B6.out.trans (b7.mono B6.out.size))
          clear b7 SM
          go_wp2_with fail
          refine (AW.out _).mono ?_
          rintro e w8 ⟨rfl, b8⟩
          have B8 := Lib.hid (B7.out.trans (b8.mono B7.out.size))
          clear b8
          go_wp2
          go_returns
          exact ⟨rfl, B8.out⟩
end Go.Proofs.Ythbliaohaakbiaa
