/- The reference's Of. Made by gengj17.py. -/
import Derived.Test.YthbliaohaakbiaaGH
set_option linter.unusedVariables false
set_option linter.unusedSimpArgs false
set_option maxRecDepth 100000
namespace Go.Proofs.Ythbliaohaakbiaa
open Go.RowKit Go.Sort

theorem insG_len (g : Gp) : ∀ (dn : Bool) (l : List Gp), (insG g dn l).length ≤ l.length + 1
  | dn, [] => by cases dn <;> simp [insG]
  | dn, x :: r => by
    rw [insG_cons]
    have ih := insG_len g (dn || ltG g.key x.key) r
    cases h : (!dn && ltG g.key x.key) with
    | false => simp; omega
    | true =>
      have : (dn || ltG g.key x.key) = true := by cases dn <;> simp_all
      rw [this, insG_true]
      simp
theorem rput_len (l : List It) (out : List Gp) (x : It) : (rput l out x).length ≤ out.length + 1 := by
  unfold rput
  split
  · exact insG_len _ _ _
  · omega
theorem rOf_len (l : List It) (p : List It) : (rOf l p).length ≤ p.length := by
  induction p using snoc_rec with
  | nil => simp [rOf]
  | snoc p x ih => rw [rOf_snoc, List.length_append]; have := rput_len l (rOf l p) x; simp; omega
/-- Between two rounds of an insertion. -/
structure RI (w2 W : World) (nv : Value) (g : Gn) (gs : List Gn) (dn : Bool) (k : Nat) (m : List Gn) : Prop where
  own : W.ownsRow w2.heap.size 58 3 nv m.length (m.flatMap encN)
  bel : Below w2.heap.size w2 W
  eq : m.map Gn.p ++ insG g.p dn ((gs.drop k).map Gn.p) = insG g.p false (gs.map Gn.p)
  all : ∀ x ∈ m, x = g ∨ x ∈ gs
theorem RI.step {w2 W W' : World} {nv : Value} {g : Gn} {gs : List Gn} {dn : Bool} {k : Nat} {m : List Gn} (h : RI w2 W nv g gs dn k m) (hb : Below W.heap.size W W') : RI w2 W' nv g gs dn k m := ⟨own_belowK h.own hb, h.bel.trans (hb.mono h.bel.size), h.eq, h.all⟩
theorem RI.len {w2 W : World} {nv : Value} {g : Gn} {gs : List Gn} {dn : Bool} {k : Nat} {m : List Gn} (h : RI w2 W nv g gs dn k m) : m.length ≤ gs.length + 1 := by
  have := congrArg List.length h.eq
  rw [List.length_append, List.length_map] at this
  have h2 := insG_len g.p false (gs.map Gn.p)
  rw [List.length_map] at h2
  omega
set_option maxHeartbeats 12800000 in
theorem rof_any (w : World) (v : Value) (l : List It) (h : LiesK encI 4 w v l) (hl : l.length ≤ 1000) (hne : ∀ x ∈ l, (grpBy sortF l x).l ≠ []) (hnr : ∀ i, ∀ g ∈ rOf l (l.take i), g.l ≠ []) :
    Calls Try.prog 14 #[v] w fun e w' => ∃ r gs, e = .returned r ∧ GsL w' r gs ∧ gs.map Gn.p = rOf l l ∧ Below w.heap.size w w' := by
  obtain ⟨i0, hi9, hz0, hz1, hz2⟩ := info_parts info58
  have L := Lib.hid h
  have HLL := Lib.hid h.len
  have RGc := Lib.hid (fun W (hb : Below w.heap.size w W) x => rgroup_any W v l x (h.step hb) hl)
  have HNE := Lib.hid hne
  have HNR := Lib.hid hnr
  obtain ⟨ao, cap, rfl⟩ := h.shape
  clear h hne hnr
  go_enter Try.func14, Try.ntmps14
  go_wp2_with fail
  go_loopw [3, 4] (fun ov kv wr => ∃ (i : Nat) (gs : List Gn), kv = .int .i64 i ∧ i ≤ l.length ∧ gs.length ≤ i ∧ Hid (GsL wr ov gs ∧ gs.map Gn.p = rOf l (l.take i) ∧ Below w.heap.size w wr)) (fun _ kv _ => l.length - (intOf kv).toNat)
  case atStart => exact ⟨0, [], rfl, Nat.zero_le _, Nat.le_refl _, Lib.hid ⟨⟨LiesK.nil _, fun x hx => (by cases hx)⟩, rfl, Below.refl _ _⟩⟩
  case round =>
    obtain ⟨i, gs, rfl, hi, hgl, hK⟩ := hrel
    obtain ⟨oa, oc, rfl⟩ := hK.out.1.1.shape
    by_cases hlt : i < l.length
    · obtain ⟨g, o, x, rfl, hx, hg, a0, a1, a2, a3⟩ := L.out.it hlt
      have AF := Lib.hid (fun W (hb : Below w.heap.size w W) => AFI hg a0 a1 a2 a3 W hb)
      have CG := Lib.hid (RGc.out wr hK.out.2.2 x)
      have XN := Lib.hid (HNE.out x (List.mem_of_getElem? hx))
      have SN := Lib.hid (show rOf l (l.take (i + 1)) = rput l (rOf l (l.take i)) x from by rw [take_snoc hx, rOf_snoc])
      clear a0 a1 a2 a3 hg hx
      obtain ⟨a0, a1, a2, a3⟩ := AF.out wr hK.out.2.2
      go_upto_region 5 with (fail)
      go_wp2_with fail
      refine CG.out.mono ?_
      rintro e w1 ⟨gn, rfl, hgp, hgl1, hb1⟩
      have GP := Lib.hid hgp
      have V2 := vstep w1 (.cells #[.string gn.n, .bool gn.d, .slice gn.a gn.l.length gn.c] 58)
      have N2 := heap_alloc_new w1 (.cells #[.string gn.n, .bool gn.d, .slice gn.a gn.l.length gn.c] 58)
      have GL0 := hgl1.step V2
      have KB := Lib.hid (hK.out.2.2.trans ((hb1.trans (V2.mono hb1.size)).mono hK.out.2.2.size))
      have GS := Lib.hid ((hK.out.1.step hb1).step V2)
      have GE := Lib.hid hK.out.2.1
      clear a0 a1 a2 a3 CG hK
      go_upto_region 6 with (fail)
      obtain ⟨w2, hw2⟩ : ∃ zz, w1.alloc (.cells #[.string gn.n, .bool gn.d, .slice gn.a gn.l.length gn.c] 58) = zz := ⟨_, rfl⟩
      rw [hw2] at N2 GL0 KB GS
      have HW2 := hw2
      have NB := Lib.hid N2
      have GL := Lib.hid (show LiesK encS 2 w2 (.slice gn.a gn.l.length gn.c) gn.l from GL0)
      have GLN := Lib.hid (show gn.l ≠ [] from by have := XN.out; rw [← GP.out] at this; exact this)
      have hpos : 0 < gn.l.length := by cases hq : gn.l with | nil => exact absurd hq GLN.out | cons => simp
      obtain ⟨g1, o1, p1, hga, hp1, hgg, b0, b1⟩ := GL.out.st hpos
      have HP1 := Lib.hid (show p1 = h1 gn.l from by cases hq : gn.l with | nil => exact absurd hq GLN.out | cons u r => rw [hq] at hp1; injection hp1 with hp1; exact hp1.symm)
      simp only [Nat.zero_mul, Nat.add_zero] at b0 b1
      have GLm := Lib.hid (And.intro GL.out.len hpos)
      have BF := Lib.hid (fun W (hb : Below w2.heap.size w2 W) => show W.cell? ⟨w1.heap.size, 0, none⟩ = some (.string gn.n) ∧ W.cell? ⟨w1.heap.size, 1, none⟩ = some (.bool gn.d) ∧ W.cell? ⟨w1.heap.size, 2, none⟩ = some (.slice (some ⟨g1, o1, none⟩) gn.l.length gn.c) ∧ W.cell? ⟨g1, o1, none⟩ = some (.int .i64 p1.1) ∧ W.cell? ⟨g1, o1 + 1, none⟩ = some (.int .i64 p1.2) from by
        obtain ⟨q1, q2, q3⟩ := box3 ((hb.block _ (lt_of_block NB.out)).trans NB.out)
        exact ⟨q1, q2, by rw [← hga]; exact q3, (hb.cell (p := ⟨g1, o1, none⟩) hgg).trans b0, (hb.cell (p := ⟨g1, o1 + 1, none⟩) hgg).trans b1⟩)
      rw [hga] at HW2 hw2
      have HWX := Lib.hid HW2
      have AHc := Lib.hid (fun W (hb : Below w2.heap.size w2 W) (y : Gn) (hy : y ∈ gs) (hyn : y.l ≠ []) => ahead_any W gn y (by have := GL.out.step hb; exact this) GLN.out ((GS.out.2 y hy).step hb) hyn)
      have RES := Lib.hid (show rput l (rOf l (l.take i)) x = if p1 = ndI x then insG gn.p false (gs.map Gn.p) else gs.map Gn.p from by unfold rput; rw [HP1.out, GP.out.symm, GE.out.symm]; rfl)
      have HGA := Lib.hid hga
      clear hw2 HW2 N2 GL0 V2 hgl1 hb1 hgp b0 b1 hgg hp1 hpos hga
      rw [HGA.out]
      rw [HWX.out]
      have KB0 := Lib.hid (Below.refl w2.heap.size w2)
      obtain ⟨x1, x2, x3, x4⟩ := x
      obtain ⟨p1, p2⟩ := p1
      dsimp only at AF BF RES
      by_cases hpp : p1 = x1 ∧ p2 = x2
      · obtain ⟨rfl, rfl⟩ := hpp
        have l0 := fun z : Later w2 => (AF.out z.w (KB.out.trans (z.below.mono KB.out.size))).1
        have l1 := fun z : Later w2 => (AF.out z.w (KB.out.trans (z.below.mono KB.out.size))).2.1
        have m2 := fun z : Later w2 => (BF.out z.w z.below).2.2.1
        have m3 := fun z : Later w2 => (BF.out z.w z.below).2.2.2.1
        have m4 := fun z : Later w2 => (BF.out z.w z.below).2.2.2.2
        obtain ⟨hgm, hgp⟩ := GLm.out
        refine wp_region_later (by kernel_rfl) (by kernel_rfl) ?_
        repeat (go_big_quiet_step (fail))
        refine wpQuiet_nil ?_
        rintro _ ⟨xl1, rfl⟩
        have B3 := Lib.hid xl1.below
        generalize xl1.w = w3 at *
        clear l0 l1 m2 m3 m4 hgm hgp
        have RES := Lib.hid (show rOf l (l.take (i + 1)) = insG gn.p false (gs.map Gn.p) from by rw [SN.out, RES.out, if_pos (show (p1, p2) = ndI ⟨p1, p2, x3, x4⟩ from rfl)])
        go_wp2_with fail
        have RI0 := Lib.hid (show RI w2 w3 (.slice none 0 0) gn gs false 0 [] from ⟨World.ownsRow_nil _ _ _ _, B3.out, rfl, fun x hx => (by cases hx)⟩)
        go_loopw [6, 7, 8] (fun nv dv kv wr => ∃ (k : Nat) (dn : Bool) (m : List Gn), kv = .int .i64 k ∧ k ≤ gs.length ∧ dv = .bool dn ∧ Hid (RI w2 wr nv gn gs dn k m)) (fun _ _ kv _ => gs.length - (intOf kv).toNat)
        case atStart => exact ⟨0, false, [], rfl, Nat.zero_le _, rfl, RI0⟩
        case round =>
          obtain ⟨k, dn, m, rfl, hk, rfl, hR⟩ := hrel
          obtain ⟨na, nc, rfl⟩ := own_shapeK hR.out.own
          have R0 := Lib.hid hR.out
          clear hR RI0
          have hgs1000 : gs.length ≤ 1000 := by omega
          have LM := Lib.hid (show m.length ≤ 1002 from by have := R0.out.len; omega)
          by_cases hlk : k < gs.length
          · obtain ⟨g3, o3, y, hoa, hy, hg3, d0, d1, d2⟩ := grN GS.out.1 hlk
            subst hoa
            have YF := Lib.hid (fun W (hb : Below w2.heap.size w2 W) => GR3 hg3 d0 d1 d2 W hb)
            have hym := List.mem_of_getElem? hy
            have YN := Lib.hid (show y.l ≠ [] from by have := HNR.out i y.p (by rw [← GE.out]; exact List.mem_map.2 ⟨y, hym, rfl⟩); exact this)
            have AH := Lib.hid (fun W (hb : Below w2.heap.size w2 W) => AHc.out W hb y hym YN.out)
            have DR := Lib.hid (show (gs.drop k).map Gn.p = y.p :: (gs.drop (k + 1)).map Gn.p from by rw [List.drop_eq_getElem_cons hlk, (List.getElem?_eq_some_iff.1 hy).2]; rfl)
            have YM := Lib.hid hym
            have HV : gn.v = .slice (some ⟨g1, o1, none⟩) gn.l.length gn.c := by unfold Gn.v; rw [HGA.out]
            have HV2 : y.v = .slice y.a y.l.length y.c := rfl
            rw [HV, HV2] at AH
            clear d0 d1 d2 hg3 hy hym HV HV2
            obtain ⟨ah, hah⟩ : ∃ zz, ltG gn.key y.key = zz := ⟨_, rfl⟩
            have HAH := Lib.hid hah
            rw [hah] at AH
            clear hah
            have y0 := fun z : Later wr => (YF.out z.w (R0.out.bel.trans (z.below.mono R0.out.bel.size))).1
            have y1 := fun z : Later wr => (YF.out z.w (R0.out.bel.trans (z.below.mono R0.out.bel.size))).2.1
            have y2 := fun z : Later wr => (YF.out z.w (R0.out.bel.trans (z.below.mono R0.out.bel.size))).2.2
            have z0 := fun z : Later wr => (BF.out z.w (R0.out.bel.trans (z.below.mono R0.out.bel.size))).1
            have z1 := fun z : Later wr => (BF.out z.w (R0.out.bel.trans (z.below.mono R0.out.bel.size))).2.1
            have z2 := fun z : Later wr => (BF.out z.w (R0.out.bel.trans (z.below.mono R0.out.bel.size))).2.2.1
            cases dn with
            | true =>
              go_upto_region 12 with (fail)
              refine wp_region_later (by kernel_rfl) (by kernel_rfl) ?_
              repeat (go_big_quiet_step (fail))
              refine wpQuiet_nil ?_
              rintro _ ⟨xl2, rfl⟩
              have R1 := Lib.hid (R0.out.step xl2.below)
              generalize xl2.w = w4 at *
              clear y0 y1 y2 z0 z1 z2 AH
              obtain ⟨e0, e1, e2⟩ := YF.out w4 R1.out.bel
              obtain ⟨ms6, hms6⟩ : ∃ zz, (m) ++ [y] = zz := ⟨_, rfl⟩
              have MS6 := Lib.hid hms6
              clear hms6
              have OX6 := Lib.hid (own_belowK R1.out.own (vstep w4 (.cells #[.string y.n, .bool y.d, .slice y.a y.l.length y.c] 58)))
              have HX6 := Lib.hid (show (w4.alloc (.cells #[.string y.n, .bool y.d, .slice y.a y.l.length y.c] 58)).heap[w4.heap.size]? = some (.cells (encN y).toArray 58 (0, 0)) from by unfold encN Gn.v; exact heap_alloc_new w4 _)
              have QX6 := Lib.hid (And.intro (show (m).length + 1 ≤ maxLen from by have := LM.out; unfold maxLen; omega) (And.intro (show ((m).length + 1) * 48 ≤ 140737488355328 from by have := LM.out; omega) (show w2.heap.size ≤ (w4.alloc (.cells #[.string y.n, .bool y.d, .slice y.a y.l.length y.c] 58)).heap.size from by have := R1.out.bel.size; simp; omega)))
              go_wp2_with (at_builtin; refine wpList_pushK rfl (.tmp 51) (.tmp 56) 34 rfl encN_len (by decide) encN_one w2.heap.size 58 i0 (.agg #[.string ⟨#[]⟩, .bool false, .slice none 0 0]) 48 Try.u34 hi9 hz0 hz1 hz2 rfl _ (m) y w4.heap.size rfl rfl HX6.out OX6.out QX6.out.1 QX6.out.2.1 QX6.out.2.2 ?_; intro v6 w6 hown hgr; rw [MS6.out] at hown; obtain ⟨va6, vc6, rfl⟩ := own_shapeK hown; have O6 := Lib.hid hown; have K6 := Lib.hid (push_okG R1.out.bel R1.out.own (Nat.le_refl _) hgr); clear hown hgr)
              clear e0 e1 e2
              have FIN := Lib.hid (show RI w2 w6 (.slice va6 ms6.length vc6) gn gs true (k + 1) ms6 from ⟨O6.out, K6.out, by rw [← MS6.out]; have e := R1.out.eq; rw [DR.out, insG_cons] at e; rw [Bool.true_or] at e; simp only [Bool.not_true, Bool.false_and, Bool.false_eq_true, if_false, List.nil_append] at e; rw [List.map_append, ← e]; simp, by rw [← MS6.out]; intro x hx; rcases List.mem_append.1 hx with hx | hx; exact R1.out.all x hx; rw [List.mem_singleton] at hx; subst hx; exact .inr YM.out⟩)
              go_wp2
              go_roundw
              case rel => exact ⟨k + 1, true, ms6, by go_num, by omega, rfl, FIN⟩
              case measure => simp [intOf]; omega
            | false =>
              cases ah with
              | false =>
                go_upto_region 12 with (fail)
                refine wp_region_later (by kernel_rfl) (by kernel_rfl) ?_
                repeat (go_big_quiet_step (first | (go_at_call 28; with_reducible exact later_call (AH.out _ (R0.out.bel.trans ((Later.below _).mono R0.out.bel.size))))))
                refine wpQuiet_nil ?_
                rintro _ ⟨xl2, rfl⟩
                have R1 := Lib.hid (R0.out.step xl2.below)
                generalize xl2.w = w4 at *
                clear y0 y1 y2 z0 z1 z2 AH
                obtain ⟨e0, e1, e2⟩ := YF.out w4 R1.out.bel
                obtain ⟨ms6, hms6⟩ : ∃ zz, (m) ++ [y] = zz := ⟨_, rfl⟩
                have MS6 := Lib.hid hms6
                clear hms6
                have OX6 := Lib.hid (own_belowK R1.out.own (vstep w4 (.cells #[.string y.n, .bool y.d, .slice y.a y.l.length y.c] 58)))
                have HX6 := Lib.hid (show (w4.alloc (.cells #[.string y.n, .bool y.d, .slice y.a y.l.length y.c] 58)).heap[w4.heap.size]? = some (.cells (encN y).toArray 58 (0, 0)) from by unfold encN Gn.v; exact heap_alloc_new w4 _)
                have QX6 := Lib.hid (And.intro (show (m).length + 1 ≤ maxLen from by have := LM.out; unfold maxLen; omega) (And.intro (show ((m).length + 1) * 48 ≤ 140737488355328 from by have := LM.out; omega) (show w2.heap.size ≤ (w4.alloc (.cells #[.string y.n, .bool y.d, .slice y.a y.l.length y.c] 58)).heap.size from by have := R1.out.bel.size; simp; omega)))
                go_wp2_with (at_builtin; refine wpList_pushK rfl (.tmp 51) (.tmp 56) 34 rfl encN_len (by decide) encN_one w2.heap.size 58 i0 (.agg #[.string ⟨#[]⟩, .bool false, .slice none 0 0]) 48 Try.u34 hi9 hz0 hz1 hz2 rfl _ (m) y w4.heap.size rfl rfl HX6.out OX6.out QX6.out.1 QX6.out.2.1 QX6.out.2.2 ?_; intro v6 w6 hown hgr; rw [MS6.out] at hown; obtain ⟨va6, vc6, rfl⟩ := own_shapeK hown; have O6 := Lib.hid hown; have K6 := Lib.hid (push_okG R1.out.bel R1.out.own (Nat.le_refl _) hgr); clear hown hgr)
                clear e0 e1 e2
                have FIN := Lib.hid (show RI w2 w6 (.slice va6 ms6.length vc6) gn gs false (k + 1) ms6 from ⟨O6.out, K6.out, by rw [← MS6.out]; have e := R1.out.eq; rw [DR.out, insG_cons] at e; have ha : ltG gn.p.key y.p.key = false := HAH.out; rw [ha] at e; simp only [Bool.not_false, Bool.and_false, Bool.false_eq_true, if_false, List.nil_append, Bool.or_false] at e; rw [List.map_append, ← e]; simp, by rw [← MS6.out]; intro x hx; rcases List.mem_append.1 hx with hx | hx; exact R1.out.all x hx; rw [List.mem_singleton] at hx; subst hx; exact .inr YM.out⟩)
                go_wp2
                go_roundw
                case rel => exact ⟨k + 1, false, ms6, by go_num, by omega, rfl, FIN⟩
                case measure => simp [intOf]; omega
              | true =>
                go_upto_region 12 with (fail)
                refine wp_region_later (by kernel_rfl) (by kernel_rfl) ?_
                repeat (go_big_quiet_step (first | (go_at_call 28; with_reducible exact later_call (AH.out _ (R0.out.bel.trans ((Later.below _).mono R0.out.bel.size))))))
                refine wpQuiet_nil ?_
                rintro _ ⟨xl2, rfl⟩
                have R1 := Lib.hid (R0.out.step xl2.below)
                generalize xl2.w = w4 at *
                clear y0 y1 y2 z0 z1 z2 AH
                obtain ⟨e3, e4, e5, _, _⟩ := BF.out w4 R1.out.bel
                obtain ⟨ms5, hms5⟩ : ∃ zz, (m) ++ [gn] = zz := ⟨_, rfl⟩
                have MS5 := Lib.hid hms5
                clear hms5
                have OX5 := Lib.hid (own_belowK R1.out.own (vstep w4 (.cells #[.string gn.n, .bool gn.d, .slice (some ⟨g1, o1, none⟩) gn.l.length gn.c] 58)))
                have HX5 := Lib.hid (show (w4.alloc (.cells #[.string gn.n, .bool gn.d, .slice (some ⟨g1, o1, none⟩) gn.l.length gn.c] 58)).heap[w4.heap.size]? = some (.cells (encN gn).toArray 58 (0, 0)) from by unfold encN Gn.v; rw [HGA.out]; exact heap_alloc_new w4 _)
                have QX5 := Lib.hid (And.intro (show (m).length + 1 ≤ maxLen from by have := LM.out; unfold maxLen; omega) (And.intro (show ((m).length + 1) * 48 ≤ 140737488355328 from by have := LM.out; omega) (show w2.heap.size ≤ (w4.alloc (.cells #[.string gn.n, .bool gn.d, .slice (some ⟨g1, o1, none⟩) gn.l.length gn.c] 58)).heap.size from by have := R1.out.bel.size; simp; omega)))
                go_upto_region 15 with (at_builtin; refine wpList_pushK rfl (.tmp 47) (.tmp 49) 34 rfl encN_len (by decide) encN_one w2.heap.size 58 i0 (.agg #[.string ⟨#[]⟩, .bool false, .slice none 0 0]) 48 Try.u34 hi9 hz0 hz1 hz2 rfl _ (m) gn w4.heap.size rfl rfl HX5.out OX5.out QX5.out.1 QX5.out.2.1 QX5.out.2.2 ?_; intro v5 w5 hown hgr; rw [MS5.out] at hown; obtain ⟨va5, vc5, rfl⟩ := own_shapeK hown; have O5 := Lib.hid hown; have K5 := Lib.hid (push_okG R1.out.bel R1.out.own (Nat.le_refl _) hgr); clear hown hgr)
                clear e3 e4 e5
                obtain ⟨e0, e1, e2⟩ := YF.out w5 (show Below w2.heap.size w2 w5 from K5.out)
                obtain ⟨ms6, hms6⟩ : ∃ zz, (ms5) ++ [y] = zz := ⟨_, rfl⟩
                have MS6 := Lib.hid hms6
                clear hms6
                have OX6 := Lib.hid (own_belowK O5.out (vstep w5 (.cells #[.string y.n, .bool y.d, .slice y.a y.l.length y.c] 58)))
                have HX6 := Lib.hid (show (w5.alloc (.cells #[.string y.n, .bool y.d, .slice y.a y.l.length y.c] 58)).heap[w5.heap.size]? = some (.cells (encN y).toArray 58 (0, 0)) from by unfold encN Gn.v; exact heap_alloc_new w5 _)
                have QX6 := Lib.hid (And.intro (show (ms5).length + 1 ≤ maxLen from by have := LM.out; have e5 := congrArg List.length MS5.out; rw [List.length_append] at e5; simp only [List.length_cons, List.length_nil] at e5; unfold maxLen; omega) (And.intro (show ((ms5).length + 1) * 48 ≤ 140737488355328 from by have := LM.out; have e5 := congrArg List.length MS5.out; rw [List.length_append] at e5; simp only [List.length_cons, List.length_nil] at e5; omega) (show w2.heap.size ≤ (w5.alloc (.cells #[.string y.n, .bool y.d, .slice y.a y.l.length y.c] 58)).heap.size from by have := K5.out.size; simp; omega)))
                go_wp2_with (at_builtin; refine wpList_pushK rfl (.tmp 51) (.tmp 56) 34 rfl encN_len (by decide) encN_one w2.heap.size 58 i0 (.agg #[.string ⟨#[]⟩, .bool false, .slice none 0 0]) 48 Try.u34 hi9 hz0 hz1 hz2 rfl _ (ms5) y w5.heap.size rfl rfl HX6.out OX6.out QX6.out.1 QX6.out.2.1 QX6.out.2.2 ?_; intro v6 w6 hown hgr; rw [MS6.out] at hown; obtain ⟨va6, vc6, rfl⟩ := own_shapeK hown; have O6 := Lib.hid hown; have K6 := Lib.hid (push_okG K5.out O5.out (Nat.le_refl _) hgr); clear hown hgr)
                clear e0 e1 e2
                have FIN := Lib.hid (show RI w2 w6 (.slice va6 ms6.length vc6) gn gs true (k + 1) ms6 from ⟨O6.out, K6.out, by rw [← MS6.out]; rw [← MS5.out]; have e := R1.out.eq; rw [DR.out, insG_cons] at e; have ha : ltG gn.p.key y.p.key = true := HAH.out; rw [ha] at e; simp only [Bool.not_false, Bool.and_self, if_true, Bool.or_true] at e; rw [List.map_append, List.map_append, ← e]; simp, by rw [← MS6.out]; rw [← MS5.out]; intro x hx; rcases List.mem_append.1 hx with hx | hx; rcases List.mem_append.1 hx with hx | hx; exact R1.out.all x hx; rw [List.mem_singleton] at hx; subst hx; exact .inl rfl; rw [List.mem_singleton] at hx; subst hx; exact .inr YM.out⟩)
                go_wp2
                go_roundw
                case rel => exact ⟨k + 1, true, ms6, by go_num, by omega, rfl, FIN⟩
                case measure => simp [intOf]; omega
          · have hdk : gs.drop k = [] := List.drop_of_length_le (by omega)
            cases dn with
            | true =>
              have EQ := Lib.hid (show m.map Gn.p = insG gn.p false (gs.map Gn.p) from by have e := R0.out.eq; rw [hdk] at e; simpa [insG] using e)
              clear hdk
              go_upto_region 18 with (fail)
              have FIN := Lib.hid (show GsL wr (.slice na m.length nc) (m) ∧ (m).map Gn.p = rOf l (l.take (i + 1)) ∧ Below w.heap.size w wr from ⟨⟨own_liesK encN_len R0.out.own, fun x hx => by
                rcases R0.out.all x hx with rfl | hx
                · have := GL.out.step R0.out.bel; unfold Gn.v; exact this
                · exact (GS.out.2 x hx).step R0.out.bel⟩, by rw [RES.out]; exact EQ.out, KB.out.trans (R0.out.bel.mono KB.out.size)⟩)
              have LMM := Lib.hid (show (m).length ≤ i + 1 from by have := rOf_len l (l.take (i + 1)); rw [← FIN.out.2.1, List.length_map, List.length_take] at this; omega)
              go_wp2
              go_roundw
              case rel => exact ⟨i + 1, m, by go_num, by omega, LMM.out, FIN⟩
              case measure => simp [intOf]; omega
            | false =>
              have EQ := Lib.hid (show (m ++ [gn]).map Gn.p = insG gn.p false (gs.map Gn.p) from by have e := R0.out.eq; rw [hdk] at e; simpa [insG] using e)
              clear hdk
              obtain ⟨e3, e4, e5, _, _⟩ := BF.out wr R0.out.bel
              obtain ⟨ms5, hms5⟩ : ∃ zz, (m) ++ [gn] = zz := ⟨_, rfl⟩
              have MS5 := Lib.hid hms5
              clear hms5
              have OX5 := Lib.hid (own_belowK R0.out.own (vstep wr (.cells #[.string gn.n, .bool gn.d, .slice (some ⟨g1, o1, none⟩) gn.l.length gn.c] 58)))
              have HX5 := Lib.hid (show (wr.alloc (.cells #[.string gn.n, .bool gn.d, .slice (some ⟨g1, o1, none⟩) gn.l.length gn.c] 58)).heap[wr.heap.size]? = some (.cells (encN gn).toArray 58 (0, 0)) from by unfold encN Gn.v; rw [HGA.out]; exact heap_alloc_new wr _)
              have QX5 := Lib.hid (And.intro (show (m).length + 1 ≤ maxLen from by have := LM.out; unfold maxLen; omega) (And.intro (show ((m).length + 1) * 48 ≤ 140737488355328 from by have := LM.out; omega) (show w2.heap.size ≤ (wr.alloc (.cells #[.string gn.n, .bool gn.d, .slice (some ⟨g1, o1, none⟩) gn.l.length gn.c] 58)).heap.size from by have := R0.out.bel.size; simp; omega)))
              go_upto_region 18 with (at_builtin; refine wpList_pushK rfl (.tmp 60) (.tmp 62) 34 rfl encN_len (by decide) encN_one w2.heap.size 58 i0 (.agg #[.string ⟨#[]⟩, .bool false, .slice none 0 0]) 48 Try.u34 hi9 hz0 hz1 hz2 rfl _ (m) gn wr.heap.size rfl rfl HX5.out OX5.out QX5.out.1 QX5.out.2.1 QX5.out.2.2 ?_; intro v5 w5 hown hgr; rw [MS5.out] at hown; obtain ⟨va5, vc5, rfl⟩ := own_shapeK hown; have O5 := Lib.hid hown; have K5 := Lib.hid (push_okG R0.out.bel R0.out.own (Nat.le_refl _) hgr); clear hown hgr)
              clear e3 e4 e5
              rw [MS5.out] at EQ
              have FIN := Lib.hid (show GsL w5 (.slice va5 ms5.length vc5) (ms5) ∧ (ms5).map Gn.p = rOf l (l.take (i + 1)) ∧ Below w.heap.size w w5 from ⟨⟨own_liesK encN_len O5.out, fun x hx => by
                rcases (show ∀ x ∈ ms5, x = gn ∨ x ∈ gs from by rw [← MS5.out]; intro x hx; rcases List.mem_append.1 hx with hx | hx; exact R0.out.all x hx; rw [List.mem_singleton] at hx; subst hx; exact .inl rfl) x hx with rfl | hx
                · have := GL.out.step (show Below w2.heap.size w2 w5 from K5.out); unfold Gn.v; exact this
                · exact (GS.out.2 x hx).step (show Below w2.heap.size w2 w5 from K5.out)⟩, by rw [RES.out]; exact EQ.out, KB.out.trans ((show Below w2.heap.size w2 w5 from K5.out).mono KB.out.size)⟩)
              have LMM := Lib.hid (show (ms5).length ≤ i + 1 from by have := rOf_len l (l.take (i + 1)); rw [← FIN.out.2.1, List.length_map, List.length_take] at this; omega)
              go_wp2
              go_roundw
              case rel => exact ⟨i + 1, ms5, by go_num, by omega, LMM.out, FIN⟩
              case measure => simp [intOf]; omega
      · have RES := Lib.hid (show rOf l (l.take (i + 1)) = gs.map Gn.p from by rw [SN.out, RES.out, if_neg (fun e => hpp (by unfold ndI at e; injection e with a b; exact ⟨a, b⟩))])
        rcases no2 hpp with t1 | ⟨t1, t2⟩
        all_goals
          clear hpp
          have l0 := fun z : Later w2 => (AF.out z.w (KB.out.trans (z.below.mono KB.out.size))).1
          have l1 := fun z : Later w2 => (AF.out z.w (KB.out.trans (z.below.mono KB.out.size))).2.1
          have m2 := fun z : Later w2 => (BF.out z.w z.below).2.2.1
          have m3 := fun z : Later w2 => (BF.out z.w z.below).2.2.2.1
          have m4 := fun z : Later w2 => (BF.out z.w z.below).2.2.2.2
          obtain ⟨hgm, hgp⟩ := GLm.out
          refine wp_region_later (by kernel_rfl) (by kernel_rfl) ?_
          repeat (go_big_quiet_step (fail))
          refine wpQuiet_nil ?_
          rintro _ ⟨xl1, rfl⟩
          have B3 := Lib.hid xl1.below
          generalize xl1.w = w3 at *
          clear l0 l1 m2 m3 m4 hgm hgp
          have FIN := Lib.hid (show GsL w3 (.slice oa gs.length oc) gs ∧ gs.map Gn.p = rOf l (l.take (i + 1)) ∧ Below w.heap.size w w3 from ⟨GS.out.step B3.out, RES.out.symm, KB.out.trans (B3.out.mono KB.out.size)⟩)
          go_wp2
          go_roundw
          case rel => exact ⟨i + 1, gs, by go_num, by omega, by omega, FIN⟩
          case measure => simp [intOf]; omega
    · have FIN := Lib.hid (show GsL wr (.slice oa gs.length oc) gs ∧ gs.map Gn.p = rOf l l ∧ Below w.heap.size w wr from by
        have h := hK.out
        rwa [show l.take i = l from List.take_of_length_le (by omega)] at h)
      clear hK
      go_wp2
      go_returns
      exact ⟨_, gs, rfl, FIN.out.1, FIN.out.2.1, FIN.out.2.2⟩
end Go.Proofs.Ythbliaohaakbiaa
