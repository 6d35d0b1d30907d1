/- The reference's Sorted, walked. Made by genol7.py. -/
import Derived.Test.YtifeakmbeaflgaaDoorOL
set_option linter.unusedVariables false
namespace Go.Proofs.YtifeakmbeaflgaaDoor
open Go.RowKit

theorem at_later {w : World} {g k : Nat} {o : O} (hg : g < w.heap.size) (h : w.cell? ⟨g, k, none⟩ = some (.int .i64 o.t) ∧ w.cell? ⟨g, k + 1, none⟩ = some (.int .i64 o.r)) : (∀ x : Later w, x.w.cell? ⟨g, k, none⟩ = some (.int .i64 o.t)) ∧ (∀ x : Later w, x.w.cell? ⟨g, k + 1, none⟩ = some (.int .i64 o.r)) :=
  ⟨fun x => (x.below.cell (p := ⟨g, k, none⟩) hg).trans h.1, fun x => (x.below.cell (p := ⟨g, k + 1, none⟩) hg).trans h.2⟩
set_option maxRecDepth 100000 in
set_option maxHeartbeats 12800000 in
theorem rsorted_any (w : World) (v : Value) (l : List O) (h : OLies w v l) (hl : l.length ≤ 100) :
    Calls Tryd.prog 11 #[v] w fun e w' => ∃ r, e = .returned r ∧ OLies w' r (srtO l) ∧ Below w.heap.size w w' := by
  obtain ⟨i0, hi9, hz0, hz1, hz2⟩ := info_parts info25
  have H := Lib.hid h
  obtain ⟨ao, cap, rfl⟩ := h.shape
  clear h
  go_enter Tryd.func11, Tryd.ntmps11
  go_wp2
  go_loopw [3, 4] (fun ov kv wr => ∃ i : Nat, kv = .int .i64 i ∧ i ≤ l.length ∧ Hid (OLies wr ov (srtO (l.take i)) ∧ Below w.heap.size w wr)) (fun _ kv _ => l.length - (intOf kv).toNat)
  case atStart => exact ⟨0, rfl, Nat.zero_le _, Lib.hid ⟨by simpa [srtO] using OLies.nil w, Below.refl _ _⟩⟩
  case round =>
    obtain ⟨i, rfl, hi, hI⟩ := hrel
    obtain ⟨oa, oc, hov⟩ := hI.out.1.shape
    subst hov
    have LU := Lib.hid (show (srtO (l.take i)).length = i from by rw [srtO_len, List.length_take]; omega)
    by_cases hlt : i < l.length
    · have HU := Lib.hid hI.out.1
      have HB := Lib.hid hI.out.2
      have HL := Lib.hid (H.out.step hI.out.2)
      obtain ⟨g, o, x, rfl, hx, hg, hc⟩ := (H.out.step hI.out.2).at' hlt
      have HX := Lib.hid hx
      have SS := Lib.hid (srtO_snoc l i x hx)
      clear hx hg hc hI H
      generalize srtO (l.take i) = u at *
      have LE := Lib.hid (show u.length ≤ 100 from by have := LU.out; omega)
      have hul := HU.out.len
      generalize wr = wo at *
      go_wp2_with fail
      go_loopw [5, 6, 7] (fun nv dv kv wi => ∃ j : Nat, kv = .int .i64 j ∧ j ≤ u.length ∧ dv = .bool (foldO x (u.take j)).2 ∧ Hid (wi.ownsRow wo.heap.size 25 9 nv (foldO x (u.take j)).1.length (cs9 (foldO x (u.take j)).1) ∧ Below wo.heap.size wo wi)) (fun _ _ kv _ => u.length - (intOf kv).toNat)
      case atStart => exact ⟨0, rfl, Nat.zero_le _, rfl, Lib.hid ⟨World.ownsRow_nil _ _ _ _, Below.refl _ _⟩⟩
      case round =>
        obtain ⟨j, rfl, hj, rfl, hJ⟩ := hrel
        obtain ⟨na, nc, hnv⟩ := Wi.own_shape hJ.out.1
        subst hnv
        have OW := Lib.hid hJ.out.1
        have BW := Lib.hid hJ.out.2
        have LF := Lib.hid (show (foldO x (u.take j)).1.length ≤ 101 from by have := foldO_le x (u.take j); have := LE.out; rw [List.length_take] at *; omega)
        by_cases hju : j < u.length
        · obtain ⟨gy, oy, y, e1, hy, hgy, hcy⟩ := (HU.out.keep BW.out (Nat.le_refl _)).at' hju
          subst e1
          obtain ⟨gx, ox, x', e2, hx', hgx, hcx⟩ := (HL.out.keep BW.out (Nat.le_refl _)).at' hlt
          injection e2 with e2
          injection e2 with e2 e3
          subst e2 e3
          rw [HX.out] at hx'
          injection hx' with hx'
          subst hx'
          have SJ := Lib.hid (foldO_snoc x u j y hy)
          have YE := Lib.hid (fun (y' : O) {h : j < u.length} (e : u[j] = y') => show y' = y from by have := (List.getElem?_eq_some_iff.1 hy).2; rw [← e, ← this])
          obtain ⟨ex0, ex1⟩ := at_later hgx ⟨hcx.1, hcx.2.1⟩
          obtain ⟨ey0, ey1⟩ := at_later hgy ⟨hcy.1, hcy.2.1⟩
          have HLX := Lib.hid (fun W (hb : Below wr.heap.size wr W) => (HL.out.keep (BW.out.trans (hb.mono BW.out.size)) (Nat.le_refl _)).at' hlt)
          have HLY := Lib.hid (fun W (hb : Below wr.heap.size wr W) => (HU.out.keep (BW.out.trans (hb.mono BW.out.size)) (Nat.le_refl _)).at' hju)
          have CX := Lib.hid hcx
          have CY := Lib.hid hcy
          have GX := Lib.hid hgx
          have GY := Lib.hid hgy
          have LC := Lib.hid (fun X : Later wr => St.less_any X.w x.t x.r y.t y.r)
          clear hJ hy hgy hcy hgx hcx
          have EL : St.lessB x.t x.r y.t y.r = lessO x y := rfl
          rw [EL] at LC
          clear EL
          generalize foldO x (u.take j) = s at *
          obtain ⟨m, dn⟩ := s
          dsimp only at OW LF
          cases dn with
          | true =>
            go_upto_region 10 with (fail)
            refine wp_region_later (by kernel_rfl) (by kernel_rfl) ?_
            repeat (go_big_quiet_step (first
              | (go_at_call 32; with_reducible exact later_call (LC.out _))))
            refine wpQuiet_nil ?_
            rintro _ ⟨xl, rfl⟩
            have X4 := Lib.hid xl.below
            have OW4 := Lib.hid (own_below OW.out xl.below)
            have BW4 := Lib.hid (BW.out.trans (xl.below.mono BW.out.size))
            clear ex0 ex1 ey0 ey1
            generalize xl.w = w4 at *
            have yC := CY.out
            obtain ⟨y0, y1, y2, y3, y4, y5, y6, y7, y8⟩ := yC
            have y0 := (X4.out.cell (p := ⟨gy, oy + j * 9, none⟩) GY.out).trans y0
            have y1 := (X4.out.cell (p := ⟨gy, oy + j * 9 + 1, none⟩) GY.out).trans y1
            have y2 := (X4.out.cell (p := ⟨gy, oy + j * 9 + 2, none⟩) GY.out).trans y2
            have y3 := (X4.out.cell (p := ⟨gy, oy + j * 9 + 3, none⟩) GY.out).trans y3
            have y4 := (X4.out.cell (p := ⟨gy, oy + j * 9 + 4, none⟩) GY.out).trans y4
            have y5 := (X4.out.cell (p := ⟨gy, oy + j * 9 + 5, none⟩) GY.out).trans y5
            have y6 := (X4.out.cell (p := ⟨gy, oy + j * 9 + 6, none⟩) GY.out).trans y6
            have y7 := (X4.out.cell (p := ⟨gy, oy + j * 9 + 7, none⟩) GY.out).trans y7
            have y8 := (X4.out.cell (p := ⟨gy, oy + j * 9 + 8, none⟩) GY.out).trans y8
            have OX5 := Lib.hid (own_below OW4.out (vstep w4 (.cells #[.int .i64 y.t, .int .i64 y.r, .int .i64 y.q, .int .i64 y.nt, .int .i64 y.nr, .int .i64 y.pt, .int .i64 y.pr, .string y.nm, .bool y.d] 25)))
            have bso5 := bs_op w4 y
            have SR5 := Lib.hid (one_op w4 y).src
            have Q5 := Lib.hid (And.intro (show (m).length + 1 ≤ maxLen from by have := LF.out; unfold maxLen; (try simp only [List.length_append, List.length_cons, List.length_nil]); omega) (And.intro (show ((m).length + 1) * 80 ≤ 140737488355328 from by have := LF.out; (try simp only [List.length_append, List.length_cons, List.length_nil]); omega) (show wo.heap.size ≤ (w4.alloc (.cells #[.int .i64 y.t, .int .i64 y.r, .int .i64 y.q, .int .i64 y.nt, .int .i64 y.nr, .int .i64 y.pt, .int .i64 y.pr, .string y.nm, .bool y.d] 25)).heap.size from Nat.le_trans BW4.out.size (vstep w4 (.cells #[.int .i64 y.t, .int .i64 y.r, .int .i64 y.q, .int .i64 y.nt, .int .i64 y.nr, .int .i64 y.pt, .int .i64 y.pr, .string y.nm, .bool y.d] 25)).size)))
            have FIN := Lib.hid (show stepO x (m, true) y = (m ++ [y], true) from by unfold stepO; simp)
            go_wp2_with (at_builtin; refine Wi.wpList_append_src_own rfl (.tmp 42) (.tmp 47) 27 27 rfl wo.heap.size 25 i0 (oV O0) 9 80 Tryd.u27 hi9 hz0 hz1 hz2 rfl (by decide) _ _ _ rfl OX5.out _ 1 (cs9 [y]) rfl SR5.out Q5.out.1 Q5.out.2.1 Q5.out.2.2 ?_; intro v5 w5 hown hgr hsp; obtain ⟨va5, vc5, rfl⟩ := Wi.own_shape hown; have P5 := Lib.hid (push_own OW4.out BW4.out.size hown hgr); clear hown hgr hsp)
            have R := Lib.hid (show Value.bool true = .bool (foldO x (u.take (j + 1))).2 ∧ (w5.ownsRow wo.heap.size 25 9 (.slice va5 (m.length + 1) vc5) (foldO x (u.take (j + 1))).1.length (cs9 (foldO x (u.take (j + 1))).1) ∧ Below wo.heap.size wo w5) from by
              rw [SJ.out, FIN.out]
              exact ⟨rfl, P5.out.1, BW4.out.trans P5.out.2⟩)
            go_roundw
            case rel => exact ⟨j + 1, by go_num, by omega, R.out.1, Lib.hid R.out.2⟩
            case measure => simp [intOf]; omega
          | false =>
            cases hlo : lessO x y with
            | false =>
              rw [hlo] at LC
              have FIN := Lib.hid (show stepO x (m, false) y = (m ++ [y], false) from by unfold stepO; simp [hlo])
              clear hlo
              go_upto_region 10 with (fail)
              refine wp_region_later (by kernel_rfl) (by kernel_rfl) ?_
              repeat (go_big_quiet_step (first
                | (go_at_call 32; with_reducible exact later_call (LC.out _))))
              refine wpQuiet_nil ?_
              rintro _ ⟨xl, rfl⟩
              have X4 := Lib.hid xl.below
              have OW4 := Lib.hid (own_below OW.out xl.below)
              have BW4 := Lib.hid (BW.out.trans (xl.below.mono BW.out.size))
              clear ex0 ex1 ey0 ey1
              generalize xl.w = w4 at *
              have yC := CY.out
              obtain ⟨y0, y1, y2, y3, y4, y5, y6, y7, y8⟩ := yC
              have y0 := (X4.out.cell (p := ⟨gy, oy + j * 9, none⟩) GY.out).trans y0
              have y1 := (X4.out.cell (p := ⟨gy, oy + j * 9 + 1, none⟩) GY.out).trans y1
              have y2 := (X4.out.cell (p := ⟨gy, oy + j * 9 + 2, none⟩) GY.out).trans y2
              have y3 := (X4.out.cell (p := ⟨gy, oy + j * 9 + 3, none⟩) GY.out).trans y3
              have y4 := (X4.out.cell (p := ⟨gy, oy + j * 9 + 4, none⟩) GY.out).trans y4
              have y5 := (X4.out.cell (p := ⟨gy, oy + j * 9 + 5, none⟩) GY.out).trans y5
              have y6 := (X4.out.cell (p := ⟨gy, oy + j * 9 + 6, none⟩) GY.out).trans y6
              have y7 := (X4.out.cell (p := ⟨gy, oy + j * 9 + 7, none⟩) GY.out).trans y7
              have y8 := (X4.out.cell (p := ⟨gy, oy + j * 9 + 8, none⟩) GY.out).trans y8
              have OX5 := Lib.hid (own_below OW4.out (vstep w4 (.cells #[.int .i64 y.t, .int .i64 y.r, .int .i64 y.q, .int .i64 y.nt, .int .i64 y.nr, .int .i64 y.pt, .int .i64 y.pr, .string y.nm, .bool y.d] 25)))
              have bso5 := bs_op w4 y
              have SR5 := Lib.hid (one_op w4 y).src
              have Q5 := Lib.hid (And.intro (show (m).length + 1 ≤ maxLen from by have := LF.out; unfold maxLen; (try simp only [List.length_append, List.length_cons, List.length_nil]); omega) (And.intro (show ((m).length + 1) * 80 ≤ 140737488355328 from by have := LF.out; (try simp only [List.length_append, List.length_cons, List.length_nil]); omega) (show wo.heap.size ≤ (w4.alloc (.cells #[.int .i64 y.t, .int .i64 y.r, .int .i64 y.q, .int .i64 y.nt, .int .i64 y.nr, .int .i64 y.pt, .int .i64 y.pr, .string y.nm, .bool y.d] 25)).heap.size from Nat.le_trans BW4.out.size (vstep w4 (.cells #[.int .i64 y.t, .int .i64 y.r, .int .i64 y.q, .int .i64 y.nt, .int .i64 y.nr, .int .i64 y.pt, .int .i64 y.pr, .string y.nm, .bool y.d] 25)).size)))
              go_wp2_with (at_builtin; refine Wi.wpList_append_src_own rfl (.tmp 42) (.tmp 47) 27 27 rfl wo.heap.size 25 i0 (oV O0) 9 80 Tryd.u27 hi9 hz0 hz1 hz2 rfl (by decide) _ _ _ rfl OX5.out _ 1 (cs9 [y]) rfl SR5.out Q5.out.1 Q5.out.2.1 Q5.out.2.2 ?_; intro v5 w5 hown hgr hsp; obtain ⟨va5, vc5, rfl⟩ := Wi.own_shape hown; have P5 := Lib.hid (push_own OW4.out BW4.out.size hown hgr); clear hown hgr hsp)
              have R := Lib.hid (show Value.bool false = .bool (foldO x (u.take (j + 1))).2 ∧ (w5.ownsRow wo.heap.size 25 9 (.slice va5 (m.length + 1) vc5) (foldO x (u.take (j + 1))).1.length (cs9 (foldO x (u.take (j + 1))).1) ∧ Below wo.heap.size wo w5) from by
                rw [SJ.out, FIN.out]
                exact ⟨rfl, P5.out.1, BW4.out.trans P5.out.2⟩)
              go_roundw
              case rel => exact ⟨j + 1, by go_num, by omega, R.out.1, Lib.hid R.out.2⟩
              case measure => simp [intOf]; omega
            | true =>
              rw [hlo] at LC
              have FIN := Lib.hid (show stepO x (m, false) y = ((m ++ [x]) ++ [y], true) from by unfold stepO; simp [hlo])
              clear hlo
              go_upto_region 10 with (fail)
              refine wp_region_later (by kernel_rfl) (by kernel_rfl) ?_
              repeat (go_big_quiet_step (first
                | (go_at_call 32; with_reducible exact later_call (LC.out _))))
              refine wpQuiet_nil ?_
              rintro _ ⟨xl, rfl⟩
              have X4 := Lib.hid xl.below
              have OW4 := Lib.hid (own_below OW.out xl.below)
              have BW4 := Lib.hid (BW.out.trans (xl.below.mono BW.out.size))
              clear ex0 ex1 ey0 ey1
              generalize xl.w = w4 at *
              have xC := CX.out
              obtain ⟨x0, x1, x2, x3, x4, x5, x6, x7, x8⟩ := xC
              have x0 := (X4.out.cell (p := ⟨g, o + i * 9, none⟩) GX.out).trans x0
              have x1 := (X4.out.cell (p := ⟨g, o + i * 9 + 1, none⟩) GX.out).trans x1
              have x2 := (X4.out.cell (p := ⟨g, o + i * 9 + 2, none⟩) GX.out).trans x2
              have x3 := (X4.out.cell (p := ⟨g, o + i * 9 + 3, none⟩) GX.out).trans x3
              have x4 := (X4.out.cell (p := ⟨g, o + i * 9 + 4, none⟩) GX.out).trans x4
              have x5 := (X4.out.cell (p := ⟨g, o + i * 9 + 5, none⟩) GX.out).trans x5
              have x6 := (X4.out.cell (p := ⟨g, o + i * 9 + 6, none⟩) GX.out).trans x6
              have x7 := (X4.out.cell (p := ⟨g, o + i * 9 + 7, none⟩) GX.out).trans x7
              have x8 := (X4.out.cell (p := ⟨g, o + i * 9 + 8, none⟩) GX.out).trans x8
              have yC := CY.out
              obtain ⟨y0, y1, y2, y3, y4, y5, y6, y7, y8⟩ := yC
              have y0 := (X4.out.cell (p := ⟨gy, oy + j * 9, none⟩) GY.out).trans y0
              have y1 := (X4.out.cell (p := ⟨gy, oy + j * 9 + 1, none⟩) GY.out).trans y1
              have y2 := (X4.out.cell (p := ⟨gy, oy + j * 9 + 2, none⟩) GY.out).trans y2
              have y3 := (X4.out.cell (p := ⟨gy, oy + j * 9 + 3, none⟩) GY.out).trans y3
              have y4 := (X4.out.cell (p := ⟨gy, oy + j * 9 + 4, none⟩) GY.out).trans y4
              have y5 := (X4.out.cell (p := ⟨gy, oy + j * 9 + 5, none⟩) GY.out).trans y5
              have y6 := (X4.out.cell (p := ⟨gy, oy + j * 9 + 6, none⟩) GY.out).trans y6
              have y7 := (X4.out.cell (p := ⟨gy, oy + j * 9 + 7, none⟩) GY.out).trans y7
              have y8 := (X4.out.cell (p := ⟨gy, oy + j * 9 + 8, none⟩) GY.out).trans y8
              have OX5 := Lib.hid (own_below OW4.out (vstep w4 (.cells #[.int .i64 x.t, .int .i64 x.r, .int .i64 x.q, .int .i64 x.nt, .int .i64 x.nr, .int .i64 x.pt, .int .i64 x.pr, .string x.nm, .bool x.d] 25)))
              have bso5 := bs_op w4 x
              have SR5 := Lib.hid (one_op w4 x).src
              have Q5 := Lib.hid (And.intro (show (m).length + 1 ≤ maxLen from by have := LF.out; unfold maxLen; (try simp only [List.length_append, List.length_cons, List.length_nil]); omega) (And.intro (show ((m).length + 1) * 80 ≤ 140737488355328 from by have := LF.out; (try simp only [List.length_append, List.length_cons, List.length_nil]); omega) (show wo.heap.size ≤ (w4.alloc (.cells #[.int .i64 x.t, .int .i64 x.r, .int .i64 x.q, .int .i64 x.nt, .int .i64 x.nr, .int .i64 x.pt, .int .i64 x.pr, .string x.nm, .bool x.d] 25)).heap.size from Nat.le_trans BW4.out.size (vstep w4 (.cells #[.int .i64 x.t, .int .i64 x.r, .int .i64 x.q, .int .i64 x.nt, .int .i64 x.nr, .int .i64 x.pt, .int .i64 x.pr, .string x.nm, .bool x.d] 25)).size)))
              have W45 := Lib.hid (vstep w4 (.cells #[.int .i64 x.t, .int .i64 x.r, .int .i64 x.q, .int .i64 x.nt, .int .i64 x.nr, .int .i64 x.pt, .int .i64 x.pr, .string x.nm, .bool x.d] 25))
              go_upto_region 12 with (at_builtin; refine Wi.wpList_append_src_own rfl (.tmp 35) (.tmp 40) 27 27 rfl wo.heap.size 25 i0 (oV O0) 9 80 Tryd.u27 hi9 hz0 hz1 hz2 rfl (by decide) _ _ _ rfl OX5.out _ 1 (cs9 [x]) rfl SR5.out Q5.out.1 Q5.out.2.1 Q5.out.2.2 ?_; intro v5 w5 hown hgr hsp; obtain ⟨va5, vc5, rfl⟩ := Wi.own_shape hown; have P5 := Lib.hid (push_own OW4.out BW4.out.size hown hgr); clear hown hgr hsp)
              obtain ⟨m2, hm2⟩ : ∃ z, m ++ [x] = z := ⟨_, rfl⟩
              have Z := Lib.hid (show m2.length = m.length + 1 from by rw [← hm2]; simp)
              have OW5 := Lib.hid P5.out.1
              have BW5 := Lib.hid (BW4.out.trans P5.out.2)
              rw [hm2, ← Z.out] at OW5
              rw [hm2] at FIN
              have LF := Lib.hid (show m2.length ≤ 102 from by have := LF.out; have := Z.out; omega)
              clear hm2
              have HY := (HU.out.keep BW5.out (Nat.le_refl _)).at' hju
              obtain ⟨gy', oy', y', e1, hy', hgy', z0, z1, z2, z3, z4, z5, z6, z7, z8⟩ := HY
              injection e1 with e1
              injection e1 with e1 e2
              subst e1 e2
              have HYX := Lib.hid (List.getElem?_eq_some_iff.1 hy')
              clear hy' hgy' x0 x1 x2 x3 x4 x5 x6 x7 x8 y0 y1 y2 y3 y4 y5 y6 y7 y8
              rw [← Z.out]
              have OX6 := Lib.hid (own_below OW5.out (vstep w5 (.cells #[.int .i64 y'.t, .int .i64 y'.r, .int .i64 y'.q, .int .i64 y'.nt, .int .i64 y'.nr, .int .i64 y'.pt, .int .i64 y'.pr, .string y'.nm, .bool y'.d] 25)))
              have bso6 := bs_op w5 y'
              have SR6 := Lib.hid (one_op w5 y').src
              have Q6 := Lib.hid (And.intro (show (m2).length + 1 ≤ maxLen from by have := LF.out; unfold maxLen; (try simp only [List.length_append, List.length_cons, List.length_nil]); omega) (And.intro (show ((m2).length + 1) * 80 ≤ 140737488355328 from by have := LF.out; (try simp only [List.length_append, List.length_cons, List.length_nil]); omega) (show wo.heap.size ≤ (w5.alloc (.cells #[.int .i64 y'.t, .int .i64 y'.r, .int .i64 y'.q, .int .i64 y'.nt, .int .i64 y'.nr, .int .i64 y'.pt, .int .i64 y'.pr, .string y'.nm, .bool y'.d] 25)).heap.size from Nat.le_trans BW5.out.size (vstep w5 (.cells #[.int .i64 y'.t, .int .i64 y'.r, .int .i64 y'.q, .int .i64 y'.nt, .int .i64 y'.nr, .int .i64 y'.pt, .int .i64 y'.pr, .string y'.nm, .bool y'.d] 25)).size)))
              go_wp2_with (at_builtin; refine Wi.wpList_append_src_own rfl (.tmp 42) (.tmp 47) 27 27 rfl wo.heap.size 25 i0 (oV O0) 9 80 Tryd.u27 hi9 hz0 hz1 hz2 rfl (by decide) _ _ _ rfl OX6.out _ 1 (cs9 [y']) rfl SR6.out Q6.out.1 Q6.out.2.1 Q6.out.2.2 ?_; intro v6 w6 hown hgr hsp; obtain ⟨va6, vc6, rfl⟩ := Wi.own_shape hown; have P6 := Lib.hid (push_own OW5.out BW5.out.size hown hgr); clear hown hgr hsp)
              have R := Lib.hid (show Value.bool true = .bool (foldO x (u.take (j + 1))).2 ∧ (w6.ownsRow wo.heap.size 25 9 (.slice va6 (m2.length + 1) vc6) (foldO x (u.take (j + 1))).1.length (cs9 (foldO x (u.take (j + 1))).1) ∧ Below wo.heap.size wo w6) from by
                have e : y' = y := YE.out _ HYX.out.2
                subst e
                rw [SJ.out, FIN.out]
                exact ⟨rfl, P6.out.1, BW5.out.trans P6.out.2⟩)
              go_roundw
              case rel => exact ⟨j + 1, by go_num, by omega, R.out.1, Lib.hid R.out.2⟩
              case measure => simp [intOf]; omega
        · have ST := Lib.hid (show foldO x (u.take j) = foldO x u from by rw [List.take_of_length_le (by omega)])
          rw [ST.out] at OW LF ⊢
          clear hJ
          have INS := Lib.hid (show insO x u = if (foldO x u).2 then (foldO x u).1 else (foldO x u).1 ++ [x] from rfl)
          obtain ⟨gx, ox, x', e2, hx', hgx, hcx⟩ := (HL.out.keep BW.out (Nat.le_refl _)).at' hlt
          injection e2 with e2
          injection e2 with e2 e3
          subst e2 e3
          rw [HX.out] at hx'
          injection hx' with hx'
          subst hx'
          have CX := Lib.hid hcx
          clear hgx hcx
          generalize foldO x u = s at *
          obtain ⟨m, dn⟩ := s
          dsimp only at OW LF
          cases dn with
          | true =>
            have FIN := Lib.hid (show OLies wr (.slice na m.length nc) (srtO (l.take (i + 1))) ∧ Below w.heap.size w wr from by
              rw [SS.out, INS.out]
              exact ⟨own_olies OW.out, HB.out.trans (BW.out.mono HB.out.size)⟩)
            go_wp2
            go_roundw
            case rel => exact ⟨i + 1, by go_num, by omega, FIN⟩
            case measure => simp [intOf]; omega
          | false =>
            obtain ⟨x0, x1, x2, x3, x4, x5, x6, x7, x8⟩ := CX.out
            have OX5 := Lib.hid (own_below OW.out (vstep wr (.cells #[.int .i64 x.t, .int .i64 x.r, .int .i64 x.q, .int .i64 x.nt, .int .i64 x.nr, .int .i64 x.pt, .int .i64 x.pr, .string x.nm, .bool x.d] 25)))
            have bso5 := bs_op wr x
            have SR5 := Lib.hid (one_op wr x).src
            have Q5 := Lib.hid (And.intro (show (m).length + 1 ≤ maxLen from by have := LF.out; unfold maxLen; (try simp only [List.length_append, List.length_cons, List.length_nil]); omega) (And.intro (show ((m).length + 1) * 80 ≤ 140737488355328 from by have := LF.out; (try simp only [List.length_append, List.length_cons, List.length_nil]); omega) (show wo.heap.size ≤ (wr.alloc (.cells #[.int .i64 x.t, .int .i64 x.r, .int .i64 x.q, .int .i64 x.nt, .int .i64 x.nr, .int .i64 x.pt, .int .i64 x.pr, .string x.nm, .bool x.d] 25)).heap.size from Nat.le_trans BW.out.size (vstep wr (.cells #[.int .i64 x.t, .int .i64 x.r, .int .i64 x.q, .int .i64 x.nt, .int .i64 x.nr, .int .i64 x.pt, .int .i64 x.pr, .string x.nm, .bool x.d] 25)).size)))
            go_wp2_with (at_builtin; refine Wi.wpList_append_src_own rfl (.tmp 51) (.tmp 56) 27 27 rfl wo.heap.size 25 i0 (oV O0) 9 80 Tryd.u27 hi9 hz0 hz1 hz2 rfl (by decide) _ _ _ rfl OX5.out _ 1 (cs9 [x]) rfl SR5.out Q5.out.1 Q5.out.2.1 Q5.out.2.2 ?_; intro v5 w5 hown hgr hsp; obtain ⟨va5, vc5, rfl⟩ := Wi.own_shape hown; have P5 := Lib.hid (push_own OW.out BW.out.size hown hgr); clear hown hgr hsp)
            have FIN := Lib.hid (show OLies w5 (.slice va5 (m.length + 1) vc5) (srtO (l.take (i + 1))) ∧ Below w.heap.size w w5 from by
              rw [SS.out, INS.out]
              exact ⟨own_olies P5.out.1, HB.out.trans ((BW.out.trans P5.out.2).mono HB.out.size)⟩)
            go_roundw
            case rel => exact ⟨i + 1, by go_num, by omega, FIN⟩
            case measure => simp [intOf]; omega
    · have FIN := Lib.hid (show OLies wr (.slice oa (srtO (l.take i)).length oc) (srtO l) ∧ Below w.heap.size w wr from by
        have h := hI.out
        rw [show l.take i = l from List.take_of_length_le (by omega)] at h ⊢
        exact h)
      clear hI
      go_wp2
      go_returns
      exact ⟨_, rfl, FIN.out⟩
end Go.Proofs.YtifeakmbeaflgaaDoor
