/- The disk and the reference's: alike. -/
import Derived.Test.YtoddofcmdbifpaaSHJ
set_option linter.unusedVariables false
set_option linter.unusedSimpArgs false
set_option maxRecDepth 100000
namespace Go.Proofs.Ytoddofcmdbifpaa
open Go.RowKit Go.WideMaps Go.Maps

theorem later_eq {f : FuncId} {args : Array Value} {W : World} {z : Later W} {v : Value} (h : Calls Try.prog f args z.w fun e w' => e = .returned v ∧ z.w = w') : Calls Try.prog f args z.w fun e w'' => e = .returned v ∧ ∃ y : Later W, w'' = y.w :=
  later_call (h.mono fun e w' h => ⟨h.1, by rw [← h.2]; exact Below.refl _ _⟩)
set_option maxHeartbeats 3200000 in
theorem wsame_big (w : World) (v1 v2 : Value) (b1 b2 : List Int) (h1 : LiesK encB 1 w v1 b1) (h2 : LiesK encB 1 w v2 b2) (hb : b2.length ≤ 100000000) :
    Calls Try.prog 31 #[v1, v2] w fun e w' => e = .returned (.bool (decide (b1 = b2))) ∧ Below w.heap.size w w' := by
  have L1 := Lib.hid h1
  have L2 := Lib.hid h2
  obtain ⟨a1, c1, rfl⟩ := h1.shape
  obtain ⟨a2, c2, rfl⟩ := h2.shape
  have hlen1 := h1.len
  have hlen2 := h2.len
  clear h1 h2
  by_cases hl : b1.length = b2.length
  · obtain ⟨res, hres⟩ : ∃ y, decide (b1 = b2) = y := ⟨_, rfl⟩
    rw [hres]
    have HR := Lib.hid hres
    clear hres
    have HL := Lib.hid hl
    have q1 : ((b1.length : Int) == (b2.length : Int)) = true := by rw [hl]; simp
    have q2 : ((b1.length : Int) != (b2.length : Int)) = false := by rw [hl]; simp
    go_enter Try.func31, Try.ntmps31
    go_wp2_with fail
    go_loopw [5] (fun sv wr => ∃ i : Nat, sv = .int .i64 i ∧ i ≤ b1.length ∧ Hid (Below w.heap.size w wr ∧ ∀ (j : Nat), j < i → b1[j]? = b2[j]?)) (fun sv _ => b1.length - (intOf sv).toNat)
    case atStart => exact ⟨0, rfl, Nat.zero_le _, Lib.hid ⟨Below.refl _ _, fun j h => absurd h (Nat.not_lt_zero _)⟩⟩
    case round =>
      obtain ⟨i, rfl, hi, hK⟩ := hrel
      have K0 := Lib.hid hK.out.1
      have J0 := Lib.hid hK.out.2
      clear hK
      by_cases hlt : i < b1.length
      · have hlt2 : i < b2.length := by omega
        obtain ⟨g, o, p, rfl, hx, hg, a0⟩ := (L1.out.step K0.out).at' hlt
        obtain ⟨g', o', p', rfl, hx', hg', a0'⟩ := (L2.out.step K0.out).at' hlt2
        have k0 := a0 0 (.int .u8 p) rfl
        have k0' := a0' 0 (.int .u8 p') rfl
        have ca : ∀ x : Later wr, x.w.cell? ⟨g, o + i, none⟩ = some (.int .u8 p) := fun x => (x.below.cell (p := ⟨g, o + i, none⟩) hg).trans (by simpa using k0)
        have cb : ∀ x : Later wr, x.w.cell? ⟨g', o' + i, none⟩ = some (.int .u8 p') := fun x => (x.below.cell (p := ⟨g', o' + i, none⟩) hg').trans (by simpa using k0')
        have HX := Lib.hid (And.intro hx hx')
        clear k0 k0' a0 a0' hx hx'
        by_cases hp : p = p'
        · subst hp
          have e1 : (p == p) = true := by simp
          have e2 : (p != p) = false := by simp
          have JN := Lib.hid (show ∀ (j : Nat), j < i + 1 → b1[j]? = b2[j]? from fun j hj => by
            by_cases e : j = i
            · subst e; rw [HX.out.1, HX.out.2]
            · exact J0.out j (by omega))
          go_upto_region 6 with (fail)
          refine wp_region_later (by kernel_rfl) (by kernel_rfl) ?_
          repeat (go_big_quiet_step (fail))
          refine wpQuiet_nil ?_
          rintro _ ⟨xl, rfl⟩
          have B1 := Lib.hid (K0.out.trans (xl.below.mono K0.out.size))
          clear ca cb
          go_wp2
          go_roundw
          case rel => exact ⟨i + 1, by go_num, by omega, Lib.hid ⟨B1.out, JN.out⟩⟩
          case measure => simp [intOf]; omega
        · have e1 : (p == p') = false := by simpa using hp
          have e2 : (p != p') = true := by simpa using hp
          have EQ := Lib.hid (show res = false from by
            rw [← HR.out]
            refine decide_eq_false (fun e => hp ?_)
            have h3 := HX.out.1
            rw [e, HX.out.2] at h3
            injection h3 with h3
            exact h3.symm)
          clear hp
          go_upto_region 6 with (fail)
          refine wp_region_later (by kernel_rfl) (by kernel_rfl) ?_
          repeat (go_big_quiet_step (fail))
          refine wpQuiet_nil ?_
          rintro _ ⟨xl, rfl⟩
          have B1 := Lib.hid (K0.out.trans (xl.below.mono K0.out.size))
          clear ca cb
          go_wp2
          go_returns
          exact ⟨by rw [EQ.out]; rfl, B1.out⟩
      · have hge : ¬ ((i : Int) < (b1.length : Int)) := by omega
        have EQ := Lib.hid (show res = true from by
          rw [← HR.out]
          refine decide_eq_true (List.ext_getElem? (fun j => ?_))
          by_cases hj : j < i
          · exact J0.out j hj
          · rw [List.getElem?_eq_none (by omega), List.getElem?_eq_none (by omega)])
        go_wp2
        go_returns
        exact ⟨by rw [EQ.out]; rfl, K0.out⟩
  · have hd : decide (b1 = b2) = false := decide_eq_false (fun e => hl (by rw [e]))
    rw [hd]
    have q1 : ((b1.length : Int) == (b2.length : Int)) = false := by simp; omega
    have q2 : ((b1.length : Int) != (b2.length : Int)) = true := by simp; omega
    clear hl hd
    go_enter Try.func31, Try.ntmps31
    go_wp2
    go_returns
    exact ⟨rfl, Below.refl _ _⟩
structure SI (w W : World) (d rb br : Nat) (s : DS) (v : Value) (l : List Fl) (lasts : Int) (dn : Bool) (nv : Value) : Prop where
  p : PI w W d rb s v l lasts dn
  g : RB W br v s.room lasts dn
  nm : LiesK encT 1 W nv (nms s.l)
theorem SI.step {w W W' : World} {d rb br : Nat} {s : DS} {v : Value} {l : List Fl} {lasts : Int} {dn : Bool} {nv : Value} (h : SI w W d rb br s v l lasts dn nv) (hb : Below W.heap.size W W') : SI w W' d rb br s v l lasts dn nv := ⟨h.p.step hb, h.g.step hb, h.nm.step hb⟩
theorem bneq (a : Int) : (a != a) = false := by simp
set_option maxHeartbeats 12800000 in
theorem same_any (w W : World) (d rb : Nat) (s : DS) (v : Value) (l : List Fl) (lasts : Int) (dn : Bool) (h : PI w W d rb s v l lasts dn) (hl : l.length < 80000) :
    Calls Try.prog 10 #[pv d, rdv v s.room lasts dn] W fun e W' => e = .returned (.bool true) ∧ Below W.heap.size W W' := by
  obtain ⟨va, vc, rfl⟩ := h.rd.1.shape
  have V1 := vstep W (.cells #[.slice va l.length vc, .int .i64 s.room, .int .i64 lasts, .bool dn] 29)
  have P1 := Lib.hid (h.step V1)
  have G1 := Lib.hid (RB.new W (.slice va l.length vc) s.room lasts dn)
  have hls : s.l.length = l.length := h.tie.cm.len
  have LSL := Lib.hid hls
  have NA := Lib.hid (names_any _ _ d s P1.out.dk (by rw [hls]; omega))
  obtain ⟨W1, hW1⟩ : ∃ y, W.alloc (.cells #[.slice va l.length vc, .int .i64 s.room, .int .i64 lasts, .bool dn] 29) = y := ⟨_, rfl⟩
  rw [hW1] at P1 G1 NA V1
  have B1 := Lib.hid V1
  have HW1 := Lib.hid hW1
  have US := Lib.hid h.tie.cm.used
  have CR := Lib.hid h.tie.cm
  have DE := Lib.hid h.tie.dne
  have RISE := Lib.hid h.dk.rise
  have BYT := Lib.hid (show usedF l ≤ 100000000 ∧ ∀ x ∈ s.l, x.b.length ≤ 100000000 from by
    have h1 := h.dk.fits
    have h2 := h.dk.roomok
    have h3 := h.tie.cm.used
    refine ⟨by omega, fun x hx => ?_⟩
    have := usedF_mem hx
    omega)
  obtain ⟨br, hbr⟩ : ∃ z, W.heap.size = z := ⟨_, rfl⟩
  have HBR := Lib.hid hbr
  rw [hbr] at G1
  clear h V1 hW1 hbr hls
  go_enter Try.func10, Try.ntmps10
  go_upto_region 1 with (fail)
  rw [HW1.out, HBR.out]
  go_wp2_with fail
  refine NA.out.mono ?_
  rintro e W2 ⟨nv, rfl, ho, hb⟩
  have hln : (nms s.l).length = l.length := by unfold nms; rw [List.length_map]; exact LSL.out
  have K2 := Lib.hid (show SI w W2 d rb br s (.slice va l.length vc) l lasts dn nv from ⟨P1.out.step hb, G1.out.step hb, own_liesK encT_len ho⟩)
  have B2 := Lib.hid (B1.out.trans (hb.mono B1.out.size))
  obtain ⟨na, nc, rfl⟩ := own_shapeK ho
  rw [hln] at K2
  rw [hln]
  have HLN := Lib.hid hln
  clear ho hb NA P1 G1 B1 hln HW1
  obtain ⟨us, hus⟩ : ∃ us, usedF s.l = us := ⟨_, rfl⟩
  obtain ⟨ln, hln⟩ : ∃ ln, l.length = ln := ⟨_, rfl⟩
  have U1 := Lib.hid (fun z : Later W2 => later_call (used_any z.w _ d s (K2.out.step z.below).p.dk))
  have U2 := Lib.hid (fun z : Later W2 => later_call (rused_any z.w (.slice va l.length vc) l s.room lasts dn (K2.out.step z.below).p.rd (by omega) BYT.out.1))
  have U3 := Lib.hid (fun z : Later W2 => later_call (free_any z.w _ d s (K2.out.step z.below).p.dk))
  have U4 := Lib.hid (fun z : Later W2 => later_eq (down_any z.w _ d s (K2.out.step z.below).p.dk))
  rw [← US.out] at U2
  rw [hus] at U1 U2 U3
  rw [DE.out] at U4
  have FI := Lib.hid (show (us : Int) ≤ s.room ∧ s.room ≤ 16777216 from ⟨by rw [← hus]; exact K2.out.p.dk.fits, K2.out.p.dk.roomok.2⟩)
  obtain ⟨fi1, fi2⟩ := FI.out
  rw [hln] at U2
  have LNB := Lib.hid (show ln < 80000 from by rw [← hln]; exact hl)
  have hlnb := LNB.out
  have C0 : ∀ z : Later W2, z.w.cell? ⟨br, 0, none⟩ = some (.slice va ln vc) := fun z => by rw [← hln]; exact (K2.out.step z.below).g.cells.1
  have C1 : ∀ z : Later W2, z.w.cell? ⟨br, 1, none⟩ = some (.int .i64 s.room) := fun z => (K2.out.step z.below).g.cells.2.1
  have C2 : ∀ z : Later W2, z.w.cell? ⟨br, 2, none⟩ = some (.int .i64 lasts) := fun z => (K2.out.step z.below).g.cells.2.2.1
  have C3 : ∀ z : Later W2, z.w.cell? ⟨br, 3, none⟩ = some (.bool dn) := fun z => (K2.out.step z.below).g.cells.2.2.2
  have HLN2 := Lib.hid hln
  have q0 := bneq (ln : Int)
  have q1 := bneq (us : Int)
  have q2 := bneq (s.room - (us : Int))
  have q3 : (dn != dn) = false := by simp
  simp only [hln]
  rw [hln] at K2
  clear hus hln US
  go_upto_region 2 with (fail)
  refine wp_region_later (by kernel_rfl) (by kernel_rfl) ?_
  repeat (go_big_quiet_step (first | (go_at_call 24; with_reducible exact U1.out _) | (go_at_call 30; with_reducible exact U2.out _) | (go_at_call 25; with_reducible exact U3.out _) | (go_at_call 12; with_reducible exact U4.out _)))
  refine wpQuiet_nil ?_
  rintro _ ⟨z, rfl⟩
  have K3 := Lib.hid (K2.out.step z.below)
  have B3 := Lib.hid (B2.out.trans (z.below.mono B2.out.size))
  clear C0 C1 C2 C3 U1 U2 U3 U4 K2 B2 q0 q1 q2 q3
  generalize z.w = W3 at *
  clear z fi1 fi2 FI
  go_wp2_with fail
  go_loopw [6] (fun sv wr => ∃ i : Nat, sv = .int .i64 i ∧ i ≤ ln ∧ Hid (SI w wr d rb br s (.slice va ln vc) l lasts dn (.slice na ln nc) ∧ Below W.heap.size W wr)) (fun sv _ => ln - (intOf sv).toNat)
  case atStart => exact ⟨0, rfl, Nat.zero_le _, Lib.hid ⟨K3.out, B3.out⟩⟩
  case round =>
    obtain ⟨i, rfl, hi, hK⟩ := hrel
    have K := Lib.hid hK.out.1
    have B := Lib.hid hK.out.2
    clear hK K3 B3
    by_cases hlt : i < ln
    · have LR : LiesK encR 3 wr (.slice va ln vc) l := K.out.p.rd.1
      obtain ⟨g, o, y, rfl, hy, hg, y0, y1, y2⟩ := rec_at LR hlt
      obtain ⟨x, hx, hxy⟩ := CR.out.symm.get hy
      have hxm := List.mem_of_getElem? hx
      have hget : getF s.l x.n = some x := (get_some RISE.out).2 ⟨hxm, rfl⟩
      obtain ⟨g2, o2, p, rfl, hp, hg2, hc⟩ := K.out.nm.at' hlt
      have hpx : p = x.n := by
        unfold nms at hp
        rw [List.getElem?_map, hx] at hp
        injection hp with hp
        exact hp.symm
      subst hpx
      have n0 : wr.cell? ⟨g2, o2 + i, none⟩ = some (.string x.n) := by simpa using hc 0 (.string x.n) rfl
      have hnm : x.n.size ≤ maxLen := by
        rcases K.out.p.dk.map with ⟨_, e⟩ | ⟨b, _, _, hb⟩
        · rw [e] at hxm; cases hxm
        · exact hb.oks x hxm
      have e1 : y.n = x.n := core_n hxy
      have e2 : y.b = x.b := core_b hxy
      have e3 : y.s = x.s := core_s hxy
      rw [e1] at y0
      rw [e2] at y1
      rw [e3] at y2
      have LY := Lib.hid (show LiesK encB 1 wr (.slice y.a x.b.length y.c) x.b from by
        have := K.out.p.rd.2 y (List.mem_of_getElem? hy)
        unfold Fl.v at this
        rw [e2] at this
        exact this)
      have RDA := Lib.hid (read_any wr _ d s K.out.p.dk K.out.p.bel.size x.n hnm BYT.out.2)
      have XBL := Lib.hid (BYT.out.2 x hxm)
      have NM2 := Lib.hid hnm
      have HG := Lib.hid hget
      clear hc hp LR hx hy hxy e1 e2 e3 hxm hget hnm
      have SUA := Lib.hid (fun (W' : World) (z : Later W') (hb : Below wr.heap.size wr W') => (show Calls Try.prog 19 #[pv d, .string x.n] z.w (fun e w'' => e = .returned (.int .i64 x.s) ∧ ∃ y : Later W', w'' = y.w) from later_eq (by
        have := sure_any z.w _ d s ((K.out.step hb).step z.below).p.dk x.n NM2.out
        rw [HG.out] at this
        exact this)))
      have YY := Lib.hid (fun (W' : World) (hb : Below wr.heap.size wr W') => (show W'.cell? ⟨g, o + i * 3, none⟩ = some (.string x.n) ∧ W'.cell? ⟨g, o + i * 3 + 1, none⟩ = some (.slice y.a x.b.length y.c) ∧ W'.cell? ⟨g, o + i * 3 + 2, none⟩ = some (.int .i64 x.s) ∧ W'.cell? ⟨g2, o2 + i, none⟩ = some (.string x.n) from
        ⟨(hb.cell (p := ⟨g, o + i * 3, none⟩) hg).trans y0, (hb.cell (p := ⟨g, o + i * 3 + 1, none⟩) hg).trans y1, (hb.cell (p := ⟨g, o + i * 3 + 2, none⟩) hg).trans y2, (hb.cell (p := ⟨g2, o2 + i, none⟩) hg2).trans n0⟩))
      clear y0 y1 y2
      go_wp2_with fail
      refine RDA.out.mono ?_
      rintro e W5 ⟨v5, rfl, ho5, hb5⟩
      have K5 := Lib.hid (K.out.step hb5)
      have B5 := Lib.hid (B.out.trans (hb5.mono B.out.size))
      have Y5 := Lib.hid (fun (z : Later W5) => YY.out z.w (hb5.trans (z.below.mono hb5.size)))
      have S5 := Lib.hid (fun z : Later W5 => SUA.out W5 z hb5)
      have LY5 := Lib.hid (LY.out.step hb5)
      obtain ⟨a5, c5, rfl⟩ := own_shapeK ho5
      have O5 := Lib.hid (own_liesK encB_len ho5)
      have hfn : fnd s x.n = (if dn = true then 12 else 0) ∧ (dn = false → fval s x.n = x) := by
        unfold fnd fval
        rw [DE.out, HG.out]
        cases dn <;> simp
      have HFV := Lib.hid hfn.2
      rw [hfn.1]
      clear ho5 hb5 hfn RDA YY SUA LY n0
      have c0 : ∀ z : Later W5, z.w.cell? ⟨br, 0, none⟩ = some (.slice (some ⟨g, o, none⟩) ln vc) := fun z => (K5.out.step z.below).g.cells.1
      have d0 := fun z : Later W5 => (Y5.out z).1
      have d2 := fun z : Later W5 => (Y5.out z).2.2.1
      have d3 := fun z : Later W5 => (Y5.out z).2.2.2
      have q3 := bneq x.s
      go_upto_region 8 with (fail)
      refine wp_region_later (by kernel_rfl) (by kernel_rfl) ?_
      repeat (go_big_quiet_step (first | (go_at_call 19; with_reducible exact S5.out _)))
      refine wpQuiet_nil ?_
      rintro _ ⟨z, rfl⟩
      have K6 := Lib.hid (K5.out.step z.below)
      have B6 := Lib.hid (B5.out.trans (z.below.mono B5.out.size))
      have Y6 := Lib.hid (Y5.out z)
      have L6 := Lib.hid (LY5.out.step z.below)
      have O6 := Lib.hid (O5.out.step z.below)
      clear c0 d0 d2 d3 q3 K5 B5 Y5 S5 LY5 O5 K B
      generalize z.w = W6 at *
      clear z
      obtain ⟨c0, c1, c2, c3⟩ := K6.out.g.cells
      obtain ⟨y0, y1, y2, y3⟩ := Y6.out
      clear c1 c2 y3
      cases dn with
      | true =>
        go_wp2
        go_roundw
        case rel => exact ⟨i + 1, by go_num, by omega, Lib.hid ⟨K6.out, B6.out⟩⟩
        case measure => simp [intOf]; omega
      | false =>
        rw [HFV.out rfl] at O6 ⊢
        have WS := Lib.hid (wsame_big W6 (.slice a5 x.b.length c5) (.slice y.a x.b.length y.c) x.b x.b O6.out L6.out XBL.out)
        rw [show decide (x.b = x.b) = true from by simp] at WS
        go_wp2_with fail
        refine WS.out.mono ?_
        rintro e W7 ⟨rfl, hb7⟩
        have K7 := Lib.hid (K6.out.step hb7)
        have B7 := Lib.hid (B6.out.trans (hb7.mono B6.out.size))
        clear hb7
        go_wp2
        go_roundw
        case rel => exact ⟨i + 1, by go_num, by omega, Lib.hid ⟨K7.out, B7.out⟩⟩
        case measure => simp [intOf]; omega
    · have hge : ¬ ((i : Int) < (ln : Int)) := by omega
      go_wp2
      go_returns
      exact ⟨rfl, B.out⟩
end Go.Proofs.Ytoddofcmdbifpaa
