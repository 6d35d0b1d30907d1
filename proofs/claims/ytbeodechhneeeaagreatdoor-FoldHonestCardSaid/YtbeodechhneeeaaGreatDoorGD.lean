/- FoldHonest, walked. Made by gengd15.py. -/
import Derived.Test.YtbeodechhneeeaaGreatDoorFZ
import Derived.Test.YtbeodechhneeeaaGreatDoorXS
set_option linter.unusedVariables false
set_option linter.unusedSimpArgs false
set_option maxRecDepth 100000
namespace Go.Proofs.YtbeodechhneeeaaGreatDoor
open Go.RowKit Go.Shelf
open Tb (Rw setF getF aboveF Rise TabI TM LiesK LiesR ltS encS Sp nodesF stOf gv EnAt)

theorem ld4b {W : World} {g o : Nat} {b : Bool} (c0 : W.cell? ⟨g, o, none⟩ = some (.bool b)) : (Instr.loadAt 4 (.pointer (some ⟨g, o, none⟩))).run Tryz.prog W = .ok (.bool b) W := by
  go_simp
theorem ne4 (a : Bool) (W : World) : (binOp .neq 4 (.bool a) (.bool a)).run Tryz.prog W = .ok (.bool false) W := by
  cases a <;> go_simp
theorem gne4 (x y : Operand) (a b : Bool) (w : World) : (eqGuard .neq 4 x y (.bool a) (.bool b)).run Tryz.prog w = .ok () w := rfl
theorem en_d {W : World} {k : Nat} {pt pr : Int} {nm : ByteArray} {d : Bool} (h : EnAt W k pt pr nm d) : W.cell? ⟨k, 0 + 3, none⟩ = some (.bool d) := (cell_of_row _ _ _ _ _ _ h).trans rfl
set_option maxHeartbeats 12800000 in
theorem honest_law (w : World) (v : Value) (l : List O) (h : OLies w v l) (hok : ∀ o ∈ l, OkO o) :
    Calls Tryz.prog 4 #[v] w fun e w' => e = .returned (.bool true) ∧ Below w.heap.size w w' := by
  have H := Lib.hid h
  have HOK := Lib.hid hok
  have LG := Lib.hid (long_any w v l h)
  have AW := Lib.hid (fun W => awake_any W)
  obtain ⟨ao, cap, rfl⟩ := h.shape
  clear h hok
  obtain ⟨lb, hlb⟩ : ∃ z, longB l = z := ⟨_, rfl⟩
  rw [hlb] at LG
  go_enter Tryz.func4, Tryz.ntmps4
  go_wp2_with fail
  refine LG.out.mono ?_
  rintro e w0 ⟨rfl, hw⟩
  subst hw
  clear LG
  cases lb with
  | true =>
    go_wp2_with fail
    refine (AW.out w).mono ?_
    rintro e w1 ⟨rfl, hb⟩
    have HB := Lib.hid hb
    clear hb AW
    go_wp2
    go_returns
    exact ⟨rfl, HB.out⟩
  | false =>
    have hf := long_f hlb
    have HSZ := Lib.hid (show ∀ o ∈ l, o.nm.size ≤ 9223372036854775807 from fun o ho => by have := hf.2 o ho; omega)
    have HUL := Lib.hid (show (uniqF l).length ≤ 79 from by have := (uniq_is l).len; have := hf.1; omega)
    have HLL := Lib.hid (show l.length ≤ 1000 from by have := hf.1; omega)
    have HSL := Lib.hid (show (setO l).length ≤ 30 from by have e : (setO l).length = (uniqF l).length := srtO_len _; have := (uniq_is l).len; have := hf.1; omega)
    clear hf hlb
    have CH := Lib.hid (fhonest_any w _ l H.out HOK.out HSZ.out HLL.out HUL.out)
    obtain ⟨hp, hhp⟩ : ∃ z, honestP l = z := ⟨_, rfl⟩
    rw [hhp] at CH
    have HHP := Lib.hid hhp
    clear hhp
    go_wp2_with fail
    refine CH.out.mono ?_
    rintro e w1 ⟨rfl, hb⟩
    have B1 := Lib.hid hb
    clear hb CH
    cases hp with
    | false =>
      go_wp2_with fail
      refine (AW.out w1).mono ?_
      rintro e w2 ⟨rfl, hb⟩
      have HB := Lib.hid (B1.out.trans (hb.mono B1.out.size))
      clear hb AW
      go_wp2
      go_returns
      exact ⟨rfl, HB.out⟩
    | true =>
      have C16 := Lib.hid (fof_any w1 _ l (H.out.step B1.out) HOK.out HSZ.out HLL.out HUL.out)
      have HT := Lib.hid (fun z (hz : z ∈ playF [] (setO l)) => hon_tab HHP.out hz)
      have RS := Lib.hid (show Rise (playF [] (setO l)) from play_rise _ List.Pairwise.nil)
      have TL := Lib.hid (show (playF [] (setO l)).length ≤ 30 from by have h1 := play_len (setO l) []; have := HSL.out; simp at h1; omega)
      obtain ⟨T, hT⟩ : ∃ z, playF [] (setO l) = z := ⟨_, rfl⟩
      rw [hT] at C16 HT RS TL
      clear hT HUL HSL
      go_wp2_with fail
      refine C16.out.mono ?_
      rintro e w2 ⟨q, mb, rfl, ht, _, _, hb⟩
      have B2 := Lib.hid (B1.out.trans (hb.mono B1.out.size))
      have OK := Lib.hid ht.map.oks
      have TI := Lib.hid ht
      have C20 := Lib.hid (Tb.nodes_any w2 q mb T ht (by have := TL.out; omega))
      clear hb ht C16
      go_wp2_with fail
      refine C20.out.mono ?_
      rintro e w3 ⟨nv, rfl, ho, hb⟩
      have SK := Lib.hid (Tb.own_liesK Tb.encS_len ho)
      have B3 := Lib.hid (B2.out.trans (hb.mono B2.out.size))
      have TI := Lib.hid (TI.out.step hb)
      obtain ⟨na, nc, rfl⟩ := Tb.own_shapeK ho
      have NL := Lib.hid (show (nodesF T).length = T.length from by unfold nodesF; rw [List.length_map])
      have J0 := Lib.hid (Below.refl w3.heap.size w3)
      clear ho hb C20
      rw [NL.out] at SK ⊢
      go_wp2_with fail
      go_loopw [5] (fun kv wr => ∃ i : Nat, kv = .int .i64 i ∧ i ≤ T.length ∧ Hid (Below w3.heap.size w3 wr)) (fun kv _ => T.length - (intOf kv).toNat)
      case atStart => exact ⟨0, rfl, Nat.zero_le _, J0⟩
      case round =>
        clear J0
        obtain ⟨i, rfl, hi, K⟩ := hrel
        by_cases hlt : i < T.length
        · have hi0 : (0 : Int) ≤ (i : Int) := by omega
          have hi1 : (i : Int) < (T.length : Int) := by omega
          have hd : decide ((i : Int) < (T.length : Int)) = true := decide_eq_true hi1
          have HL1 := Lib.hid (show i + 1 ≤ T.length from hlt)
          have HW9 := Lib.hid (wrap_nat hlt (by have := TL.out; omega))
          have HMS := Lib.hid (meas_nat hlt)
          have HLT := Lib.hid hlt
          obtain ⟨g, o, s1, s2, rfl, hs, hg, a0, a1⟩ := (SK.out.step K.out).spU hlt
          obtain ⟨x, hx⟩ : ∃ x, T[i]? = some x := ⟨_, List.getElem?_eq_getElem hlt⟩
          have hst : (s1, s2) = stOf x := by
            unfold nodesF at hs
            rw [List.getElem?_map, hx] at hs
            injection hs with hs
            exact hs.symm
          injection hst with e1 e2
          subst e1 e2
          have XM := Lib.hid (List.mem_of_getElem? hx)
          have XO := Lib.hid (OK.out x XM.out)
          have XT := Lib.hid (HT.out x XM.out)
          have G1 := Lib.hid (Tb.get_any wr q mb T (TI.out.step K.out) x.t x.r XO.out.1 XO.out.2.1)
          rw [show gv T x.t x.r = .agg #[.int .i64 x.pt, .int .i64 x.pr, .string x.nm, .bool x.d] from by unfold gv; rw [Tb.get_in RS.out XM.out]] at G1
          have G2 := Lib.hid (fun W (hb : Below w3.heap.size w3 W) => Tb.get_any W q mb T (TI.out.step hb) x.pt x.pr XO.out.2.2.1 XO.out.2.2.2)
          obtain ⟨y1, y2, y3, y4, hyy⟩ := Tb.gv_form T x.pt x.pr
          obtain ⟨ok, hokk⟩ : ∃ z, (getF T x.pt x.pr).isSome = z := ⟨_, rfl⟩
          have PD : 0 < x.pt → ok = true ∧ y4 = true := fun hp => by
            obtain ⟨p, hp1, hp2⟩ := XT.out.1 hp
            unfold gv at hyy
            rw [hp1] at hyy hokk
            refine ⟨hokk.symm, ?_⟩
            have hyy : (Value.agg #[.int .i64 p.pt, .int .i64 p.pr, .string p.nm, .bool p.d]) = _ := hyy
            injection hyy with hyy
            injection hyy with hyy
            injection hyy with _ hyy
            injection hyy with _ hyy
            injection hyy with _ hyy
            injection hyy with hyy _
            injection hyy with hyy
            rw [← hyy]
            exact hp2
          have PD := Lib.hid PD
          simp only [hyy, hokk] at G2
          have LS := Lib.hid (fun W (hb : Below wr.heap.size wr W) => @ld24 W g (o + i * 2) x.t x.r ((hb.cell (p := ⟨g, o + i * 2, none⟩) hg).trans a0) ((hb.cell (p := ⟨g, o + i * 2 + 1, none⟩) hg).trans a1))
          have LS0 := Lib.hid (LS.out wr (Below.refl _ _))
          clear hs hg hx a0 a1 hyy hokk
          go_wp2_with (first | (refine Ve.wpList_load_arr rfl (.tmp 33) 31 rfl (.pointer (some ⟨g, o + i * 2, none⟩)) (.agg #[.int .i64 x.t, .int .i64 x.r]) rfl LS0.out ?_))
          refine G1.out.mono ?_
          rintro e w5 ⟨rfl, hb⟩
          have BX := pl_vstep w5 (.cells #[.int .i64 x.pt, .int .i64 x.pr, .string x.nm, .bool x.d] 47)
          have HBB := Lib.hid (hb.trans (BX.mono hb.size))
          have E6 := Lib.hid (EnAt.new w5 x.pt x.pr x.nm x.d)
          clear hb BX G1 LS0
          go_upto_region 9 with (fail)
          obtain ⟨k6, hk6⟩ : ∃ k, w5.heap.size = k := ⟨_, rfl⟩
          rw [hk6] at E6 ⊢
          generalize (w5.alloc (.cells #[.int .i64 x.pt, .int .i64 x.pr, .string x.nm, .bool x.d] 47)) = w6 at *
          clear hk6
          have G2w := Lib.hid (G2.out w6 (K.out.trans (HBB.out.mono K.out.size)))
          clear G2
          obtain ⟨c1, c2⟩ := E6.out.cells
          go_wp2_with fail
          refine G2w.out.mono ?_
          rintro e w7 ⟨rfl, hb⟩
          have BX := pl_vstep w7 (.cells #[.int .i64 y1, .int .i64 y2, .string y3, .bool y4] 47)
          have hbb := hb.trans (BX.mono hb.size)
          have E6 := Lib.hid (E6.out.step hbb)
          have HBB := Lib.hid (HBB.out.trans (hbb.mono HBB.out.size))
          have E8 := Lib.hid (EnAt.new w7 y1 y2 y3 y4)
          clear hb hbb BX c1 c2 G2w
          go_upto_region 10 with (fail)
          obtain ⟨k8, hk8⟩ : ∃ k, w7.heap.size = k := ⟨_, rfl⟩
          rw [hk8] at E8 ⊢
          generalize (w7.alloc (.cells #[.int .i64 y1, .int .i64 y2, .string y3, .bool y4] 47)) = w8 at *
          clear hk8
          obtain ⟨c1, c2⟩ := E6.out.cells
          have c3 := en_d E6.out
          have c4 := en_d E8.out
          have HB8 := Lib.hid (K.out.trans (HBB.out.mono K.out.size))
          have J1 := Lib.hid (Below.refl w8.heap.size w8)
          by_cases hpt : 0 < x.pt
          · obtain ⟨rfl, rfl⟩ := PD.out hpt
            have p1 : decide (x.pt > 0) = true := decide_eq_true hpt
            have p2 : decide (0 < x.pt) = true := decide_eq_true hpt
            go_upto_region 12 with (fail)
            clear c1 c2 c3 c4 p1 p2 hpt
            generalize wr = wo at *
            go_wp2_with fail
            go_loopw [10] (fun jv wr => ∃ j : Nat, jv = .int .i64 j ∧ j ≤ l.length ∧ Hid (Below w8.heap.size w8 wr)) (fun jv _ => l.length - (intOf jv).toNat)
            case atStart => exact ⟨0, rfl, Nat.zero_le _, J1⟩
            case round =>
              clear J1
              obtain ⟨j, rfl, hj, M⟩ := hrel
              by_cases hjt : j < l.length
              · have hj0 : (0 : Int) ≤ (j : Int) := by omega
                have hj1 : (j : Int) < (l.length : Int) := by omega
                have hjd : decide ((j : Int) < (l.length : Int)) = true := decide_eq_true hj1
                have HJ1 := Lib.hid (show j + 1 ≤ l.length from hjt)
                have HJW := Lib.hid (wrap_nat hjt (by have := HLL.out; omega))
                have HJM := Lib.hid (meas_nat hjt)
                obtain ⟨og, ok2, z, e7, hz, hg2, hc⟩ := (H.out.step (B3.out.trans ((HB8.out.trans (M.out.mono HB8.out.size)).mono B3.out.size))).atK hjt
                subst e7
                have ZM := Lib.hid (List.mem_of_getElem? hz)
                have LN := Lib.hid (fun W (hb : Below wr.heap.size wr W) => @ld24 W og (ok2 + j * 9 + 3) z.nt z.nr ((hb.cell (p := ⟨og, ok2 + j * 9 + 3, none⟩) hg2).trans (hc 3 _ rfl)) ((hb.cell (p := ⟨og, ok2 + j * 9 + 4, none⟩) hg2).trans (hc 4 _ rfl)))
                have LD := Lib.hid (fun W (hb : Below wr.heap.size wr W) => @ld4b W og (ok2 + j * 9 + 8) z.d ((hb.cell (p := ⟨og, ok2 + j * 9 + 8, none⟩) hg2).trans (hc 8 _ rfl)))
                have LE := Lib.hid (fun W (hb : Below wr.heap.size wr W) => @ld4b W k6 (0 + 3) x.d (en_d (E6.out.step (M.out.trans (hb.mono M.out.size)))))
                have LSW := Lib.hid (fun W (hb : Below wr.heap.size wr W) => LS.out W ((HBB.out.trans (M.out.mono HBB.out.size)).trans (hb.mono (HBB.out.trans (M.out.mono HBB.out.size)).size)))
                have IO := Lib.hid (fun W => @ix30 og ok2 l.length cap j hjt W)
                have IS := Lib.hid (fun W => @ix52 g o T.length nc i HLT.out W)
                clear hz hg2 hc
                by_cases he : z.nt = x.t ∧ z.nr = x.r
                · have E24 := Lib.hid (fun W => (eq24 z.nt z.nr x.t x.r W).trans (by rw [decide_eq_true he]))
                  have ED := Lib.hid (show z.d = x.d from XT.out.2 z ZM.out he.1 he.2)
                  simp only [ED.out] at LD
                  clear he
                  go_upto_region 15 with (fail)
                  refine wp_region_held_drew (S := fun w' => Below wr.heap.size wr w') (by kernel_rfl) (Below.refl _ _).drew (fun hHeld => ?_)
                  have BV := Lib.hid (show Below wr.heap.size wr wr.drew from (Below.refl _ _).drew)
                  clear hHeld
                  refine take_at (i := 0) 64 ?_ rfl rfl (by kernel_rfl) (by kernel_rfl) (by kernel_rfl) (fun _ _ _ h => h) (.inl ⟨rfl, ?_⟩) BV.out ?_
                  rotate_left 1
                  · intro w hSw; go_simp; try with_reducible rfl
                  simp only [Act.put, List.setIfInBounds_toArray, List.set_cons_zero, List.set_cons_succ]
                  refine take_at (i := 1) 65 ?_ rfl rfl (by kernel_rfl) (by kernel_rfl) (by kernel_rfl) (fun _ _ _ h => h) (.inl ⟨rfl, ?_⟩) BV.out ?_
                  rotate_left 1
                  · intro w hSw; go_simp; try with_reducible rfl
                  simp only [Act.put, List.setIfInBounds_toArray, List.set_cons_zero, List.set_cons_succ]
                  refine take_at (i := 2) 66 (.pointer (some ⟨og, ok2 + j * 9, none⟩)) rfl rfl (by kernel_rfl) (by kernel_rfl) (by kernel_rfl) (fun _ _ _ h => h) (yields_ix (.tmp 64) (.tmp 65) 22 (.slice (some ⟨og, ok2, none⟩) l.length cap) (.int .i64 (j : Int)) _ IO.out rfl rfl rfl rfl) BV.out ?_
                  simp only [Act.put, List.setIfInBounds_toArray, List.set_cons_zero, List.set_cons_succ]
                  refine take_at (i := 3) 67 ?_ rfl rfl (by kernel_rfl) (by kernel_rfl) (by kernel_rfl) (fun _ _ _ h => h) (.inl ⟨rfl, ?_⟩) BV.out ?_
                  rotate_left 1
                  · intro w hSw; go_simp; try with_reducible rfl
                  simp only [Act.put, List.setIfInBounds_toArray, List.set_cons_zero, List.set_cons_succ]
                  refine take_at (i := 4) 68 (.agg #[.int .i64 z.nt, .int .i64 z.nr]) rfl rfl (by kernel_rfl) (by kernel_rfl) (by kernel_rfl) (fun _ _ _ h => h) (yields_ld (.tmp 67) 31 (.pointer (some ⟨og, ok2 + j * 9 + 3, none⟩)) _ LN.out rfl rfl rfl) BV.out ?_
                  simp only [Act.put, List.setIfInBounds_toArray, List.set_cons_zero, List.set_cons_succ]
                  refine take_at (i := 5) 69 ?_ rfl rfl (by kernel_rfl) (by kernel_rfl) (by kernel_rfl) (fun _ _ _ h => h) (.inl ⟨rfl, ?_⟩) BV.out ?_
                  rotate_left 1
                  · intro w hSw; go_simp; try with_reducible rfl
                  simp only [Act.put, List.setIfInBounds_toArray, List.set_cons_zero, List.set_cons_succ]
                  refine take_at (i := 6) 70 ?_ rfl rfl (by kernel_rfl) (by kernel_rfl) (by kernel_rfl) (fun _ _ _ h => h) (.inl ⟨rfl, ?_⟩) BV.out ?_
                  rotate_left 1
                  · intro w hSw; go_simp; try with_reducible rfl
                  simp only [Act.put, List.setIfInBounds_toArray, List.set_cons_zero, List.set_cons_succ]
                  refine take_at (i := 7) 71 (.pointer (some ⟨g, o + i * 2, none⟩)) rfl rfl (by kernel_rfl) (by kernel_rfl) (by kernel_rfl) (fun _ _ _ h => h) (yields_ix (.tmp 69) (.tmp 70) 34 (.slice (some ⟨g, o, none⟩) T.length nc) (.int .i64 (i : Int)) _ IS.out rfl rfl rfl rfl) BV.out ?_
                  simp only [Act.put, List.setIfInBounds_toArray, List.set_cons_zero, List.set_cons_succ]
                  refine take_at (i := 8) 72 (.agg #[.int .i64 x.t, .int .i64 x.r]) rfl rfl (by kernel_rfl) (by kernel_rfl) (by kernel_rfl) (fun _ _ _ h => h) (yields_ld (.tmp 71) 31 (.pointer (some ⟨g, o + i * 2, none⟩)) _ LSW.out rfl rfl rfl) BV.out ?_
                  simp only [Act.put, List.setIfInBounds_toArray, List.set_cons_zero, List.set_cons_succ]
                  refine take_at (i := 9) 73 (.bool true) rfl rfl (by kernel_rfl) (by kernel_rfl) (by kernel_rfl) (fun _ _ _ h => h) (yields_bin .eql (.tmp 68) (.tmp 72) 31 31 (.agg #[.int .i64 z.nt, .int .i64 z.nr]) (.agg #[.int .i64 x.t, .int .i64 x.r]) _ E24.out (g24 _ _ _ _) rfl rfl rfl rfl) BV.out ?_
                  simp only [Act.put, List.setIfInBounds_toArray, List.set_cons_zero, List.set_cons_succ]
                  refine take_at (i := 10) 74 ?_ rfl rfl (by kernel_rfl) (by kernel_rfl) (by kernel_rfl) (fun _ _ _ h => h) (.inl ⟨rfl, ?_⟩) BV.out ?_
                  rotate_left 1
                  · intro w hSw; go_simp; try with_reducible rfl
                  simp only [Act.put, List.setIfInBounds_toArray, List.set_cons_zero, List.set_cons_succ]
                  refine take_at (i := 11) 75 ?_ rfl rfl (by kernel_rfl) (by kernel_rfl) (by kernel_rfl) (fun _ _ _ h => h) (.inl ⟨rfl, ?_⟩) BV.out ?_
                  rotate_left 1
                  · intro w hSw; go_simp; try with_reducible rfl
                  simp only [Act.put, List.setIfInBounds_toArray, List.set_cons_zero, List.set_cons_succ]
                  refine take_at (i := 12) 76 ?_ rfl rfl (by kernel_rfl) (by kernel_rfl) (by kernel_rfl) (fun _ _ _ h => h) (.inl ⟨rfl, ?_⟩) BV.out ?_
                  rotate_left 1
                  · intro w hSw; go_simp; try with_reducible rfl
                  simp only [Act.put, List.setIfInBounds_toArray, List.set_cons_zero, List.set_cons_succ]
                  refine take_at (i := 13) 77 (.pointer (some ⟨og, ok2 + j * 9, none⟩)) rfl rfl (by kernel_rfl) (by kernel_rfl) (by kernel_rfl) (fun _ _ _ h => h) (yields_ix (.tmp 75) (.tmp 76) 22 (.slice (some ⟨og, ok2, none⟩) l.length cap) (.int .i64 (j : Int)) _ IO.out rfl rfl rfl rfl) BV.out ?_
                  simp only [Act.put, List.setIfInBounds_toArray, List.set_cons_zero, List.set_cons_succ]
                  refine take_at (i := 14) 78 ?_ rfl rfl (by kernel_rfl) (by kernel_rfl) (by kernel_rfl) (fun _ _ _ h => h) (.inl ⟨rfl, ?_⟩) BV.out ?_
                  rotate_left 1
                  · intro w hSw; go_simp; try with_reducible rfl
                  simp only [Act.put, List.setIfInBounds_toArray, List.set_cons_zero, List.set_cons_succ]
                  refine take_at (i := 15) 79 (.bool x.d) rfl rfl (by kernel_rfl) (by kernel_rfl) (by kernel_rfl) (fun _ _ _ h => h) (yields_ld (.tmp 78) 4 (.pointer (some ⟨og, ok2 + j * 9 + 8, none⟩)) _ LD.out rfl rfl rfl) BV.out ?_
                  simp only [Act.put, List.setIfInBounds_toArray, List.set_cons_zero, List.set_cons_succ]
                  refine take_at (i := 16) 80 ?_ rfl rfl (by kernel_rfl) (by kernel_rfl) (by kernel_rfl) (fun _ _ _ h => h) (.inl ⟨rfl, ?_⟩) BV.out ?_
                  rotate_left 1
                  · intro w hSw; go_simp; try with_reducible rfl
                  simp only [Act.put, List.setIfInBounds_toArray, List.set_cons_zero, List.set_cons_succ]
                  refine take_at (i := 17) 81 (.bool x.d) rfl rfl (by kernel_rfl) (by kernel_rfl) (by kernel_rfl) (fun _ _ _ h => h) (yields_ld (.tmp 80) 4 (.pointer (some ⟨k6, 0 + 3, none⟩)) _ LE.out rfl rfl rfl) BV.out ?_
                  simp only [Act.put, List.setIfInBounds_toArray, List.set_cons_zero, List.set_cons_succ]
                  refine take_at (i := 18) 82 (.bool false) rfl rfl (by kernel_rfl) (by kernel_rfl) (by kernel_rfl) (fun _ _ _ h => h) (yields_bin .neq (.tmp 79) (.tmp 81) 4 4 (.bool x.d) (.bool x.d) _ (ne4 x.d) (gne4 _ _ _ _) rfl rfl rfl rfl) BV.out ?_
                  simp only [Act.put, List.setIfInBounds_toArray, List.set_cons_zero, List.set_cons_succ]
                  refine take_at (i := 19) 83 ?_ rfl rfl (by kernel_rfl) (by kernel_rfl) (by kernel_rfl) (fun _ _ _ h => h) (.inl ⟨rfl, ?_⟩) BV.out ?_
                  rotate_left 1
                  · intro w hSw; go_simp; try with_reducible rfl
                  simp only [Act.put, List.setIfInBounds_toArray, List.set_cons_zero, List.set_cons_succ]
                  refine wpAnyH_done (by kernel_rfl) ?_ _
                  have KF := Lib.hid (M.out.trans (BV.out.mono M.out.size))
                  clear BV
                  go_wp2
                  go_roundw
                  case rel => exact ⟨j + 1, by first | (rw [HJW.out]; rfl) | go_num, HJ1.out, KF⟩
                  case measure => first | (rw [HJW.out]; exact HJM.out) | exact HJM.out
                · have E24 := Lib.hid (fun W => (eq24 z.nt z.nr x.t x.r W).trans (by rw [decide_eq_false he]))
                  clear he
                  go_upto_region 15 with (fail)
                  refine wp_region_held_drew (S := fun w' => Below wr.heap.size wr w') (by kernel_rfl) (Below.refl _ _).drew (fun hHeld => ?_)
                  have BV := Lib.hid (show Below wr.heap.size wr wr.drew from (Below.refl _ _).drew)
                  clear hHeld
                  refine take_at (i := 0) 64 ?_ rfl rfl (by kernel_rfl) (by kernel_rfl) (by kernel_rfl) (fun _ _ _ h => h) (.inl ⟨rfl, ?_⟩) BV.out ?_
                  rotate_left 1
                  · intro w hSw; go_simp; try with_reducible rfl
                  simp only [Act.put, List.setIfInBounds_toArray, List.set_cons_zero, List.set_cons_succ]
                  refine take_at (i := 1) 65 ?_ rfl rfl (by kernel_rfl) (by kernel_rfl) (by kernel_rfl) (fun _ _ _ h => h) (.inl ⟨rfl, ?_⟩) BV.out ?_
                  rotate_left 1
                  · intro w hSw; go_simp; try with_reducible rfl
                  simp only [Act.put, List.setIfInBounds_toArray, List.set_cons_zero, List.set_cons_succ]
                  refine take_at (i := 2) 66 (.pointer (some ⟨og, ok2 + j * 9, none⟩)) rfl rfl (by kernel_rfl) (by kernel_rfl) (by kernel_rfl) (fun _ _ _ h => h) (yields_ix (.tmp 64) (.tmp 65) 22 (.slice (some ⟨og, ok2, none⟩) l.length cap) (.int .i64 (j : Int)) _ IO.out rfl rfl rfl rfl) BV.out ?_
                  simp only [Act.put, List.setIfInBounds_toArray, List.set_cons_zero, List.set_cons_succ]
                  refine take_at (i := 3) 67 ?_ rfl rfl (by kernel_rfl) (by kernel_rfl) (by kernel_rfl) (fun _ _ _ h => h) (.inl ⟨rfl, ?_⟩) BV.out ?_
                  rotate_left 1
                  · intro w hSw; go_simp; try with_reducible rfl
                  simp only [Act.put, List.setIfInBounds_toArray, List.set_cons_zero, List.set_cons_succ]
                  refine take_at (i := 4) 68 (.agg #[.int .i64 z.nt, .int .i64 z.nr]) rfl rfl (by kernel_rfl) (by kernel_rfl) (by kernel_rfl) (fun _ _ _ h => h) (yields_ld (.tmp 67) 31 (.pointer (some ⟨og, ok2 + j * 9 + 3, none⟩)) _ LN.out rfl rfl rfl) BV.out ?_
                  simp only [Act.put, List.setIfInBounds_toArray, List.set_cons_zero, List.set_cons_succ]
                  refine take_at (i := 5) 69 ?_ rfl rfl (by kernel_rfl) (by kernel_rfl) (by kernel_rfl) (fun _ _ _ h => h) (.inl ⟨rfl, ?_⟩) BV.out ?_
                  rotate_left 1
                  · intro w hSw; go_simp; try with_reducible rfl
                  simp only [Act.put, List.setIfInBounds_toArray, List.set_cons_zero, List.set_cons_succ]
                  refine take_at (i := 6) 70 ?_ rfl rfl (by kernel_rfl) (by kernel_rfl) (by kernel_rfl) (fun _ _ _ h => h) (.inl ⟨rfl, ?_⟩) BV.out ?_
                  rotate_left 1
                  · intro w hSw; go_simp; try with_reducible rfl
                  simp only [Act.put, List.setIfInBounds_toArray, List.set_cons_zero, List.set_cons_succ]
                  refine take_at (i := 7) 71 (.pointer (some ⟨g, o + i * 2, none⟩)) rfl rfl (by kernel_rfl) (by kernel_rfl) (by kernel_rfl) (fun _ _ _ h => h) (yields_ix (.tmp 69) (.tmp 70) 34 (.slice (some ⟨g, o, none⟩) T.length nc) (.int .i64 (i : Int)) _ IS.out rfl rfl rfl rfl) BV.out ?_
                  simp only [Act.put, List.setIfInBounds_toArray, List.set_cons_zero, List.set_cons_succ]
                  refine take_at (i := 8) 72 (.agg #[.int .i64 x.t, .int .i64 x.r]) rfl rfl (by kernel_rfl) (by kernel_rfl) (by kernel_rfl) (fun _ _ _ h => h) (yields_ld (.tmp 71) 31 (.pointer (some ⟨g, o + i * 2, none⟩)) _ LSW.out rfl rfl rfl) BV.out ?_
                  simp only [Act.put, List.setIfInBounds_toArray, List.set_cons_zero, List.set_cons_succ]
                  refine take_at (i := 9) 73 (.bool false) rfl rfl (by kernel_rfl) (by kernel_rfl) (by kernel_rfl) (fun _ _ _ h => h) (yields_bin .eql (.tmp 68) (.tmp 72) 31 31 (.agg #[.int .i64 z.nt, .int .i64 z.nr]) (.agg #[.int .i64 x.t, .int .i64 x.r]) _ E24.out (g24 _ _ _ _) rfl rfl rfl rfl) BV.out ?_
                  simp only [Act.put, List.setIfInBounds_toArray, List.set_cons_zero, List.set_cons_succ]
                  refine take_at (i := 10) 74 ?_ rfl rfl (by kernel_rfl) (by kernel_rfl) (by kernel_rfl) (fun _ _ _ h => h) (.inl ⟨rfl, ?_⟩) BV.out ?_
                  rotate_left 1
                  · intro w hSw; go_simp; try with_reducible rfl
                  simp only [Act.put, List.setIfInBounds_toArray, List.set_cons_zero, List.set_cons_succ]
                  refine take_at (i := 11) 75 undef rfl rfl (by kernel_rfl) (by kernel_rfl) (by kernel_rfl) (fun _ _ _ h => h) (.inr ⟨rfl, rfl⟩) BV.out ?_
                  simp only [Act.put, List.setIfInBounds_toArray, List.set_cons_zero, List.set_cons_succ]
                  refine take_at (i := 12) 76 undef rfl rfl (by kernel_rfl) (by kernel_rfl) (by kernel_rfl) (fun _ _ _ h => h) (.inr ⟨rfl, rfl⟩) BV.out ?_
                  simp only [Act.put, List.setIfInBounds_toArray, List.set_cons_zero, List.set_cons_succ]
                  refine take_at (i := 13) 77 undef rfl rfl (by kernel_rfl) (by kernel_rfl) (by kernel_rfl) (fun _ _ _ h => h) (.inr ⟨rfl, rfl⟩) BV.out ?_
                  simp only [Act.put, List.setIfInBounds_toArray, List.set_cons_zero, List.set_cons_succ]
                  refine take_at (i := 14) 78 undef rfl rfl (by kernel_rfl) (by kernel_rfl) (by kernel_rfl) (fun _ _ _ h => h) (.inr ⟨rfl, rfl⟩) BV.out ?_
                  simp only [Act.put, List.setIfInBounds_toArray, List.set_cons_zero, List.set_cons_succ]
                  refine take_at (i := 15) 79 undef rfl rfl (by kernel_rfl) (by kernel_rfl) (by kernel_rfl) (fun _ _ _ h => h) (.inr ⟨rfl, rfl⟩) BV.out ?_
                  simp only [Act.put, List.setIfInBounds_toArray, List.set_cons_zero, List.set_cons_succ]
                  refine take_at (i := 16) 80 undef rfl rfl (by kernel_rfl) (by kernel_rfl) (by kernel_rfl) (fun _ _ _ h => h) (.inr ⟨rfl, rfl⟩) BV.out ?_
                  simp only [Act.put, List.setIfInBounds_toArray, List.set_cons_zero, List.set_cons_succ]
                  refine take_at (i := 17) 81 undef rfl rfl (by kernel_rfl) (by kernel_rfl) (by kernel_rfl) (fun _ _ _ h => h) (.inr ⟨rfl, rfl⟩) BV.out ?_
                  simp only [Act.put, List.setIfInBounds_toArray, List.set_cons_zero, List.set_cons_succ]
                  refine take_at (i := 18) 82 undef rfl rfl (by kernel_rfl) (by kernel_rfl) (by kernel_rfl) (fun _ _ _ h => h) (.inr ⟨rfl, rfl⟩) BV.out ?_
                  simp only [Act.put, List.setIfInBounds_toArray, List.set_cons_zero, List.set_cons_succ]
                  refine take_at (i := 19) 83 ?_ rfl rfl (by kernel_rfl) (by kernel_rfl) (by kernel_rfl) (fun _ _ _ h => h) (.inl ⟨rfl, ?_⟩) BV.out ?_
                  rotate_left 1
                  · intro w hSw; go_simp; try with_reducible rfl
                  simp only [Act.put, List.setIfInBounds_toArray, List.set_cons_zero, List.set_cons_succ]
                  refine wpAnyH_done (by kernel_rfl) ?_ _
                  have KF := Lib.hid (M.out.trans (BV.out.mono M.out.size))
                  clear BV
                  go_wp2
                  go_roundw
                  case rel => exact ⟨j + 1, by first | (rw [HJW.out]; rfl) | go_num, HJ1.out, KF⟩
                  case measure => first | (rw [HJW.out]; exact HJM.out) | exact HJM.out
              · have ej : j = l.length := by omega
                subst ej
                have KF := Lib.hid (HB8.out.trans (M.out.mono HB8.out.size))
                clear M
                go_wp2
                go_roundw
                case rel => exact ⟨i + 1, by first | (rw [HW9.out]; rfl) | go_num, HL1.out, KF⟩
                case measure => first | (rw [HW9.out]; exact HMS.out) | exact HMS.out
          · have p1 : decide (x.pt > 0) = false := decide_eq_false hpt
            have p2 : decide (0 < x.pt) = false := decide_eq_false hpt
            go_upto_region 12 with (fail)
            clear c1 c2 c3 c4 p1 p2 hpt
            generalize wr = wo at *
            go_wp2_with fail
            go_loopw [10] (fun jv wr => ∃ j : Nat, jv = .int .i64 j ∧ j ≤ l.length ∧ Hid (Below w8.heap.size w8 wr)) (fun jv _ => l.length - (intOf jv).toNat)
            case atStart => exact ⟨0, rfl, Nat.zero_le _, J1⟩
            case round =>
              clear J1
              obtain ⟨j, rfl, hj, M⟩ := hrel
              by_cases hjt : j < l.length
              · have hj0 : (0 : Int) ≤ (j : Int) := by omega
                have hj1 : (j : Int) < (l.length : Int) := by omega
                have hjd : decide ((j : Int) < (l.length : Int)) = true := decide_eq_true hj1
                have HJ1 := Lib.hid (show j + 1 ≤ l.length from hjt)
                have HJW := Lib.hid (wrap_nat hjt (by have := HLL.out; omega))
                have HJM := Lib.hid (meas_nat hjt)
                obtain ⟨og, ok2, z, e7, hz, hg2, hc⟩ := (H.out.step (B3.out.trans ((HB8.out.trans (M.out.mono HB8.out.size)).mono B3.out.size))).atK hjt
                subst e7
                have ZM := Lib.hid (List.mem_of_getElem? hz)
                have LN := Lib.hid (fun W (hb : Below wr.heap.size wr W) => @ld24 W og (ok2 + j * 9 + 3) z.nt z.nr ((hb.cell (p := ⟨og, ok2 + j * 9 + 3, none⟩) hg2).trans (hc 3 _ rfl)) ((hb.cell (p := ⟨og, ok2 + j * 9 + 4, none⟩) hg2).trans (hc 4 _ rfl)))
                have LD := Lib.hid (fun W (hb : Below wr.heap.size wr W) => @ld4b W og (ok2 + j * 9 + 8) z.d ((hb.cell (p := ⟨og, ok2 + j * 9 + 8, none⟩) hg2).trans (hc 8 _ rfl)))
                have LE := Lib.hid (fun W (hb : Below wr.heap.size wr W) => @ld4b W k6 (0 + 3) x.d (en_d (E6.out.step (M.out.trans (hb.mono M.out.size)))))
                have LSW := Lib.hid (fun W (hb : Below wr.heap.size wr W) => LS.out W ((HBB.out.trans (M.out.mono HBB.out.size)).trans (hb.mono (HBB.out.trans (M.out.mono HBB.out.size)).size)))
                have IO := Lib.hid (fun W => @ix30 og ok2 l.length cap j hjt W)
                have IS := Lib.hid (fun W => @ix52 g o T.length nc i HLT.out W)
                clear hz hg2 hc
                by_cases he : z.nt = x.t ∧ z.nr = x.r
                · have E24 := Lib.hid (fun W => (eq24 z.nt z.nr x.t x.r W).trans (by rw [decide_eq_true he]))
                  have ED := Lib.hid (show z.d = x.d from XT.out.2 z ZM.out he.1 he.2)
                  simp only [ED.out] at LD
                  clear he
                  go_upto_region 15 with (fail)
                  refine wp_region_held_drew (S := fun w' => Below wr.heap.size wr w') (by kernel_rfl) (Below.refl _ _).drew (fun hHeld => ?_)
                  have BV := Lib.hid (show Below wr.heap.size wr wr.drew from (Below.refl _ _).drew)
                  clear hHeld
                  refine take_at (i := 0) 64 ?_ rfl rfl (by kernel_rfl) (by kernel_rfl) (by kernel_rfl) (fun _ _ _ h => h) (.inl ⟨rfl, ?_⟩) BV.out ?_
                  rotate_left 1
                  · intro w hSw; go_simp; try with_reducible rfl
                  simp only [Act.put, List.setIfInBounds_toArray, List.set_cons_zero, List.set_cons_succ]
                  refine take_at (i := 1) 65 ?_ rfl rfl (by kernel_rfl) (by kernel_rfl) (by kernel_rfl) (fun _ _ _ h => h) (.inl ⟨rfl, ?_⟩) BV.out ?_
                  rotate_left 1
                  · intro w hSw; go_simp; try with_reducible rfl
                  simp only [Act.put, List.setIfInBounds_toArray, List.set_cons_zero, List.set_cons_succ]
                  refine take_at (i := 2) 66 (.pointer (some ⟨og, ok2 + j * 9, none⟩)) rfl rfl (by kernel_rfl) (by kernel_rfl) (by kernel_rfl) (fun _ _ _ h => h) (yields_ix (.tmp 64) (.tmp 65) 22 (.slice (some ⟨og, ok2, none⟩) l.length cap) (.int .i64 (j : Int)) _ IO.out rfl rfl rfl rfl) BV.out ?_
                  simp only [Act.put, List.setIfInBounds_toArray, List.set_cons_zero, List.set_cons_succ]
                  refine take_at (i := 3) 67 ?_ rfl rfl (by kernel_rfl) (by kernel_rfl) (by kernel_rfl) (fun _ _ _ h => h) (.inl ⟨rfl, ?_⟩) BV.out ?_
                  rotate_left 1
                  · intro w hSw; go_simp; try with_reducible rfl
                  simp only [Act.put, List.setIfInBounds_toArray, List.set_cons_zero, List.set_cons_succ]
                  refine take_at (i := 4) 68 (.agg #[.int .i64 z.nt, .int .i64 z.nr]) rfl rfl (by kernel_rfl) (by kernel_rfl) (by kernel_rfl) (fun _ _ _ h => h) (yields_ld (.tmp 67) 31 (.pointer (some ⟨og, ok2 + j * 9 + 3, none⟩)) _ LN.out rfl rfl rfl) BV.out ?_
                  simp only [Act.put, List.setIfInBounds_toArray, List.set_cons_zero, List.set_cons_succ]
                  refine take_at (i := 5) 69 ?_ rfl rfl (by kernel_rfl) (by kernel_rfl) (by kernel_rfl) (fun _ _ _ h => h) (.inl ⟨rfl, ?_⟩) BV.out ?_
                  rotate_left 1
                  · intro w hSw; go_simp; try with_reducible rfl
                  simp only [Act.put, List.setIfInBounds_toArray, List.set_cons_zero, List.set_cons_succ]
                  refine take_at (i := 6) 70 ?_ rfl rfl (by kernel_rfl) (by kernel_rfl) (by kernel_rfl) (fun _ _ _ h => h) (.inl ⟨rfl, ?_⟩) BV.out ?_
                  rotate_left 1
                  · intro w hSw; go_simp; try with_reducible rfl
                  simp only [Act.put, List.setIfInBounds_toArray, List.set_cons_zero, List.set_cons_succ]
                  refine take_at (i := 7) 71 (.pointer (some ⟨g, o + i * 2, none⟩)) rfl rfl (by kernel_rfl) (by kernel_rfl) (by kernel_rfl) (fun _ _ _ h => h) (yields_ix (.tmp 69) (.tmp 70) 34 (.slice (some ⟨g, o, none⟩) T.length nc) (.int .i64 (i : Int)) _ IS.out rfl rfl rfl rfl) BV.out ?_
                  simp only [Act.put, List.setIfInBounds_toArray, List.set_cons_zero, List.set_cons_succ]
                  refine take_at (i := 8) 72 (.agg #[.int .i64 x.t, .int .i64 x.r]) rfl rfl (by kernel_rfl) (by kernel_rfl) (by kernel_rfl) (fun _ _ _ h => h) (yields_ld (.tmp 71) 31 (.pointer (some ⟨g, o + i * 2, none⟩)) _ LSW.out rfl rfl rfl) BV.out ?_
                  simp only [Act.put, List.setIfInBounds_toArray, List.set_cons_zero, List.set_cons_succ]
                  refine take_at (i := 9) 73 (.bool true) rfl rfl (by kernel_rfl) (by kernel_rfl) (by kernel_rfl) (fun _ _ _ h => h) (yields_bin .eql (.tmp 68) (.tmp 72) 31 31 (.agg #[.int .i64 z.nt, .int .i64 z.nr]) (.agg #[.int .i64 x.t, .int .i64 x.r]) _ E24.out (g24 _ _ _ _) rfl rfl rfl rfl) BV.out ?_
                  simp only [Act.put, List.setIfInBounds_toArray, List.set_cons_zero, List.set_cons_succ]
                  refine take_at (i := 10) 74 ?_ rfl rfl (by kernel_rfl) (by kernel_rfl) (by kernel_rfl) (fun _ _ _ h => h) (.inl ⟨rfl, ?_⟩) BV.out ?_
                  rotate_left 1
                  · intro w hSw; go_simp; try with_reducible rfl
                  simp only [Act.put, List.setIfInBounds_toArray, List.set_cons_zero, List.set_cons_succ]
                  refine take_at (i := 11) 75 ?_ rfl rfl (by kernel_rfl) (by kernel_rfl) (by kernel_rfl) (fun _ _ _ h => h) (.inl ⟨rfl, ?_⟩) BV.out ?_
                  rotate_left 1
                  · intro w hSw; go_simp; try with_reducible rfl
                  simp only [Act.put, List.setIfInBounds_toArray, List.set_cons_zero, List.set_cons_succ]
                  refine take_at (i := 12) 76 ?_ rfl rfl (by kernel_rfl) (by kernel_rfl) (by kernel_rfl) (fun _ _ _ h => h) (.inl ⟨rfl, ?_⟩) BV.out ?_
                  rotate_left 1
                  · intro w hSw; go_simp; try with_reducible rfl
                  simp only [Act.put, List.setIfInBounds_toArray, List.set_cons_zero, List.set_cons_succ]
                  refine take_at (i := 13) 77 (.pointer (some ⟨og, ok2 + j * 9, none⟩)) rfl rfl (by kernel_rfl) (by kernel_rfl) (by kernel_rfl) (fun _ _ _ h => h) (yields_ix (.tmp 75) (.tmp 76) 22 (.slice (some ⟨og, ok2, none⟩) l.length cap) (.int .i64 (j : Int)) _ IO.out rfl rfl rfl rfl) BV.out ?_
                  simp only [Act.put, List.setIfInBounds_toArray, List.set_cons_zero, List.set_cons_succ]
                  refine take_at (i := 14) 78 ?_ rfl rfl (by kernel_rfl) (by kernel_rfl) (by kernel_rfl) (fun _ _ _ h => h) (.inl ⟨rfl, ?_⟩) BV.out ?_
                  rotate_left 1
                  · intro w hSw; go_simp; try with_reducible rfl
                  simp only [Act.put, List.setIfInBounds_toArray, List.set_cons_zero, List.set_cons_succ]
                  refine take_at (i := 15) 79 (.bool x.d) rfl rfl (by kernel_rfl) (by kernel_rfl) (by kernel_rfl) (fun _ _ _ h => h) (yields_ld (.tmp 78) 4 (.pointer (some ⟨og, ok2 + j * 9 + 8, none⟩)) _ LD.out rfl rfl rfl) BV.out ?_
                  simp only [Act.put, List.setIfInBounds_toArray, List.set_cons_zero, List.set_cons_succ]
                  refine take_at (i := 16) 80 ?_ rfl rfl (by kernel_rfl) (by kernel_rfl) (by kernel_rfl) (fun _ _ _ h => h) (.inl ⟨rfl, ?_⟩) BV.out ?_
                  rotate_left 1
                  · intro w hSw; go_simp; try with_reducible rfl
                  simp only [Act.put, List.setIfInBounds_toArray, List.set_cons_zero, List.set_cons_succ]
                  refine take_at (i := 17) 81 (.bool x.d) rfl rfl (by kernel_rfl) (by kernel_rfl) (by kernel_rfl) (fun _ _ _ h => h) (yields_ld (.tmp 80) 4 (.pointer (some ⟨k6, 0 + 3, none⟩)) _ LE.out rfl rfl rfl) BV.out ?_
                  simp only [Act.put, List.setIfInBounds_toArray, List.set_cons_zero, List.set_cons_succ]
                  refine take_at (i := 18) 82 (.bool false) rfl rfl (by kernel_rfl) (by kernel_rfl) (by kernel_rfl) (fun _ _ _ h => h) (yields_bin .neq (.tmp 79) (.tmp 81) 4 4 (.bool x.d) (.bool x.d) _ (ne4 x.d) (gne4 _ _ _ _) rfl rfl rfl rfl) BV.out ?_
                  simp only [Act.put, List.setIfInBounds_toArray, List.set_cons_zero, List.set_cons_succ]
                  refine take_at (i := 19) 83 ?_ rfl rfl (by kernel_rfl) (by kernel_rfl) (by kernel_rfl) (fun _ _ _ h => h) (.inl ⟨rfl, ?_⟩) BV.out ?_
                  rotate_left 1
                  · intro w hSw; go_simp; try with_reducible rfl
                  simp only [Act.put, List.setIfInBounds_toArray, List.set_cons_zero, List.set_cons_succ]
                  refine wpAnyH_done (by kernel_rfl) ?_ _
                  have KF := Lib.hid (M.out.trans (BV.out.mono M.out.size))
                  clear BV
                  go_wp2
                  go_roundw
                  case rel => exact ⟨j + 1, by first | (rw [HJW.out]; rfl) | go_num, HJ1.out, KF⟩
                  case measure => first | (rw [HJW.out]; exact HJM.out) | exact HJM.out
                · have E24 := Lib.hid (fun W => (eq24 z.nt z.nr x.t x.r W).trans (by rw [decide_eq_false he]))
                  clear he
                  go_upto_region 15 with (fail)
                  refine wp_region_held_drew (S := fun w' => Below wr.heap.size wr w') (by kernel_rfl) (Below.refl _ _).drew (fun hHeld => ?_)
                  have BV := Lib.hid (show Below wr.heap.size wr wr.drew from (Below.refl _ _).drew)
                  clear hHeld
                  refine take_at (i := 0) 64 ?_ rfl rfl (by kernel_rfl) (by kernel_rfl) (by kernel_rfl) (fun _ _ _ h => h) (.inl ⟨rfl, ?_⟩) BV.out ?_
                  rotate_left 1
                  · intro w hSw; go_simp; try with_reducible rfl
                  simp only [Act.put, List.setIfInBounds_toArray, List.set_cons_zero, List.set_cons_succ]
                  refine take_at (i := 1) 65 ?_ rfl rfl (by kernel_rfl) (by kernel_rfl) (by kernel_rfl) (fun _ _ _ h => h) (.inl ⟨rfl, ?_⟩) BV.out ?_
                  rotate_left 1
                  · intro w hSw; go_simp; try with_reducible rfl
                  simp only [Act.put, List.setIfInBounds_toArray, List.set_cons_zero, List.set_cons_succ]
                  refine take_at (i := 2) 66 (.pointer (some ⟨og, ok2 + j * 9, none⟩)) rfl rfl (by kernel_rfl) (by kernel_rfl) (by kernel_rfl) (fun _ _ _ h => h) (yields_ix (.tmp 64) (.tmp 65) 22 (.slice (some ⟨og, ok2, none⟩) l.length cap) (.int .i64 (j : Int)) _ IO.out rfl rfl rfl rfl) BV.out ?_
                  simp only [Act.put, List.setIfInBounds_toArray, List.set_cons_zero, List.set_cons_succ]
                  refine take_at (i := 3) 67 ?_ rfl rfl (by kernel_rfl) (by kernel_rfl) (by kernel_rfl) (fun _ _ _ h => h) (.inl ⟨rfl, ?_⟩) BV.out ?_
                  rotate_left 1
                  · intro w hSw; go_simp; try with_reducible rfl
                  simp only [Act.put, List.setIfInBounds_toArray, List.set_cons_zero, List.set_cons_succ]
                  refine take_at (i := 4) 68 (.agg #[.int .i64 z.nt, .int .i64 z.nr]) rfl rfl (by kernel_rfl) (by kernel_rfl) (by kernel_rfl) (fun _ _ _ h => h) (yields_ld (.tmp 67) 31 (.pointer (some ⟨og, ok2 + j * 9 + 3, none⟩)) _ LN.out rfl rfl rfl) BV.out ?_
                  simp only [Act.put, List.setIfInBounds_toArray, List.set_cons_zero, List.set_cons_succ]
                  refine take_at (i := 5) 69 ?_ rfl rfl (by kernel_rfl) (by kernel_rfl) (by kernel_rfl) (fun _ _ _ h => h) (.inl ⟨rfl, ?_⟩) BV.out ?_
                  rotate_left 1
                  · intro w hSw; go_simp; try with_reducible rfl
                  simp only [Act.put, List.setIfInBounds_toArray, List.set_cons_zero, List.set_cons_succ]
                  refine take_at (i := 6) 70 ?_ rfl rfl (by kernel_rfl) (by kernel_rfl) (by kernel_rfl) (fun _ _ _ h => h) (.inl ⟨rfl, ?_⟩) BV.out ?_
                  rotate_left 1
                  · intro w hSw; go_simp; try with_reducible rfl
                  simp only [Act.put, List.setIfInBounds_toArray, List.set_cons_zero, List.set_cons_succ]
                  refine take_at (i := 7) 71 (.pointer (some ⟨g, o + i * 2, none⟩)) rfl rfl (by kernel_rfl) (by kernel_rfl) (by kernel_rfl) (fun _ _ _ h => h) (yields_ix (.tmp 69) (.tmp 70) 34 (.slice (some ⟨g, o, none⟩) T.length nc) (.int .i64 (i : Int)) _ IS.out rfl rfl rfl rfl) BV.out ?_
                  simp only [Act.put, List.setIfInBounds_toArray, List.set_cons_zero, List.set_cons_succ]
                  refine take_at (i := 8) 72 (.agg #[.int .i64 x.t, .int .i64 x.r]) rfl rfl (by kernel_rfl) (by kernel_rfl) (by kernel_rfl) (fun _ _ _ h => h) (yields_ld (.tmp 71) 31 (.pointer (some ⟨g, o + i * 2, none⟩)) _ LSW.out rfl rfl rfl) BV.out ?_
                  simp only [Act.put, List.setIfInBounds_toArray, List.set_cons_zero, List.set_cons_succ]
                  refine take_at (i := 9) 73 (.bool false) rfl rfl (by kernel_rfl) (by kernel_rfl) (by kernel_rfl) (fun _ _ _ h => h) (yields_bin .eql (.tmp 68) (.tmp 72) 31 31 (.agg #[.int .i64 z.nt, .int .i64 z.nr]) (.agg #[.int .i64 x.t, .int .i64 x.r]) _ E24.out (g24 _ _ _ _) rfl rfl rfl rfl) BV.out ?_
                  simp only [Act.put, List.setIfInBounds_toArray, List.set_cons_zero, List.set_cons_succ]
                  refine take_at (i := 10) 74 ?_ rfl rfl (by kernel_rfl) (by kernel_rfl) (by kernel_rfl) (fun _ _ _ h => h) (.inl ⟨rfl, ?_⟩) BV.out ?_
                  rotate_left 1
                  · intro w hSw; go_simp; try with_reducible rfl
                  simp only [Act.put, List.setIfInBounds_toArray, List.set_cons_zero, List.set_cons_succ]
                  refine take_at (i := 11) 75 undef rfl rfl (by kernel_rfl) (by kernel_rfl) (by kernel_rfl) (fun _ _ _ h => h) (.inr ⟨rfl, rfl⟩) BV.out ?_
                  simp only [Act.put, List.setIfInBounds_toArray, List.set_cons_zero, List.set_cons_succ]
                  refine take_at (i := 12) 76 undef rfl rfl (by kernel_rfl) (by kernel_rfl) (by kernel_rfl) (fun _ _ _ h => h) (.inr ⟨rfl, rfl⟩) BV.out ?_
                  simp only [Act.put, List.setIfInBounds_toArray, List.set_cons_zero, List.set_cons_succ]
                  refine take_at (i := 13) 77 undef rfl rfl (by kernel_rfl) (by kernel_rfl) (by kernel_rfl) (fun _ _ _ h => h) (.inr ⟨rfl, rfl⟩) BV.out ?_
                  simp only [Act.put, List.setIfInBounds_toArray, List.set_cons_zero, List.set_cons_succ]
                  refine take_at (i := 14) 78 undef rfl rfl (by kernel_rfl) (by kernel_rfl) (by kernel_rfl) (fun _ _ _ h => h) (.inr ⟨rfl, rfl⟩) BV.out ?_
                  simp only [Act.put, List.setIfInBounds_toArray, List.set_cons_zero, List.set_cons_succ]
                  refine take_at (i := 15) 79 undef rfl rfl (by kernel_rfl) (by kernel_rfl) (by kernel_rfl) (fun _ _ _ h => h) (.inr ⟨rfl, rfl⟩) BV.out ?_
                  simp only [Act.put, List.setIfInBounds_toArray, List.set_cons_zero, List.set_cons_succ]
                  refine take_at (i := 16) 80 undef rfl rfl (by kernel_rfl) (by kernel_rfl) (by kernel_rfl) (fun _ _ _ h => h) (.inr ⟨rfl, rfl⟩) BV.out ?_
                  simp only [Act.put, List.setIfInBounds_toArray, List.set_cons_zero, List.set_cons_succ]
                  refine take_at (i := 17) 81 undef rfl rfl (by kernel_rfl) (by kernel_rfl) (by kernel_rfl) (fun _ _ _ h => h) (.inr ⟨rfl, rfl⟩) BV.out ?_
                  simp only [Act.put, List.setIfInBounds_toArray, List.set_cons_zero, List.set_cons_succ]
                  refine take_at (i := 18) 82 undef rfl rfl (by kernel_rfl) (by kernel_rfl) (by kernel_rfl) (fun _ _ _ h => h) (.inr ⟨rfl, rfl⟩) BV.out ?_
                  simp only [Act.put, List.setIfInBounds_toArray, List.set_cons_zero, List.set_cons_succ]
                  refine take_at (i := 19) 83 ?_ rfl rfl (by kernel_rfl) (by kernel_rfl) (by kernel_rfl) (fun _ _ _ h => h) (.inl ⟨rfl, ?_⟩) BV.out ?_
                  rotate_left 1
                  · intro w hSw; go_simp; try with_reducible rfl
                  simp only [Act.put, List.setIfInBounds_toArray, List.set_cons_zero, List.set_cons_succ]
                  refine wpAnyH_done (by kernel_rfl) ?_ _
                  have KF := Lib.hid (M.out.trans (BV.out.mono M.out.size))
                  clear BV
                  go_wp2
                  go_roundw
                  case rel => exact ⟨j + 1, by first | (rw [HJW.out]; rfl) | go_num, HJ1.out, KF⟩
                  case measure => first | (rw [HJW.out]; exact HJM.out) | exact HJM.out
              · have ej : j = l.length := by omega
                subst ej
                have KF := Lib.hid (HB8.out.trans (M.out.mono HB8.out.size))
                clear M
                go_wp2
                go_roundw
                case rel => exact ⟨i + 1, by first | (rw [HW9.out]; rfl) | go_num, HL1.out, KF⟩
                case measure => first | (rw [HW9.out]; exact HMS.out) | exact HMS.out
        · have ei : i = T.length := by omega
          subst ei
          have BW := Lib.hid (B3.out.trans (K.out.mono B3.out.size))
          have C22 := Lib.hid (rhonest_any wr _ l (H.out.step BW.out) HSZ.out HLL.out)
          rw [hon_same, HHP.out] at C22
          clear K HT RS TL OK TI SK NL
          go_wp2_with fail
          refine C22.out.mono ?_
          rintro e w9 ⟨rfl, hb⟩
          have B9 := Lib.hid (BW.out.trans (hb.mono BW.out.size))
          clear hb C22
          go_wp2_with fail
          refine (AW.out w9).mono ?_
          rintro e w10 ⟨rfl, hb⟩
          have B10 := Lib.hid (B9.out.trans (hb.mono B9.out.size))
          clear hb AW
          go_wp2
          go_returns
          exact ⟨rfl, B10.out⟩
end Go.Proofs.YtbeodechhneeeaaGreatDoor
