/- GapPlays' law. Made by gengy28.py, with tools/drawn.py. -/
import Derived.Test.YtgnnpfainoppeaaGXP
set_option linter.unusedVariables false
set_option linter.unusedSimpArgs false
set_option maxRecDepth 100000
namespace Go.Proofs.Ytgnnpfainoppeaa
open Go.RowKit Go.WideMaps Go.Maps
open Ve (zs zs_len vw va RightP cs3 cs3_append LiesO madeF)

/-- The law's world: the gap and the reference's list. -/
structure PW (w W : World) (p b k : Nat) (l lr : List O) (vv : List Int) (rv : Value) : Prop where
  lw : LW w W p b k l vv
  row : W.ownsRow w.heap.size 35 9 rv lr.length (cs9 lr)
theorem PW.step {w W W' : World} {p b k : Nat} {l lr : List O} {vv : List Int} {rv : Value} (h : PW w W p b k l lr vv rv) (hb : Below W.heap.size W W') : PW w W' p b k l lr vv rv :=
  ⟨h.lw.step hb, own_keep h.row hb⟩
theorem PW.out {w W W' : World} {p b k : Nat} {l l' lr : List O} {vv : List Int} {rv : Value} (h : PW w W p b k l lr vv rv) (ho : GOut W W' p b l') : PW w W' p b k l' lr vv rv :=
  ⟨h.lw.out ho, h.lw.row h.row ho.grow⟩
theorem len_law (W : World) {w : World} {p b k : Nat} {l lr : List O} {vv : List Int} {rv : Value} (h : PW w W p b k l lr vv rv) : Calls Try.prog 17 #[pv p] W fun e w' => e = .returned (.int .i64 (l.length : Int)) ∧ Below W.heap.size W w' := by
  refine (len_any W p b l h.lw.gap).mono ?_
  rintro e w' ⟨rfl, rfl⟩
  exact ⟨rfl, Below.refl _ _⟩
theorem all_law (W : World) {w : World} {p b k : Nat} {l lr : List O} {vv : List Int} {rv : Value} (h : PW w W p b k l lr vv rv) (hl : l.length < 100000) : Calls Try.prog 16 #[pv p] W fun e w' => ∃ a c, e = .returned (.slice a l.length c) ∧ Below W.heap.size W w' ∧ w'.ownsRow W.heap.size 35 9 (.slice a l.length c) l.length (cs9 l) := by
  refine (all_any W p b l h.lw.gap hl).mono ?_
  rintro e w' ⟨v, rfl, ho, hb⟩
  obtain ⟨a, c, rfl⟩ := Ve.own_shape ho
  exact ⟨a, c, rfl, hb, ho⟩
/-- With what is taken. -/
structure PQ (w W : World) (p b k : Nat) (l lr : List O) (vv : List Int) (rv : Value) (lt : List O) (v3 : Value) : Prop where
  pw : PW w W p b k l lr vv rv
  tk : ∃ B, W.ownsRow B 35 9 v3 lt.length (cs9 lt)
theorem PQ.step {w W W' : World} {p b k : Nat} {l lr : List O} {vv : List Int} {rv : Value} {lt : List O} {v3 : Value} (h : PQ w W p b k l lr vv rv lt v3) (hb : Below W.heap.size W W') : PQ w W' p b k l lr vv rv lt v3 :=
  ⟨h.pw.step hb, by obtain ⟨B, h⟩ := h.tk; exact ⟨B, own_keep h hb⟩⟩
/-- Between two rounds: no box yet. -/
structure PR (w W : World) (p b : Nat) (l : List O) (rv : Value) : Prop where
  bel : Below w.heap.size w W
  gap : GapI W p b l
  lo : w.heap.size ≤ b
  row : W.ownsRow w.heap.size 35 9 rv l.length (cs9 l)
  ok : OkO l
theorem PR.step {w W W' : World} {p b : Nat} {l : List O} {rv : Value} (h : PR w W p b l rv) (hb : Below W.heap.size W W') : PR w W' p b l rv :=
  ⟨h.bel.trans (hb.mono h.bel.size), h.gap.step hb, h.lo, own_keep h.row hb, h.ok⟩
set_option maxHeartbeats 12800000 in
theorem plays_law (w : World) (v : Value) (acts : List GA) (h : ALies w v acts) : Calls Try.prog 3 #[v] w fun e w' => e = .returned (.bool true) ∧ Below w.heap.size w w' := by
  have H := Lib.hid h
  have hl : acts.length ≤ 9223372036854775807 := by obtain ⟨_, _, _, h, _⟩ := h; exact h
  have LG := Lib.hid (long_any w v acts h)
  have AWK := Lib.hid (fun W => awake_any W)
  obtain ⟨ao, cap, rfl⟩ : ∃ ao cap, v = .slice ao acts.length cap := by obtain ⟨ao, cap, e, _⟩ := h; exact ⟨ao, cap, e⟩
  clear h
  go_enter Try.func3, Try.ntmps3
  go_wp2_with fail
  refine LG.out.mono ?_
  rintro e w1 ⟨rfl, hb1⟩
  have B1 := Lib.hid hb1
  clear hb1 LG
  cases hlong : longB acts with
  | true =>
    go_wp2_with fail
    refine (AWK.out _).mono ?_
    rintro e w2 ⟨rfl, hb⟩
    have FIN := Lib.hid (B1.out.trans (hb.mono B1.out.size))
    clear hb
    go_wp2
    go_returns
    exact ⟨rfl, FIN.out⟩
  | false =>
    have NL := Lib.hid (fun (i : Nat) (hi : i < 40) (p : GA) (hp : acts[i]? = some p) => longB_no hlong hi hp)
    clear hlong
    have NW := Lib.hid (new_any w1)
    go_wp2_with fail
    refine NW.out.mono ?_
    rintro e w2 ⟨p, b, rfl, h1, h2, h3, hb⟩
    have K0 := Lib.hid (show PR w w2 p b [] (.slice none 0 0) from ⟨B1.out.trans (hb.mono B1.out.size), h1, Nat.le_trans B1.out.size h3, World.ownsRow_nil _ _ _ _, ok_nil⟩)
    clear h1 h2 h3 hb NW B1
    go_wp2
    go_loopw [4, 5] (fun rv iv wr => ∃ (i : Nat) (l : List O), iv = .int .i64 i ∧ i ≤ 40 ∧ i ≤ acts.length ∧ rv = rv ∧ Hid (l.length ≤ i) ∧ Hid (PR w wr p b l rv)) (fun _ iv _ => 40 - (intOf iv).toNat)
    case atStart => exact ⟨0, [], rfl, Nat.zero_le _, Nat.zero_le _, rfl, Lib.hid (Nat.zero_le _), K0⟩
    case round =>
      obtain ⟨i, l, rfl, hi40, hiA, _, LN, K1⟩ := hrel
      obtain ⟨ra, rc, hre⟩ := Ve.own_shape K1.out.row
      subst hre
      by_cases hlt : i < acts.length ∧ i < 40
      · obtain ⟨h1, h2⟩ := hlt
        obtain ⟨a, ha⟩ : ∃ a, acts[i]? = some a := ⟨_, List.getElem?_eq_getElem h1⟩
        obtain ⟨g, off, rfl, d0, d1, _, _⟩ := H.out.at K1.out.bel ha
        have HA := Lib.hid (fun W (hb : Below w.heap.size w W) => (show W.cell? ⟨g, off + i * 12, none⟩ = some (.int .i64 a.kd) ∧ (Instr.loadAt 35 (pvo g (off + i * 12 + 2))).run Try.prog W = .ok (oV a.o) W ∧ (Instr.loadAt 3 (pvo g (off + i * 12 + 11))).run Try.prog W = .ok (.int .i64 a.m) W from by
          obtain ⟨g', off', e, q0, _, q2, q3⟩ := H.out.at hb ha
          injection e with e
          injection e with e1 e2
          subst e1 e2
          exact ⟨q0, ldO q2, by go_simp⟩))
        have BD := Lib.hid (NL.out i h2 a ha)
        have MD := Lib.hid (show Calls Try.prog 9 #[a.v] wr fun e w' => e = .returned (.agg (va (madeF a.vl))) ∧ Below wr.heap.size wr w' from Ve.Made_any wr a.v a.vl (H.out.known K1.out.bel ha))
        have VL := Lib.hid (made_len a.vl)
        have VR := Lib.hid BD.out.2
        have ON := Lib.hid (show a.o.nm.size ≤ 1000000 by have := BD.out.1; omega)
        have hpv : a.v = .slice a.va a.vn a.vc := rfl
        rw [hpv] at d1 MD
        obtain ⟨pa, hpa⟩ : ∃ z, a.va = z := ⟨_, rfl⟩
        obtain ⟨pn, hpn⟩ : ∃ z, a.vn = z := ⟨_, rfl⟩
        obtain ⟨pc, hpc⟩ : ∃ z, a.vc = z := ⟨_, rfl⟩
        rw [hpa, hpn, hpc] at d1 MD
        obtain ⟨vv, hvv⟩ : ∃ z, madeF a.vl = z := ⟨_, rfl⟩
        rw [hvv] at MD VL VR
        have hi0 : (0 : Int) ≤ (i : Int) := by omega
        have hi1 : (i : Int) < (acts.length : Int) := by omega
        have hi2 : (i : Int) < 40 := by omega
        have IXA := Lib.hid (fun W => show (Instr.indexAt 22 (.slice (some ⟨g, off, none⟩) acts.length cap) (.int .i64 (i : Int))).run Try.prog W = .ok (pvo g (off + i * 12)) W from by go_simp)
        have AL := Lib.hid (fun W => Ve.alloc_va Ve.z24 W)
        have SV := Lib.hid (fun (W : World) => Ve.store_va Ve.v24 (W.alloc (.cells (va zs) 29)) W.heap.size (va zs) (by rw [Ve.va_size, zs_len]) vv VL.out (heap_alloc_new W _))
        have LW0 := Lib.hid (fun (W2 : World) (h : PR w W2 p b l (.slice ra l.length rc)) =>
          (show PW w ((W2.alloc (.cells (va zs) 29)).setRow W2.heap.size (va vv)) p b W2.heap.size l l vv (.slice ra l.length rc) from by
            have hb := vstep W2 (.cells (va zs) 29)
            have hc := Ve.below_setRow hb (Nat.le_refl _) (va vv)
            have hs := h.step hc
            exact ⟨⟨hs.bel, hs.gap, setRow_heap _ _ _ _ _ _ (heap_alloc_new W2 _), h.lo⟩, hs.row⟩))
        have VWS := Lib.hid (fun (W : World) {k : Nat} {l lr : List O} {rv : Value} (h : PW w W p b k l lr vv rv) => (show VS w k (va vv) W from ⟨h.lw.bel, Ve.load_va Ve.v24 W k vv VL.out h.lw.vec⟩))
        have FAR := Lib.hid (fun W k (h : PW w W p b k l l vv (.slice ra l.length rc)) => show Calls Try.prog 10 #[.slice ra l.length rc, .agg (va vv)] W fun e w' => e = .returned (.bool (farF l vv)) ∧ Below W.heap.size W w' from far_any W _ l (own_olies h.row) K1.out.ok vv VL.out VR.out)
        obtain ⟨l2, hl2⟩ : ∃ z, addL l vv a.o = z := ⟨_, rfl⟩
        have OLA := Lib.hid (show OkO l2 ∧ l2.length ≤ i + 1 from by
          rw [← hl2]; exact ⟨ok_add K1.out.ok, by have := add_len K1.out.gap.map.rise (vv := vv) (o := a.o); have := LN.out; omega⟩)
        have RAD := Lib.hid (fun W {k : Nat} (h : PW w W p b k l l vv (.slice ra l.length rc)) => (show Calls Try.prog 11 #[.slice ra l.length rc, .agg (va vv), oV a.o] W fun e w' => ∃ a2 c2, e = .returned (.tuple #[.slice a2 l2.length c2, .int .i64 (addI l vv a.o)]) ∧ PW w w' p b k l l2 vv (.slice a2 l2.length c2) ∧ Below W.heap.size W w' from by
          refine (radd_any W _ l (own_olies h.row) (by have := LN.out; omega) h.lw.gap.map.rise vv VL.out VR.out a.o ON.out).mono ?_
          rintro e w' ⟨v', rfl, hv, hb⟩
          rw [hl2] at hv
          have hs := h.step hb
          rcases hv with ⟨rfl, e⟩ | ho
          · rw [e]; exact ⟨_, _, rfl, hs, hb⟩
          · obtain ⟨a2, c2, rfl⟩ := Ve.own_shape ho
            exact ⟨a2, c2, rfl, ⟨hs.lw, Ve.own_less ho h.lw.bel.size⟩, hb⟩))
        have GAD := Lib.hid (fun W rv {k : Nat} (h : PW w W p b k l l2 vv rv) => (show Calls Try.prog 12 #[pv p, .agg (va vv), oV a.o] W fun e w' => e = .returned (.int .i64 (addI l vv a.o)) ∧ PW w w' p b k l2 l2 vv rv from by
          refine (add_any W p b l h.lw.gap (by have := LN.out; omega) vv VL.out VR.out a.o ON.out).mono ?_
          rintro e w' ⟨rfl, ho⟩
          rw [hl2] at ho
          exact ⟨rfl, h.out ho⟩))
        obtain ⟨AI, hAI⟩ : ∃ z, addI l vv a.o = z := ⟨_, rfl⟩
        rw [hAI] at RAD GAD
        obtain ⟨l2r, hl2r⟩ : ∃ z, (rdyR l (knw vv) a.m).1 = z := ⟨_, rfl⟩
        obtain ⟨l2t, hl2t⟩ : ∃ z, (rdyR l (knw vv) a.m).2 = z := ⟨_, rfl⟩
        have OLR := Lib.hid (show OkO l2r ∧ l2r.length ≤ i + 1 from by
          have := rdy_ok K1.out.gap.map.rise K1.out.ok (knw vv) a.m
          rw [hl2r] at this; exact ⟨this.1, by have := this.2.1; have := LN.out; omega⟩)
        have OL0 := Lib.hid (show OkO l ∧ l.length ≤ i + 1 from ⟨K1.out.ok, by have := LN.out; omega⟩)
        have RRD := Lib.hid (fun W {k : Nat} (h : PW w W p b k l l vv (.slice ra l.length rc)) => (show Calls Try.prog 13 #[.slice ra l.length rc, .agg (va vv), .int .i64 a.m] W fun e w' => ∃ a2 c2 a3 c3, e = .returned (.tuple #[.slice a2 l2r.length c2, .slice a3 l2t.length c3]) ∧ PQ w w' p b k l l2r vv (.slice a2 l2r.length c2) l2t (.slice a3 l2t.length c3) ∧ Below W.heap.size W w' from by
          refine (rready_any W _ l (own_olies h.row) (by have := LN.out; omega) K1.out.ok vv VL.out VR.out a.m).mono ?_
          rintro e w' ⟨v1, v2, rfl, hb, h1, h2⟩
          rw [hl2r] at h1
          rw [hl2t] at h2
          have hs := h.step hb
          obtain ⟨a2, c2, rfl⟩ := Ve.own_shape h1
          obtain ⟨a3, c3, rfl⟩ := Ve.own_shape h2
          exact ⟨a2, c2, a3, c3, rfl, ⟨⟨hs.lw, Ve.own_less h1 h.lw.bel.size⟩, _, h2⟩, hb⟩))
        have GRD := Lib.hid (fun W rv v3 {k : Nat} (h : PQ w W p b k l l2r vv rv l2t v3) => (show Calls Try.prog 15 #[pv p, .agg (va vv), .int .i64 a.m] W fun e w' => ∃ a4 c4, e = .returned (.slice a4 l2t.length c4) ∧ PW w w' p b k l2r l2r vv rv ∧ OLies w' v3 l2t ∧ OLies w' (.slice a4 l2t.length c4) l2t from by
          refine (ready_any W p b l h.pw.lw.gap (by have := LN.out; omega) (fun x hx => (K1.out.ok x hx).1) vv VL.out VR.out a.m).mono ?_
          rintro e w' ⟨v, rfl, ho, h2⟩
          rw [hl2r] at ho
          rw [hl2t] at h2
          obtain ⟨B, h3⟩ := h.tk
          have h3 := own_olies (h.pw.lw.row h3 ho.grow)
          have h4 := own_olies h2
          obtain ⟨a4, c4, rfl⟩ := Ve.own_shape h2
          exact ⟨a4, c4, rfl, h.pw.out ho, h3, h4⟩))
        have SMR := Lib.hid (fun W rv v3 v4 {k : Nat} (h : PW w W p b k l2r l2r vv rv ∧ OLies W v3 l2t ∧ OLies W v4 l2t) => (show Calls Try.prog 14 #[v4, v3] W fun e w' => e = .returned (.bool true) ∧ PW w w' p b k l2r l2r vv rv from by
          refine (same_self W v4 v3 l2t h.2.2 h.2.1).mono ?_
          rintro e w' ⟨rfl, hb⟩
          exact ⟨rfl, h.1.step hb⟩))
        have LCK := Lib.hid (fun W l' rv {k : Nat} (h : PW w W p b k l' l' vv rv) (ok : OkO l' ∧ l'.length ≤ i + 1) => (show Calls Try.prog 19 #[pv p, .agg (va vv)] W fun e w' => ∃ r, e = .returned r ∧ Below W.heap.size W w' ∧ RLies w' r (lckP l' vv) from by
          refine (lacks_any W p b l' h.lw.gap (by have := ok.2; omega) ok.1 vv VL.out VR.out).mono ?_
          rintro e w' ⟨r, rfl, hr, hb⟩
          exact ⟨r, rfl, hb, own_rlies hr⟩))
        have RLC := Lib.hid (fun W l' rv {k : Nat} (h : PW w W p b k l' l' vv rv) (ok : OkO l' ∧ l'.length ≤ i + 1) => (show Calls Try.prog 20 #[rv, .agg (va vv)] W fun e w' => ∃ r, e = .returned r ∧ Below W.heap.size W w' ∧ RLies w' r (lckP l' vv) from by
          have e1 : lckP l' vv = lckR l' (knw vv) := lck_eq h.lw.gap.map.rise (fun o ho => (ok.1 o ho).1) vv VL.out (fun k => by
            rw [List.getD_eq_getElem?_getD]
            cases hx : vv[k]? with
            | none => exact Int.le_refl _
            | some x => exact (VR.out k x hx).1)
          refine (rlacks_any W _ l' (own_olies h.row) ok.1 vv VL.out VR.out).mono ?_
          rintro e w' ⟨r, rfl, hr, hb⟩
          rw [e1]
          exact ⟨r, rfl, hb, own_rlies hr⟩))
        obtain ⟨VM, hVM⟩ : ∃ z, va vv = z := ⟨_, rfl⟩
        obtain ⟨OV, hOV⟩ : ∃ z, oV a.o = z := ⟨_, rfl⟩
        rw [hVM] at MD SV LW0 VWS FAR RAD GAD RRD GRD LCK RLC
        rw [hOV] at HA RAD GAD
        have D0 := Lib.hid d0
        clear hVM hOV hAI hl2 hl2r hl2t ha hpv hpa hpn hpc hvv BD d0
        go_wp2_with fail
        refine MD.out.mono ?_
        rintro e w4 ⟨rfl, hb4⟩
        have KP := Lib.hid (LW0.out w4 (K1.out.step hb4))
        have A4 := Lib.hid (AL.out w4)
        have S4 := Lib.hid (SV.out w4)
        obtain ⟨w5, hw5⟩ : ∃ z, (w4.alloc (.cells (va zs) 29)).setRow w4.heap.size VM = z := ⟨_, rfl⟩
        obtain ⟨wa, hwa⟩ : ∃ z, w4.alloc (.cells (va zs) 29) = z := ⟨_, rfl⟩
        obtain ⟨k, hk⟩ : ∃ z, w4.heap.size = z := ⟨_, rfl⟩
        rw [hw5, hk] at KP
        rw [hwa, hk] at A4 S4 hw5
        rw [hw5] at S4
        clear hb4 hw5 hwa hk MD AL SV LW0 K1 d1
        have LD5 := Lib.hid (VWS.out _ KP.out).2
        have FR := Lib.hid (FAR.out _ _ KP.out)
        clear FAR
        go_wp2_with (first | (refine Ve.wpList_alloc_arr rfl 29 rfl _ _ A4.out ?_; simp only [Act.put, List.setIfInBounds_toArray, List.set_cons_zero, List.set_cons_succ]) | (refine Ve.wpList_store_arr rfl (.tmp 6) (.tmp 30) 29 rfl _ _ rfl rfl _ S4.out ?_; simp only [Act.put, List.setIfInBounds_toArray, List.set_cons_zero, List.set_cons_succ]) | (refine Ve.wpList_load_arr rfl (.tmp 6) 29 rfl _ _ rfl LD5.out ?_; simp only [Act.put, List.setIfInBounds_toArray, List.set_cons_zero, List.set_cons_succ]))
        refine FR.out.mono ?_
        rintro e w6 ⟨rfl, hb⟩
        have K := Lib.hid (KP.out.step hb)
        clear hb KP LD5 FR A4 S4
        cases hf : farF l vv with
        | true =>
          go_wp2_with fail
          refine (AWK.out _).mono ?_
          rintro e w7 ⟨rfl, hb⟩
          have FIN := Lib.hid (K.out.lw.bel.trans (hb.mono K.out.lw.bel.size))
          clear hb
          go_wp2
          go_returns
          exact ⟨rfl, FIN.out⟩
        | false =>
          clear hf
          have d0 := (HA.out _ K.out.lw.bel).1
          have LAO := Lib.hid (fun W (h : VS w k VM W) => (HA.out W h.1).2.1)
          have LAM := Lib.hid (fun W (h : VS w k VM W) => (HA.out W h.1).2.2)
          obtain ⟨kd, hkd⟩ : ∃ z, a.kd = z := ⟨_, rfl⟩
          rw [hkd] at d0
          clear hkd HA D0
          by_cases q0 : kd = 0
          · subst q0
            have OL := Lib.hid OLA.out
            go_upto_region 15 with fail
            have K := Lib.hid (K.out.step (Below.refl w6.heap.size w6).drew)
            refine wp_region_held_drew (S := VS w k VM) (by kernel_rfl) (VWS.out _ K.out) (fun hHeld => ?_)
            have BV := Lib.hid (VWS.out _ K.out)
            clear hHeld
            refine take_at (i := 0) 45 ?_ rfl rfl (by kernel_rfl) (by kernel_rfl) (by kernel_rfl) (fun _ _ _ h => h) (.inl ⟨rfl, ?_⟩) BV.out ?_
            rotate_left 1
            · intro w hSw; go_simp; try with_reducible rfl
            simp only [Act.put, List.setIfInBounds_toArray, List.set_cons_zero, List.set_cons_succ]
            refine take_at (i := 1) 46 (.agg VM) rfl rfl (by kernel_rfl) (by kernel_rfl) (by kernel_rfl) (fun _ _ _ h => h) (yields_ld (.tmp 6) 29 (pvo k 0) _ (fun W h => h.2) rfl rfl rfl) BV.out ?_
            simp only [Act.put, List.setIfInBounds_toArray, List.set_cons_zero, List.set_cons_succ]
            refine take_at (i := 2) 47 ?_ rfl rfl (by kernel_rfl) (by kernel_rfl) (by kernel_rfl) (fun _ _ _ h => h) (.inl ⟨rfl, ?_⟩) BV.out ?_
            rotate_left 1
            · intro w hSw; go_simp; try with_reducible rfl
            simp only [Act.put, List.setIfInBounds_toArray, List.set_cons_zero, List.set_cons_succ]
            refine take_at (i := 3) 48 ?_ rfl rfl (by kernel_rfl) (by kernel_rfl) (by kernel_rfl) (fun _ _ _ h => h) (.inl ⟨rfl, ?_⟩) BV.out ?_
            rotate_left 1
            · intro w hSw; go_simp; try with_reducible rfl
            simp only [Act.put, List.setIfInBounds_toArray, List.set_cons_zero, List.set_cons_succ]
            refine take_at (i := 4) 49 (pvo g (off + i * 12)) rfl rfl (by kernel_rfl) (by kernel_rfl) (by kernel_rfl) (fun _ _ _ h => h) (yields_ix (.tmp 47) (.tmp 48) 22 (.slice (some ⟨g, off, none⟩) acts.length cap) (.int .i64 (i : Int)) _ (fun W => IXA.out W) rfl rfl rfl rfl) BV.out ?_
            simp only [Act.put, List.setIfInBounds_toArray, List.set_cons_zero, List.set_cons_succ]
            refine take_at (i := 5) 50 ?_ rfl rfl (by kernel_rfl) (by kernel_rfl) (by kernel_rfl) (fun _ _ _ h => h) (.inl ⟨rfl, ?_⟩) BV.out ?_
            rotate_left 1
            · intro w hSw; go_simp; try with_reducible rfl
            simp only [Act.put, List.setIfInBounds_toArray, List.set_cons_zero, List.set_cons_succ]
            refine take_at (i := 6) 51 (OV) rfl rfl (by kernel_rfl) (by kernel_rfl) (by kernel_rfl) (fun _ _ _ h => h) (yields_ld (.tmp 50) 35 (pvo g (off + i * 12 + 2)) _ LAO.out rfl rfl rfl) BV.out ?_
            simp only [Act.put, List.setIfInBounds_toArray, List.set_cons_zero, List.set_cons_succ]
            refine wpAnyH_ready (rs := [7]) (by kernel_rfl) (by simp) (br_call (i := 7) 52 11 #[.slice ra l.length rc, .agg VM, OV] rfl rfl rfl (by go_simp) ((RAD.out _ K.out).mono ?_) AllReadyH.nil)
            rintro e v1 ⟨a2, c2, rfl, hk2, hb⟩
            have BV := Lib.hid (VWS.out _ (K.out.step hb))
            have K := Lib.hid (K.out.step hb)
            have K2 := Lib.hid hk2
            clear hk2
            clear hb
            refine ⟨_, rfl, BV.out, fun _ => ?_⟩
            simp only [Act.put, List.setIfInBounds_toArray, List.set_cons_zero, List.set_cons_succ]
            refine take_at (i := 8) 44 ?_ rfl rfl (by kernel_rfl) (by kernel_rfl) (by kernel_rfl) (fun _ _ _ h => h) (.inl ⟨rfl, ?_⟩) BV.out ?_
            rotate_left 1
            · intro w hSw; go_simp; try with_reducible rfl
            simp only [Act.put, List.setIfInBounds_toArray, List.set_cons_zero, List.set_cons_succ]
            refine take_at (i := 9) 53 ?_ rfl rfl (by kernel_rfl) (by kernel_rfl) (by kernel_rfl) (fun _ _ _ h => h) (.inl ⟨rfl, ?_⟩) BV.out ?_
            rotate_left 1
            · intro w hSw; go_simp; try with_reducible rfl
            simp only [Act.put, List.setIfInBounds_toArray, List.set_cons_zero, List.set_cons_succ]
            refine take_at (i := 10) 54 ?_ rfl rfl (by kernel_rfl) (by kernel_rfl) (by kernel_rfl) (fun _ _ _ h => h) (.inl ⟨rfl, ?_⟩) BV.out ?_
            rotate_left 1
            · intro w hSw; go_simp; try with_reducible rfl
            simp only [Act.put, List.setIfInBounds_toArray, List.set_cons_zero, List.set_cons_succ]
            refine take_at (i := 11) 7 ?_ rfl rfl (by kernel_rfl) (by kernel_rfl) (by kernel_rfl) (fun _ _ _ h => h) (.inl ⟨rfl, ?_⟩) BV.out ?_
            rotate_left 1
            · intro w hSw; go_simp; try with_reducible rfl
            simp only [Act.put, List.setIfInBounds_toArray, List.set_cons_zero, List.set_cons_succ]
            refine take_at (i := 12) 8 ?_ rfl rfl (by kernel_rfl) (by kernel_rfl) (by kernel_rfl) (fun _ _ _ h => h) (.inl ⟨rfl, ?_⟩) BV.out ?_
            rotate_left 1
            · intro w hSw; go_simp; try with_reducible rfl
            simp only [Act.put, List.setIfInBounds_toArray, List.set_cons_zero, List.set_cons_succ]
            refine wpAnyH_done (by kernel_rfl) ?_ _
            clear BV K
            go_upto_region 17 with fail
            have K := Lib.hid (K2.out.step (Below.refl v1.heap.size v1).drew)
            clear K2
            refine wp_region_held_drew (S := VS w k VM) (by kernel_rfl) (VWS.out _ K.out) (fun hHeld => ?_)
            have BV := Lib.hid (VWS.out _ K.out)
            clear hHeld
            refine take_at (i := 0) 56 ?_ rfl rfl (by kernel_rfl) (by kernel_rfl) (by kernel_rfl) (fun _ _ _ h => h) (.inl ⟨rfl, ?_⟩) BV.out ?_
            rotate_left 1
            · intro w hSw; go_simp; try with_reducible rfl
            simp only [Act.put, List.setIfInBounds_toArray, List.set_cons_zero, List.set_cons_succ]
            refine take_at (i := 1) 57 (.agg VM) rfl rfl (by kernel_rfl) (by kernel_rfl) (by kernel_rfl) (fun _ _ _ h => h) (yields_ld (.tmp 6) 29 (pvo k 0) _ (fun W h => h.2) rfl rfl rfl) BV.out ?_
            simp only [Act.put, List.setIfInBounds_toArray, List.set_cons_zero, List.set_cons_succ]
            refine take_at (i := 2) 58 ?_ rfl rfl (by kernel_rfl) (by kernel_rfl) (by kernel_rfl) (fun _ _ _ h => h) (.inl ⟨rfl, ?_⟩) BV.out ?_
            rotate_left 1
            · intro w hSw; go_simp; try with_reducible rfl
            simp only [Act.put, List.setIfInBounds_toArray, List.set_cons_zero, List.set_cons_succ]
            refine take_at (i := 3) 59 ?_ rfl rfl (by kernel_rfl) (by kernel_rfl) (by kernel_rfl) (fun _ _ _ h => h) (.inl ⟨rfl, ?_⟩) BV.out ?_
            rotate_left 1
            · intro w hSw; go_simp; try with_reducible rfl
            simp only [Act.put, List.setIfInBounds_toArray, List.set_cons_zero, List.set_cons_succ]
            refine take_at (i := 4) 60 (pvo g (off + i * 12)) rfl rfl (by kernel_rfl) (by kernel_rfl) (by kernel_rfl) (fun _ _ _ h => h) (yields_ix (.tmp 58) (.tmp 59) 22 (.slice (some ⟨g, off, none⟩) acts.length cap) (.int .i64 (i : Int)) _ (fun W => IXA.out W) rfl rfl rfl rfl) BV.out ?_
            simp only [Act.put, List.setIfInBounds_toArray, List.set_cons_zero, List.set_cons_succ]
            refine take_at (i := 5) 61 ?_ rfl rfl (by kernel_rfl) (by kernel_rfl) (by kernel_rfl) (fun _ _ _ h => h) (.inl ⟨rfl, ?_⟩) BV.out ?_
            rotate_left 1
            · intro w hSw; go_simp; try with_reducible rfl
            simp only [Act.put, List.setIfInBounds_toArray, List.set_cons_zero, List.set_cons_succ]
            refine take_at (i := 6) 62 (OV) rfl rfl (by kernel_rfl) (by kernel_rfl) (by kernel_rfl) (fun _ _ _ h => h) (yields_ld (.tmp 61) 35 (pvo g (off + i * 12 + 2)) _ LAO.out rfl rfl rfl) BV.out ?_
            simp only [Act.put, List.setIfInBounds_toArray, List.set_cons_zero, List.set_cons_succ]
            refine take_at (i := 8) 64 ?_ rfl rfl (by kernel_rfl) (by kernel_rfl) (by kernel_rfl) (fun _ _ _ h => h) (.inl ⟨rfl, ?_⟩) BV.out ?_
            rotate_left 1
            · intro w hSw; go_simp; try with_reducible rfl
            simp only [Act.put, List.setIfInBounds_toArray, List.set_cons_zero, List.set_cons_succ]
            refine wpAnyH_ready (rs := [7]) (by kernel_rfl) (by simp) (br_call (i := 7) 63 12 #[pv p, .agg VM, OV] rfl rfl rfl (by go_simp) ((GAD.out _ _ K.out).mono ?_) AllReadyH.nil)
            rintro e v11 ⟨rfl, ho⟩
            have K := Lib.hid ho
            have BV := Lib.hid (VWS.out _ ho)
            clear ho
            refine ⟨_, rfl, BV.out, fun _ => ?_⟩
            simp only [Act.put, List.setIfInBounds_toArray, List.set_cons_zero, List.set_cons_succ]
            refine take_at (i := 9) 65 ?_ rfl rfl (by kernel_rfl) (by kernel_rfl) (by kernel_rfl) (fun _ _ _ h => h) (.inl ⟨rfl, ?_⟩) BV.out ?_
            rotate_left 1
            · intro w hSw; go_simp; try with_reducible rfl
            simp only [Act.put, List.setIfInBounds_toArray, List.set_cons_zero, List.set_cons_succ]
            refine wpAnyH_done (by kernel_rfl) ?_ _
            clear BV
            go_upto_region 24 with fail
            have K := Lib.hid (K.out.step (Below.refl v11.heap.size v11).drew)
            refine wp_region_held_drew (S := VS w k VM) (by kernel_rfl) (VWS.out _ K.out) (fun hHeld => ?_)
            have BV := Lib.hid (VWS.out _ K.out)
            clear hHeld
            refine take_at (i := 0) 91 ?_ rfl rfl (by kernel_rfl) (by kernel_rfl) (by kernel_rfl) (fun _ _ _ h => h) (.inl ⟨rfl, ?_⟩) BV.out ?_
            rotate_left 1
            · intro w hSw; go_simp; try with_reducible rfl
            simp only [Act.put, List.setIfInBounds_toArray, List.set_cons_zero, List.set_cons_succ]
            refine take_at (i := 2) 93 ?_ rfl rfl (by kernel_rfl) (by kernel_rfl) (by kernel_rfl) (fun _ _ _ h => h) (.inl ⟨rfl, ?_⟩) BV.out ?_
            rotate_left 1
            · intro w hSw; go_simp; try with_reducible rfl
            simp only [Act.put, List.setIfInBounds_toArray, List.set_cons_zero, List.set_cons_succ]
            refine wpAnyH_ready (rs := [1]) (by kernel_rfl) (by simp) (br_call (i := 1) 92 16 #[pv p] rfl rfl rfl (by go_simp) ((all_law _ K.out (by have := OL.out.2; omega)).mono ?_) AllReadyH.nil)
            rintro e v21 ⟨a5, c5, rfl, hb, ho5⟩
            have BV := Lib.hid (VWS.out _ (K.out.step hb))
            have K := Lib.hid (K.out.step hb)
            have O5 := Lib.hid ho5
            clear ho5
            clear hb
            refine ⟨_, rfl, BV.out, fun _ => ?_⟩
            simp only [Act.put, List.setIfInBounds_toArray, List.set_cons_zero, List.set_cons_succ]
            refine wpAnyH_ready (rs := [3]) (by kernel_rfl) (by simp) (br_call (i := 3) 94 14 #[.slice a5 l2.length c5, .slice a2 l2.length c2] rfl rfl rfl (by go_simp) ((same_self _ _ _ _ (own_olies O5.out) (own_olies K.out.row)).mono ?_) AllReadyH.nil)
            rintro e v22 ⟨rfl, hb⟩
            have BV := Lib.hid (VWS.out _ (K.out.step hb))
            have K := Lib.hid (K.out.step hb)
            have O5 := Lib.hid (own_belowK O5.out hb)
            clear hb
            refine ⟨_, rfl, BV.out, fun _ => ?_⟩
            simp only [Act.put, List.setIfInBounds_toArray, List.set_cons_zero, List.set_cons_succ]
            refine take_at (i := 4) 95 ?_ rfl rfl (by kernel_rfl) (by kernel_rfl) (by kernel_rfl) (fun _ _ _ h => h) (.inl ⟨rfl, ?_⟩) BV.out ?_
            rotate_left 1
            · intro w hSw; go_simp; try with_reducible rfl
            simp only [Act.put, List.setIfInBounds_toArray, List.set_cons_zero, List.set_cons_succ]
            refine take_at (i := 5) 96 ?_ rfl rfl (by kernel_rfl) (by kernel_rfl) (by kernel_rfl) (fun _ _ _ h => h) (.inl ⟨rfl, ?_⟩) BV.out ?_
            rotate_left 1
            · intro w hSw; go_simp; try with_reducible rfl
            simp only [Act.put, List.setIfInBounds_toArray, List.set_cons_zero, List.set_cons_succ]
            refine take_at (i := 6) 97 ?_ rfl rfl (by kernel_rfl) (by kernel_rfl) (by kernel_rfl) (fun _ _ _ h => h) (.inl ⟨rfl, ?_⟩) BV.out ?_
            rotate_left 1
            · intro w hSw; go_simp; try with_reducible rfl
            simp only [Act.put, List.setIfInBounds_toArray, List.set_cons_zero, List.set_cons_succ]
            refine take_at (i := 8) 99 ?_ rfl rfl (by kernel_rfl) (by kernel_rfl) (by kernel_rfl) (fun _ _ _ h => h) (.inl ⟨rfl, ?_⟩) BV.out ?_
            rotate_left 1
            · intro w hSw; go_simp; try with_reducible rfl
            simp only [Act.put, List.setIfInBounds_toArray, List.set_cons_zero, List.set_cons_succ]
            refine take_at (i := 9) 100 ?_ rfl rfl (by kernel_rfl) (by kernel_rfl) (by kernel_rfl) (fun _ _ _ h => h) (.inl ⟨rfl, ?_⟩) BV.out ?_
            rotate_left 1
            · intro w hSw; go_simp; try with_reducible rfl
            simp only [Act.put, List.setIfInBounds_toArray, List.set_cons_zero, List.set_cons_succ]
            refine wpAnyH_ready (rs := [7]) (by kernel_rfl) (by simp) (br_call (i := 7) 98 17 #[pv p] rfl rfl rfl (by go_simp) ((len_law _ K.out).mono ?_) AllReadyH.nil)
            rintro e v23 ⟨rfl, hb⟩
            have BV := Lib.hid (VWS.out _ (K.out.step hb))
            have K := Lib.hid (K.out.step hb)
            have O5 := Lib.hid (own_belowK O5.out hb)
            clear hb
            refine ⟨_, rfl, BV.out, fun _ => ?_⟩
            simp only [Act.put, List.setIfInBounds_toArray, List.set_cons_zero, List.set_cons_succ]
            refine take_at (i := 10) 101 ?_ rfl rfl (by kernel_rfl) (by kernel_rfl) (by kernel_rfl) (fun _ _ _ h => h) (.inl ⟨rfl, ?_⟩) BV.out ?_
            rotate_left 1
            · intro w hSw; go_simp; try with_reducible rfl
            simp only [Act.put, List.setIfInBounds_toArray, List.set_cons_zero, List.set_cons_succ]
            refine take_at (i := 11) 102 ?_ rfl rfl (by kernel_rfl) (by kernel_rfl) (by kernel_rfl) (fun _ _ _ h => h) (.inl ⟨rfl, ?_⟩) BV.out ?_
            rotate_left 1
            · intro w hSw; go_simp; try with_reducible rfl
            simp only [Act.put, List.setIfInBounds_toArray, List.set_cons_zero, List.set_cons_succ]
            refine take_at (i := 12) 103 ?_ rfl rfl (by kernel_rfl) (by kernel_rfl) (by kernel_rfl) (fun _ _ _ h => h) (.inl ⟨rfl, ?_⟩) BV.out ?_
            rotate_left 1
            · intro w hSw; go_simp; try with_reducible rfl
            simp only [Act.put, List.setIfInBounds_toArray, List.set_cons_zero, List.set_cons_succ]
            refine take_at (i := 13) 104 ?_ rfl rfl (by kernel_rfl) (by kernel_rfl) (by kernel_rfl) (fun _ _ _ h => h) (.inl ⟨rfl, ?_⟩) BV.out ?_
            rotate_left 1
            · intro w hSw; go_simp; try with_reducible rfl
            simp only [Act.put, List.setIfInBounds_toArray, List.set_cons_zero, List.set_cons_succ]
            refine take_at (i := 14) 105 (.agg VM) rfl rfl (by kernel_rfl) (by kernel_rfl) (by kernel_rfl) (fun _ _ _ h => h) (yields_ld (.tmp 6) 29 (pvo k 0) _ (fun W h => h.2) rfl rfl rfl) BV.out ?_
            simp only [Act.put, List.setIfInBounds_toArray, List.set_cons_zero, List.set_cons_succ]
            refine take_at (i := 16) 107 ?_ rfl rfl (by kernel_rfl) (by kernel_rfl) (by kernel_rfl) (fun _ _ _ h => h) (.inl ⟨rfl, ?_⟩) BV.out ?_
            rotate_left 1
            · intro w hSw; go_simp; try with_reducible rfl
            simp only [Act.put, List.setIfInBounds_toArray, List.set_cons_zero, List.set_cons_succ]
            refine take_at (i := 17) 108 (.agg VM) rfl rfl (by kernel_rfl) (by kernel_rfl) (by kernel_rfl) (fun _ _ _ h => h) (yields_ld (.tmp 6) 29 (pvo k 0) _ (fun W h => h.2) rfl rfl rfl) BV.out ?_
            simp only [Act.put, List.setIfInBounds_toArray, List.set_cons_zero, List.set_cons_succ]
            refine wpAnyH_ready (rs := [15]) (by kernel_rfl) (by simp) (br_call (i := 15) 106 19 #[pv p, .agg VM] rfl rfl rfl (by go_simp) ((LCK.out _ l2 _ K.out OL.out).mono ?_) AllReadyH.nil)
            rintro e v24 ⟨v6, rfl, hb, ho6⟩
            have BV := Lib.hid (VWS.out _ (K.out.step hb))
            have K := Lib.hid (K.out.step hb)
            have O5 := Lib.hid (own_belowK O5.out hb)
            have R6 := Lib.hid ho6
            clear ho6
            clear hb
            refine ⟨_, rfl, BV.out, fun _ => ?_⟩
            simp only [Act.put, List.setIfInBounds_toArray, List.set_cons_zero, List.set_cons_succ]
            refine wpAnyH_ready (rs := [18]) (by kernel_rfl) (by simp) (br_call (i := 18) 109 20 #[.slice a2 l2.length c2, .agg VM] rfl rfl rfl (by go_simp) ((RLC.out _ l2 _ K.out OL.out).mono ?_) AllReadyH.nil)
            rintro e v25 ⟨v7, rfl, hb, ho7⟩
            have BV := Lib.hid (VWS.out _ (K.out.step hb))
            have K := Lib.hid (K.out.step hb)
            have O5 := Lib.hid (own_belowK O5.out hb)
            have R6 := Lib.hid (R6.out.step hb)
            have R7 := Lib.hid ho7
            clear ho7
            clear hb
            refine ⟨_, rfl, BV.out, fun _ => ?_⟩
            simp only [Act.put, List.setIfInBounds_toArray, List.set_cons_zero, List.set_cons_succ]
            refine wpAnyH_ready (rs := [19]) (by kernel_rfl) (by simp) (br_call (i := 19) 110 18 #[v6, v7] rfl rfl rfl (by go_simp) ((same_any _ v6 v7 _ R6.out R7.out).mono ?_) AllReadyH.nil)
            rintro e v26 ⟨rfl, hb⟩
            have BV := Lib.hid (VWS.out _ (K.out.step hb))
            have K := Lib.hid (K.out.step hb)
            have O5 := Lib.hid (own_belowK O5.out hb)
            have R6 := Lib.hid (R6.out.step hb)
            have R7 := Lib.hid (R7.out.step hb)
            clear hb
            refine ⟨_, rfl, BV.out, fun _ => ?_⟩
            simp only [Act.put, List.setIfInBounds_toArray, List.set_cons_zero, List.set_cons_succ]
            refine take_at (i := 20) 111 ?_ rfl rfl (by kernel_rfl) (by kernel_rfl) (by kernel_rfl) (fun _ _ _ h => h) (.inl ⟨rfl, ?_⟩) BV.out ?_
            rotate_left 1
            · intro w hSw; go_simp; try with_reducible rfl
            simp only [Act.put, List.setIfInBounds_toArray, List.set_cons_zero, List.set_cons_succ]
            refine take_at (i := 21) 112 ?_ rfl rfl (by kernel_rfl) (by kernel_rfl) (by kernel_rfl) (fun _ _ _ h => h) (.inl ⟨rfl, ?_⟩) BV.out ?_
            rotate_left 1
            · intro w hSw; go_simp; try with_reducible rfl
            simp only [Act.put, List.setIfInBounds_toArray, List.set_cons_zero, List.set_cons_succ]
            refine wpAnyH_done (by kernel_rfl) ?_ _
            go_wp2
            go_roundw
            case rel => exact ⟨i + 1, l2, by go_num, by omega, by omega, by first | trivial | rfl, Lib.hid OL.out.2, Lib.hid ⟨K.out.lw.bel, K.out.lw.gap, K.out.lw.lo, K.out.row, OL.out.1⟩⟩
            case measure => simp [intOf]; omega
          · by_cases q1 : kd = 1
            · subst q1
              have OL := Lib.hid OLA.out
              go_upto_region 15 with fail
              have K := Lib.hid (K.out.step (Below.refl w6.heap.size w6).drew)
              refine wp_region_held_drew (S := VS w k VM) (by kernel_rfl) (VWS.out _ K.out) (fun hHeld => ?_)
              have BV := Lib.hid (VWS.out _ K.out)
              clear hHeld
              refine take_at (i := 0) 45 ?_ rfl rfl (by kernel_rfl) (by kernel_rfl) (by kernel_rfl) (fun _ _ _ h => h) (.inl ⟨rfl, ?_⟩) BV.out ?_
              rotate_left 1
              · intro w hSw; go_simp; try with_reducible rfl
              simp only [Act.put, List.setIfInBounds_toArray, List.set_cons_zero, List.set_cons_succ]
              refine take_at (i := 1) 46 (.agg VM) rfl rfl (by kernel_rfl) (by kernel_rfl) (by kernel_rfl) (fun _ _ _ h => h) (yields_ld (.tmp 6) 29 (pvo k 0) _ (fun W h => h.2) rfl rfl rfl) BV.out ?_
              simp only [Act.put, List.setIfInBounds_toArray, List.set_cons_zero, List.set_cons_succ]
              refine take_at (i := 2) 47 ?_ rfl rfl (by kernel_rfl) (by kernel_rfl) (by kernel_rfl) (fun _ _ _ h => h) (.inl ⟨rfl, ?_⟩) BV.out ?_
              rotate_left 1
              · intro w hSw; go_simp; try with_reducible rfl
              simp only [Act.put, List.setIfInBounds_toArray, List.set_cons_zero, List.set_cons_succ]
              refine take_at (i := 3) 48 ?_ rfl rfl (by kernel_rfl) (by kernel_rfl) (by kernel_rfl) (fun _ _ _ h => h) (.inl ⟨rfl, ?_⟩) BV.out ?_
              rotate_left 1
              · intro w hSw; go_simp; try with_reducible rfl
              simp only [Act.put, List.setIfInBounds_toArray, List.set_cons_zero, List.set_cons_succ]
              refine take_at (i := 4) 49 (pvo g (off + i * 12)) rfl rfl (by kernel_rfl) (by kernel_rfl) (by kernel_rfl) (fun _ _ _ h => h) (yields_ix (.tmp 47) (.tmp 48) 22 (.slice (some ⟨g, off, none⟩) acts.length cap) (.int .i64 (i : Int)) _ (fun W => IXA.out W) rfl rfl rfl rfl) BV.out ?_
              simp only [Act.put, List.setIfInBounds_toArray, List.set_cons_zero, List.set_cons_succ]
              refine take_at (i := 5) 50 ?_ rfl rfl (by kernel_rfl) (by kernel_rfl) (by kernel_rfl) (fun _ _ _ h => h) (.inl ⟨rfl, ?_⟩) BV.out ?_
              rotate_left 1
              · intro w hSw; go_simp; try with_reducible rfl
              simp only [Act.put, List.setIfInBounds_toArray, List.set_cons_zero, List.set_cons_succ]
              refine take_at (i := 6) 51 (OV) rfl rfl (by kernel_rfl) (by kernel_rfl) (by kernel_rfl) (fun _ _ _ h => h) (yields_ld (.tmp 50) 35 (pvo g (off + i * 12 + 2)) _ LAO.out rfl rfl rfl) BV.out ?_
              simp only [Act.put, List.setIfInBounds_toArray, List.set_cons_zero, List.set_cons_succ]
              refine wpAnyH_ready (rs := [7]) (by kernel_rfl) (by simp) (br_call (i := 7) 52 11 #[.slice ra l.length rc, .agg VM, OV] rfl rfl rfl (by go_simp) ((RAD.out _ K.out).mono ?_) AllReadyH.nil)
              rintro e v1 ⟨a2, c2, rfl, hk2, hb⟩
              have BV := Lib.hid (VWS.out _ (K.out.step hb))
              have K := Lib.hid (K.out.step hb)
              have K2 := Lib.hid hk2
              clear hk2
              clear hb
              refine ⟨_, rfl, BV.out, fun _ => ?_⟩
              simp only [Act.put, List.setIfInBounds_toArray, List.set_cons_zero, List.set_cons_succ]
              refine take_at (i := 8) 44 ?_ rfl rfl (by kernel_rfl) (by kernel_rfl) (by kernel_rfl) (fun _ _ _ h => h) (.inl ⟨rfl, ?_⟩) BV.out ?_
              rotate_left 1
              · intro w hSw; go_simp; try with_reducible rfl
              simp only [Act.put, List.setIfInBounds_toArray, List.set_cons_zero, List.set_cons_succ]
              refine take_at (i := 9) 53 ?_ rfl rfl (by kernel_rfl) (by kernel_rfl) (by kernel_rfl) (fun _ _ _ h => h) (.inl ⟨rfl, ?_⟩) BV.out ?_
              rotate_left 1
              · intro w hSw; go_simp; try with_reducible rfl
              simp only [Act.put, List.setIfInBounds_toArray, List.set_cons_zero, List.set_cons_succ]
              refine take_at (i := 10) 54 ?_ rfl rfl (by kernel_rfl) (by kernel_rfl) (by kernel_rfl) (fun _ _ _ h => h) (.inl ⟨rfl, ?_⟩) BV.out ?_
              rotate_left 1
              · intro w hSw; go_simp; try with_reducible rfl
              simp only [Act.put, List.setIfInBounds_toArray, List.set_cons_zero, List.set_cons_succ]
              refine take_at (i := 11) 7 ?_ rfl rfl (by kernel_rfl) (by kernel_rfl) (by kernel_rfl) (fun _ _ _ h => h) (.inl ⟨rfl, ?_⟩) BV.out ?_
              rotate_left 1
              · intro w hSw; go_simp; try with_reducible rfl
              simp only [Act.put, List.setIfInBounds_toArray, List.set_cons_zero, List.set_cons_succ]
              refine take_at (i := 12) 8 ?_ rfl rfl (by kernel_rfl) (by kernel_rfl) (by kernel_rfl) (fun _ _ _ h => h) (.inl ⟨rfl, ?_⟩) BV.out ?_
              rotate_left 1
              · intro w hSw; go_simp; try with_reducible rfl
              simp only [Act.put, List.setIfInBounds_toArray, List.set_cons_zero, List.set_cons_succ]
              refine wpAnyH_done (by kernel_rfl) ?_ _
              clear BV K
              go_upto_region 17 with fail
              have K := Lib.hid (K2.out.step (Below.refl v1.heap.size v1).drew)
              clear K2
              refine wp_region_held_drew (S := VS w k VM) (by kernel_rfl) (VWS.out _ K.out) (fun hHeld => ?_)
              have BV := Lib.hid (VWS.out _ K.out)
              clear hHeld
              refine take_at (i := 0) 56 ?_ rfl rfl (by kernel_rfl) (by kernel_rfl) (by kernel_rfl) (fun _ _ _ h => h) (.inl ⟨rfl, ?_⟩) BV.out ?_
              rotate_left 1
              · intro w hSw; go_simp; try with_reducible rfl
              simp only [Act.put, List.setIfInBounds_toArray, List.set_cons_zero, List.set_cons_succ]
              refine take_at (i := 1) 57 (.agg VM) rfl rfl (by kernel_rfl) (by kernel_rfl) (by kernel_rfl) (fun _ _ _ h => h) (yields_ld (.tmp 6) 29 (pvo k 0) _ (fun W h => h.2) rfl rfl rfl) BV.out ?_
              simp only [Act.put, List.setIfInBounds_toArray, List.set_cons_zero, List.set_cons_succ]
              refine take_at (i := 2) 58 ?_ rfl rfl (by kernel_rfl) (by kernel_rfl) (by kernel_rfl) (fun _ _ _ h => h) (.inl ⟨rfl, ?_⟩) BV.out ?_
              rotate_left 1
              · intro w hSw; go_simp; try with_reducible rfl
              simp only [Act.put, List.setIfInBounds_toArray, List.set_cons_zero, List.set_cons_succ]
              refine take_at (i := 3) 59 ?_ rfl rfl (by kernel_rfl) (by kernel_rfl) (by kernel_rfl) (fun _ _ _ h => h) (.inl ⟨rfl, ?_⟩) BV.out ?_
              rotate_left 1
              · intro w hSw; go_simp; try with_reducible rfl
              simp only [Act.put, List.setIfInBounds_toArray, List.set_cons_zero, List.set_cons_succ]
              refine take_at (i := 4) 60 (pvo g (off + i * 12)) rfl rfl (by kernel_rfl) (by kernel_rfl) (by kernel_rfl) (fun _ _ _ h => h) (yields_ix (.tmp 58) (.tmp 59) 22 (.slice (some ⟨g, off, none⟩) acts.length cap) (.int .i64 (i : Int)) _ (fun W => IXA.out W) rfl rfl rfl rfl) BV.out ?_
              simp only [Act.put, List.setIfInBounds_toArray, List.set_cons_zero, List.set_cons_succ]
              refine take_at (i := 5) 61 ?_ rfl rfl (by kernel_rfl) (by kernel_rfl) (by kernel_rfl) (fun _ _ _ h => h) (.inl ⟨rfl, ?_⟩) BV.out ?_
              rotate_left 1
              · intro w hSw; go_simp; try with_reducible rfl
              simp only [Act.put, List.setIfInBounds_toArray, List.set_cons_zero, List.set_cons_succ]
              refine take_at (i := 6) 62 (OV) rfl rfl (by kernel_rfl) (by kernel_rfl) (by kernel_rfl) (fun _ _ _ h => h) (yields_ld (.tmp 61) 35 (pvo g (off + i * 12 + 2)) _ LAO.out rfl rfl rfl) BV.out ?_
              simp only [Act.put, List.setIfInBounds_toArray, List.set_cons_zero, List.set_cons_succ]
              refine take_at (i := 8) 64 ?_ rfl rfl (by kernel_rfl) (by kernel_rfl) (by kernel_rfl) (fun _ _ _ h => h) (.inl ⟨rfl, ?_⟩) BV.out ?_
              rotate_left 1
              · intro w hSw; go_simp; try with_reducible rfl
              simp only [Act.put, List.setIfInBounds_toArray, List.set_cons_zero, List.set_cons_succ]
              refine wpAnyH_ready (rs := [7]) (by kernel_rfl) (by simp) (br_call (i := 7) 63 12 #[pv p, .agg VM, OV] rfl rfl rfl (by go_simp) ((GAD.out _ _ K.out).mono ?_) AllReadyH.nil)
              rintro e v11 ⟨rfl, ho⟩
              have K := Lib.hid ho
              have BV := Lib.hid (VWS.out _ ho)
              clear ho
              refine ⟨_, rfl, BV.out, fun _ => ?_⟩
              simp only [Act.put, List.setIfInBounds_toArray, List.set_cons_zero, List.set_cons_succ]
              refine take_at (i := 9) 65 ?_ rfl rfl (by kernel_rfl) (by kernel_rfl) (by kernel_rfl) (fun _ _ _ h => h) (.inl ⟨rfl, ?_⟩) BV.out ?_
              rotate_left 1
              · intro w hSw; go_simp; try with_reducible rfl
              simp only [Act.put, List.setIfInBounds_toArray, List.set_cons_zero, List.set_cons_succ]
              refine wpAnyH_done (by kernel_rfl) ?_ _
              clear BV
              go_upto_region 24 with fail
              have K := Lib.hid (K.out.step (Below.refl v11.heap.size v11).drew)
              refine wp_region_held_drew (S := VS w k VM) (by kernel_rfl) (VWS.out _ K.out) (fun hHeld => ?_)
              have BV := Lib.hid (VWS.out _ K.out)
              clear hHeld
              refine take_at (i := 0) 91 ?_ rfl rfl (by kernel_rfl) (by kernel_rfl) (by kernel_rfl) (fun _ _ _ h => h) (.inl ⟨rfl, ?_⟩) BV.out ?_
              rotate_left 1
              · intro w hSw; go_simp; try with_reducible rfl
              simp only [Act.put, List.setIfInBounds_toArray, List.set_cons_zero, List.set_cons_succ]
              refine take_at (i := 2) 93 ?_ rfl rfl (by kernel_rfl) (by kernel_rfl) (by kernel_rfl) (fun _ _ _ h => h) (.inl ⟨rfl, ?_⟩) BV.out ?_
              rotate_left 1
              · intro w hSw; go_simp; try with_reducible rfl
              simp only [Act.put, List.setIfInBounds_toArray, List.set_cons_zero, List.set_cons_succ]
              refine wpAnyH_ready (rs := [1]) (by kernel_rfl) (by simp) (br_call (i := 1) 92 16 #[pv p] rfl rfl rfl (by go_simp) ((all_law _ K.out (by have := OL.out.2; omega)).mono ?_) AllReadyH.nil)
              rintro e v21 ⟨a5, c5, rfl, hb, ho5⟩
              have BV := Lib.hid (VWS.out _ (K.out.step hb))
              have K := Lib.hid (K.out.step hb)
              have O5 := Lib.hid ho5
              clear ho5
              clear hb
              refine ⟨_, rfl, BV.out, fun _ => ?_⟩
              simp only [Act.put, List.setIfInBounds_toArray, List.set_cons_zero, List.set_cons_succ]
              refine wpAnyH_ready (rs := [3]) (by kernel_rfl) (by simp) (br_call (i := 3) 94 14 #[.slice a5 l2.length c5, .slice a2 l2.length c2] rfl rfl rfl (by go_simp) ((same_self _ _ _ _ (own_olies O5.out) (own_olies K.out.row)).mono ?_) AllReadyH.nil)
              rintro e v22 ⟨rfl, hb⟩
              have BV := Lib.hid (VWS.out _ (K.out.step hb))
              have K := Lib.hid (K.out.step hb)
              have O5 := Lib.hid (own_belowK O5.out hb)
              clear hb
              refine ⟨_, rfl, BV.out, fun _ => ?_⟩
              simp only [Act.put, List.setIfInBounds_toArray, List.set_cons_zero, List.set_cons_succ]
              refine take_at (i := 4) 95 ?_ rfl rfl (by kernel_rfl) (by kernel_rfl) (by kernel_rfl) (fun _ _ _ h => h) (.inl ⟨rfl, ?_⟩) BV.out ?_
              rotate_left 1
              · intro w hSw; go_simp; try with_reducible rfl
              simp only [Act.put, List.setIfInBounds_toArray, List.set_cons_zero, List.set_cons_succ]
              refine take_at (i := 5) 96 ?_ rfl rfl (by kernel_rfl) (by kernel_rfl) (by kernel_rfl) (fun _ _ _ h => h) (.inl ⟨rfl, ?_⟩) BV.out ?_
              rotate_left 1
              · intro w hSw; go_simp; try with_reducible rfl
              simp only [Act.put, List.setIfInBounds_toArray, List.set_cons_zero, List.set_cons_succ]
              refine take_at (i := 6) 97 ?_ rfl rfl (by kernel_rfl) (by kernel_rfl) (by kernel_rfl) (fun _ _ _ h => h) (.inl ⟨rfl, ?_⟩) BV.out ?_
              rotate_left 1
              · intro w hSw; go_simp; try with_reducible rfl
              simp only [Act.put, List.setIfInBounds_toArray, List.set_cons_zero, List.set_cons_succ]
              refine take_at (i := 8) 99 ?_ rfl rfl (by kernel_rfl) (by kernel_rfl) (by kernel_rfl) (fun _ _ _ h => h) (.inl ⟨rfl, ?_⟩) BV.out ?_
              rotate_left 1
              · intro w hSw; go_simp; try with_reducible rfl
              simp only [Act.put, List.setIfInBounds_toArray, List.set_cons_zero, List.set_cons_succ]
              refine take_at (i := 9) 100 ?_ rfl rfl (by kernel_rfl) (by kernel_rfl) (by kernel_rfl) (fun _ _ _ h => h) (.inl ⟨rfl, ?_⟩) BV.out ?_
              rotate_left 1
              · intro w hSw; go_simp; try with_reducible rfl
              simp only [Act.put, List.setIfInBounds_toArray, List.set_cons_zero, List.set_cons_succ]
              refine wpAnyH_ready (rs := [7]) (by kernel_rfl) (by simp) (br_call (i := 7) 98 17 #[pv p] rfl rfl rfl (by go_simp) ((len_law _ K.out).mono ?_) AllReadyH.nil)
              rintro e v23 ⟨rfl, hb⟩
              have BV := Lib.hid (VWS.out _ (K.out.step hb))
              have K := Lib.hid (K.out.step hb)
              have O5 := Lib.hid (own_belowK O5.out hb)
              clear hb
              refine ⟨_, rfl, BV.out, fun _ => ?_⟩
              simp only [Act.put, List.setIfInBounds_toArray, List.set_cons_zero, List.set_cons_succ]
              refine take_at (i := 10) 101 ?_ rfl rfl (by kernel_rfl) (by kernel_rfl) (by kernel_rfl) (fun _ _ _ h => h) (.inl ⟨rfl, ?_⟩) BV.out ?_
              rotate_left 1
              · intro w hSw; go_simp; try with_reducible rfl
              simp only [Act.put, List.setIfInBounds_toArray, List.set_cons_zero, List.set_cons_succ]
              refine take_at (i := 11) 102 ?_ rfl rfl (by kernel_rfl) (by kernel_rfl) (by kernel_rfl) (fun _ _ _ h => h) (.inl ⟨rfl, ?_⟩) BV.out ?_
              rotate_left 1
              · intro w hSw; go_simp; try with_reducible rfl
              simp only [Act.put, List.setIfInBounds_toArray, List.set_cons_zero, List.set_cons_succ]
              refine take_at (i := 12) 103 ?_ rfl rfl (by kernel_rfl) (by kernel_rfl) (by kernel_rfl) (fun _ _ _ h => h) (.inl ⟨rfl, ?_⟩) BV.out ?_
              rotate_left 1
              · intro w hSw; go_simp; try with_reducible rfl
              simp only [Act.put, List.setIfInBounds_toArray, List.set_cons_zero, List.set_cons_succ]
              refine take_at (i := 13) 104 ?_ rfl rfl (by kernel_rfl) (by kernel_rfl) (by kernel_rfl) (fun _ _ _ h => h) (.inl ⟨rfl, ?_⟩) BV.out ?_
              rotate_left 1
              · intro w hSw; go_simp; try with_reducible rfl
              simp only [Act.put, List.setIfInBounds_toArray, List.set_cons_zero, List.set_cons_succ]
              refine take_at (i := 14) 105 (.agg VM) rfl rfl (by kernel_rfl) (by kernel_rfl) (by kernel_rfl) (fun _ _ _ h => h) (yields_ld (.tmp 6) 29 (pvo k 0) _ (fun W h => h.2) rfl rfl rfl) BV.out ?_
              simp only [Act.put, List.setIfInBounds_toArray, List.set_cons_zero, List.set_cons_succ]
              refine take_at (i := 16) 107 ?_ rfl rfl (by kernel_rfl) (by kernel_rfl) (by kernel_rfl) (fun _ _ _ h => h) (.inl ⟨rfl, ?_⟩) BV.out ?_
              rotate_left 1
              · intro w hSw; go_simp; try with_reducible rfl
              simp only [Act.put, List.setIfInBounds_toArray, List.set_cons_zero, List.set_cons_succ]
              refine take_at (i := 17) 108 (.agg VM) rfl rfl (by kernel_rfl) (by kernel_rfl) (by kernel_rfl) (fun _ _ _ h => h) (yields_ld (.tmp 6) 29 (pvo k 0) _ (fun W h => h.2) rfl rfl rfl) BV.out ?_
              simp only [Act.put, List.setIfInBounds_toArray, List.set_cons_zero, List.set_cons_succ]
              refine wpAnyH_ready (rs := [15]) (by kernel_rfl) (by simp) (br_call (i := 15) 106 19 #[pv p, .agg VM] rfl rfl rfl (by go_simp) ((LCK.out _ l2 _ K.out OL.out).mono ?_) AllReadyH.nil)
              rintro e v24 ⟨v6, rfl, hb, ho6⟩
              have BV := Lib.hid (VWS.out _ (K.out.step hb))
              have K := Lib.hid (K.out.step hb)
              have O5 := Lib.hid (own_belowK O5.out hb)
              have R6 := Lib.hid ho6
              clear ho6
              clear hb
              refine ⟨_, rfl, BV.out, fun _ => ?_⟩
              simp only [Act.put, List.setIfInBounds_toArray, List.set_cons_zero, List.set_cons_succ]
              refine wpAnyH_ready (rs := [18]) (by kernel_rfl) (by simp) (br_call (i := 18) 109 20 #[.slice a2 l2.length c2, .agg VM] rfl rfl rfl (by go_simp) ((RLC.out _ l2 _ K.out OL.out).mono ?_) AllReadyH.nil)
              rintro e v25 ⟨v7, rfl, hb, ho7⟩
              have BV := Lib.hid (VWS.out _ (K.out.step hb))
              have K := Lib.hid (K.out.step hb)
              have O5 := Lib.hid (own_belowK O5.out hb)
              have R6 := Lib.hid (R6.out.step hb)
              have R7 := Lib.hid ho7
              clear ho7
              clear hb
              refine ⟨_, rfl, BV.out, fun _ => ?_⟩
              simp only [Act.put, List.setIfInBounds_toArray, List.set_cons_zero, List.set_cons_succ]
              refine wpAnyH_ready (rs := [19]) (by kernel_rfl) (by simp) (br_call (i := 19) 110 18 #[v6, v7] rfl rfl rfl (by go_simp) ((same_any _ v6 v7 _ R6.out R7.out).mono ?_) AllReadyH.nil)
              rintro e v26 ⟨rfl, hb⟩
              have BV := Lib.hid (VWS.out _ (K.out.step hb))
              have K := Lib.hid (K.out.step hb)
              have O5 := Lib.hid (own_belowK O5.out hb)
              have R6 := Lib.hid (R6.out.step hb)
              have R7 := Lib.hid (R7.out.step hb)
              clear hb
              refine ⟨_, rfl, BV.out, fun _ => ?_⟩
              simp only [Act.put, List.setIfInBounds_toArray, List.set_cons_zero, List.set_cons_succ]
              refine take_at (i := 20) 111 ?_ rfl rfl (by kernel_rfl) (by kernel_rfl) (by kernel_rfl) (fun _ _ _ h => h) (.inl ⟨rfl, ?_⟩) BV.out ?_
              rotate_left 1
              · intro w hSw; go_simp; try with_reducible rfl
              simp only [Act.put, List.setIfInBounds_toArray, List.set_cons_zero, List.set_cons_succ]
              refine take_at (i := 21) 112 ?_ rfl rfl (by kernel_rfl) (by kernel_rfl) (by kernel_rfl) (fun _ _ _ h => h) (.inl ⟨rfl, ?_⟩) BV.out ?_
              rotate_left 1
              · intro w hSw; go_simp; try with_reducible rfl
              simp only [Act.put, List.setIfInBounds_toArray, List.set_cons_zero, List.set_cons_succ]
              refine wpAnyH_done (by kernel_rfl) ?_ _
              go_wp2
              go_roundw
              case rel => exact ⟨i + 1, l2, by go_num, by omega, by omega, by first | trivial | rfl, Lib.hid OL.out.2, Lib.hid ⟨K.out.lw.bel, K.out.lw.gap, K.out.lw.lo, K.out.row, OL.out.1⟩⟩
              case measure => simp [intOf]; omega
            · by_cases q2 : kd = 2
              · subst q2
                have OL := Lib.hid OLA.out
                go_upto_region 15 with fail
                have K := Lib.hid (K.out.step (Below.refl w6.heap.size w6).drew)
                refine wp_region_held_drew (S := VS w k VM) (by kernel_rfl) (VWS.out _ K.out) (fun hHeld => ?_)
                have BV := Lib.hid (VWS.out _ K.out)
                clear hHeld
                refine take_at (i := 0) 45 ?_ rfl rfl (by kernel_rfl) (by kernel_rfl) (by kernel_rfl) (fun _ _ _ h => h) (.inl ⟨rfl, ?_⟩) BV.out ?_
                rotate_left 1
                · intro w hSw; go_simp; try with_reducible rfl
                simp only [Act.put, List.setIfInBounds_toArray, List.set_cons_zero, List.set_cons_succ]
                refine take_at (i := 1) 46 (.agg VM) rfl rfl (by kernel_rfl) (by kernel_rfl) (by kernel_rfl) (fun _ _ _ h => h) (yields_ld (.tmp 6) 29 (pvo k 0) _ (fun W h => h.2) rfl rfl rfl) BV.out ?_
                simp only [Act.put, List.setIfInBounds_toArray, List.set_cons_zero, List.set_cons_succ]
                refine take_at (i := 2) 47 ?_ rfl rfl (by kernel_rfl) (by kernel_rfl) (by kernel_rfl) (fun _ _ _ h => h) (.inl ⟨rfl, ?_⟩) BV.out ?_
                rotate_left 1
                · intro w hSw; go_simp; try with_reducible rfl
                simp only [Act.put, List.setIfInBounds_toArray, List.set_cons_zero, List.set_cons_succ]
                refine take_at (i := 3) 48 ?_ rfl rfl (by kernel_rfl) (by kernel_rfl) (by kernel_rfl) (fun _ _ _ h => h) (.inl ⟨rfl, ?_⟩) BV.out ?_
                rotate_left 1
                · intro w hSw; go_simp; try with_reducible rfl
                simp only [Act.put, List.setIfInBounds_toArray, List.set_cons_zero, List.set_cons_succ]
                refine take_at (i := 4) 49 (pvo g (off + i * 12)) rfl rfl (by kernel_rfl) (by kernel_rfl) (by kernel_rfl) (fun _ _ _ h => h) (yields_ix (.tmp 47) (.tmp 48) 22 (.slice (some ⟨g, off, none⟩) acts.length cap) (.int .i64 (i : Int)) _ (fun W => IXA.out W) rfl rfl rfl rfl) BV.out ?_
                simp only [Act.put, List.setIfInBounds_toArray, List.set_cons_zero, List.set_cons_succ]
                refine take_at (i := 5) 50 ?_ rfl rfl (by kernel_rfl) (by kernel_rfl) (by kernel_rfl) (fun _ _ _ h => h) (.inl ⟨rfl, ?_⟩) BV.out ?_
                rotate_left 1
                · intro w hSw; go_simp; try with_reducible rfl
                simp only [Act.put, List.setIfInBounds_toArray, List.set_cons_zero, List.set_cons_succ]
                refine take_at (i := 6) 51 (OV) rfl rfl (by kernel_rfl) (by kernel_rfl) (by kernel_rfl) (fun _ _ _ h => h) (yields_ld (.tmp 50) 35 (pvo g (off + i * 12 + 2)) _ LAO.out rfl rfl rfl) BV.out ?_
                simp only [Act.put, List.setIfInBounds_toArray, List.set_cons_zero, List.set_cons_succ]
                refine wpAnyH_ready (rs := [7]) (by kernel_rfl) (by simp) (br_call (i := 7) 52 11 #[.slice ra l.length rc, .agg VM, OV] rfl rfl rfl (by go_simp) ((RAD.out _ K.out).mono ?_) AllReadyH.nil)
                rintro e v1 ⟨a2, c2, rfl, hk2, hb⟩
                have BV := Lib.hid (VWS.out _ (K.out.step hb))
                have K := Lib.hid (K.out.step hb)
                have K2 := Lib.hid hk2
                clear hk2
                clear hb
                refine ⟨_, rfl, BV.out, fun _ => ?_⟩
                simp only [Act.put, List.setIfInBounds_toArray, List.set_cons_zero, List.set_cons_succ]
                refine take_at (i := 8) 44 ?_ rfl rfl (by kernel_rfl) (by kernel_rfl) (by kernel_rfl) (fun _ _ _ h => h) (.inl ⟨rfl, ?_⟩) BV.out ?_
                rotate_left 1
                · intro w hSw; go_simp; try with_reducible rfl
                simp only [Act.put, List.setIfInBounds_toArray, List.set_cons_zero, List.set_cons_succ]
                refine take_at (i := 9) 53 ?_ rfl rfl (by kernel_rfl) (by kernel_rfl) (by kernel_rfl) (fun _ _ _ h => h) (.inl ⟨rfl, ?_⟩) BV.out ?_
                rotate_left 1
                · intro w hSw; go_simp; try with_reducible rfl
                simp only [Act.put, List.setIfInBounds_toArray, List.set_cons_zero, List.set_cons_succ]
                refine take_at (i := 10) 54 ?_ rfl rfl (by kernel_rfl) (by kernel_rfl) (by kernel_rfl) (fun _ _ _ h => h) (.inl ⟨rfl, ?_⟩) BV.out ?_
                rotate_left 1
                · intro w hSw; go_simp; try with_reducible rfl
                simp only [Act.put, List.setIfInBounds_toArray, List.set_cons_zero, List.set_cons_succ]
                refine take_at (i := 11) 7 ?_ rfl rfl (by kernel_rfl) (by kernel_rfl) (by kernel_rfl) (fun _ _ _ h => h) (.inl ⟨rfl, ?_⟩) BV.out ?_
                rotate_left 1
                · intro w hSw; go_simp; try with_reducible rfl
                simp only [Act.put, List.setIfInBounds_toArray, List.set_cons_zero, List.set_cons_succ]
                refine take_at (i := 12) 8 ?_ rfl rfl (by kernel_rfl) (by kernel_rfl) (by kernel_rfl) (fun _ _ _ h => h) (.inl ⟨rfl, ?_⟩) BV.out ?_
                rotate_left 1
                · intro w hSw; go_simp; try with_reducible rfl
                simp only [Act.put, List.setIfInBounds_toArray, List.set_cons_zero, List.set_cons_succ]
                refine wpAnyH_done (by kernel_rfl) ?_ _
                clear BV K
                go_upto_region 17 with fail
                have K := Lib.hid (K2.out.step (Below.refl v1.heap.size v1).drew)
                clear K2
                refine wp_region_held_drew (S := VS w k VM) (by kernel_rfl) (VWS.out _ K.out) (fun hHeld => ?_)
                have BV := Lib.hid (VWS.out _ K.out)
                clear hHeld
                refine take_at (i := 0) 56 ?_ rfl rfl (by kernel_rfl) (by kernel_rfl) (by kernel_rfl) (fun _ _ _ h => h) (.inl ⟨rfl, ?_⟩) BV.out ?_
                rotate_left 1
                · intro w hSw; go_simp; try with_reducible rfl
                simp only [Act.put, List.setIfInBounds_toArray, List.set_cons_zero, List.set_cons_succ]
                refine take_at (i := 1) 57 (.agg VM) rfl rfl (by kernel_rfl) (by kernel_rfl) (by kernel_rfl) (fun _ _ _ h => h) (yields_ld (.tmp 6) 29 (pvo k 0) _ (fun W h => h.2) rfl rfl rfl) BV.out ?_
                simp only [Act.put, List.setIfInBounds_toArray, List.set_cons_zero, List.set_cons_succ]
                refine take_at (i := 2) 58 ?_ rfl rfl (by kernel_rfl) (by kernel_rfl) (by kernel_rfl) (fun _ _ _ h => h) (.inl ⟨rfl, ?_⟩) BV.out ?_
                rotate_left 1
                · intro w hSw; go_simp; try with_reducible rfl
                simp only [Act.put, List.setIfInBounds_toArray, List.set_cons_zero, List.set_cons_succ]
                refine take_at (i := 3) 59 ?_ rfl rfl (by kernel_rfl) (by kernel_rfl) (by kernel_rfl) (fun _ _ _ h => h) (.inl ⟨rfl, ?_⟩) BV.out ?_
                rotate_left 1
                · intro w hSw; go_simp; try with_reducible rfl
                simp only [Act.put, List.setIfInBounds_toArray, List.set_cons_zero, List.set_cons_succ]
                refine take_at (i := 4) 60 (pvo g (off + i * 12)) rfl rfl (by kernel_rfl) (by kernel_rfl) (by kernel_rfl) (fun _ _ _ h => h) (yields_ix (.tmp 58) (.tmp 59) 22 (.slice (some ⟨g, off, none⟩) acts.length cap) (.int .i64 (i : Int)) _ (fun W => IXA.out W) rfl rfl rfl rfl) BV.out ?_
                simp only [Act.put, List.setIfInBounds_toArray, List.set_cons_zero, List.set_cons_succ]
                refine take_at (i := 5) 61 ?_ rfl rfl (by kernel_rfl) (by kernel_rfl) (by kernel_rfl) (fun _ _ _ h => h) (.inl ⟨rfl, ?_⟩) BV.out ?_
                rotate_left 1
                · intro w hSw; go_simp; try with_reducible rfl
                simp only [Act.put, List.setIfInBounds_toArray, List.set_cons_zero, List.set_cons_succ]
                refine take_at (i := 6) 62 (OV) rfl rfl (by kernel_rfl) (by kernel_rfl) (by kernel_rfl) (fun _ _ _ h => h) (yields_ld (.tmp 61) 35 (pvo g (off + i * 12 + 2)) _ LAO.out rfl rfl rfl) BV.out ?_
                simp only [Act.put, List.setIfInBounds_toArray, List.set_cons_zero, List.set_cons_succ]
                refine take_at (i := 8) 64 ?_ rfl rfl (by kernel_rfl) (by kernel_rfl) (by kernel_rfl) (fun _ _ _ h => h) (.inl ⟨rfl, ?_⟩) BV.out ?_
                rotate_left 1
                · intro w hSw; go_simp; try with_reducible rfl
                simp only [Act.put, List.setIfInBounds_toArray, List.set_cons_zero, List.set_cons_succ]
                refine wpAnyH_ready (rs := [7]) (by kernel_rfl) (by simp) (br_call (i := 7) 63 12 #[pv p, .agg VM, OV] rfl rfl rfl (by go_simp) ((GAD.out _ _ K.out).mono ?_) AllReadyH.nil)
                rintro e v11 ⟨rfl, ho⟩
                have K := Lib.hid ho
                have BV := Lib.hid (VWS.out _ ho)
                clear ho
                refine ⟨_, rfl, BV.out, fun _ => ?_⟩
                simp only [Act.put, List.setIfInBounds_toArray, List.set_cons_zero, List.set_cons_succ]
                refine take_at (i := 9) 65 ?_ rfl rfl (by kernel_rfl) (by kernel_rfl) (by kernel_rfl) (fun _ _ _ h => h) (.inl ⟨rfl, ?_⟩) BV.out ?_
                rotate_left 1
                · intro w hSw; go_simp; try with_reducible rfl
                simp only [Act.put, List.setIfInBounds_toArray, List.set_cons_zero, List.set_cons_succ]
                refine wpAnyH_done (by kernel_rfl) ?_ _
                clear BV
                go_upto_region 24 with fail
                have K := Lib.hid (K.out.step (Below.refl v11.heap.size v11).drew)
                refine wp_region_held_drew (S := VS w k VM) (by kernel_rfl) (VWS.out _ K.out) (fun hHeld => ?_)
                have BV := Lib.hid (VWS.out _ K.out)
                clear hHeld
                refine take_at (i := 0) 91 ?_ rfl rfl (by kernel_rfl) (by kernel_rfl) (by kernel_rfl) (fun _ _ _ h => h) (.inl ⟨rfl, ?_⟩) BV.out ?_
                rotate_left 1
                · intro w hSw; go_simp; try with_reducible rfl
                simp only [Act.put, List.setIfInBounds_toArray, List.set_cons_zero, List.set_cons_succ]
                refine take_at (i := 2) 93 ?_ rfl rfl (by kernel_rfl) (by kernel_rfl) (by kernel_rfl) (fun _ _ _ h => h) (.inl ⟨rfl, ?_⟩) BV.out ?_
                rotate_left 1
                · intro w hSw; go_simp; try with_reducible rfl
                simp only [Act.put, List.setIfInBounds_toArray, List.set_cons_zero, List.set_cons_succ]
                refine wpAnyH_ready (rs := [1]) (by kernel_rfl) (by simp) (br_call (i := 1) 92 16 #[pv p] rfl rfl rfl (by go_simp) ((all_law _ K.out (by have := OL.out.2; omega)).mono ?_) AllReadyH.nil)
                rintro e v21 ⟨a5, c5, rfl, hb, ho5⟩
                have BV := Lib.hid (VWS.out _ (K.out.step hb))
                have K := Lib.hid (K.out.step hb)
                have O5 := Lib.hid ho5
                clear ho5
                clear hb
                refine ⟨_, rfl, BV.out, fun _ => ?_⟩
                simp only [Act.put, List.setIfInBounds_toArray, List.set_cons_zero, List.set_cons_succ]
                refine wpAnyH_ready (rs := [3]) (by kernel_rfl) (by simp) (br_call (i := 3) 94 14 #[.slice a5 l2.length c5, .slice a2 l2.length c2] rfl rfl rfl (by go_simp) ((same_self _ _ _ _ (own_olies O5.out) (own_olies K.out.row)).mono ?_) AllReadyH.nil)
                rintro e v22 ⟨rfl, hb⟩
                have BV := Lib.hid (VWS.out _ (K.out.step hb))
                have K := Lib.hid (K.out.step hb)
                have O5 := Lib.hid (own_belowK O5.out hb)
                clear hb
                refine ⟨_, rfl, BV.out, fun _ => ?_⟩
                simp only [Act.put, List.setIfInBounds_toArray, List.set_cons_zero, List.set_cons_succ]
                refine take_at (i := 4) 95 ?_ rfl rfl (by kernel_rfl) (by kernel_rfl) (by kernel_rfl) (fun _ _ _ h => h) (.inl ⟨rfl, ?_⟩) BV.out ?_
                rotate_left 1
                · intro w hSw; go_simp; try with_reducible rfl
                simp only [Act.put, List.setIfInBounds_toArray, List.set_cons_zero, List.set_cons_succ]
                refine take_at (i := 5) 96 ?_ rfl rfl (by kernel_rfl) (by kernel_rfl) (by kernel_rfl) (fun _ _ _ h => h) (.inl ⟨rfl, ?_⟩) BV.out ?_
                rotate_left 1
                · intro w hSw; go_simp; try with_reducible rfl
                simp only [Act.put, List.setIfInBounds_toArray, List.set_cons_zero, List.set_cons_succ]
                refine take_at (i := 6) 97 ?_ rfl rfl (by kernel_rfl) (by kernel_rfl) (by kernel_rfl) (fun _ _ _ h => h) (.inl ⟨rfl, ?_⟩) BV.out ?_
                rotate_left 1
                · intro w hSw; go_simp; try with_reducible rfl
                simp only [Act.put, List.setIfInBounds_toArray, List.set_cons_zero, List.set_cons_succ]
                refine take_at (i := 8) 99 ?_ rfl rfl (by kernel_rfl) (by kernel_rfl) (by kernel_rfl) (fun _ _ _ h => h) (.inl ⟨rfl, ?_⟩) BV.out ?_
                rotate_left 1
                · intro w hSw; go_simp; try with_reducible rfl
                simp only [Act.put, List.setIfInBounds_toArray, List.set_cons_zero, List.set_cons_succ]
                refine take_at (i := 9) 100 ?_ rfl rfl (by kernel_rfl) (by kernel_rfl) (by kernel_rfl) (fun _ _ _ h => h) (.inl ⟨rfl, ?_⟩) BV.out ?_
                rotate_left 1
                · intro w hSw; go_simp; try with_reducible rfl
                simp only [Act.put, List.setIfInBounds_toArray, List.set_cons_zero, List.set_cons_succ]
                refine wpAnyH_ready (rs := [7]) (by kernel_rfl) (by simp) (br_call (i := 7) 98 17 #[pv p] rfl rfl rfl (by go_simp) ((len_law _ K.out).mono ?_) AllReadyH.nil)
                rintro e v23 ⟨rfl, hb⟩
                have BV := Lib.hid (VWS.out _ (K.out.step hb))
                have K := Lib.hid (K.out.step hb)
                have O5 := Lib.hid (own_belowK O5.out hb)
                clear hb
                refine ⟨_, rfl, BV.out, fun _ => ?_⟩
                simp only [Act.put, List.setIfInBounds_toArray, List.set_cons_zero, List.set_cons_succ]
                refine take_at (i := 10) 101 ?_ rfl rfl (by kernel_rfl) (by kernel_rfl) (by kernel_rfl) (fun _ _ _ h => h) (.inl ⟨rfl, ?_⟩) BV.out ?_
                rotate_left 1
                · intro w hSw; go_simp; try with_reducible rfl
                simp only [Act.put, List.setIfInBounds_toArray, List.set_cons_zero, List.set_cons_succ]
                refine take_at (i := 11) 102 ?_ rfl rfl (by kernel_rfl) (by kernel_rfl) (by kernel_rfl) (fun _ _ _ h => h) (.inl ⟨rfl, ?_⟩) BV.out ?_
                rotate_left 1
                · intro w hSw; go_simp; try with_reducible rfl
                simp only [Act.put, List.setIfInBounds_toArray, List.set_cons_zero, List.set_cons_succ]
                refine take_at (i := 12) 103 ?_ rfl rfl (by kernel_rfl) (by kernel_rfl) (by kernel_rfl) (fun _ _ _ h => h) (.inl ⟨rfl, ?_⟩) BV.out ?_
                rotate_left 1
                · intro w hSw; go_simp; try with_reducible rfl
                simp only [Act.put, List.setIfInBounds_toArray, List.set_cons_zero, List.set_cons_succ]
                refine take_at (i := 13) 104 ?_ rfl rfl (by kernel_rfl) (by kernel_rfl) (by kernel_rfl) (fun _ _ _ h => h) (.inl ⟨rfl, ?_⟩) BV.out ?_
                rotate_left 1
                · intro w hSw; go_simp; try with_reducible rfl
                simp only [Act.put, List.setIfInBounds_toArray, List.set_cons_zero, List.set_cons_succ]
                refine take_at (i := 14) 105 (.agg VM) rfl rfl (by kernel_rfl) (by kernel_rfl) (by kernel_rfl) (fun _ _ _ h => h) (yields_ld (.tmp 6) 29 (pvo k 0) _ (fun W h => h.2) rfl rfl rfl) BV.out ?_
                simp only [Act.put, List.setIfInBounds_toArray, List.set_cons_zero, List.set_cons_succ]
                refine take_at (i := 16) 107 ?_ rfl rfl (by kernel_rfl) (by kernel_rfl) (by kernel_rfl) (fun _ _ _ h => h) (.inl ⟨rfl, ?_⟩) BV.out ?_
                rotate_left 1
                · intro w hSw; go_simp; try with_reducible rfl
                simp only [Act.put, List.setIfInBounds_toArray, List.set_cons_zero, List.set_cons_succ]
                refine take_at (i := 17) 108 (.agg VM) rfl rfl (by kernel_rfl) (by kernel_rfl) (by kernel_rfl) (fun _ _ _ h => h) (yields_ld (.tmp 6) 29 (pvo k 0) _ (fun W h => h.2) rfl rfl rfl) BV.out ?_
                simp only [Act.put, List.setIfInBounds_toArray, List.set_cons_zero, List.set_cons_succ]
                refine wpAnyH_ready (rs := [15]) (by kernel_rfl) (by simp) (br_call (i := 15) 106 19 #[pv p, .agg VM] rfl rfl rfl (by go_simp) ((LCK.out _ l2 _ K.out OL.out).mono ?_) AllReadyH.nil)
                rintro e v24 ⟨v6, rfl, hb, ho6⟩
                have BV := Lib.hid (VWS.out _ (K.out.step hb))
                have K := Lib.hid (K.out.step hb)
                have O5 := Lib.hid (own_belowK O5.out hb)
                have R6 := Lib.hid ho6
                clear ho6
                clear hb
                refine ⟨_, rfl, BV.out, fun _ => ?_⟩
                simp only [Act.put, List.setIfInBounds_toArray, List.set_cons_zero, List.set_cons_succ]
                refine wpAnyH_ready (rs := [18]) (by kernel_rfl) (by simp) (br_call (i := 18) 109 20 #[.slice a2 l2.length c2, .agg VM] rfl rfl rfl (by go_simp) ((RLC.out _ l2 _ K.out OL.out).mono ?_) AllReadyH.nil)
                rintro e v25 ⟨v7, rfl, hb, ho7⟩
                have BV := Lib.hid (VWS.out _ (K.out.step hb))
                have K := Lib.hid (K.out.step hb)
                have O5 := Lib.hid (own_belowK O5.out hb)
                have R6 := Lib.hid (R6.out.step hb)
                have R7 := Lib.hid ho7
                clear ho7
                clear hb
                refine ⟨_, rfl, BV.out, fun _ => ?_⟩
                simp only [Act.put, List.setIfInBounds_toArray, List.set_cons_zero, List.set_cons_succ]
                refine wpAnyH_ready (rs := [19]) (by kernel_rfl) (by simp) (br_call (i := 19) 110 18 #[v6, v7] rfl rfl rfl (by go_simp) ((same_any _ v6 v7 _ R6.out R7.out).mono ?_) AllReadyH.nil)
                rintro e v26 ⟨rfl, hb⟩
                have BV := Lib.hid (VWS.out _ (K.out.step hb))
                have K := Lib.hid (K.out.step hb)
                have O5 := Lib.hid (own_belowK O5.out hb)
                have R6 := Lib.hid (R6.out.step hb)
                have R7 := Lib.hid (R7.out.step hb)
                clear hb
                refine ⟨_, rfl, BV.out, fun _ => ?_⟩
                simp only [Act.put, List.setIfInBounds_toArray, List.set_cons_zero, List.set_cons_succ]
                refine take_at (i := 20) 111 ?_ rfl rfl (by kernel_rfl) (by kernel_rfl) (by kernel_rfl) (fun _ _ _ h => h) (.inl ⟨rfl, ?_⟩) BV.out ?_
                rotate_left 1
                · intro w hSw; go_simp; try with_reducible rfl
                simp only [Act.put, List.setIfInBounds_toArray, List.set_cons_zero, List.set_cons_succ]
                refine take_at (i := 21) 112 ?_ rfl rfl (by kernel_rfl) (by kernel_rfl) (by kernel_rfl) (fun _ _ _ h => h) (.inl ⟨rfl, ?_⟩) BV.out ?_
                rotate_left 1
                · intro w hSw; go_simp; try with_reducible rfl
                simp only [Act.put, List.setIfInBounds_toArray, List.set_cons_zero, List.set_cons_succ]
                refine wpAnyH_done (by kernel_rfl) ?_ _
                go_wp2
                go_roundw
                case rel => exact ⟨i + 1, l2, by go_num, by omega, by omega, by first | trivial | rfl, Lib.hid OL.out.2, Lib.hid ⟨K.out.lw.bel, K.out.lw.gap, K.out.lw.lo, K.out.row, OL.out.1⟩⟩
                case measure => simp [intOf]; omega
              · have n0 := bneb_ kd 0 q0
                have n1 := bneb_ kd 1 q1
                have n2 := bneb_ kd 2 q2
                by_cases q3 : kd = 3
                · subst q3
                  clear n0 n1 n2
                  have OL := Lib.hid OLR.out
                  go_upto_region 20 with fail
                  have K := Lib.hid (K.out.step (Below.refl w6.heap.size w6).drew)
                  refine wp_region_held_drew (S := VS w k VM) (by kernel_rfl) (VWS.out _ K.out) (fun hHeld => ?_)
                  have BV := Lib.hid (VWS.out _ K.out)
                  clear hHeld
                  refine take_at (i := 0) 69 ?_ rfl rfl (by kernel_rfl) (by kernel_rfl) (by kernel_rfl) (fun _ _ _ h => h) (.inl ⟨rfl, ?_⟩) BV.out ?_
                  rotate_left 1
                  · intro w hSw; go_simp; try with_reducible rfl
                  simp only [Act.put, List.setIfInBounds_toArray, List.set_cons_zero, List.set_cons_succ]
                  refine take_at (i := 1) 70 (.agg VM) rfl rfl (by kernel_rfl) (by kernel_rfl) (by kernel_rfl) (fun _ _ _ h => h) (yields_ld (.tmp 6) 29 (pvo k 0) _ (fun W h => h.2) rfl rfl rfl) BV.out ?_
                  simp only [Act.put, List.setIfInBounds_toArray, List.set_cons_zero, List.set_cons_succ]
                  refine take_at (i := 2) 71 ?_ rfl rfl (by kernel_rfl) (by kernel_rfl) (by kernel_rfl) (fun _ _ _ h => h) (.inl ⟨rfl, ?_⟩) BV.out ?_
                  rotate_left 1
                  · intro w hSw; go_simp; try with_reducible rfl
                  simp only [Act.put, List.setIfInBounds_toArray, List.set_cons_zero, List.set_cons_succ]
                  refine take_at (i := 3) 72 ?_ rfl rfl (by kernel_rfl) (by kernel_rfl) (by kernel_rfl) (fun _ _ _ h => h) (.inl ⟨rfl, ?_⟩) BV.out ?_
                  rotate_left 1
                  · intro w hSw; go_simp; try with_reducible rfl
                  simp only [Act.put, List.setIfInBounds_toArray, List.set_cons_zero, List.set_cons_succ]
                  refine take_at (i := 4) 73 (pvo g (off + i * 12)) rfl rfl (by kernel_rfl) (by kernel_rfl) (by kernel_rfl) (fun _ _ _ h => h) (yields_ix (.tmp 71) (.tmp 72) 22 (.slice (some ⟨g, off, none⟩) acts.length cap) (.int .i64 (i : Int)) _ (fun W => IXA.out W) rfl rfl rfl rfl) BV.out ?_
                  simp only [Act.put, List.setIfInBounds_toArray, List.set_cons_zero, List.set_cons_succ]
                  refine take_at (i := 5) 74 ?_ rfl rfl (by kernel_rfl) (by kernel_rfl) (by kernel_rfl) (fun _ _ _ h => h) (.inl ⟨rfl, ?_⟩) BV.out ?_
                  rotate_left 1
                  · intro w hSw; go_simp; try with_reducible rfl
                  simp only [Act.put, List.setIfInBounds_toArray, List.set_cons_zero, List.set_cons_succ]
                  refine take_at (i := 6) 75 (.int .i64 a.m) rfl rfl (by kernel_rfl) (by kernel_rfl) (by kernel_rfl) (fun _ _ _ h => h) (yields_ld (.tmp 74) 3 (pvo g (off + i * 12 + 11)) _ LAM.out rfl rfl rfl) BV.out ?_
                  simp only [Act.put, List.setIfInBounds_toArray, List.set_cons_zero, List.set_cons_succ]
                  refine wpAnyH_ready (rs := [7]) (by kernel_rfl) (by simp) (br_call (i := 7) 76 13 #[.slice ra l.length rc, .agg VM, .int .i64 a.m] rfl rfl rfl (by go_simp) ((RRD.out _ K.out).mono ?_) AllReadyH.nil)
                  rintro e v1 ⟨a2, c2, a3, c3, rfl, hk2, hb⟩
                  have BV := Lib.hid (VWS.out _ (K.out.step hb))
                  have K := Lib.hid (K.out.step hb)
                  have K2 := Lib.hid hk2
                  clear hk2
                  clear hb
                  refine ⟨_, rfl, BV.out, fun _ => ?_⟩
                  simp only [Act.put, List.setIfInBounds_toArray, List.set_cons_zero, List.set_cons_succ]
                  refine take_at (i := 8) 68 ?_ rfl rfl (by kernel_rfl) (by kernel_rfl) (by kernel_rfl) (fun _ _ _ h => h) (.inl ⟨rfl, ?_⟩) BV.out ?_
                  rotate_left 1
                  · intro w hSw; go_simp; try with_reducible rfl
                  simp only [Act.put, List.setIfInBounds_toArray, List.set_cons_zero, List.set_cons_succ]
                  refine take_at (i := 9) 77 ?_ rfl rfl (by kernel_rfl) (by kernel_rfl) (by kernel_rfl) (fun _ _ _ h => h) (.inl ⟨rfl, ?_⟩) BV.out ?_
                  rotate_left 1
                  · intro w hSw; go_simp; try with_reducible rfl
                  simp only [Act.put, List.setIfInBounds_toArray, List.set_cons_zero, List.set_cons_succ]
                  refine take_at (i := 10) 78 ?_ rfl rfl (by kernel_rfl) (by kernel_rfl) (by kernel_rfl) (fun _ _ _ h => h) (.inl ⟨rfl, ?_⟩) BV.out ?_
                  rotate_left 1
                  · intro w hSw; go_simp; try with_reducible rfl
                  simp only [Act.put, List.setIfInBounds_toArray, List.set_cons_zero, List.set_cons_succ]
                  refine take_at (i := 11) 9 ?_ rfl rfl (by kernel_rfl) (by kernel_rfl) (by kernel_rfl) (fun _ _ _ h => h) (.inl ⟨rfl, ?_⟩) BV.out ?_
                  rotate_left 1
                  · intro w hSw; go_simp; try with_reducible rfl
                  simp only [Act.put, List.setIfInBounds_toArray, List.set_cons_zero, List.set_cons_succ]
                  refine take_at (i := 12) 10 ?_ rfl rfl (by kernel_rfl) (by kernel_rfl) (by kernel_rfl) (fun _ _ _ h => h) (.inl ⟨rfl, ?_⟩) BV.out ?_
                  rotate_left 1
                  · intro w hSw; go_simp; try with_reducible rfl
                  simp only [Act.put, List.setIfInBounds_toArray, List.set_cons_zero, List.set_cons_succ]
                  refine wpAnyH_done (by kernel_rfl) ?_ _
                  clear BV K
                  go_upto_region 22 with fail
                  have K := Lib.hid (K2.out.step (Below.refl v1.heap.size v1).drew)
                  clear K2
                  refine wp_region_held_drew (S := VS w k VM) (by kernel_rfl) (VWS.out _ K.out.1) (fun hHeld => ?_)
                  have BV := Lib.hid (VWS.out _ K.out.1)
                  clear hHeld
                  refine take_at (i := 0) 80 ?_ rfl rfl (by kernel_rfl) (by kernel_rfl) (by kernel_rfl) (fun _ _ _ h => h) (.inl ⟨rfl, ?_⟩) BV.out ?_
                  rotate_left 1
                  · intro w hSw; go_simp; try with_reducible rfl
                  simp only [Act.put, List.setIfInBounds_toArray, List.set_cons_zero, List.set_cons_succ]
                  refine take_at (i := 1) 81 (.agg VM) rfl rfl (by kernel_rfl) (by kernel_rfl) (by kernel_rfl) (fun _ _ _ h => h) (yields_ld (.tmp 6) 29 (pvo k 0) _ (fun W h => h.2) rfl rfl rfl) BV.out ?_
                  simp only [Act.put, List.setIfInBounds_toArray, List.set_cons_zero, List.set_cons_succ]
                  refine take_at (i := 2) 82 ?_ rfl rfl (by kernel_rfl) (by kernel_rfl) (by kernel_rfl) (fun _ _ _ h => h) (.inl ⟨rfl, ?_⟩) BV.out ?_
                  rotate_left 1
                  · intro w hSw; go_simp; try with_reducible rfl
                  simp only [Act.put, List.setIfInBounds_toArray, List.set_cons_zero, List.set_cons_succ]
                  refine take_at (i := 3) 83 ?_ rfl rfl (by kernel_rfl) (by kernel_rfl) (by kernel_rfl) (fun _ _ _ h => h) (.inl ⟨rfl, ?_⟩) BV.out ?_
                  rotate_left 1
                  · intro w hSw; go_simp; try with_reducible rfl
                  simp only [Act.put, List.setIfInBounds_toArray, List.set_cons_zero, List.set_cons_succ]
                  refine take_at (i := 4) 84 (pvo g (off + i * 12)) rfl rfl (by kernel_rfl) (by kernel_rfl) (by kernel_rfl) (fun _ _ _ h => h) (yields_ix (.tmp 82) (.tmp 83) 22 (.slice (some ⟨g, off, none⟩) acts.length cap) (.int .i64 (i : Int)) _ (fun W => IXA.out W) rfl rfl rfl rfl) BV.out ?_
                  simp only [Act.put, List.setIfInBounds_toArray, List.set_cons_zero, List.set_cons_succ]
                  refine take_at (i := 5) 85 ?_ rfl rfl (by kernel_rfl) (by kernel_rfl) (by kernel_rfl) (fun _ _ _ h => h) (.inl ⟨rfl, ?_⟩) BV.out ?_
                  rotate_left 1
                  · intro w hSw; go_simp; try with_reducible rfl
                  simp only [Act.put, List.setIfInBounds_toArray, List.set_cons_zero, List.set_cons_succ]
                  refine take_at (i := 6) 86 (.int .i64 a.m) rfl rfl (by kernel_rfl) (by kernel_rfl) (by kernel_rfl) (fun _ _ _ h => h) (yields_ld (.tmp 85) 3 (pvo g (off + i * 12 + 11)) _ LAM.out rfl rfl rfl) BV.out ?_
                  simp only [Act.put, List.setIfInBounds_toArray, List.set_cons_zero, List.set_cons_succ]
                  refine take_at (i := 8) 88 ?_ rfl rfl (by kernel_rfl) (by kernel_rfl) (by kernel_rfl) (fun _ _ _ h => h) (.inl ⟨rfl, ?_⟩) BV.out ?_
                  rotate_left 1
                  · intro w hSw; go_simp; try with_reducible rfl
                  simp only [Act.put, List.setIfInBounds_toArray, List.set_cons_zero, List.set_cons_succ]
                  refine wpAnyH_ready (rs := [7]) (by kernel_rfl) (by simp) (br_call (i := 7) 87 15 #[pv p, .agg VM, .int .i64 a.m] rfl rfl rfl (by go_simp) ((GRD.out _ _ _ K.out).mono ?_) AllReadyH.nil)
                  rintro e v11 ⟨a4, c4, rfl, ho⟩
                  have K := Lib.hid ho
                  have BV := Lib.hid (VWS.out _ ho.1)
                  clear ho
                  refine ⟨_, rfl, BV.out, fun _ => ?_⟩
                  simp only [Act.put, List.setIfInBounds_toArray, List.set_cons_zero, List.set_cons_succ]
                  refine wpAnyH_ready (rs := [9]) (by kernel_rfl) (by simp) (br_call (i := 9) 89 14 #[.slice a4 l2t.length c4, .slice a3 l2t.length c3] rfl rfl rfl (by go_simp) ((SMR.out _ _ _ _ K.out).mono ?_) AllReadyH.nil)
                  rintro e v12 ⟨rfl, ho⟩
                  have K := Lib.hid ho
                  have BV := Lib.hid (VWS.out _ ho)
                  clear ho
                  refine ⟨_, rfl, BV.out, fun _ => ?_⟩
                  simp only [Act.put, List.setIfInBounds_toArray, List.set_cons_zero, List.set_cons_succ]
                  refine take_at (i := 10) 90 ?_ rfl rfl (by kernel_rfl) (by kernel_rfl) (by kernel_rfl) (fun _ _ _ h => h) (.inl ⟨rfl, ?_⟩) BV.out ?_
                  rotate_left 1
                  · intro w hSw; go_simp; try with_reducible rfl
                  simp only [Act.put, List.setIfInBounds_toArray, List.set_cons_zero, List.set_cons_succ]
                  refine wpAnyH_done (by kernel_rfl) ?_ _
                  clear BV
                  go_upto_region 24 with fail
                  have K := Lib.hid (K.out.step (Below.refl v12.heap.size v12).drew)
                  refine wp_region_held_drew (S := VS w k VM) (by kernel_rfl) (VWS.out _ K.out) (fun hHeld => ?_)
                  have BV := Lib.hid (VWS.out _ K.out)
                  clear hHeld
                  refine take_at (i := 0) 91 ?_ rfl rfl (by kernel_rfl) (by kernel_rfl) (by kernel_rfl) (fun _ _ _ h => h) (.inl ⟨rfl, ?_⟩) BV.out ?_
                  rotate_left 1
                  · intro w hSw; go_simp; try with_reducible rfl
                  simp only [Act.put, List.setIfInBounds_toArray, List.set_cons_zero, List.set_cons_succ]
                  refine take_at (i := 2) 93 ?_ rfl rfl (by kernel_rfl) (by kernel_rfl) (by kernel_rfl) (fun _ _ _ h => h) (.inl ⟨rfl, ?_⟩) BV.out ?_
                  rotate_left 1
                  · intro w hSw; go_simp; try with_reducible rfl
                  simp only [Act.put, List.setIfInBounds_toArray, List.set_cons_zero, List.set_cons_succ]
                  refine wpAnyH_ready (rs := [1]) (by kernel_rfl) (by simp) (br_call (i := 1) 92 16 #[pv p] rfl rfl rfl (by go_simp) ((all_law _ K.out (by have := OL.out.2; omega)).mono ?_) AllReadyH.nil)
                  rintro e v21 ⟨a5, c5, rfl, hb, ho5⟩
                  have BV := Lib.hid (VWS.out _ (K.out.step hb))
                  have K := Lib.hid (K.out.step hb)
                  have O5 := Lib.hid ho5
                  clear ho5
                  clear hb
                  refine ⟨_, rfl, BV.out, fun _ => ?_⟩
                  simp only [Act.put, List.setIfInBounds_toArray, List.set_cons_zero, List.set_cons_succ]
                  refine wpAnyH_ready (rs := [3]) (by kernel_rfl) (by simp) (br_call (i := 3) 94 14 #[.slice a5 l2r.length c5, .slice a2 l2r.length c2] rfl rfl rfl (by go_simp) ((same_self _ _ _ _ (own_olies O5.out) (own_olies K.out.row)).mono ?_) AllReadyH.nil)
                  rintro e v22 ⟨rfl, hb⟩
                  have BV := Lib.hid (VWS.out _ (K.out.step hb))
                  have K := Lib.hid (K.out.step hb)
                  have O5 := Lib.hid (own_belowK O5.out hb)
                  clear hb
                  refine ⟨_, rfl, BV.out, fun _ => ?_⟩
                  simp only [Act.put, List.setIfInBounds_toArray, List.set_cons_zero, List.set_cons_succ]
                  refine take_at (i := 4) 95 ?_ rfl rfl (by kernel_rfl) (by kernel_rfl) (by kernel_rfl) (fun _ _ _ h => h) (.inl ⟨rfl, ?_⟩) BV.out ?_
                  rotate_left 1
                  · intro w hSw; go_simp; try with_reducible rfl
                  simp only [Act.put, List.setIfInBounds_toArray, List.set_cons_zero, List.set_cons_succ]
                  refine take_at (i := 5) 96 ?_ rfl rfl (by kernel_rfl) (by kernel_rfl) (by kernel_rfl) (fun _ _ _ h => h) (.inl ⟨rfl, ?_⟩) BV.out ?_
                  rotate_left 1
                  · intro w hSw; go_simp; try with_reducible rfl
                  simp only [Act.put, List.setIfInBounds_toArray, List.set_cons_zero, List.set_cons_succ]
                  refine take_at (i := 6) 97 ?_ rfl rfl (by kernel_rfl) (by kernel_rfl) (by kernel_rfl) (fun _ _ _ h => h) (.inl ⟨rfl, ?_⟩) BV.out ?_
                  rotate_left 1
                  · intro w hSw; go_simp; try with_reducible rfl
                  simp only [Act.put, List.setIfInBounds_toArray, List.set_cons_zero, List.set_cons_succ]
                  refine take_at (i := 8) 99 ?_ rfl rfl (by kernel_rfl) (by kernel_rfl) (by kernel_rfl) (fun _ _ _ h => h) (.inl ⟨rfl, ?_⟩) BV.out ?_
                  rotate_left 1
                  · intro w hSw; go_simp; try with_reducible rfl
                  simp only [Act.put, List.setIfInBounds_toArray, List.set_cons_zero, List.set_cons_succ]
                  refine take_at (i := 9) 100 ?_ rfl rfl (by kernel_rfl) (by kernel_rfl) (by kernel_rfl) (fun _ _ _ h => h) (.inl ⟨rfl, ?_⟩) BV.out ?_
                  rotate_left 1
                  · intro w hSw; go_simp; try with_reducible rfl
                  simp only [Act.put, List.setIfInBounds_toArray, List.set_cons_zero, List.set_cons_succ]
                  refine wpAnyH_ready (rs := [7]) (by kernel_rfl) (by simp) (br_call (i := 7) 98 17 #[pv p] rfl rfl rfl (by go_simp) ((len_law _ K.out).mono ?_) AllReadyH.nil)
                  rintro e v23 ⟨rfl, hb⟩
                  have BV := Lib.hid (VWS.out _ (K.out.step hb))
                  have K := Lib.hid (K.out.step hb)
                  have O5 := Lib.hid (own_belowK O5.out hb)
                  clear hb
                  refine ⟨_, rfl, BV.out, fun _ => ?_⟩
                  simp only [Act.put, List.setIfInBounds_toArray, List.set_cons_zero, List.set_cons_succ]
                  refine take_at (i := 10) 101 ?_ rfl rfl (by kernel_rfl) (by kernel_rfl) (by kernel_rfl) (fun _ _ _ h => h) (.inl ⟨rfl, ?_⟩) BV.out ?_
                  rotate_left 1
                  · intro w hSw; go_simp; try with_reducible rfl
                  simp only [Act.put, List.setIfInBounds_toArray, List.set_cons_zero, List.set_cons_succ]
                  refine take_at (i := 11) 102 ?_ rfl rfl (by kernel_rfl) (by kernel_rfl) (by kernel_rfl) (fun _ _ _ h => h) (.inl ⟨rfl, ?_⟩) BV.out ?_
                  rotate_left 1
                  · intro w hSw; go_simp; try with_reducible rfl
                  simp only [Act.put, List.setIfInBounds_toArray, List.set_cons_zero, List.set_cons_succ]
                  refine take_at (i := 12) 103 ?_ rfl rfl (by kernel_rfl) (by kernel_rfl) (by kernel_rfl) (fun _ _ _ h => h) (.inl ⟨rfl, ?_⟩) BV.out ?_
                  rotate_left 1
                  · intro w hSw; go_simp; try with_reducible rfl
                  simp only [Act.put, List.setIfInBounds_toArray, List.set_cons_zero, List.set_cons_succ]
                  refine take_at (i := 13) 104 ?_ rfl rfl (by kernel_rfl) (by kernel_rfl) (by kernel_rfl) (fun _ _ _ h => h) (.inl ⟨rfl, ?_⟩) BV.out ?_
                  rotate_left 1
                  · intro w hSw; go_simp; try with_reducible rfl
                  simp only [Act.put, List.setIfInBounds_toArray, List.set_cons_zero, List.set_cons_succ]
                  refine take_at (i := 14) 105 (.agg VM) rfl rfl (by kernel_rfl) (by kernel_rfl) (by kernel_rfl) (fun _ _ _ h => h) (yields_ld (.tmp 6) 29 (pvo k 0) _ (fun W h => h.2) rfl rfl rfl) BV.out ?_
                  simp only [Act.put, List.setIfInBounds_toArray, List.set_cons_zero, List.set_cons_succ]
                  refine take_at (i := 16) 107 ?_ rfl rfl (by kernel_rfl) (by kernel_rfl) (by kernel_rfl) (fun _ _ _ h => h) (.inl ⟨rfl, ?_⟩) BV.out ?_
                  rotate_left 1
                  · intro w hSw; go_simp; try with_reducible rfl
                  simp only [Act.put, List.setIfInBounds_toArray, List.set_cons_zero, List.set_cons_succ]
                  refine take_at (i := 17) 108 (.agg VM) rfl rfl (by kernel_rfl) (by kernel_rfl) (by kernel_rfl) (fun _ _ _ h => h) (yields_ld (.tmp 6) 29 (pvo k 0) _ (fun W h => h.2) rfl rfl rfl) BV.out ?_
                  simp only [Act.put, List.setIfInBounds_toArray, List.set_cons_zero, List.set_cons_succ]
                  refine wpAnyH_ready (rs := [15]) (by kernel_rfl) (by simp) (br_call (i := 15) 106 19 #[pv p, .agg VM] rfl rfl rfl (by go_simp) ((LCK.out _ l2r _ K.out OL.out).mono ?_) AllReadyH.nil)
                  rintro e v24 ⟨v6, rfl, hb, ho6⟩
                  have BV := Lib.hid (VWS.out _ (K.out.step hb))
                  have K := Lib.hid (K.out.step hb)
                  have O5 := Lib.hid (own_belowK O5.out hb)
                  have R6 := Lib.hid ho6
                  clear ho6
                  clear hb
                  refine ⟨_, rfl, BV.out, fun _ => ?_⟩
                  simp only [Act.put, List.setIfInBounds_toArray, List.set_cons_zero, List.set_cons_succ]
                  refine wpAnyH_ready (rs := [18]) (by kernel_rfl) (by simp) (br_call (i := 18) 109 20 #[.slice a2 l2r.length c2, .agg VM] rfl rfl rfl (by go_simp) ((RLC.out _ l2r _ K.out OL.out).mono ?_) AllReadyH.nil)
                  rintro e v25 ⟨v7, rfl, hb, ho7⟩
                  have BV := Lib.hid (VWS.out _ (K.out.step hb))
                  have K := Lib.hid (K.out.step hb)
                  have O5 := Lib.hid (own_belowK O5.out hb)
                  have R6 := Lib.hid (R6.out.step hb)
                  have R7 := Lib.hid ho7
                  clear ho7
                  clear hb
                  refine ⟨_, rfl, BV.out, fun _ => ?_⟩
                  simp only [Act.put, List.setIfInBounds_toArray, List.set_cons_zero, List.set_cons_succ]
                  refine wpAnyH_ready (rs := [19]) (by kernel_rfl) (by simp) (br_call (i := 19) 110 18 #[v6, v7] rfl rfl rfl (by go_simp) ((same_any _ v6 v7 _ R6.out R7.out).mono ?_) AllReadyH.nil)
                  rintro e v26 ⟨rfl, hb⟩
                  have BV := Lib.hid (VWS.out _ (K.out.step hb))
                  have K := Lib.hid (K.out.step hb)
                  have O5 := Lib.hid (own_belowK O5.out hb)
                  have R6 := Lib.hid (R6.out.step hb)
                  have R7 := Lib.hid (R7.out.step hb)
                  clear hb
                  refine ⟨_, rfl, BV.out, fun _ => ?_⟩
                  simp only [Act.put, List.setIfInBounds_toArray, List.set_cons_zero, List.set_cons_succ]
                  refine take_at (i := 20) 111 ?_ rfl rfl (by kernel_rfl) (by kernel_rfl) (by kernel_rfl) (fun _ _ _ h => h) (.inl ⟨rfl, ?_⟩) BV.out ?_
                  rotate_left 1
                  · intro w hSw; go_simp; try with_reducible rfl
                  simp only [Act.put, List.setIfInBounds_toArray, List.set_cons_zero, List.set_cons_succ]
                  refine take_at (i := 21) 112 ?_ rfl rfl (by kernel_rfl) (by kernel_rfl) (by kernel_rfl) (fun _ _ _ h => h) (.inl ⟨rfl, ?_⟩) BV.out ?_
                  rotate_left 1
                  · intro w hSw; go_simp; try with_reducible rfl
                  simp only [Act.put, List.setIfInBounds_toArray, List.set_cons_zero, List.set_cons_succ]
                  refine wpAnyH_done (by kernel_rfl) ?_ _
                  go_wp2
                  go_roundw
                  case rel => exact ⟨i + 1, l2r, by go_num, by omega, by omega, by first | trivial | rfl, Lib.hid OL.out.2, Lib.hid ⟨K.out.lw.bel, K.out.lw.gap, K.out.lw.lo, K.out.row, OL.out.1⟩⟩
                  case measure => simp [intOf]; omega
                · have n3 := bneb_ kd 3 q3
                  have OL := Lib.hid OL0.out
                  go_upto_region 24 with fail
                  have K := Lib.hid (K.out.step (Below.refl w6.heap.size w6).drew)
                  refine wp_region_held_drew (S := VS w k VM) (by kernel_rfl) (VWS.out _ K.out) (fun hHeld => ?_)
                  have BV := Lib.hid (VWS.out _ K.out)
                  clear hHeld
                  refine take_at (i := 0) 91 ?_ rfl rfl (by kernel_rfl) (by kernel_rfl) (by kernel_rfl) (fun _ _ _ h => h) (.inl ⟨rfl, ?_⟩) BV.out ?_
                  rotate_left 1
                  · intro w hSw; go_simp; try with_reducible rfl
                  simp only [Act.put, List.setIfInBounds_toArray, List.set_cons_zero, List.set_cons_succ]
                  refine take_at (i := 2) 93 ?_ rfl rfl (by kernel_rfl) (by kernel_rfl) (by kernel_rfl) (fun _ _ _ h => h) (.inl ⟨rfl, ?_⟩) BV.out ?_
                  rotate_left 1
                  · intro w hSw; go_simp; try with_reducible rfl
                  simp only [Act.put, List.setIfInBounds_toArray, List.set_cons_zero, List.set_cons_succ]
                  refine wpAnyH_ready (rs := [1]) (by kernel_rfl) (by simp) (br_call (i := 1) 92 16 #[pv p] rfl rfl rfl (by go_simp) ((all_law _ K.out (by have := OL.out.2; omega)).mono ?_) AllReadyH.nil)
                  rintro e v21 ⟨a5, c5, rfl, hb, ho5⟩
                  have BV := Lib.hid (VWS.out _ (K.out.step hb))
                  have K := Lib.hid (K.out.step hb)
                  have O5 := Lib.hid ho5
                  clear ho5
                  clear hb
                  refine ⟨_, rfl, BV.out, fun _ => ?_⟩
                  simp only [Act.put, List.setIfInBounds_toArray, List.set_cons_zero, List.set_cons_succ]
                  refine wpAnyH_ready (rs := [3]) (by kernel_rfl) (by simp) (br_call (i := 3) 94 14 #[.slice a5 l.length c5, .slice ra l.length rc] rfl rfl rfl (by go_simp) ((same_self _ _ _ _ (own_olies O5.out) (own_olies K.out.row)).mono ?_) AllReadyH.nil)
                  rintro e v22 ⟨rfl, hb⟩
                  have BV := Lib.hid (VWS.out _ (K.out.step hb))
                  have K := Lib.hid (K.out.step hb)
                  have O5 := Lib.hid (own_belowK O5.out hb)
                  clear hb
                  refine ⟨_, rfl, BV.out, fun _ => ?_⟩
                  simp only [Act.put, List.setIfInBounds_toArray, List.set_cons_zero, List.set_cons_succ]
                  refine take_at (i := 4) 95 ?_ rfl rfl (by kernel_rfl) (by kernel_rfl) (by kernel_rfl) (fun _ _ _ h => h) (.inl ⟨rfl, ?_⟩) BV.out ?_
                  rotate_left 1
                  · intro w hSw; go_simp; try with_reducible rfl
                  simp only [Act.put, List.setIfInBounds_toArray, List.set_cons_zero, List.set_cons_succ]
                  refine take_at (i := 5) 96 ?_ rfl rfl (by kernel_rfl) (by kernel_rfl) (by kernel_rfl) (fun _ _ _ h => h) (.inl ⟨rfl, ?_⟩) BV.out ?_
                  rotate_left 1
                  · intro w hSw; go_simp; try with_reducible rfl
                  simp only [Act.put, List.setIfInBounds_toArray, List.set_cons_zero, List.set_cons_succ]
                  refine take_at (i := 6) 97 ?_ rfl rfl (by kernel_rfl) (by kernel_rfl) (by kernel_rfl) (fun _ _ _ h => h) (.inl ⟨rfl, ?_⟩) BV.out ?_
                  rotate_left 1
                  · intro w hSw; go_simp; try with_reducible rfl
                  simp only [Act.put, List.setIfInBounds_toArray, List.set_cons_zero, List.set_cons_succ]
                  refine take_at (i := 8) 99 ?_ rfl rfl (by kernel_rfl) (by kernel_rfl) (by kernel_rfl) (fun _ _ _ h => h) (.inl ⟨rfl, ?_⟩) BV.out ?_
                  rotate_left 1
                  · intro w hSw; go_simp; try with_reducible rfl
                  simp only [Act.put, List.setIfInBounds_toArray, List.set_cons_zero, List.set_cons_succ]
                  refine take_at (i := 9) 100 ?_ rfl rfl (by kernel_rfl) (by kernel_rfl) (by kernel_rfl) (fun _ _ _ h => h) (.inl ⟨rfl, ?_⟩) BV.out ?_
                  rotate_left 1
                  · intro w hSw; go_simp; try with_reducible rfl
                  simp only [Act.put, List.setIfInBounds_toArray, List.set_cons_zero, List.set_cons_succ]
                  refine wpAnyH_ready (rs := [7]) (by kernel_rfl) (by simp) (br_call (i := 7) 98 17 #[pv p] rfl rfl rfl (by go_simp) ((len_law _ K.out).mono ?_) AllReadyH.nil)
                  rintro e v23 ⟨rfl, hb⟩
                  have BV := Lib.hid (VWS.out _ (K.out.step hb))
                  have K := Lib.hid (K.out.step hb)
                  have O5 := Lib.hid (own_belowK O5.out hb)
                  clear hb
                  refine ⟨_, rfl, BV.out, fun _ => ?_⟩
                  simp only [Act.put, List.setIfInBounds_toArray, List.set_cons_zero, List.set_cons_succ]
                  refine take_at (i := 10) 101 ?_ rfl rfl (by kernel_rfl) (by kernel_rfl) (by kernel_rfl) (fun _ _ _ h => h) (.inl ⟨rfl, ?_⟩) BV.out ?_
                  rotate_left 1
                  · intro w hSw; go_simp; try with_reducible rfl
                  simp only [Act.put, List.setIfInBounds_toArray, List.set_cons_zero, List.set_cons_succ]
                  refine take_at (i := 11) 102 ?_ rfl rfl (by kernel_rfl) (by kernel_rfl) (by kernel_rfl) (fun _ _ _ h => h) (.inl ⟨rfl, ?_⟩) BV.out ?_
                  rotate_left 1
                  · intro w hSw; go_simp; try with_reducible rfl
                  simp only [Act.put, List.setIfInBounds_toArray, List.set_cons_zero, List.set_cons_succ]
                  refine take_at (i := 12) 103 ?_ rfl rfl (by kernel_rfl) (by kernel_rfl) (by kernel_rfl) (fun _ _ _ h => h) (.inl ⟨rfl, ?_⟩) BV.out ?_
                  rotate_left 1
                  · intro w hSw; go_simp; try with_reducible rfl
                  simp only [Act.put, List.setIfInBounds_toArray, List.set_cons_zero, List.set_cons_succ]
                  refine take_at (i := 13) 104 ?_ rfl rfl (by kernel_rfl) (by kernel_rfl) (by kernel_rfl) (fun _ _ _ h => h) (.inl ⟨rfl, ?_⟩) BV.out ?_
                  rotate_left 1
                  · intro w hSw; go_simp; try with_reducible rfl
                  simp only [Act.put, List.setIfInBounds_toArray, List.set_cons_zero, List.set_cons_succ]
                  refine take_at (i := 14) 105 (.agg VM) rfl rfl (by kernel_rfl) (by kernel_rfl) (by kernel_rfl) (fun _ _ _ h => h) (yields_ld (.tmp 6) 29 (pvo k 0) _ (fun W h => h.2) rfl rfl rfl) BV.out ?_
                  simp only [Act.put, List.setIfInBounds_toArray, List.set_cons_zero, List.set_cons_succ]
                  refine take_at (i := 16) 107 ?_ rfl rfl (by kernel_rfl) (by kernel_rfl) (by kernel_rfl) (fun _ _ _ h => h) (.inl ⟨rfl, ?_⟩) BV.out ?_
                  rotate_left 1
                  · intro w hSw; go_simp; try with_reducible rfl
                  simp only [Act.put, List.setIfInBounds_toArray, List.set_cons_zero, List.set_cons_succ]
                  refine take_at (i := 17) 108 (.agg VM) rfl rfl (by kernel_rfl) (by kernel_rfl) (by kernel_rfl) (fun _ _ _ h => h) (yields_ld (.tmp 6) 29 (pvo k 0) _ (fun W h => h.2) rfl rfl rfl) BV.out ?_
                  simp only [Act.put, List.setIfInBounds_toArray, List.set_cons_zero, List.set_cons_succ]
                  refine wpAnyH_ready (rs := [15]) (by kernel_rfl) (by simp) (br_call (i := 15) 106 19 #[pv p, .agg VM] rfl rfl rfl (by go_simp) ((LCK.out _ l _ K.out OL.out).mono ?_) AllReadyH.nil)
                  rintro e v24 ⟨v6, rfl, hb, ho6⟩
                  have BV := Lib.hid (VWS.out _ (K.out.step hb))
                  have K := Lib.hid (K.out.step hb)
                  have O5 := Lib.hid (own_belowK O5.out hb)
                  have R6 := Lib.hid ho6
                  clear ho6
                  clear hb
                  refine ⟨_, rfl, BV.out, fun _ => ?_⟩
                  simp only [Act.put, List.setIfInBounds_toArray, List.set_cons_zero, List.set_cons_succ]
                  refine wpAnyH_ready (rs := [18]) (by kernel_rfl) (by simp) (br_call (i := 18) 109 20 #[.slice ra l.length rc, .agg VM] rfl rfl rfl (by go_simp) ((RLC.out _ l _ K.out OL.out).mono ?_) AllReadyH.nil)
                  rintro e v25 ⟨v7, rfl, hb, ho7⟩
                  have BV := Lib.hid (VWS.out _ (K.out.step hb))
                  have K := Lib.hid (K.out.step hb)
                  have O5 := Lib.hid (own_belowK O5.out hb)
                  have R6 := Lib.hid (R6.out.step hb)
                  have R7 := Lib.hid ho7
                  clear ho7
                  clear hb
                  refine ⟨_, rfl, BV.out, fun _ => ?_⟩
                  simp only [Act.put, List.setIfInBounds_toArray, List.set_cons_zero, List.set_cons_succ]
                  refine wpAnyH_ready (rs := [19]) (by kernel_rfl) (by simp) (br_call (i := 19) 110 18 #[v6, v7] rfl rfl rfl (by go_simp) ((same_any _ v6 v7 _ R6.out R7.out).mono ?_) AllReadyH.nil)
                  rintro e v26 ⟨rfl, hb⟩
                  have BV := Lib.hid (VWS.out _ (K.out.step hb))
                  have K := Lib.hid (K.out.step hb)
                  have O5 := Lib.hid (own_belowK O5.out hb)
                  have R6 := Lib.hid (R6.out.step hb)
                  have R7 := Lib.hid (R7.out.step hb)
                  clear hb
                  refine ⟨_, rfl, BV.out, fun _ => ?_⟩
                  simp only [Act.put, List.setIfInBounds_toArray, List.set_cons_zero, List.set_cons_succ]
                  refine take_at (i := 20) 111 ?_ rfl rfl (by kernel_rfl) (by kernel_rfl) (by kernel_rfl) (fun _ _ _ h => h) (.inl ⟨rfl, ?_⟩) BV.out ?_
                  rotate_left 1
                  · intro w hSw; go_simp; try with_reducible rfl
                  simp only [Act.put, List.setIfInBounds_toArray, List.set_cons_zero, List.set_cons_succ]
                  refine take_at (i := 21) 112 ?_ rfl rfl (by kernel_rfl) (by kernel_rfl) (by kernel_rfl) (fun _ _ _ h => h) (.inl ⟨rfl, ?_⟩) BV.out ?_
                  rotate_left 1
                  · intro w hSw; go_simp; try with_reducible rfl
                  simp only [Act.put, List.setIfInBounds_toArray, List.set_cons_zero, List.set_cons_succ]
                  refine wpAnyH_done (by kernel_rfl) ?_ _
                  go_wp2
                  go_roundw
                  case rel => exact ⟨i + 1, l, by go_num, by omega, by omega, by first | trivial | rfl, Lib.hid OL.out.2, Lib.hid ⟨K.out.lw.bel, K.out.lw.gap, K.out.lw.lo, K.out.row, OL.out.1⟩⟩
                  case measure => simp [intOf]; omega
      · have hd : (¬ i < acts.length) ∨ (i < acts.length ∧ ¬ i < 40) := by
          by_cases h : i < acts.length
          · exact .inr ⟨h, fun h2 => hlt ⟨h, h2⟩⟩
          · exact .inl h
        clear hlt
        rcases hd with hd | ⟨hd, hd2⟩
        all_goals
          go_wp2_with fail
          refine (AWK.out _).mono ?_
          rintro e w4 ⟨rfl, hb⟩
          have FIN := Lib.hid (K1.out.bel.trans (hb.mono K1.out.bel.size))
          clear hb
          go_wp2
          go_returns
          exact ⟨rfl, FIN.out⟩
end Go.Proofs.Ytgnnpfainoppeaa
