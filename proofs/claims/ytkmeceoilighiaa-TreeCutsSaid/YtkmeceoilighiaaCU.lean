/- TreeCuts, walked. Made by genru14.py. -/
import Derived.Test.YtkmeceoilighiaaCP
set_option linter.unusedVariables false
set_option linter.unusedSimpArgs false
set_option maxRecDepth 100000
namespace Go.Proofs.Ytkmeceoilighiaa
open Go.RowKit Go.Shelf
open Tb (Rw setF dropF getF aboveF Rise TabI TM LiesK nodesF encS ltS)

theorem len0 (w : World) (X : Value) (u : Option Addr) (ft fr : Int) (a : Option Addr) (c : Nat) (H : Have w X u ft fr a 0 c) : Calls Try.prog 17 #[X] w fun e w' => e = .returned (.int .i64 0) ∧ Below w.heap.size w w' := len_of w X u ft fr a 0 c H
theorem ne24 (a b : Int) (W : World) : (binOp .neq 24 (.agg #[.int .i64 a, .int .i64 b]) (.agg #[.int .i64 a, .int .i64 b])).run Try.prog W = .ok (.bool false) W := by
  go_simp
theorem gn24 (x y : Operand) (a b : Array Value) (w : World) : (eqGuard .neq 24 x y (.agg a) (.agg b)).run Try.prog w = .ok () w := run_eqGuard_agg w .neq 24 x y _ _ egt24
structure C1 (wU W : World) (u : List O) (ut ur : Int) (p q mb p' q' mb' i : Nat) : Prop where
  bel : Below wU.heap.size wU W
  ex : ∃ L la lca lb lcb, TreeI W wU.heap.size p q mb [] 0 0 L la lca ∧ TreeI W wU.heap.size p' q' mb' [] 0 0 L lb lcb ∧ Apart p q mb la p' q' mb' lb ∧ LK L u i ut ur
structure C2 (wU W : World) (u Lo : List O) (ut ur : Int) (p q mb p' q' mb' p3 q3 mb3 i : Nat) : Prop where
  bel : Below wU.heap.size wU W
  ex : ∃ H la lca lb lcb lc lcc, TreeI W wU.heap.size p q mb [] 0 0 (Lo ++ H) la lca ∧ TreeI W wU.heap.size p' q' mb' (playF [] Lo) ut ur H lb lcb ∧ TreeI W wU.heap.size p3 q3 mb3 (playF [] Lo) ut ur H lc lcc ∧
    Apart p q mb la p' q' mb' lb ∧ Apart p q mb la p3 q3 mb3 lc ∧ Apart p' q' mb' lb p3 q3 mb3 lc ∧ LH H u i ut ur
theorem add_okZ {w w' : World} {B p q mb : Nat} {T0 : List Rw} {ft fr : Int} {L' : List O} {la : Option Addr}
    (hr : ((0 : Int) ≠ 0 ∧ Below w.heap.size w w') ∨ (True ∧ Far (HasT p mb la) w w' ∧ ∃ g lc', TreeI w' B p q mb T0 ft fr L' (some ⟨g, 0, none⟩) lc' ∧ ((lgV la 0 0).ownBlock = some g ∨ w.heap.size ≤ g))) : AddR w w' B p q mb T0 ft fr L' la := by
  rcases hr with ⟨h, _⟩ | ⟨_, h1, h2⟩
  · exact absurd rfl h
  · exact ⟨h1, h2⟩
theorem trip_add {w W W' : World} {p q mb : Nat} {T0 : List Rw} {ft fr : Int} {L L1 : List O} {la : Option Addr} {lc : Nat} {p' q' mb' : Nat} {T0' : List Rw} {ft' fr' : Int} {L' : List O} {lb : Option Addr} {lcb : Nat} {p3 q3 mb3 : Nat} {T3 : List Rw} {f3 r3 : Int} {L3 : List O} {l3 : Option Addr} {lc3 : Nat}
    (hb : Below w.heap.size w W) (t1 : TreeI W w.heap.size p q mb T0 ft fr L la lc) (t2 : TreeI W w.heap.size p' q' mb' T0' ft' fr' L' lb lcb) (t3 : TreeI W w.heap.size p3 q3 mb3 T3 f3 r3 L3 l3 lc3) (ap : Apart p q mb la p' q' mb' lb) (ap3 : Apart p q mb la p3 q3 mb3 l3) (hr : AddR W W' w.heap.size p q mb T0 ft fr L1 la) :
    Below w.heap.size w W' ∧ True ∧ ∃ g lc', TreeI W' w.heap.size p q mb T0 ft fr L1 (some ⟨g, 0, none⟩) lc' ∧ TreeI W' w.heap.size p' q' mb' T0' ft' fr' L' lb lcb ∧ Apart p q mb (some ⟨g, 0, none⟩) p' q' mb' lb ∧ TreeI W' w.heap.size p3 q3 mb3 T3 f3 r3 L3 l3 lc3 ∧ Apart p q mb (some ⟨g, 0, none⟩) p3 q3 mb3 l3 := by
  obtain ⟨hf, g, lc', h1, hg⟩ := hr
  exact ⟨hb.trans (hf.belowT t1), trivial, g, lc', h1, keep_add t2 ap hf, apart_add t2 ap hg, keep_add t3 ap3 hf, apart_add t3 ap3 hg⟩
theorem pair_add {w W W' : World} {p q mb : Nat} {T0 : List Rw} {ft fr : Int} {L L1 : List O} {la : Option Addr} {lc : Nat} {p' q' mb' : Nat} {T0' : List Rw} {ft' fr' : Int} {L' : List O} {lb : Option Addr} {lcb : Nat}
    (hb : Below w.heap.size w W) (t1 : TreeI W w.heap.size p q mb T0 ft fr L la lc) (t2 : TreeI W w.heap.size p' q' mb' T0' ft' fr' L' lb lcb) (ap : Apart p q mb la p' q' mb' lb) (hr : AddR W W' w.heap.size p q mb T0 ft fr L1 la) :
    Below w.heap.size w W' ∧ ∃ g lc', TreeI W' w.heap.size p q mb T0 ft fr L1 (some ⟨g, 0, none⟩) lc' ∧ TreeI W' w.heap.size p' q' mb' T0' ft' fr' L' lb lcb ∧ Apart p q mb (some ⟨g, 0, none⟩) p' q' mb' lb := by
  obtain ⟨hf, g, lc', h1, hg⟩ := hr
  exact ⟨hb.trans (hf.belowT t1), g, lc', h1, keep_add t2 ap hf, apart_add t2 ap hg⟩
set_option maxHeartbeats 12800000 in
theorem cuts_law (w : World) (v : Value) (l : List O) (h : OLies w v l) (hok : ∀ o ∈ l, OkO o) (hsz : ∀ o ∈ l, o.nm.size ≤ 9223372036854775807) (ut ur : Int) (hut : Tb.I64 ut) (hur : Tb.I64 ur) :
    Calls Try.prog 6 #[v, .agg #[.int .i64 ut, .int .i64 ur]] w fun e w' => e = .returned (.bool true) ∧ Below w.heap.size w w' := by
  have hb := pl_vstep w (.cells #[.int .i64 ut, .int .i64 ur] 24)
  have hn := heap_alloc_new w (.cells #[.int .i64 ut, .int .i64 ur] 24)
  obtain ⟨w0, hw0⟩ : ∃ z, w.alloc (.cells #[.int .i64 ut, .int .i64 ur] 24) = z := ⟨_, rfl⟩
  rw [hw0] at hb hn
  have HW := Lib.hid hw0
  have H := Lib.hid (h.step hb)
  have B0 := Lib.hid hb
  have LB := Lib.hid (fun W (hb : Below w0.heap.size w0 W) => ldSt ((hb.block _ (pl_lt hn)).trans hn))
  have c0 : w0.cell? ⟨w.heap.size, 0, none⟩ = some (.int .i64 ut) := by rw [cell_of_row _ _ _ _ _ _ hn]; rfl
  have c1 : w0.cell? ⟨w.heap.size, 1, none⟩ = some (.int .i64 ur) := by rw [cell_of_row _ _ _ _ _ _ hn]; rfl
  obtain ⟨ao, cap, rfl⟩ := h.shape
  have AW := Lib.hid (fun W => awake_any W)
  have NW := Lib.hid (fun W => new_of W)
  have RR := Lib.hid (fun W => St.rright_any W ut ur)
  have UI := uniq_is l
  have UR := Lib.hid (show ∀ o ∈ uniqF l, rO o = true ∧ OkO o from fun o ho => ⟨UI.right o ho, hok o (UI.mem o ho)⟩)
  have US := Lib.hid (show ∀ o ∈ uniqF l, o.nm.size ≤ 9223372036854775807 from fun o ho => hsz o (UI.mem o ho))
  have U1 := Lib.hid (show One (uniqF l) from UI.one)
  have UL := Lib.hid UI.len
  clear hw0 hb hn h
  go_enter Try.func6, Try.ntmps6
  go_upto_region 1 with (fail)
  rw [HW.out]
  by_cases hl : 30 < l.length
  · have hd1 : (30 : Int) < (l.length : Int) := by omega
    have hd2 : decide ((30 : Int) < (l.length : Int)) = true := decide_eq_true hd1
    have hd3 : decide ((l.length : Int) > 30) = true := decide_eq_true hd1
    clear UR US U1 UL NW H UI hok hsz RR LB
    go_wp2_with fail
    refine (AW.out w0).mono ?_
    rintro e w5 ⟨rfl, hb⟩
    have FB := Lib.hid (B0.out.trans (hb.mono B0.out.size))
    clear hb
    go_wp2
    go_returns
    exact ⟨rfl, FB.out⟩
  have hd1 : ¬ (30 : Int) < (l.length : Int) := by omega
  have hd2 : decide ((30 : Int) < (l.length : Int)) = false := decide_eq_false hd1
  have hd3 : decide ((l.length : Int) > 30) = false := decide_eq_false hd1
  have UN := Lib.hid (fun W (hW : Below w0.heap.size w0 W) => uniq_any W _ l (H.out.step hW) hsz (by omega))
  have HL := Lib.hid (show (uniqF l).length ≤ 30 from by have := UL.out; omega)
  clear hl hok hsz UI UL
  go_wp2_with fail
  refine (RR.out w0).mono ?_
  rintro e wr ⟨rfl, hb⟩
  have BR := Lib.hid hb
  clear hb c0 c1 RR
  cases hrb : St.rightB ut ur with
  | false =>
    clear UN UR US U1 HL NW H LB
    go_wp2_with fail
    refine (AW.out wr).mono ?_
    rintro e w5 ⟨rfl, hb⟩
    have FB := Lib.hid (B0.out.trans ((BR.out.trans (hb.mono BR.out.size)).mono B0.out.size))
    clear hb
    go_wp2
    go_returns
    exact ⟨rfl, FB.out⟩
  | true =>
    have HR := Lib.hid hrb
    clear hrb
    go_wp2_with fail
    refine (UN.out wr BR.out).mono ?_
    rintro e wU ⟨sv, rfl, hown, hb⟩
    have BU := Lib.hid (BR.out.trans (hb.mono BR.out.size))
    obtain ⟨sa, sc, rfl⟩ := Ve.own_shape hown
    have SO := Lib.hid (own_olies hown)
    clear hown hb UN H hd1 hd2 hd3 BR
    obtain ⟨u, hu⟩ : ∃ z, uniqF l = z := ⟨_, rfl⟩
    rw [hu] at SO UR US U1 HL
    try rw [hu]
    clear hu
    go_wp2_with fail
    refine (NW.out wU).mono ?_
    rintro e w1 ⟨p, q, mb, rfl, ht1, hb1⟩
    have N1 := Lib.hid (And.intro ht1 hb1)
    clear ht1 hb1
    go_wp2_with fail
    refine (NW.out w1).mono ?_
    rintro e w2 ⟨p', q', mb', rfl, ht2, hb2⟩
    obtain ⟨ht1, hb1⟩ := N1.out
    have J0 := Lib.hid (show C1 wU w2 u ut ur p q mb p' q' mb' 0 from ⟨hb1.trans (hb2.mono hb1.size), [], none, 0, none, 0, ht1.step hb2, ht2.weak hb1.size, apart_new ht1 ht2 (Nat.le_refl _), LG.nil, fun y => ⟨fun hy => (List.not_mem_nil hy).elim, fun hy => (List.not_mem_nil hy.1).elim⟩⟩)
    clear ht1 hb1 ht2 hb2 N1 NW
    go_wp2_with fail
    go_loopw [8] (fun iv wr => ∃ i : Nat, iv = .int .i64 i ∧ i ≤ u.length ∧ Hid (C1 wU wr u ut ur p q mb p' q' mb' i)) (fun iv _ => u.length - (intOf iv).toNat)
    case atStart => exact ⟨0, rfl, by omega, J0⟩
    case round =>
      obtain ⟨i, rfl, hi, K⟩ := hrel
      by_cases hlt : i < u.length
      · have hi0 : (0 : Int) ≤ (i : Int) := by omega
        have hi1 : (i : Int) < (u.length : Int) := by omega
        have hd : decide ((i : Int) < (u.length : Int)) = true := decide_eq_true hi1
        have HLS := Lib.hid (show i + 1 ≤ u.length from hlt)
        have HW9 := Lib.hid (wrap_nat hlt (show u.length ≤ 100000 by have := HL.out; omega))
        have HMS := Lib.hid (meas_nat hlt)
        obtain ⟨g, k, x, e7, hx, hg, hc⟩ := SO.out.atK hlt
        subst e7
        have cs : ∀ W, Below wU.heap.size wU W → ∀ (j : Nat) u, (oc x)[j]? = some u → W.cell? ⟨g, k + i * 9 + j, none⟩ = some u := fun W hb j u hu => (hb.cell (p := ⟨g, k + i * 9 + j, none⟩) hg).trans (hc j u hu)
        have LX := Lib.hid (fun W (hb : Below wU.heap.size wU W) => @ldO W g (k + i * 9) x (cs W hb))
        have LA := Lib.hid (fun W (hb : Below wr.heap.size wr W) => @ld24 W g (k + i * 9) x.t x.r (cs W (K.out.bel.trans (hb.mono K.out.bel.size)) 0 _ rfl) (cs W (K.out.bel.trans (hb.mono K.out.bel.size)) 1 _ rfl))
        have LBR := Lib.hid (fun W (hb : Below wr.heap.size wr W) => LB.out W (BU.out.trans ((K.out.bel.trans (hb.mono K.out.bel.size)).mono BU.out.size)))
        have IX := Lib.hid (fun W => @ix30 g k u.length sc i hlt W)
        have HX := Lib.hid hx
        have HXU := Lib.hid (List.mem_of_getElem? hx)
        clear hx hg hc cs
        cases hlow : ltS ut ur x.t x.r with
        | true =>
          have LS := Lib.hid (fun W => (show Calls Try.prog 38 #[.agg #[.int .i64 ut, .int .i64 ur], .agg #[.int .i64 x.t, .int .i64 x.r]] W fun e w' => e = .returned (.bool true) ∧ Below W.heap.size W w' from by have := Tb.less_any W ut ur x.t x.r; rwa [hlow] at this))
          have HLW := Lib.hid hlow
          clear hlow
          go_upto_region 8 with (fail)
          refine wp_region_held_drew (S := fun w' => Below wr.heap.size wr w') (by kernel_rfl) (Below.refl _ _).drew (fun hHeld => ?_)
          have BV := Lib.hid (show Below wr.heap.size wr wr.drew from (Below.refl _ _).drew)
          clear hHeld
          refine take_at (i := 0) 39 (.agg #[.int .i64 ut, .int .i64 ur]) rfl rfl (by kernel_rfl) (by kernel_rfl) (by kernel_rfl) (fun _ _ _ h => h) (yields_ld (.tmp 3) 24 (.pointer (some ⟨w.heap.size, 0, none⟩)) _ LBR.out rfl rfl rfl) BV.out ?_
          simp only [Act.put, List.setIfInBounds_toArray, List.set_cons_zero, List.set_cons_succ]
          refine take_at (i := 1) 40 ?_ rfl rfl (by kernel_rfl) (by kernel_rfl) (by kernel_rfl) (fun _ _ _ h => h) (.inl ⟨rfl, ?_⟩) BV.out ?_
          rotate_left 1
          · intro w hSw; go_simp; try with_reducible rfl
          simp only [Act.put, List.setIfInBounds_toArray, List.set_cons_zero, List.set_cons_succ]
          refine take_at (i := 2) 41 ?_ rfl rfl (by kernel_rfl) (by kernel_rfl) (by kernel_rfl) (fun _ _ _ h => h) (.inl ⟨rfl, ?_⟩) BV.out ?_
          rotate_left 1
          · intro w hSw; go_simp; try with_reducible rfl
          simp only [Act.put, List.setIfInBounds_toArray, List.set_cons_zero, List.set_cons_succ]
          refine take_at (i := 3) 42 (.pointer (some ⟨g, k + i * 9, none⟩)) rfl rfl (by kernel_rfl) (by kernel_rfl) (by kernel_rfl) (fun _ _ _ h => h) (yields_ix (.tmp 40) (.tmp 41) 30 (.slice (some ⟨g, k, none⟩) u.length sc) (.int .i64 (i : Int)) _ IX.out rfl rfl rfl rfl) BV.out ?_
          simp only [Act.put, List.setIfInBounds_toArray, List.set_cons_zero, List.set_cons_succ]
          refine take_at (i := 4) 43 ?_ rfl rfl (by kernel_rfl) (by kernel_rfl) (by kernel_rfl) (fun _ _ _ h => h) (.inl ⟨rfl, ?_⟩) BV.out ?_
          rotate_left 1
          · intro w hSw; go_simp; try with_reducible rfl
          simp only [Act.put, List.setIfInBounds_toArray, List.set_cons_zero, List.set_cons_succ]
          refine take_at (i := 5) 44 (.agg #[.int .i64 x.t, .int .i64 x.r]) rfl rfl (by kernel_rfl) (by kernel_rfl) (by kernel_rfl) (fun _ _ _ h => h) (yields_ld (.tmp 43) 24 (.pointer (some ⟨g, k + i * 9, none⟩)) _ LA.out rfl rfl rfl) BV.out ?_
          simp only [Act.put, List.setIfInBounds_toArray, List.set_cons_zero, List.set_cons_succ]
          refine wpAnyH_ready (rs := [6]) (by kernel_rfl) (by simp) (br_call (i := 6) 45 38 #[.agg #[.int .i64 ut, .int .i64 ur], .agg #[.int .i64 x.t, .int .i64 x.r]] rfl rfl rfl (by go_simp) ((LS.out _).mono ?_) AllReadyH.nil)
          rintro e v1 ⟨rfl, hb⟩
          have BV := Lib.hid (BV.out.trans (hb.mono BV.out.size))
          clear hb
          refine ⟨_, rfl, BV.out, fun _ => ?_⟩
          simp only [Act.put, List.setIfInBounds_toArray, List.set_cons_zero, List.set_cons_succ]
          refine take_at (i := 7) 46 ?_ rfl rfl (by kernel_rfl) (by kernel_rfl) (by kernel_rfl) (fun _ _ _ h => h) (.inl ⟨rfl, ?_⟩) BV.out ?_
          rotate_left 1
          · intro w hSw; go_simp; try with_reducible rfl
          simp only [Act.put, List.setIfInBounds_toArray, List.set_cons_zero, List.set_cons_succ]
          refine wpAnyH_done (by kernel_rfl) ?_ _
          obtain ⟨L, la, lca, lb, lcb, ta, tb, ap, lk⟩ := K.out.ex
          have KF := Lib.hid (show C1 wU v1 u ut ur p q mb p' q' mb' (i + 1) from ⟨K.out.bel.trans (BV.out.mono K.out.bel.size), L, la, lca, lb, lcb, ta.step BV.out, tb.step BV.out, ap, lk.skip HX.out HLW.out⟩)
          clear ta tb ap lk BV K
          go_wp2
          go_roundw
          case rel => exact ⟨i + 1, by first | (rw [HW9.out]; rfl) | go_num, HLS.out, KF⟩
          case measure => first | (rw [HW9.out]; exact HMS.out) | exact HMS.out
        | false =>
          have LS := Lib.hid (fun W => (show Calls Try.prog 38 #[.agg #[.int .i64 ut, .int .i64 ur], .agg #[.int .i64 x.t, .int .i64 x.r]] W fun e w' => e = .returned (.bool false) ∧ Below W.heap.size W w' from by have := Tb.less_any W ut ur x.t x.r; rwa [hlow] at this))
          have HLW := Lib.hid hlow
          clear hlow
          go_upto_region 8 with (fail)
          refine wp_region_held_drew (S := fun w' => Below wr.heap.size wr w') (by kernel_rfl) (Below.refl _ _).drew (fun hHeld => ?_)
          have BV := Lib.hid (show Below wr.heap.size wr wr.drew from (Below.refl _ _).drew)
          clear hHeld
          refine take_at (i := 0) 39 (.agg #[.int .i64 ut, .int .i64 ur]) rfl rfl (by kernel_rfl) (by kernel_rfl) (by kernel_rfl) (fun _ _ _ h => h) (yields_ld (.tmp 3) 24 (.pointer (some ⟨w.heap.size, 0, none⟩)) _ LBR.out rfl rfl rfl) BV.out ?_
          simp only [Act.put, List.setIfInBounds_toArray, List.set_cons_zero, List.set_cons_succ]
          refine take_at (i := 1) 40 ?_ rfl rfl (by kernel_rfl) (by kernel_rfl) (by kernel_rfl) (fun _ _ _ h => h) (.inl ⟨rfl, ?_⟩) BV.out ?_
          rotate_left 1
          · intro w hSw; go_simp; try with_reducible rfl
          simp only [Act.put, List.setIfInBounds_toArray, List.set_cons_zero, List.set_cons_succ]
          refine take_at (i := 2) 41 ?_ rfl rfl (by kernel_rfl) (by kernel_rfl) (by kernel_rfl) (fun _ _ _ h => h) (.inl ⟨rfl, ?_⟩) BV.out ?_
          rotate_left 1
          · intro w hSw; go_simp; try with_reducible rfl
          simp only [Act.put, List.setIfInBounds_toArray, List.set_cons_zero, List.set_cons_succ]
          refine take_at (i := 3) 42 (.pointer (some ⟨g, k + i * 9, none⟩)) rfl rfl (by kernel_rfl) (by kernel_rfl) (by kernel_rfl) (fun _ _ _ h => h) (yields_ix (.tmp 40) (.tmp 41) 30 (.slice (some ⟨g, k, none⟩) u.length sc) (.int .i64 (i : Int)) _ IX.out rfl rfl rfl rfl) BV.out ?_
          simp only [Act.put, List.setIfInBounds_toArray, List.set_cons_zero, List.set_cons_succ]
          refine take_at (i := 4) 43 ?_ rfl rfl (by kernel_rfl) (by kernel_rfl) (by kernel_rfl) (fun _ _ _ h => h) (.inl ⟨rfl, ?_⟩) BV.out ?_
          rotate_left 1
          · intro w hSw; go_simp; try with_reducible rfl
          simp only [Act.put, List.setIfInBounds_toArray, List.set_cons_zero, List.set_cons_succ]
          refine take_at (i := 5) 44 (.agg #[.int .i64 x.t, .int .i64 x.r]) rfl rfl (by kernel_rfl) (by kernel_rfl) (by kernel_rfl) (fun _ _ _ h => h) (yields_ld (.tmp 43) 24 (.pointer (some ⟨g, k + i * 9, none⟩)) _ LA.out rfl rfl rfl) BV.out ?_
          simp only [Act.put, List.setIfInBounds_toArray, List.set_cons_zero, List.set_cons_succ]
          refine wpAnyH_ready (rs := [6]) (by kernel_rfl) (by simp) (br_call (i := 6) 45 38 #[.agg #[.int .i64 ut, .int .i64 ur], .agg #[.int .i64 x.t, .int .i64 x.r]] rfl rfl rfl (by go_simp) ((LS.out _).mono ?_) AllReadyH.nil)
          rintro e v1 ⟨rfl, hb⟩
          have BV := Lib.hid (BV.out.trans (hb.mono BV.out.size))
          clear hb
          refine ⟨_, rfl, BV.out, fun _ => ?_⟩
          simp only [Act.put, List.setIfInBounds_toArray, List.set_cons_zero, List.set_cons_succ]
          refine take_at (i := 7) 46 ?_ rfl rfl (by kernel_rfl) (by kernel_rfl) (by kernel_rfl) (fun _ _ _ h => h) (.inl ⟨rfl, ?_⟩) BV.out ?_
          rotate_left 1
          · intro w hSw; go_simp; try with_reducible rfl
          simp only [Act.put, List.setIfInBounds_toArray, List.set_cons_zero, List.set_cons_succ]
          refine wpAnyH_done (by kernel_rfl) ?_ _
          have K5 := Lib.hid (K.out.bel.trans (BV.out.mono K.out.bel.size))
          obtain ⟨L, la, lca, lb, lcb, ta, tb, ap, lk⟩ := K.out.ex
          have TA := Lib.hid (ta.step BV.out)
          have TB := Lib.hid (tb.step BV.out)
          have AP := Lib.hid ap
          have LV := Lib.hid lk
          clear ta tb ap lk BV K
          obtain ⟨hrx, hox⟩ := UR.out x HXU.out
          obtain ⟨he0, hnx⟩ := LV.out.put U1.out HX.out hrx hox HLW.out
          have HOX := Lib.hid hox
          have HE0 := Lib.hid he0
          have LNX := Lib.hid hnx
          have LLN := Lib.hid (show (([] : List Rw)).length + L.length < 10000 from by have := LV.out.lg.len; have := HL.out; simp; omega)
          clear hrx hox he0 hnx
          have AD := Lib.hid (add_any v1 wU.heap.size p q mb [] 0 0 L la lca TA.out LV.out.lg.rise LV.out.lg.ok okT_nil LLN.out K5.out.size x HOX.out (US.out x HXU.out))
          obtain ⟨en, hen⟩ : ∃ z, addN 0 0 L x = z := ⟨_, rfl⟩
          rw [hen] at AD
          clear hen
          have LXW := Lib.hid (LX.out v1 K5.out)
          go_wp2_with (first | (refine Ve.wpList_load_arr rfl (.tmp 50) 34 rfl (.pointer (some ⟨g, k + i * 9, none⟩)) (oV x) rfl LXW.out ?_))
          refine AD.out.mono ?_
          rintro e wa ⟨rfl, hr⟩
          have hr := add_ok HE0.out hr
          obtain ⟨hb5, ga, lca2, ta, tb, ap⟩ := pair_add K5.out TA.out TB.out AP.out hr
          have TA := Lib.hid ta
          have TB := Lib.hid tb
          have AP := Lib.hid ap
          have K5 := Lib.hid hb5
          clear hr ta tb ap hb5 AD LXW
          have AD := Lib.hid (add_any wa wU.heap.size p' q' mb' [] 0 0 L lb lcb TB.out LV.out.lg.rise LV.out.lg.ok okT_nil LLN.out K5.out.size x HOX.out (US.out x HXU.out))
          obtain ⟨en, hen⟩ : ∃ z, addN 0 0 L x = z := ⟨_, rfl⟩
          rw [hen] at AD
          clear hen
          have LXW := Lib.hid (LX.out wa K5.out)
          go_wp2_with (first | (refine Ve.wpList_load_arr rfl (.tmp 56) 34 rfl (.pointer (some ⟨g, k + i * 9, none⟩)) (oV x) rfl LXW.out ?_))
          refine AD.out.mono ?_
          rintro e wb ⟨rfl, hr⟩
          have hr := add_ok HE0.out hr
          obtain ⟨hb5, gb, lcb2, tb, ta, ap⟩ := pair_add K5.out TB.out TA.out AP.out.symm hr
          have KF := Lib.hid (show C1 wU wb u ut ur p q mb p' q' mb' (i + 1) from ⟨hb5, _, _, _, _, _, ta, tb, ap.symm, LNX.out⟩)
          clear hr ta tb ap hb5 AD LXW TA TB AP K5
          go_wp2
          go_roundw
          case rel => exact ⟨i + 1, by first | (rw [HW9.out]; rfl) | go_num, HLS.out, KF⟩
          case measure => first | (rw [HW9.out]; exact HMS.out) | exact HMS.out
      · have ei : i = u.length := by omega
        subst ei
        obtain ⟨Lo, la, lca, lb, lcb, ta, tb, ap, lk⟩ := K.out.ex
        have TA := Lib.hid ta
        have TB := Lib.hid tb
        have AP := Lib.hid ap
        have KL := Lib.hid lk
        have KB := Lib.hid K.out.bel
        have HLL := Lib.hid (show Lo.length ≤ 30 ∧ (playF [] Lo).length < 100000 from by have := lk.lg.len; have := HL.out; have := play_len Lo []; simp at *; omega)
        clear ta tb ap lk K
        generalize wr = wm at *
        have LN := Lib.hid (len_of wm (pv p') _ 0 0 lb Lo.length lcb TB.out.haveL)
        go_wp2_with fail
        refine LN.out.mono ?_
        rintro e wn ⟨rfl, hb⟩
        have TA := Lib.hid ((TA.out.step hb).step (Below.refl _ _).drew)
        have TB := Lib.hid ((TB.out.step hb).step (Below.refl _ _).drew)
        have KB := Lib.hid (KB.out.trans (hb.mono KB.out.size))
        clear hb LN
        go_upto_region 12 with (fail)
        have LBW := Lib.hid (fun W (hb : Below wU.heap.size wU W) => LB.out W (BU.out.trans (hb.mono BU.out.size)))
        refine wp_region_held_drew (S := fun w' => Below wU.heap.size wU w') (by kernel_rfl) ((KB.out.trans ((Below.refl wn.heap.size wn).drew.mono KB.out.size))) (fun hHeld => ?_)
        have BV := Lib.hid (show Below wU.heap.size wU wn.drew from (KB.out.trans ((Below.refl wn.heap.size wn).drew.mono KB.out.size)))
        clear hHeld
        refine take_at (i := 0) 61 ?_ rfl rfl (by kernel_rfl) (by kernel_rfl) (by kernel_rfl) (fun _ _ _ h => h) (.inl ⟨rfl, ?_⟩) BV.out ?_
        rotate_left 1
        · intro w hSw; go_simp; try with_reducible rfl
        simp only [Act.put, List.setIfInBounds_toArray, List.set_cons_zero, List.set_cons_succ]
        refine take_at (i := 1) 62 (.agg #[.int .i64 ut, .int .i64 ur]) rfl rfl (by kernel_rfl) (by kernel_rfl) (by kernel_rfl) (fun _ _ _ h => h) (yields_ld (.tmp 3) 24 (.pointer (some ⟨w.heap.size, 0, none⟩)) _ LBW.out rfl rfl rfl) BV.out ?_
        simp only [Act.put, List.setIfInBounds_toArray, List.set_cons_zero, List.set_cons_succ]
        refine take_at (i := 3) 64 ?_ rfl rfl (by kernel_rfl) (by kernel_rfl) (by kernel_rfl) (fun _ _ _ h => h) (.inl ⟨rfl, ?_⟩) BV.out ?_
        rotate_left 1
        · intro w hSw; go_simp; try with_reducible rfl
        simp only [Act.put, List.setIfInBounds_toArray, List.set_cons_zero, List.set_cons_succ]
        have CT := Lib.hid (cut2_any wn.drew wU.heap.size p' q' mb' [] 0 0 Lo lb lcb TB.out KL.out.lg.rise (by have := HLL.out.1; omega) TB.out.ne ut ur)
        rw [cutK_all HR.out KL.out.lg.rise (fun o ho => ((KL.out.mem o).1 ho).2), List.take_length, List.drop_length] at CT
        have WO := Lib.hid (And.intro TA.out TB.out)
        refine wpAnyH_ready (rs := [2]) (by kernel_rfl) (by simp) (br_call (i := 2) 63 14 #[pv p', .agg #[.int .i64 ut, .int .i64 ur]] rfl rfl rfl (by go_simp) ((CT.out).mono ?_) AllReadyH.nil)
        rintro e v1 ⟨rfl, ho⟩
        rcases ho with ⟨hc, _⟩ | ⟨_, hgr, lb', lcb', tb', hk⟩
        · exact absurd hc (right_pos HR.out)
        have hfc : Far (fun k => k = p') _ v1 := Far.of_grown hgr (fun k e => by injection e with e; exact e.symm)
        have TA := Lib.hid (WO.out.1.keep hfc (fun k h1 h2 => AP.out k h1 (.inl (.inl h2))))
        have AP := Lib.hid (show Apart p q mb la p' q' mb' lb' from fun k h1 h2 => by
          rcases h2 with (h2 | h2 | h2) | h2
          · exact AP.out k h1 (.inl (.inl h2))
          · exact AP.out k h1 (.inl (.inr (.inl h2)))
          · have := hk k h2; have := (WO.out.1.all h1).2; omega
          · exact AP.out k h1 (.inr h2))
        have TB := Lib.hid tb'
        have BV := Lib.hid (show Below wU.heap.size wU v1 from BV.out.trans (hfc.below BV.out.size (fun k e => by rw [e]; exact WO.out.2.lo.1)))
        clear hgr tb' hk hfc WO CT
        have ho := trivial
        clear ho
        refine ⟨_, rfl, BV.out, fun _ => ?_⟩
        simp only [Act.put, List.setIfInBounds_toArray, List.set_cons_zero, List.set_cons_succ]
        refine take_at (i := 4) 65 ?_ rfl rfl (by kernel_rfl) (by kernel_rfl) (by kernel_rfl) (fun _ _ _ h => h) (.inl ⟨rfl, ?_⟩) BV.out ?_
        rotate_left 1
        · intro w hSw; go_simp; try with_reducible rfl
        simp only [Act.put, List.setIfInBounds_toArray, List.set_cons_zero, List.set_cons_succ]
        refine take_at (i := 5) 66 ?_ rfl rfl (by kernel_rfl) (by kernel_rfl) (by kernel_rfl) (fun _ _ _ h => h) (.inl ⟨rfl, ?_⟩) BV.out ?_
        rotate_left 1
        · intro w hSw; go_simp; try with_reducible rfl
        simp only [Act.put, List.setIfInBounds_toArray, List.set_cons_zero, List.set_cons_succ]
        refine take_at (i := 6) 67 ?_ rfl rfl (by kernel_rfl) (by kernel_rfl) (by kernel_rfl) (fun _ _ _ h => h) (.inl ⟨rfl, ?_⟩) BV.out ?_
        rotate_left 1
        · intro w hSw; go_simp; try with_reducible rfl
        simp only [Act.put, List.setIfInBounds_toArray, List.set_cons_zero, List.set_cons_succ]
        refine wpAnyH_ready (rs := [7]) (by kernel_rfl) (by simp) (br_call (i := 7) 68 17 #[pv p'] rfl rfl rfl (by go_simp) ((len0 _ (pv p') _ ut ur lb' lcb' TB.out.haveL).mono ?_) AllReadyH.nil)
        rintro e v2 ⟨rfl, hb⟩
        have BV := Lib.hid (BV.out.trans (hb.mono BV.out.size))
        have TA := Lib.hid (TA.out.step hb)
        have TB := Lib.hid (TB.out.step hb)
        clear hb
        refine ⟨_, rfl, BV.out, fun _ => ?_⟩
        simp only [Act.put, List.setIfInBounds_toArray, List.set_cons_zero, List.set_cons_succ]
        refine take_at (i := 8) 69 ?_ rfl rfl (by kernel_rfl) (by kernel_rfl) (by kernel_rfl) (fun _ _ _ h => h) (.inl ⟨rfl, ?_⟩) BV.out ?_
        rotate_left 1
        · intro w hSw; go_simp; try with_reducible rfl
        simp only [Act.put, List.setIfInBounds_toArray, List.set_cons_zero, List.set_cons_succ]
        refine take_at (i := 9) 70 ?_ rfl rfl (by kernel_rfl) (by kernel_rfl) (by kernel_rfl) (fun _ _ _ h => h) (.inl ⟨rfl, ?_⟩) BV.out ?_
        rotate_left 1
        · intro w hSw; go_simp; try with_reducible rfl
        simp only [Act.put, List.setIfInBounds_toArray, List.set_cons_zero, List.set_cons_succ]
        refine take_at (i := 10) 71 ?_ rfl rfl (by kernel_rfl) (by kernel_rfl) (by kernel_rfl) (fun _ _ _ h => h) (.inl ⟨rfl, ?_⟩) BV.out ?_
        rotate_left 1
        · intro w hSw; go_simp; try with_reducible rfl
        simp only [Act.put, List.setIfInBounds_toArray, List.set_cons_zero, List.set_cons_succ]
        refine take_at (i := 11) 72 ?_ rfl rfl (by kernel_rfl) (by kernel_rfl) (by kernel_rfl) (fun _ _ _ h => h) (.inl ⟨rfl, ?_⟩) BV.out ?_
        rotate_left 1
        · intro w hSw; go_simp; try with_reducible rfl
        simp only [Act.put, List.setIfInBounds_toArray, List.set_cons_zero, List.set_cons_succ]
        refine take_at (i := 13) 74 (.agg #[.int .i64 ut, .int .i64 ur]) rfl rfl (by kernel_rfl) (by kernel_rfl) (by kernel_rfl) (fun _ _ _ h => h) (yields_ld (.tmp 3) 24 (.pointer (some ⟨w.heap.size, 0, none⟩)) _ LBW.out rfl rfl rfl) BV.out ?_
        simp only [Act.put, List.setIfInBounds_toArray, List.set_cons_zero, List.set_cons_succ]
        refine wpAnyH_ready (rs := [12]) (by kernel_rfl) (by simp) (br_call (i := 12) 73 18 #[pv p'] rfl rfl rfl (by go_simp) ((floor_of _ (pv p') _ ut ur lb' 0 lcb' TB.out.haveL).mono ?_) AllReadyH.nil)
        rintro e v3 ⟨rfl, hb⟩
        have BV := Lib.hid (BV.out.trans (hb.mono BV.out.size))
        have TA := Lib.hid (TA.out.step hb)
        have TB := Lib.hid (TB.out.step hb)
        clear hb
        refine ⟨_, rfl, BV.out, fun _ => ?_⟩
        simp only [Act.put, List.setIfInBounds_toArray, List.set_cons_zero, List.set_cons_succ]
        refine take_at (i := 14) 75 (.bool false) rfl rfl (by kernel_rfl) (by kernel_rfl) (by kernel_rfl) (fun _ _ _ h => h) (yields_bin .neq (.tmp 73) (.tmp 74) 24 24 (.agg #[.int .i64 ut, .int .i64 ur]) (.agg #[.int .i64 ut, .int .i64 ur]) _ (ne24 ut ur) (gn24 _ _ _ _) rfl rfl rfl rfl) BV.out ?_
        simp only [Act.put, List.setIfInBounds_toArray, List.set_cons_zero, List.set_cons_succ]
        refine take_at (i := 15) 76 ?_ rfl rfl (by kernel_rfl) (by kernel_rfl) (by kernel_rfl) (fun _ _ _ h => h) (.inl ⟨rfl, ?_⟩) BV.out ?_
        rotate_left 1
        · intro w hSw; go_simp; try with_reducible rfl
        simp only [Act.put, List.setIfInBounds_toArray, List.set_cons_zero, List.set_cons_succ]
        refine wpAnyH_done (by kernel_rfl) ?_ _
        have KB := Lib.hid BV.out
        clear BV
        go_upto_region 14 with (fail)
        generalize v3 = wk at *
        have TA := Lib.hid (TA.out.step (Below.refl _ _).drew)
        have TB := Lib.hid (TB.out.step (Below.refl _ _).drew)
        have LBV := Lib.hid (fun W (hb : Below wk.heap.size wk W) => LBW.out W (KB.out.trans (hb.mono KB.out.size)))
        refine wp_region_held_drew (S := fun w' => Below wk.heap.size wk w') (by kernel_rfl) (Below.refl _ _).drew (fun hHeld => ?_)
        have BV := Lib.hid (show Below wk.heap.size wk wk.drew from (Below.refl _ _).drew)
        clear hHeld
        refine take_at (i := 0) 77 ?_ rfl rfl (by kernel_rfl) (by kernel_rfl) (by kernel_rfl) (fun _ _ _ h => h) (.inl ⟨rfl, ?_⟩) BV.out ?_
        rotate_left 1
        · intro w hSw; go_simp; try with_reducible rfl
        simp only [Act.put, List.setIfInBounds_toArray, List.set_cons_zero, List.set_cons_succ]
        refine take_at (i := 2) 79 (.agg #[.int .i64 ut, .int .i64 ur]) rfl rfl (by kernel_rfl) (by kernel_rfl) (by kernel_rfl) (fun _ _ _ h => h) (yields_ld (.tmp 3) 24 (.pointer (some ⟨w.heap.size, 0, none⟩)) _ LBV.out rfl rfl rfl) BV.out ?_
        simp only [Act.put, List.setIfInBounds_toArray, List.set_cons_zero, List.set_cons_succ]
        refine wpAnyH_ready (rs := [1]) (by kernel_rfl) (by simp) (br_call (i := 1) 78 32 #[pv p'] rfl rfl rfl (by go_simp) ((table_of _ (pv p') _ ut ur lb' 0 lcb' (playF [] Lo) TB.out.haveL (clones_tab TB.out.tab HLL.out.2)).mono ?_) AllReadyH.nil)
        rintro e v101 ⟨qt, bt, rfl, h1, _, _, hb⟩
        have BV := Lib.hid (BV.out.trans (hb.mono BV.out.size))
        have TA := Lib.hid (TA.out.step hb)
        have TB := Lib.hid (TB.out.step hb)
        have TT := Lib.hid h1
        clear h1
        clear hb
        refine ⟨_, rfl, BV.out, fun _ => ?_⟩
        simp only [Act.put, List.setIfInBounds_toArray, List.set_cons_zero, List.set_cons_succ]
        have WO := Lib.hid (And.intro TA.out (And.intro TB.out BV.out))
        refine wpAnyH_ready (rs := [3]) (by kernel_rfl) (by simp) (br_call (i := 3) 80 39 #[.pointer (some ⟨qt, 0, none⟩), .agg #[.int .i64 ut, .int .i64 ur]] rfl rfl rfl (by go_simp) ((load_of _ (some ⟨qt, 0, none⟩) ut ur (playF [] Lo) (clones_tab TT.out HLL.out.2)).mono ?_) AllReadyH.nil)
        rintro e v102 ⟨p3, q3, mb3, rfl, h3, hb⟩
        have BV := Lib.hid (BV.out.trans (hb.mono BV.out.size))
        have TA := Lib.hid (TA.out.step hb)
        have TB := Lib.hid (TB.out.step hb)
        have TT := Lib.hid (TT.out.step hb)
        have A13 := Lib.hid (apart_new WO.out.1 h3 (Nat.le_refl _))
        have A23 := Lib.hid (apart_new WO.out.2.1 h3 (Nat.le_refl _))
        have TC := Lib.hid (h3.weak (B' := wU.heap.size) (Nat.le_trans KB.out.size WO.out.2.2.size))
        clear h3 WO
        clear hb
        refine ⟨_, rfl, BV.out, fun _ => ?_⟩
        simp only [Act.put, List.setIfInBounds_toArray, List.set_cons_zero, List.set_cons_succ]
        refine take_at (i := 4) 10 ?_ rfl rfl (by kernel_rfl) (by kernel_rfl) (by kernel_rfl) (fun _ _ _ h => h) (.inl ⟨rfl, ?_⟩) BV.out ?_
        rotate_left 1
        · intro w hSw; go_simp; try with_reducible rfl
        simp only [Act.put, List.setIfInBounds_toArray, List.set_cons_zero, List.set_cons_succ]
        refine wpAnyH_done (by kernel_rfl) ?_ _
        have J1 := Lib.hid (show C2 wU v102 u Lo ut ur p q mb p' q' mb' p3 q3 mb3 0 from ⟨KB.out.trans (BV.out.mono KB.out.size), [], la, lca, lb', lcb', none, 0, by rw [List.append_nil]; exact TA.out, TB.out, TC.out, AP.out, A13.out, A23.out, LG.nil, fun y => ⟨fun hy => (List.not_mem_nil hy).elim, fun hy => (List.not_mem_nil hy.1).elim⟩⟩)
        clear BV TA TB TC AP A13 A23 KB TT
        go_wp2_with fail
        go_loopw [11] (fun iv wr => ∃ i : Nat, iv = .int .i64 i ∧ i ≤ u.length ∧ Hid (C2 wU wr u Lo ut ur p q mb p' q' mb' p3 q3 mb3 i)) (fun iv _ => u.length - (intOf iv).toNat)
        case atStart => exact ⟨0, rfl, by omega, J1⟩
        case round =>
          obtain ⟨i, rfl, hi, K⟩ := hrel
          by_cases hlt : i < u.length
          · have hi0 : (0 : Int) ≤ (i : Int) := by omega
            have hi1 : (i : Int) < (u.length : Int) := by omega
            have hd : decide ((i : Int) < (u.length : Int)) = true := decide_eq_true hi1
            have HLS := Lib.hid (show i + 1 ≤ u.length from hlt)
            have HW9 := Lib.hid (wrap_nat hlt (show u.length ≤ 100000 by have := HL.out; omega))
            have HMS := Lib.hid (meas_nat hlt)
            obtain ⟨g, k, x, e7, hx, hg, hc⟩ := SO.out.atK hlt
            subst e7
            have cs : ∀ W, Below wU.heap.size wU W → ∀ (j : Nat) u, (oc x)[j]? = some u → W.cell? ⟨g, k + i * 9 + j, none⟩ = some u := fun W hb j u hu => (hb.cell (p := ⟨g, k + i * 9 + j, none⟩) hg).trans (hc j u hu)
            have LX := Lib.hid (fun W (hb : Below wU.heap.size wU W) => @ldO W g (k + i * 9) x (cs W hb))
            have LA := Lib.hid (fun W (hb : Below wr.heap.size wr W) => @ld24 W g (k + i * 9) x.t x.r (cs W (K.out.bel.trans (hb.mono K.out.bel.size)) 0 _ rfl) (cs W (K.out.bel.trans (hb.mono K.out.bel.size)) 1 _ rfl))
            have LBR := Lib.hid (fun W (hb : Below wr.heap.size wr W) => LB.out W (BU.out.trans ((K.out.bel.trans (hb.mono K.out.bel.size)).mono BU.out.size)))
            have IX := Lib.hid (fun W => @ix30 g k u.length sc i hlt W)
            have HX := Lib.hid hx
            have HXU := Lib.hid (List.mem_of_getElem? hx)
            clear hx hg hc cs
            cases hlow : ltS ut ur x.t x.r with
            | true =>
              have LS := Lib.hid (fun W => (show Calls Try.prog 38 #[.agg #[.int .i64 ut, .int .i64 ur], .agg #[.int .i64 x.t, .int .i64 x.r]] W fun e w' => e = .returned (.bool true) ∧ Below W.heap.size W w' from by have := Tb.less_any W ut ur x.t x.r; rwa [hlow] at this))
              have HLW := Lib.hid hlow
              clear hlow
              go_upto_region 18 with (fail)
              refine wp_region_held_drew (S := fun w' => Below wr.heap.size wr w') (by kernel_rfl) (Below.refl _ _).drew (fun hHeld => ?_)
              have BV := Lib.hid (show Below wr.heap.size wr wr.drew from (Below.refl _ _).drew)
              clear hHeld
              refine take_at (i := 0) 87 (.agg #[.int .i64 ut, .int .i64 ur]) rfl rfl (by kernel_rfl) (by kernel_rfl) (by kernel_rfl) (fun _ _ _ h => h) (yields_ld (.tmp 3) 24 (.pointer (some ⟨w.heap.size, 0, none⟩)) _ LBR.out rfl rfl rfl) BV.out ?_
              simp only [Act.put, List.setIfInBounds_toArray, List.set_cons_zero, List.set_cons_succ]
              refine take_at (i := 1) 88 ?_ rfl rfl (by kernel_rfl) (by kernel_rfl) (by kernel_rfl) (fun _ _ _ h => h) (.inl ⟨rfl, ?_⟩) BV.out ?_
              rotate_left 1
              · intro w hSw; go_simp; try with_reducible rfl
              simp only [Act.put, List.setIfInBounds_toArray, List.set_cons_zero, List.set_cons_succ]
              refine take_at (i := 2) 89 ?_ rfl rfl (by kernel_rfl) (by kernel_rfl) (by kernel_rfl) (fun _ _ _ h => h) (.inl ⟨rfl, ?_⟩) BV.out ?_
              rotate_left 1
              · intro w hSw; go_simp; try with_reducible rfl
              simp only [Act.put, List.setIfInBounds_toArray, List.set_cons_zero, List.set_cons_succ]
              refine take_at (i := 3) 90 (.pointer (some ⟨g, k + i * 9, none⟩)) rfl rfl (by kernel_rfl) (by kernel_rfl) (by kernel_rfl) (fun _ _ _ h => h) (yields_ix (.tmp 88) (.tmp 89) 30 (.slice (some ⟨g, k, none⟩) u.length sc) (.int .i64 (i : Int)) _ IX.out rfl rfl rfl rfl) BV.out ?_
              simp only [Act.put, List.setIfInBounds_toArray, List.set_cons_zero, List.set_cons_succ]
              refine take_at (i := 4) 91 ?_ rfl rfl (by kernel_rfl) (by kernel_rfl) (by kernel_rfl) (fun _ _ _ h => h) (.inl ⟨rfl, ?_⟩) BV.out ?_
              rotate_left 1
              · intro w hSw; go_simp; try with_reducible rfl
              simp only [Act.put, List.setIfInBounds_toArray, List.set_cons_zero, List.set_cons_succ]
              refine take_at (i := 5) 92 (.agg #[.int .i64 x.t, .int .i64 x.r]) rfl rfl (by kernel_rfl) (by kernel_rfl) (by kernel_rfl) (fun _ _ _ h => h) (yields_ld (.tmp 91) 24 (.pointer (some ⟨g, k + i * 9, none⟩)) _ LA.out rfl rfl rfl) BV.out ?_
              simp only [Act.put, List.setIfInBounds_toArray, List.set_cons_zero, List.set_cons_succ]
              refine wpAnyH_ready (rs := [6]) (by kernel_rfl) (by simp) (br_call (i := 6) 93 38 #[.agg #[.int .i64 ut, .int .i64 ur], .agg #[.int .i64 x.t, .int .i64 x.r]] rfl rfl rfl (by go_simp) ((LS.out _).mono ?_) AllReadyH.nil)
              rintro e v1 ⟨rfl, hb⟩
              have BV := Lib.hid (BV.out.trans (hb.mono BV.out.size))
              clear hb
              refine ⟨_, rfl, BV.out, fun _ => ?_⟩
              simp only [Act.put, List.setIfInBounds_toArray, List.set_cons_zero, List.set_cons_succ]
              refine take_at (i := 7) 94 ?_ rfl rfl (by kernel_rfl) (by kernel_rfl) (by kernel_rfl) (fun _ _ _ h => h) (.inl ⟨rfl, ?_⟩) BV.out ?_
              rotate_left 1
              · intro w hSw; go_simp; try with_reducible rfl
              simp only [Act.put, List.setIfInBounds_toArray, List.set_cons_zero, List.set_cons_succ]
              refine wpAnyH_done (by kernel_rfl) ?_ _
              have K5 := Lib.hid (K.out.bel.trans (BV.out.mono K.out.bel.size))
              obtain ⟨H, la, lca, lb, lcb, lc, lcc, ta, tb, tc, a12, a13, a23, lh⟩ := K.out.ex
              have TA := Lib.hid (ta.step BV.out)
              have TB := Lib.hid (tb.step BV.out)
              have TC := Lib.hid (tc.step BV.out)
              have A12 := Lib.hid a12
              have A13 := Lib.hid a13
              have A23 := Lib.hid a23
              have LV := Lib.hid lh
              clear ta tb tc a12 a13 a23 lh BV K
              obtain ⟨hrx, hox⟩ := UR.out x HXU.out
              have HH := Lib.hid (LV.out.put KL.out U1.out HX.out hrx hox HLW.out)
              have HOX := Lib.hid hox
              have HN := HH.out.num
              obtain ⟨en, hen⟩ : ∃ z, addN ut ur H x = z := ⟨_, rfl⟩
              rw [hen] at HN
              have HEN := Lib.hid hen
              have HN := Lib.hid HN
              have LLN := Lib.hid (show (([] : List Rw)).length + (Lo ++ H).length < 10000 ∧ (playF [] Lo).length + H.length < 10000 from by have := LV.out.lg.len; have := HL.out; have := play_len Lo []; have := HLL.out.1; simp at *; omega)
              have OKB := Lib.hid (show OkL (Lo ++ H) from fun o ho => (List.mem_append.1 ho).elim (KL.out.lg.ok o) (LV.out.lg.ok o))
              clear hrx hox hen
              have AD := Lib.hid (add_any v1 wU.heap.size p q mb [] 0 0 (Lo ++ H) la lca TA.out (rise_both LV.out KL.out) OKB.out okT_nil LLN.out.1 K5.out.size x HOX.out (US.out x HXU.out))
              rw [HN.out, HH.out.e0] at AD
              have LXW := Lib.hid (LX.out v1 K5.out)
              go_wp2_with (first | (refine Ve.wpList_load_arr rfl (.tmp 110) 34 rfl (.pointer (some ⟨g, k + i * 9, none⟩)) (oV x) rfl LXW.out ?_))
              refine AD.out.mono ?_
              rintro e wa ⟨rfl, hr⟩
              have hr := add_okZ hr
              obtain ⟨hb5, hf, ga, lca2, ta, tb, a12, tc, a13⟩ := trip_add K5.out TA.out TB.out TC.out A12.out A13.out hr
              rw [HH.out.put] at ta
              have a23 := A23.out
              have TA := Lib.hid ta
              have TB := Lib.hid tb
              have TC := Lib.hid tc
              have A12 := Lib.hid a12
              have A13 := Lib.hid a13
              have A23 := Lib.hid a23
              have K5 := Lib.hid hb5
              clear ta tb tc a12 a13 a23 hb5 hf hr AD LXW
              have AD := Lib.hid (add_any wa wU.heap.size p' q' mb' (playF [] Lo) ut ur H lb lcb TB.out LV.out.lg.rise LV.out.lg.ok (play_okT Lo okT_nil KL.out.lg.ok) LLN.out.2 K5.out.size x HOX.out (US.out x HXU.out))
              rw [HEN.out, HH.out.e1] at AD
              have LXW := Lib.hid (LX.out wa K5.out)
              go_wp2_with (first | (refine Ve.wpList_load_arr rfl (.tmp 119) 34 rfl (.pointer (some ⟨g, k + i * 9, none⟩)) (oV x) rfl LXW.out ?_))
              refine AD.out.mono ?_
              rintro e wb ⟨rfl, hr⟩
              have hr := add_okZ hr
              obtain ⟨hb5, hf, gb, lcb2, tb, ta, a21, tc, a23⟩ := trip_add K5.out TB.out TA.out TC.out A12.out.symm A23.out hr
              have a12 := a21.symm
              have a13 := A13.out
              have TA := Lib.hid ta
              have TB := Lib.hid tb
              have TC := Lib.hid tc
              have A12 := Lib.hid a12
              have A13 := Lib.hid a13
              have A23 := Lib.hid a23
              have K5 := Lib.hid hb5
              clear ta tb tc a12 a13 a23 hb5 hf hr AD LXW
              have AD := Lib.hid (add_any wb wU.heap.size p3 q3 mb3 (playF [] Lo) ut ur H lc lcc TC.out LV.out.lg.rise LV.out.lg.ok (play_okT Lo okT_nil KL.out.lg.ok) LLN.out.2 K5.out.size x HOX.out (US.out x HXU.out))
              rw [HEN.out, HH.out.e1] at AD
              have LXW := Lib.hid (LX.out wb K5.out)
              go_wp2_with (first | (refine Ve.wpList_load_arr rfl (.tmp 128) 34 rfl (.pointer (some ⟨g, k + i * 9, none⟩)) (oV x) rfl LXW.out ?_))
              refine AD.out.mono ?_
              rintro e wc ⟨rfl, hr⟩
              have hr := add_okZ hr
              obtain ⟨hb5, hf, gc, lcc2, tc, ta, a31, tb, a32⟩ := trip_add K5.out TC.out TA.out TB.out A13.out.symm A23.out.symm hr
              have a12 := A12.out
              have a13 := a31.symm
              have a23 := a32.symm
              have TA := Lib.hid ta
              have TB := Lib.hid tb
              have TC := Lib.hid tc
              have A12 := Lib.hid a12
              have A13 := Lib.hid a13
              have A23 := Lib.hid a23
              have K5 := Lib.hid hb5
              clear ta tb tc a12 a13 a23 hb5 hf hr AD LXW
              have KF := Lib.hid (show C2 wU wc u Lo ut ur p q mb p' q' mb' p3 q3 mb3 (i + 1) from ⟨K5.out, _, _, _, _, _, _, _, TA.out, TB.out, TC.out, A12.out, A13.out, A23.out, HH.out.next⟩)
              clear TA TB TC A12 A13 A23 K5
              go_wp2
              go_roundw
              case rel => exact ⟨i + 1, by first | (rw [HW9.out]; rfl) | go_num, HLS.out, KF⟩
              case measure => first | (rw [HW9.out]; exact HMS.out) | exact HMS.out
            | false =>
              have LS := Lib.hid (fun W => (show Calls Try.prog 38 #[.agg #[.int .i64 ut, .int .i64 ur], .agg #[.int .i64 x.t, .int .i64 x.r]] W fun e w' => e = .returned (.bool false) ∧ Below W.heap.size W w' from by have := Tb.less_any W ut ur x.t x.r; rwa [hlow] at this))
              have HLW := Lib.hid hlow
              clear hlow
              go_upto_region 18 with (fail)
              refine wp_region_held_drew (S := fun w' => Below wr.heap.size wr w') (by kernel_rfl) (Below.refl _ _).drew (fun hHeld => ?_)
              have BV := Lib.hid (show Below wr.heap.size wr wr.drew from (Below.refl _ _).drew)
              clear hHeld
              refine take_at (i := 0) 87 (.agg #[.int .i64 ut, .int .i64 ur]) rfl rfl (by kernel_rfl) (by kernel_rfl) (by kernel_rfl) (fun _ _ _ h => h) (yields_ld (.tmp 3) 24 (.pointer (some ⟨w.heap.size, 0, none⟩)) _ LBR.out rfl rfl rfl) BV.out ?_
              simp only [Act.put, List.setIfInBounds_toArray, List.set_cons_zero, List.set_cons_succ]
              refine take_at (i := 1) 88 ?_ rfl rfl (by kernel_rfl) (by kernel_rfl) (by kernel_rfl) (fun _ _ _ h => h) (.inl ⟨rfl, ?_⟩) BV.out ?_
              rotate_left 1
              · intro w hSw; go_simp; try with_reducible rfl
              simp only [Act.put, List.setIfInBounds_toArray, List.set_cons_zero, List.set_cons_succ]
              refine take_at (i := 2) 89 ?_ rfl rfl (by kernel_rfl) (by kernel_rfl) (by kernel_rfl) (fun _ _ _ h => h) (.inl ⟨rfl, ?_⟩) BV.out ?_
              rotate_left 1
              · intro w hSw; go_simp; try with_reducible rfl
              simp only [Act.put, List.setIfInBounds_toArray, List.set_cons_zero, List.set_cons_succ]
              refine take_at (i := 3) 90 (.pointer (some ⟨g, k + i * 9, none⟩)) rfl rfl (by kernel_rfl) (by kernel_rfl) (by kernel_rfl) (fun _ _ _ h => h) (yields_ix (.tmp 88) (.tmp 89) 30 (.slice (some ⟨g, k, none⟩) u.length sc) (.int .i64 (i : Int)) _ IX.out rfl rfl rfl rfl) BV.out ?_
              simp only [Act.put, List.setIfInBounds_toArray, List.set_cons_zero, List.set_cons_succ]
              refine take_at (i := 4) 91 ?_ rfl rfl (by kernel_rfl) (by kernel_rfl) (by kernel_rfl) (fun _ _ _ h => h) (.inl ⟨rfl, ?_⟩) BV.out ?_
              rotate_left 1
              · intro w hSw; go_simp; try with_reducible rfl
              simp only [Act.put, List.setIfInBounds_toArray, List.set_cons_zero, List.set_cons_succ]
              refine take_at (i := 5) 92 (.agg #[.int .i64 x.t, .int .i64 x.r]) rfl rfl (by kernel_rfl) (by kernel_rfl) (by kernel_rfl) (fun _ _ _ h => h) (yields_ld (.tmp 91) 24 (.pointer (some ⟨g, k + i * 9, none⟩)) _ LA.out rfl rfl rfl) BV.out ?_
              simp only [Act.put, List.setIfInBounds_toArray, List.set_cons_zero, List.set_cons_succ]
              refine wpAnyH_ready (rs := [6]) (by kernel_rfl) (by simp) (br_call (i := 6) 93 38 #[.agg #[.int .i64 ut, .int .i64 ur], .agg #[.int .i64 x.t, .int .i64 x.r]] rfl rfl rfl (by go_simp) ((LS.out _).mono ?_) AllReadyH.nil)
              rintro e v1 ⟨rfl, hb⟩
              have BV := Lib.hid (BV.out.trans (hb.mono BV.out.size))
              clear hb
              refine ⟨_, rfl, BV.out, fun _ => ?_⟩
              simp only [Act.put, List.setIfInBounds_toArray, List.set_cons_zero, List.set_cons_succ]
              refine take_at (i := 7) 94 ?_ rfl rfl (by kernel_rfl) (by kernel_rfl) (by kernel_rfl) (fun _ _ _ h => h) (.inl ⟨rfl, ?_⟩) BV.out ?_
              rotate_left 1
              · intro w hSw; go_simp; try with_reducible rfl
              simp only [Act.put, List.setIfInBounds_toArray, List.set_cons_zero, List.set_cons_succ]
              refine wpAnyH_done (by kernel_rfl) ?_ _
              have K5 := Lib.hid (K.out.bel.trans (BV.out.mono K.out.bel.size))
              obtain ⟨H, la, lca, lb, lcb, lc, lcc, ta, tb, tc, a12, a13, a23, lh⟩ := K.out.ex
              have TA := Lib.hid (ta.step BV.out)
              have TB := Lib.hid (tb.step BV.out)
              have TC := Lib.hid (tc.step BV.out)
              have AX := Lib.hid (And.intro a12 (And.intro a13 a23))
              have LV := Lib.hid lh
              clear ta tb tc a12 a13 a23 lh BV K
              obtain ⟨hrx, hox⟩ := UR.out x HXU.out
              have HE := Lib.hid (addE_old (L := H) hrx HLW.out)
              have HOX := Lib.hid hox
              have AD := Lib.hid (add_any v1 wU.heap.size p' q' mb' (playF [] Lo) ut ur H lb lcb TB.out LV.out.lg.rise LV.out.lg.ok (play_okT Lo okT_nil KL.out.lg.ok) (by have := LV.out.lg.len; have := HL.out; have := play_len Lo []; have := HLL.out.1; simp at *; omega) K5.out.size x HOX.out (US.out x HXU.out))
              rw [HE.out] at AD
              obtain ⟨en, hen⟩ : ∃ z, addN ut ur H x = z := ⟨_, rfl⟩
              rw [hen] at AD
              clear hen hrx hox
              have LXW := Lib.hid (LX.out v1 K5.out)
              go_wp2_with (first | (refine Ve.wpList_load_arr rfl (.tmp 99) 34 rfl (.pointer (some ⟨g, k + i * 9, none⟩)) (oV x) rfl LXW.out ?_))
              refine AD.out.mono ?_
              rintro e wa ⟨rfl, hr⟩
              have hb : Below (v1).heap.size v1 wa := by
                rcases hr with ⟨_, hb⟩ | ⟨h0, _⟩
                · exact hb
                · cases h0
              have KF := Lib.hid (show C2 wU wa u Lo ut ur p q mb p' q' mb' p3 q3 mb3 (i + 1) from ⟨K5.out.trans (hb.mono K5.out.size), H, la, lca, lb, lcb, lc, lcc, TA.out.step hb, TB.out.step hb, TC.out.step hb, AX.out.1, AX.out.2.1, AX.out.2.2, LV.out.skip HX.out HLW.out⟩)
              clear hr hb AD LXW TA TB TC AX K5
              go_wp2
              go_roundw
              case rel => exact ⟨i + 1, by first | (rw [HW9.out]; rfl) | go_num, HLS.out, KF⟩
              case measure => first | (rw [HW9.out]; exact HMS.out) | exact HMS.out
          · have ei : i = u.length := by omega
            subst ei
            obtain ⟨H, la, lca, lb, lcb, lc, lcc, ta, tb, tc, a12, a13, a23, lh⟩ := K.out.ex
            have TA := Lib.hid (ta.step (Below.refl _ _).drew)
            have TB := Lib.hid (tb.step (Below.refl _ _).drew)
            have TC := Lib.hid (tc.step (Below.refl _ _).drew)
            have HLN := Lib.hid (show H.length ≤ 100000 from by have := lh.lg.len; have := HL.out; omega)
            have PLL := Lib.hid (show (playF [] (Lo ++ H)).length < 100000 ∧ (playF (playF [] Lo) H).length < 100000 from by
              rw [play_append]
              have := lh.lg.len; have := HL.out; have := HLL.out; have := play_len H (playF [] Lo); have := play_len Lo []; simp at *; omega)
            have LBR := Lib.hid (fun W (hb : Below wr.heap.size wr W) => LB.out W (BU.out.trans ((K.out.bel.trans (hb.mono K.out.bel.size)).mono BU.out.size)))
            have E24 := Lib.hid (fun W => (eq24 ut ur ut ur W).trans (by rw [decide_eq_true ⟨rfl, rfl⟩]))
            clear ta tb tc a12 a13 a23 lh
            go_upto_region 27 with (fail)
            refine wp_region_held_drew (S := fun w' => Below wr.heap.size wr w') (by kernel_rfl) (Below.refl _ _).drew (fun hHeld => ?_)
            have BV := Lib.hid (show Below wr.heap.size wr wr.drew from (Below.refl _ _).drew)
            clear hHeld
            refine take_at (i := 0) 155 ?_ rfl rfl (by kernel_rfl) (by kernel_rfl) (by kernel_rfl) (fun _ _ _ h => h) (.inl ⟨rfl, ?_⟩) BV.out ?_
            rotate_left 1
            · intro w hSw; go_simp; try with_reducible rfl
            simp only [Act.put, List.setIfInBounds_toArray, List.set_cons_zero, List.set_cons_succ]
            refine take_at (i := 2) 157 ?_ rfl rfl (by kernel_rfl) (by kernel_rfl) (by kernel_rfl) (fun _ _ _ h => h) (.inl ⟨rfl, ?_⟩) BV.out ?_
            rotate_left 1
            · intro w hSw; go_simp; try with_reducible rfl
            simp only [Act.put, List.setIfInBounds_toArray, List.set_cons_zero, List.set_cons_succ]
            refine wpAnyH_ready (rs := [1]) (by kernel_rfl) (by simp) (br_call (i := 1) 156 32 #[pv p] rfl rfl rfl (by go_simp) ((table_of _ (pv p) _ 0 0 la (Lo ++ H).length lca (playF [] (Lo ++ H)) TA.out.haveL (clones_tab TA.out.tab PLL.out.1)).mono ?_) AllReadyH.nil)
            rintro e v201 ⟨qT1, bT1, rfl, h1, _, _, hb⟩
            have BV := Lib.hid (BV.out.trans (hb.mono BV.out.size))
            have TA := Lib.hid (TA.out.step hb)
            have TB := Lib.hid (TB.out.step hb)
            have TC := Lib.hid (TC.out.step hb)
            have T1 := Lib.hid h1
            clear h1
            clear hb
            refine ⟨_, rfl, BV.out, fun _ => ?_⟩
            simp only [Act.put, List.setIfInBounds_toArray, List.set_cons_zero, List.set_cons_succ]
            refine wpAnyH_ready (rs := [3]) (by kernel_rfl) (by simp) (br_call (i := 3) 158 32 #[pv p'] rfl rfl rfl (by go_simp) ((table_of _ (pv p') _ ut ur lb H.length lcb (playF (playF [] Lo) H) TB.out.haveL (clones_tab TB.out.tab PLL.out.2)).mono ?_) AllReadyH.nil)
            rintro e v202 ⟨qT2, bT2, rfl, h1, _, _, hb⟩
            have BV := Lib.hid (BV.out.trans (hb.mono BV.out.size))
            have TA := Lib.hid (TA.out.step hb)
            have TB := Lib.hid (TB.out.step hb)
            have TC := Lib.hid (TC.out.step hb)
            have T1 := Lib.hid (T1.out.step hb)
            have T2 := Lib.hid h1
            clear h1
            clear hb
            refine ⟨_, rfl, BV.out, fun _ => ?_⟩
            simp only [Act.put, List.setIfInBounds_toArray, List.set_cons_zero, List.set_cons_succ]
            have SM1 := Lib.hid (Tb.tsame_any v202 qT1 bT1 qT2 bT2 _ _ T1.out T2.out PLL.out.1)
            rw [decide_eq_true (play_append [] Lo H)] at SM1
            refine wpAnyH_ready (rs := [4]) (by kernel_rfl) (by simp) (br_call (i := 4) 159 31 #[.pointer (some ⟨qT1, 0, none⟩), .pointer (some ⟨qT2, 0, none⟩)] rfl rfl rfl (by go_simp) ((SM1.out).mono ?_) AllReadyH.nil)
            rintro e v203 ⟨rfl, hb⟩
            have BV := Lib.hid (BV.out.trans (hb.mono BV.out.size))
            have TA := Lib.hid (TA.out.step hb)
            have TB := Lib.hid (TB.out.step hb)
            have TC := Lib.hid (TC.out.step hb)
            have T1 := Lib.hid (T1.out.step hb)
            have T2 := Lib.hid (T2.out.step hb)
            clear hb
            refine ⟨_, rfl, BV.out, fun _ => ?_⟩
            simp only [Act.put, List.setIfInBounds_toArray, List.set_cons_zero, List.set_cons_succ]
            refine take_at (i := 5) 160 ?_ rfl rfl (by kernel_rfl) (by kernel_rfl) (by kernel_rfl) (fun _ _ _ h => h) (.inl ⟨rfl, ?_⟩) BV.out ?_
            rotate_left 1
            · intro w hSw; go_simp; try with_reducible rfl
            simp only [Act.put, List.setIfInBounds_toArray, List.set_cons_zero, List.set_cons_succ]
            refine take_at (i := 6) 161 ?_ rfl rfl (by kernel_rfl) (by kernel_rfl) (by kernel_rfl) (fun _ _ _ h => h) (.inl ⟨rfl, ?_⟩) BV.out ?_
            rotate_left 1
            · intro w hSw; go_simp; try with_reducible rfl
            simp only [Act.put, List.setIfInBounds_toArray, List.set_cons_zero, List.set_cons_succ]
            refine take_at (i := 8) 163 ?_ rfl rfl (by kernel_rfl) (by kernel_rfl) (by kernel_rfl) (fun _ _ _ h => h) (.inl ⟨rfl, ?_⟩) BV.out ?_
            rotate_left 1
            · intro w hSw; go_simp; try with_reducible rfl
            simp only [Act.put, List.setIfInBounds_toArray, List.set_cons_zero, List.set_cons_succ]
            refine wpAnyH_ready (rs := [7]) (by kernel_rfl) (by simp) (br_call (i := 7) 162 32 #[pv p'] rfl rfl rfl (by go_simp) ((table_of _ (pv p') _ ut ur lb H.length lcb (playF (playF [] Lo) H) TB.out.haveL (clones_tab TB.out.tab PLL.out.2)).mono ?_) AllReadyH.nil)
            rintro e v204 ⟨qT3, bT3, rfl, h1, _, _, hb⟩
            have BV := Lib.hid (BV.out.trans (hb.mono BV.out.size))
            have TA := Lib.hid (TA.out.step hb)
            have TB := Lib.hid (TB.out.step hb)
            have TC := Lib.hid (TC.out.step hb)
            have T1 := Lib.hid (T1.out.step hb)
            have T2 := Lib.hid (T2.out.step hb)
            have T3 := Lib.hid h1
            clear h1
            clear hb
            refine ⟨_, rfl, BV.out, fun _ => ?_⟩
            simp only [Act.put, List.setIfInBounds_toArray, List.set_cons_zero, List.set_cons_succ]
            refine wpAnyH_ready (rs := [9]) (by kernel_rfl) (by simp) (br_call (i := 9) 164 32 #[pv p3] rfl rfl rfl (by go_simp) ((table_of _ (pv p3) _ ut ur lc H.length lcc (playF (playF [] Lo) H) TC.out.haveL (clones_tab TC.out.tab PLL.out.2)).mono ?_) AllReadyH.nil)
            rintro e v205 ⟨qT4, bT4, rfl, h1, _, _, hb⟩
            have BV := Lib.hid (BV.out.trans (hb.mono BV.out.size))
            have TA := Lib.hid (TA.out.step hb)
            have TB := Lib.hid (TB.out.step hb)
            have TC := Lib.hid (TC.out.step hb)
            have T1 := Lib.hid (T1.out.step hb)
            have T2 := Lib.hid (T2.out.step hb)
            have T3 := Lib.hid (T3.out.step hb)
            have T4 := Lib.hid h1
            clear h1
            clear hb
            refine ⟨_, rfl, BV.out, fun _ => ?_⟩
            simp only [Act.put, List.setIfInBounds_toArray, List.set_cons_zero, List.set_cons_succ]
            have SM2 := Lib.hid (Tb.tsame_any v205 qT3 bT3 qT4 bT4 _ _ T3.out T4.out PLL.out.2)
            rw [decide_eq_true rfl] at SM2
            refine wpAnyH_ready (rs := [10]) (by kernel_rfl) (by simp) (br_call (i := 10) 165 31 #[.pointer (some ⟨qT3, 0, none⟩), .pointer (some ⟨qT4, 0, none⟩)] rfl rfl rfl (by go_simp) ((SM2.out).mono ?_) AllReadyH.nil)
            rintro e v206 ⟨rfl, hb⟩
            have BV := Lib.hid (BV.out.trans (hb.mono BV.out.size))
            have TA := Lib.hid (TA.out.step hb)
            have TB := Lib.hid (TB.out.step hb)
            have TC := Lib.hid (TC.out.step hb)
            have T1 := Lib.hid (T1.out.step hb)
            have T2 := Lib.hid (T2.out.step hb)
            have T3 := Lib.hid (T3.out.step hb)
            have T4 := Lib.hid (T4.out.step hb)
            clear hb
            refine ⟨_, rfl, BV.out, fun _ => ?_⟩
            simp only [Act.put, List.setIfInBounds_toArray, List.set_cons_zero, List.set_cons_succ]
            refine take_at (i := 11) 166 ?_ rfl rfl (by kernel_rfl) (by kernel_rfl) (by kernel_rfl) (fun _ _ _ h => h) (.inl ⟨rfl, ?_⟩) BV.out ?_
            rotate_left 1
            · intro w hSw; go_simp; try with_reducible rfl
            simp only [Act.put, List.setIfInBounds_toArray, List.set_cons_zero, List.set_cons_succ]
            refine take_at (i := 12) 167 ?_ rfl rfl (by kernel_rfl) (by kernel_rfl) (by kernel_rfl) (fun _ _ _ h => h) (.inl ⟨rfl, ?_⟩) BV.out ?_
            rotate_left 1
            · intro w hSw; go_simp; try with_reducible rfl
            simp only [Act.put, List.setIfInBounds_toArray, List.set_cons_zero, List.set_cons_succ]
            refine take_at (i := 13) 168 ?_ rfl rfl (by kernel_rfl) (by kernel_rfl) (by kernel_rfl) (fun _ _ _ h => h) (.inl ⟨rfl, ?_⟩) BV.out ?_
            rotate_left 1
            · intro w hSw; go_simp; try with_reducible rfl
            simp only [Act.put, List.setIfInBounds_toArray, List.set_cons_zero, List.set_cons_succ]
            refine take_at (i := 15) 170 ?_ rfl rfl (by kernel_rfl) (by kernel_rfl) (by kernel_rfl) (fun _ _ _ h => h) (.inl ⟨rfl, ?_⟩) BV.out ?_
            rotate_left 1
            · intro w hSw; go_simp; try with_reducible rfl
            simp only [Act.put, List.setIfInBounds_toArray, List.set_cons_zero, List.set_cons_succ]
            have OPLD := Lib.hid (ops_of v206 (pv p') _ ut ur lb H.length lcb (stepsF (playF [] Lo) H) TB.out.haveL (lies_log TB.out) (by rw [steps_len]; exact HLN.out))
            rw [steps_o] at OPLD
            refine wpAnyH_ready (rs := [14]) (by kernel_rfl) (by simp) (br_call (i := 14) 169 27 #[pv p'] rfl rfl rfl (by go_simp) ((OPLD.out).mono ?_) AllReadyH.nil)
            rintro e v207 ⟨vLD, rfl, ho1, hb⟩
            have BV := Lib.hid (BV.out.trans (hb.mono BV.out.size))
            have TA := Lib.hid (TA.out.step hb)
            have TB := Lib.hid (TB.out.step hb)
            have TC := Lib.hid (TC.out.step hb)
            have T1 := Lib.hid (T1.out.step hb)
            have T2 := Lib.hid (T2.out.step hb)
            have T3 := Lib.hid (T3.out.step hb)
            have T4 := Lib.hid (T4.out.step hb)
            have LD := Lib.hid (show OLies _ vLD H from Tb.own_liesK (enc := oc) (k := 9) oc_len ho1)
            clear ho1
            clear hb
            refine ⟨_, rfl, BV.out, fun _ => ?_⟩
            simp only [Act.put, List.setIfInBounds_toArray, List.set_cons_zero, List.set_cons_succ]
            have OPLE := Lib.hid (ops_of v207 (pv p3) _ ut ur lc H.length lcc (stepsF (playF [] Lo) H) TC.out.haveL (lies_log TC.out) (by rw [steps_len]; exact HLN.out))
            rw [steps_o] at OPLE
            refine wpAnyH_ready (rs := [16]) (by kernel_rfl) (by simp) (br_call (i := 16) 171 27 #[pv p3] rfl rfl rfl (by go_simp) ((OPLE.out).mono ?_) AllReadyH.nil)
            rintro e v208 ⟨vLE, rfl, ho1, hb⟩
            have BV := Lib.hid (BV.out.trans (hb.mono BV.out.size))
            have TA := Lib.hid (TA.out.step hb)
            have TB := Lib.hid (TB.out.step hb)
            have TC := Lib.hid (TC.out.step hb)
            have T1 := Lib.hid (T1.out.step hb)
            have T2 := Lib.hid (T2.out.step hb)
            have T3 := Lib.hid (T3.out.step hb)
            have T4 := Lib.hid (T4.out.step hb)
            have LD := Lib.hid (LD.out.step hb)
            have LE := Lib.hid (show OLies _ vLE H from Tb.own_liesK (enc := oc) (k := 9) oc_len ho1)
            clear ho1
            clear hb
            refine ⟨_, rfl, BV.out, fun _ => ?_⟩
            simp only [Act.put, List.setIfInBounds_toArray, List.set_cons_zero, List.set_cons_succ]
            have SM3 := Lib.hid (rsameO_any v208 vLD vLE H H LD.out LE.out)
            rw [sameO_self] at SM3
            refine wpAnyH_ready (rs := [17]) (by kernel_rfl) (by simp) (br_call (i := 17) 172 26 #[vLD, vLE] rfl rfl rfl (by go_simp) ((SM3.out).mono ?_) AllReadyH.nil)
            rintro e v209 ⟨rfl, hb⟩
            have BV := Lib.hid (BV.out.trans (hb.mono BV.out.size))
            have TA := Lib.hid (TA.out.step hb)
            have TB := Lib.hid (TB.out.step hb)
            have TC := Lib.hid (TC.out.step hb)
            have T1 := Lib.hid (T1.out.step hb)
            have T2 := Lib.hid (T2.out.step hb)
            have T3 := Lib.hid (T3.out.step hb)
            have T4 := Lib.hid (T4.out.step hb)
            have LD := Lib.hid (LD.out.step hb)
            have LE := Lib.hid (LE.out.step hb)
            clear hb
            refine ⟨_, rfl, BV.out, fun _ => ?_⟩
            simp only [Act.put, List.setIfInBounds_toArray, List.set_cons_zero, List.set_cons_succ]
            refine take_at (i := 18) 173 ?_ rfl rfl (by kernel_rfl) (by kernel_rfl) (by kernel_rfl) (fun _ _ _ h => h) (.inl ⟨rfl, ?_⟩) BV.out ?_
            rotate_left 1
            · intro w hSw; go_simp; try with_reducible rfl
            simp only [Act.put, List.setIfInBounds_toArray, List.set_cons_zero, List.set_cons_succ]
            refine take_at (i := 19) 174 ?_ rfl rfl (by kernel_rfl) (by kernel_rfl) (by kernel_rfl) (fun _ _ _ h => h) (.inl ⟨rfl, ?_⟩) BV.out ?_
            rotate_left 1
            · intro w hSw; go_simp; try with_reducible rfl
            simp only [Act.put, List.setIfInBounds_toArray, List.set_cons_zero, List.set_cons_succ]
            refine take_at (i := 20) 175 ?_ rfl rfl (by kernel_rfl) (by kernel_rfl) (by kernel_rfl) (fun _ _ _ h => h) (.inl ⟨rfl, ?_⟩) BV.out ?_
            rotate_left 1
            · intro w hSw; go_simp; try with_reducible rfl
            simp only [Act.put, List.setIfInBounds_toArray, List.set_cons_zero, List.set_cons_succ]
            refine take_at (i := 22) 177 (.agg #[.int .i64 ut, .int .i64 ur]) rfl rfl (by kernel_rfl) (by kernel_rfl) (by kernel_rfl) (fun _ _ _ h => h) (yields_ld (.tmp 3) 24 (.pointer (some ⟨w.heap.size, 0, none⟩)) _ LBR.out rfl rfl rfl) BV.out ?_
            simp only [Act.put, List.setIfInBounds_toArray, List.set_cons_zero, List.set_cons_succ]
            refine wpAnyH_ready (rs := [21]) (by kernel_rfl) (by simp) (br_call (i := 21) 176 18 #[pv p3] rfl rfl rfl (by go_simp) ((floor_of _ (pv p3) _ ut ur lc H.length lcc TC.out.haveL).mono ?_) AllReadyH.nil)
            rintro e v210 ⟨rfl, hb⟩
            have BV := Lib.hid (BV.out.trans (hb.mono BV.out.size))
            have TA := Lib.hid (TA.out.step hb)
            have TB := Lib.hid (TB.out.step hb)
            have TC := Lib.hid (TC.out.step hb)
            have T1 := Lib.hid (T1.out.step hb)
            have T2 := Lib.hid (T2.out.step hb)
            have T3 := Lib.hid (T3.out.step hb)
            have T4 := Lib.hid (T4.out.step hb)
            have LD := Lib.hid (LD.out.step hb)
            have LE := Lib.hid (LE.out.step hb)
            clear hb
            refine ⟨_, rfl, BV.out, fun _ => ?_⟩
            simp only [Act.put, List.setIfInBounds_toArray, List.set_cons_zero, List.set_cons_succ]
            refine take_at (i := 23) 178 (.bool true) rfl rfl (by kernel_rfl) (by kernel_rfl) (by kernel_rfl) (fun _ _ _ h => h) (yields_bin .eql (.tmp 176) (.tmp 177) 24 24 (.agg #[.int .i64 ut, .int .i64 ur]) (.agg #[.int .i64 ut, .int .i64 ur]) _ E24.out (g24 _ _ _ _) rfl rfl rfl rfl) BV.out ?_
            simp only [Act.put, List.setIfInBounds_toArray, List.set_cons_zero, List.set_cons_succ]
            refine take_at (i := 24) 179 ?_ rfl rfl (by kernel_rfl) (by kernel_rfl) (by kernel_rfl) (fun _ _ _ h => h) (.inl ⟨rfl, ?_⟩) BV.out ?_
            rotate_left 1
            · intro w hSw; go_simp; try with_reducible rfl
            simp only [Act.put, List.setIfInBounds_toArray, List.set_cons_zero, List.set_cons_succ]
            refine take_at (i := 25) 180 ?_ rfl rfl (by kernel_rfl) (by kernel_rfl) (by kernel_rfl) (fun _ _ _ h => h) (.inl ⟨rfl, ?_⟩) BV.out ?_
            rotate_left 1
            · intro w hSw; go_simp; try with_reducible rfl
            simp only [Act.put, List.setIfInBounds_toArray, List.set_cons_zero, List.set_cons_succ]
            refine wpAnyH_ready (rs := [26]) (by kernel_rfl) (by simp) (br_call (i := 26) 181 9 #[] rfl rfl rfl (by go_simp) ((AW.out _).mono ?_) AllReadyH.nil)
            rintro e v211 ⟨rfl, hb⟩
            have BV := Lib.hid (BV.out.trans (hb.mono BV.out.size))
            have TA := Lib.hid (TA.out.step hb)
            have TB := Lib.hid (TB.out.step hb)
            have TC := Lib.hid (TC.out.step hb)
            have T1 := Lib.hid (T1.out.step hb)
            have T2 := Lib.hid (T2.out.step hb)
            have T3 := Lib.hid (T3.out.step hb)
            have T4 := Lib.hid (T4.out.step hb)
            have LD := Lib.hid (LD.out.step hb)
            have LE := Lib.hid (LE.out.step hb)
            clear hb
            refine ⟨_, rfl, BV.out, fun _ => ?_⟩
            simp only [Act.put, List.setIfInBounds_toArray, List.set_cons_zero, List.set_cons_succ]
            refine take_at (i := 27) 182 ?_ rfl rfl (by kernel_rfl) (by kernel_rfl) (by kernel_rfl) (fun _ _ _ h => h) (.inl ⟨rfl, ?_⟩) BV.out ?_
            rotate_left 1
            · intro w hSw; go_simp; try with_reducible rfl
            simp only [Act.put, List.setIfInBounds_toArray, List.set_cons_zero, List.set_cons_succ]
            refine take_at (i := 28) 4 ?_ rfl rfl (by kernel_rfl) (by kernel_rfl) (by kernel_rfl) (fun _ _ _ h => h) (.inl ⟨rfl, ?_⟩) BV.out ?_
            rotate_left 1
            · intro w hSw; go_simp; try with_reducible rfl
            simp only [Act.put, List.setIfInBounds_toArray, List.set_cons_zero, List.set_cons_succ]
            refine wpAnyH_done (by kernel_rfl) ?_ _
            have FB := Lib.hid (B0.out.trans ((BU.out.trans ((K.out.bel.trans (BV.out.mono K.out.bel.size)).mono BU.out.size)).mono B0.out.size))
            clear BV
            go_wp2
            go_returns
            exact ⟨rfl, FB.out⟩
end Go.Proofs.Ytkmeceoilighiaa
