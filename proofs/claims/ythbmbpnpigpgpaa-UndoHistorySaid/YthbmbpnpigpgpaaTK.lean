/- slices.AppendSeq, Collect, SortedFunc over maps.Keys; a table's Nodes. -/
import Derived.Test.YthbmbpnpigpgpaaTJ
import Derived.RangeFuncNested
import Derived.RangeFuncBound
import Derived.RangeFuncCalls
import Derived.RangeFuncLeaves
import Derived.Shelf.Abstract
import Derived.Shelf.RegionOpen
set_option linter.unusedVariables false
set_option maxRecDepth 100000
namespace Go.Proofs.Ythbmbpnpigpgpaa
open Go.RowKit Go.WideMaps Go.Maps

theorem wpListIn_push {F : Fence} {n : Nat} {w : World} {ops : Array Oper} {rest : List Oper} {o : Oper} {a : Act} {Q : Exit → Act → World → Prop} (hgd : o.guard = none) (s x : Operand)
    (ho : o.op = .call { callee := .builtin .append, args := #[s, x], argTypes := #[24, 24] }) (base : Nat) (i : TypeInfo) (hi : Try.prog.info? 61 = some i) (hz : i.zero = some (.agg #[.int .i64 0, .int .i64 0])) (hsize : i.size = 2) (hby : i.bytes = 16)
    (v : Value) (l : List Sp) (p : Sp) (g : Nat) (hs : a.eval s = v) (hx : a.eval x = .slice (some ⟨g, 0, none⟩) 1 1) (hb : w.heap[g]? = some (.cells (encS p).toArray 61 (0, 0))) (hown : w.ownsRow base 61 2 v l.length (l.flatMap encS))
    (hl : l.length < 100000) (hbase : base ≤ w.heap.size)
    (h : ∀ v' w', w'.ownsRow base 61 2 v' (l ++ [p]).length ((l ++ [p]).flatMap encS) → w.grownBy w' v.ownBlock → wpListIn F n Try.prog ops Q rest (a.put o.dst v') w') : wpListIn F n Try.prog ops Q (o :: rest) a w := by
  have hsrc := (one_liesK encS_len hb).src Try.u43 encS_len (by omega) encS_one
  refine wpListIn_plain hgd fun K hK => ?_
  obtain ⟨v', w', hr, h2, h3, h4⟩ := run_append_src_own (P := Try.prog) w base 24 24 o.type 61 i (.agg #[.int .i64 0, .int .i64 0]) 2 16 Try.u43 hi hz hsize hby rfl (by omega) v l.length _ hown _ 1 ([p].flatMap encS) hsrc (by unfold maxLen; omega) (by omega) hbase
  unfold Oper.wpIn
  refine ⟨by simp [Oper.about, ho, resolve, Target.leads, Sem.run_pure], ?_⟩
  rw [Oper.semAt_plain F _ _ (by rw [ho]; intro c hc'; cases hc')]
  simp only [execOp, ho, resolve, invoke, builtin, Sem.run_bind, Sem.run_pure, Result.andThen_ok, List.map_toArray, List.map_cons, List.map_nil, hs, hx, hr]
  exact hK _ _ (h v' w' (by rw [List.length_append, List.flatMap_append]; exact h2) h3)
/-- AppendSeq, between two rounds. -/
def AI (w : World) (pre : List Rw) (W : World) : Prop := (∃ v, W.heap[w.heap.size]? = some (.cells #[v] 24 (0, 0)) ∧ W.ownsRow (w.heap.size + 1) 61 2 v (pre.map stOf).length ((pre.map stOf).flatMap encS)) ∧ Below w.heap.size w W
theorem own_kept {W W' : World} {row : Option Nat} {base : Nat} {e : TypeId} {size : Nat} {v : Value} {m : Nat} {xs : List Value} (h : W.ownsRow base e size v m xs) (hg : W.grownBy W' row) (hr : ∀ r, row = some r → ∃ o : Obj, W.heap[r]? = some o ∧ o.isCells = false) : W'.ownsRow base e size v m xs := by
  refine h.kept hg ?_
  rcases h.2 with ⟨rfl, _⟩ | ⟨g, cap, cur, rfl, _, hb, _⟩
  · exact .inl rfl
  · refine .inr (fun e1 => ?_)
    obtain ⟨o, ho, hc⟩ := hr g e1.symm
    rw [hb] at ho
    cases ho
    cases hc
theorem AI.own (w : World) (B : Nat) (hB : w.heap.size ≤ B) : OwnFrom B (AI w) := by
  intro s W W' row h hg hr
  obtain ⟨⟨v, h1, h2⟩, h3⟩ := h
  refine ⟨⟨v, (hg.block _ (lt_of_block h1) (fun e => ?_)).trans h1, own_kept h2 hg (fun r e => (hr r e).2)⟩, h3.grown hg h3.size (fun k e => Nat.le_trans hB (hr k e).1)⟩
  obtain ⟨o, ho, hc⟩ := (hr _ e.symm).2
  rw [h1] at ho
  cases ho
  cases hc
/-- The round's frame. -/
def AX (w : World) (Bm : Nat) (x : Rw) (a : Act) (W : World) : Prop := ∃ k, a = { tmps := #[.slice none 0 0, .func (.func 60) #[] #[.pointer (some ⟨Bm, 0, none⟩)], .pointer (some ⟨w.heap.size, 0, none⟩), undef, .slice none 0 0, .pointer (some ⟨k, 0, none⟩), .func (.func 60) #[] #[.pointer (some ⟨Bm, 0, none⟩)], sv x.t x.r, undef, undef, undef, undef, undef], defers := [] } ∧ StAt W k x.t x.r
theorem AX.own (w : World) (Bm B : Nat) (x : Rw) (a : Act) : OwnFrom B (fun (_ : Unit) W => AX w Bm x a W) := by
  intro s W W' row h hg hr
  obtain ⟨k, e, h1⟩ := h
  refine ⟨k, e, (hg.block _ (lt_of_block h1) (fun e => ?_)).trans h1⟩
  obtain ⟨o, ho, hc⟩ := (hr _ e.symm).2
  rw [show W.heap[k]? = _ from h1] at ho
  cases ho
  cases hc
set_option maxHeartbeats 4000000 in
theorem appendSeq_in (n : Nat) (hn : 4 ≤ n) (w : World) (Bm b : Nat) (l : List Rw) (hl : l.length < 100000) (hBm : Bm < w.heap.size) (hm : w.cell? ⟨Bm, 0, none⟩ = some (.map (some b))) (h : TM w b l) :
    CallsIn Fence.wide n Try.prog 66 #[.slice none 0 0, .func (.func 60) #[] #[.pointer (some ⟨Bm, 0, none⟩)]] w fun e w' => ∃ (v : Value) (ss : List Rw), e = .returned v ∧ ss.Perm l ∧ w'.ownsRow (w.heap.size + 1) 61 2 v (ss.map stOf).length ((ss.map stOf).flatMap encS) ∧ Below w.heap.size w w' := by
  have h1 : 1 ≤ n := by omega
  have hro : Fence.wide.round = none := rfl
  obtain ⟨W0, hW0⟩ : ∃ W0, w.alloc (.cells #[.slice none 0 0] 24) = W0 := ⟨_, rfl⟩
  have hs0 : W0.heap.size = w.heap.size + 1 := by rw [← hW0]; simp
  have hv0 : W0.heap[w.heap.size]? = some (.cells #[.slice none 0 0] 24 (0, 0)) := by rw [← hW0]; exact World.alloc_heap_new w _
  have hb0 : Below w.heap.size w W0 := by rw [← hW0]; exact vstep w _
  have HW := Lib.hid hW0
  have HZ := Lib.hid hs0
  have HV := Lib.hid hv0
  have HB := Lib.hid hb0
  have SQ := Lib.hid (keys_stops (n - 1) (by omega) Bm b l w hBm hm h)
  obtain ⟨i0, hi, hz0, hz1, hz2⟩ := info_parts info24
  clear hW0 hs0 hv0 hb0 h hm
  refine callsIn_of_wp_marks Try.func66 rfl trivial ?_ hro
  simp only [Try.ntmps66, List.size_toArray, List.length_cons, List.length_nil, Nat.reduceAdd, Nat.reduceSub, Array.replicate_succ, Array.replicate_zero, List.push_toArray, List.append_toArray, List.nil_append, List.cons_append]
  gi_wp2
  rw [HW.out]
  refine wpIn_rangeFunc_ownH hro h1 (gf := 60) (lb := #[.pointer (some ⟨Bm, 0, none⟩)]) rfl trivial (enters_of Try.func60 (by kernel_rfl) rfl)
    SQ.out (fun h k => KeepsWalks.trans h k) (fun W l o o' _ h _ hw => KeepsWalks.putObj _ h hw) HB.out (fun _ => rfl)
    (AI w) (fun _ _ _ => False) (AI.own w _ HB.out.size) (fun _ _ _ _ _ hs _ _ => hs) ⟨⟨_, HV.out, World.ownsRow_nil _ _ _ _⟩, HB.out⟩
    (AX w Bm) (fun x a' => AX.own w Bm _ x a') ?assign ?body ?done ?stop
  case assign =>
    intro l' pre x W K hI hK
    gi_wp2_with (rw [Oper.semAt_eq _ _ _ (fun c h => by cases h)]; go_simp; try go_bits)
    exact hK _ _ ((KeepsOthers.alloc W _).from _) (KeepsWalks.alloc W _) ((AI.own w _ HB.out.size).alloc _ hI) ⟨W.heap.size, rfl, StAt.new W x.t x.r⟩
  case body =>
    rintro l' pre x a' W hl' hr' ⟨⟨v, hv, ho⟩, hbW⟩ ⟨k, rfl, hst⟩ hN
    obtain ⟨c1, c2⟩ := hst.cells
    have c3 := cell_of_one hv
    obtain ⟨va, vc, rfl⟩ := own_shapeK ho
    have OW := Lib.hid ho
    have HV3 := Lib.hid hv
    have BW := Lib.hid hbW
    have HN := Lib.hid (show (pre.map stOf).length < 100000 from by rw [List.length_map]; omega)
    have PM := Lib.hid (show (pre ++ [x]).map stOf = pre.map stOf ++ [stOf x] from by rw [List.map_append]; rfl)
    generalize pre.map stOf = ks at *
    have H5 := Lib.hid (show (W.alloc (.cells #[.int .i64 x.t, .int .i64 x.r] 61)).heap[W.heap.size]? = some (.cells (encS (stOf x)).toArray 61 (0, 0)) from heap_alloc_new W _)
    have O5 := Lib.hid (own_belowK OW.out (vstep W (.cells #[.int .i64 x.t, .int .i64 x.r] 61)))
    clear ho hv hbW hst hN
    gi_wp2_with (first
      | (gi_at_builtin; refine wpListIn_push rfl (.tmp 8) (.tmp 10) rfl (w.heap.size + 1) i0 hi hz0 hz1 hz2 (.slice va ks.length vc) ks (stOf x) W.heap.size rfl rfl H5.out O5.out HN.out (by have := lt_of_block HV3.out; simp; omega) ?_; intro v6 w6 hown hgr; obtain ⟨va6, vc6, rfl⟩ := own_shapeK hown; have hv6 := (hgr.block w.heap.size (by have := lt_of_block HV3.out; simp; omega) (fun e => by have := (O5.out.lt _ e.symm).1; omega)).trans ((vstep W (.cells #[.int .i64 x.t, .int .i64 x.r] 61)).block w.heap.size (lt_of_block HV3.out) |>.trans HV3.out); have c6 := cell_of_one hv6; have f6 := free_of_one hv6; have V6 := Lib.hid hv6; have O6 := Lib.hid hown; have G6 := Lib.hid hgr; clear hown hgr hv6 c1 c2 c3)
      | (rw [Oper.semAt_eq _ _ _ (fun c h => by cases h)]; go_simp; try go_bits))
    have B5 := vstep W (.cells #[.int .i64 x.t, .int .i64 x.r] 61)
    have KO : ∀ u, KeepsOthers W (w6.setCell ⟨w.heap.size, 0, none⟩ u) := fun u => ((KeepsOthers.alloc W _).trans (KeepsOthers.of_grownBy G6.out (fun j o e ho => by
      rcases O5.out.2 with ⟨e1, _⟩ | ⟨g, cap, cur, e1, _, hb, _⟩
      · rw [e1] at e; cases e
      · rw [e1] at e
        injection e with e
        subst e
        rw [hb] at ho
        cases ho
        rfl))).trans (KeepsOthers.setCell _ _ _)
    have O7 : w6.ownsRow (w.heap.size + 1) 61 2 (.slice va6 (ks.length + 1) vc6) (ks ++ [stOf x]).length ((ks ++ [stOf x]).flatMap encS) := by have := O6.out; rw [show (ks ++ [stOf x]).length = ks.length + 1 by simp] at this ⊢; exact this
    refine ⟨(KO _).from _, (KO _).walks, ⟨_, Boxed.set _ V6.out, ?_⟩, ?_⟩
    · rw [PM.out]
      exact O7.kept (grownBy_setCell' w6 w.heap.size _) (.inr (fun e => by have := (O7.lt _ e).1; omega))
    · exact ((BW.out.trans (B5.mono BW.out.size)).grown G6.out (by have := BW.out.size; simp; omega) (fun j e => by have := (O5.out.lt _ e).1; omega)).setCell (Nat.le_refl _) _
  case done =>
    rintro D ys W hD hS ⟨⟨v, hv, ho⟩, hbW⟩ hK
    have c3 := cell_of_one hv
    have HK := Lib.hid hK
    have PS := Lib.hid hS
    have HD := Lib.hid hD
    obtain ⟨va, vc, rfl⟩ := own_shapeK ho
    have FIN := Lib.hid (show W.ownsRow (w.heap.size + 1) 61 2 (.slice va ys.length vc) (ys.map stOf).length ((ys.map stOf).flatMap encS) ∧ Below w.heap.size w W from ⟨by have := ho; rw [List.length_map] at this ⊢; exact this, hbW⟩)
    rw [List.length_map] at c3
    clear ho hbW hv hS hK hD
    gi_wp2
    refine ⟨by simp, .inl ⟨_, _, rfl, run_takeDeferred HK.out, ?_⟩⟩
    refine ⟨_, results_tmp rfl _ _ _, _, ys, rfl, PS.out, ?_, ?_⟩
    · exact own_kept FIN.out.1 (grownBy_putObj' W D _) (fun r e => by cases e; exact ⟨_, HK.out, rfl⟩)
    · exact FIN.out.2.grown (grownBy_putObj' W D _) FIN.out.2.size (fun r e => by cases e; have := HD.out; have := HZ.out; omega)
  case stop =>
    rintro D c pre W _ _ h _
    exact h.elim
set_option maxHeartbeats 1000000 in
theorem collect_any (w : World) (Bm b : Nat) (l : List Rw) (hl : l.length < 100000) (hBm : Bm < w.heap.size) (hm : w.cell? ⟨Bm, 0, none⟩ = some (.map (some b))) (h : TM w b l) :
    Calls Try.prog 58 #[.func (.func 60) #[] #[.pointer (some ⟨Bm, 0, none⟩)]] w fun e w' => ∃ (v : Value) (ss : List Rw), e = .returned v ∧ ss.Perm l ∧ w'.ownsRow (w.heap.size + 1) 61 2 v (ss.map stOf).length ((ss.map stOf).flatMap encS) ∧ Below w.heap.size w w' := by
  have C := Lib.hid (callsIn_wide.1 (appendSeq_in 4 (Nat.le_refl _) w Bm b l hl hBm hm h))
  clear hm h
  go_enter Try.func58, Try.ntmps58
  go_wp2_with fail
  refine C.out.mono ?_
  rintro e w1 ⟨v, ss, rfl, h1, h2, h3⟩
  have FIN := Lib.hid (And.intro h1 (And.intro h2 h3))
  clear h1 h2 h3
  go_wp2
  go_returns
  exact ⟨v, ss, rfl, FIN.out⟩
def nodesF (l : List Rw) : List Sp := l.map stOf
set_option maxHeartbeats 1000000 in
theorem sorted_any (w : World) (Bm b : Nat) (l : List Rw) (hl : l.length < 100000) (hBm : Bm < w.heap.size) (hm : w.cell? ⟨Bm, 0, none⟩ = some (.map (some b))) (h : TM w b l) :
    Calls Try.prog 52 #[.func (.func 60) #[] #[.pointer (some ⟨Bm, 0, none⟩)], .func (.func 54) #[] #[]] w fun e w' => ∃ v, e = .returned v ∧ w'.ownsRow w.heap.size 61 2 v (nodesF l).length ((nodesF l).flatMap encS) ∧ Below w.heap.size w w' := by
  have C := Lib.hid (collect_any w Bm b l hl hBm hm h)
  have RS := Lib.hid h.rise
  clear hm h
  go_enter Try.func52, Try.ntmps52
  go_wp2_with fail
  refine C.out.mono ?_
  rintro e w1 ⟨v, ss, rfl, h1, h2, h3⟩
  have PS := Lib.hid h1
  have OW := Lib.hid h2
  have BW := Lib.hid h3
  obtain ⟨va, vc, rfl⟩ := own_shapeK h2
  have SO := Lib.hid (sort_own w1 _ _ (ss.map stOf) h2 (by rw [List.length_map, h1.length_eq]; omega))
  clear h1 h2 h3 C
  generalize hks : ss.map stOf = ks at *
  have HK := Lib.hid hks
  clear hks
  go_wp2_with fail
  refine SO.out.mono ?_
  rintro e w4 ⟨rfl, l', hp, hs, ho, hg⟩
  have EQ := Lib.hid (show l' = nodesF l from sorted_one (hp.trans (by rw [← HK.out]; exact PS.out.map _)) hs (rise_sorted RS.out))
  have FIN := Lib.hid (show w4.ownsRow w.heap.size 61 2 (.slice va ks.length vc) (nodesF l).length ((nodesF l).flatMap encS) ∧ Below w.heap.size w w4 from by
    have e1 : ks.length = (nodesF l).length := by rw [← EQ.out]; exact hp.length_eq.symm
    rw [EQ.out, e1] at ho
    refine ⟨?_, BW.out.grown hg BW.out.size (fun k e => by have := (OW.out.lt k e).1; omega)⟩
    rw [e1]
    exact ⟨ho.1, ho.2.imp id fun ⟨g, cap, cur, h1, h2, h3⟩ => ⟨g, cap, cur, h1, by omega, h3⟩⟩)
  clear hp hs ho hg EQ SO
  go_wp2
  go_returns
  exact ⟨_, rfl, FIN.out.1, FIN.out.2⟩
set_option maxHeartbeats 1000000 in
theorem keys_any (w : World) (m : Option Nat) : Calls Try.prog 53 #[.map m] w fun e w' => e = .returned (.func (.func 60) #[] #[.pointer (some ⟨w.heap.size, 0, none⟩)]) ∧ w' = w.alloc (.cells #[.map m] 99) := by
  go_enter Try.func53, Try.ntmps53
  go_wp2
  go_returns
  exact ⟨rfl, rfl⟩
set_option maxHeartbeats 1000000 in
theorem nodes_any (w : World) (p b : Nat) (l : List Rw) (h : TabI w p b l) (hl : l.length < 100000) :
    Calls Try.prog 38 #[.pointer (some ⟨p, 0, none⟩)] w fun e w' => ∃ v, e = .returned v ∧ w'.ownsRow w.heap.size 61 2 v (nodesF l).length ((nodesF l).flatMap encS) ∧ Below w.heap.size w w' := by
  have M := Lib.hid (made_any w p b l h)
  have K := Lib.hid (keys_any w (some b))
  have B1 := Lib.hid (vstep w (.cells #[.map (some b)] 99))
  have S := Lib.hid (sorted_any (w.alloc (.cells #[.map (some b)] 99)) w.heap.size b l hl (by simp) (cell_of_one (heap_alloc_new w _)) (h.map.step B1.out))
  have c0 := h.cell
  clear h
  go_enter Try.func38, Try.ntmps38
  go_wp2_with fail
  refine M.out.mono ?_
  rintro e w1 ⟨rfl, rfl⟩
  go_wp2_with fail
  refine K.out.mono ?_
  rintro e w1 ⟨rfl, rfl⟩
  go_wp2_with fail
  refine S.out.mono ?_
  rintro e w2 ⟨v, rfl, h1, h2⟩
  have FIN := Lib.hid (show w2.ownsRow w.heap.size 61 2 v (nodesF l).length ((nodesF l).flatMap encS) ∧ Below w.heap.size w w2 from ⟨⟨h1.1, h1.2.imp id fun ⟨g, cap, cur, a1, a2, a3⟩ => ⟨g, cap, cur, a1, by have := B1.out.size; omega, a3⟩⟩, B1.out.trans (h2.mono B1.out.size)⟩)
  clear h1 h2 c0
  go_wp2
  go_returns
  exact ⟨_, rfl, FIN.out.1, FIN.out.2⟩
end Go.Proofs.Ythbmbpnpigpgpaa

