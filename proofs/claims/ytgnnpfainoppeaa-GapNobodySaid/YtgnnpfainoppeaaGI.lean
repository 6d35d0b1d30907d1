/- slices.AppendSeq, Collect, SortedFunc over maps.Values; a gap's All. Made by gengh28.py. -/
import Derived.Test.YtgnnpfainoppeaaGH
import Derived.RangeFuncNested
import Derived.RangeFuncBound
import Derived.RangeFuncCalls
import Derived.RangeFuncLeaves
import Derived.Shelf.Abstract
import Derived.Shelf.RegionOpen
set_option linter.unusedSimpArgs false
set_option linter.unusedVariables false
set_option maxRecDepth 100000
namespace Go.Proofs.Ytgnnpfainoppeaa
open Go.RowKit Go.WideMaps Go.Maps

theorem wpListIn_push {F : Fence} {n : Nat} {w : World} {ops : Array Oper} {rest : List Oper} {o : Oper} {a : Act} {Q : Exit → Act → World → Prop} (hgd : o.guard = none) (s x : Operand)
    (ho : o.op = .call { callee := .builtin .append, args := #[s, x], argTypes := #[27, 27] }) (base : Nat) (i : TypeInfo) (hi : Try.prog.info? 35 = some i) (hz : i.zero = some (oV O0)) (hsize : i.size = 9) (hby : i.bytes = 80)
    (v : Value) (l : List O) (p : O) (g : Nat) (hs : a.eval s = v) (hx : a.eval x = .slice (some ⟨g, 0, none⟩) 1 1) (hb : w.heap[g]? = some (.cells (oc p).toArray 35 (0, 0))) (hown : w.ownsRow base 35 9 v l.length (l.flatMap oc))
    (hl : l.length < 100000) (hbase : base ≤ w.heap.size)
    (h : ∀ v' w', w'.ownsRow base 35 9 v' (l ++ [p]).length ((l ++ [p]).flatMap oc) → w.grownBy w' v.ownBlock → wpListIn F n Try.prog ops Q rest (a.put o.dst v') w') : wpListIn F n Try.prog ops Q (o :: rest) a w := by
  have hsrc := (one_olies (x := p) hb).src
  rw [cs9_flat] at hsrc
  refine wpListIn_plain hgd fun K hK => ?_
  obtain ⟨v', w', hr, h2, h3, h4⟩ := Wi.run_append_src_own (P := Try.prog) w base 27 27 o.type 35 i (oV O0) 9 80 Try.u27' hi hz hsize hby rfl (by omega) v l.length _ hown _ 1 ([p].flatMap oc) hsrc (by unfold maxLen; omega) (by omega) hbase
  unfold Oper.wpIn
  refine ⟨by simp [Oper.about, ho, resolve, Target.leads, Sem.run_pure], ?_⟩
  rw [Oper.semAt_plain F _ _ (by rw [ho]; intro c hc'; cases hc')]
  simp only [execOp, ho, resolve, invoke, builtin, Sem.run_bind, Sem.run_pure, Result.andThen_ok, List.map_toArray, List.map_cons, List.map_nil, hs, hx, hr]
  exact hK _ _ (h v' w' (by rw [List.length_append, List.flatMap_append]; exact h2) h3)
/-- AppendSeq, between two rounds. -/
def AI (w : World) (pre : List O) (W : World) : Prop := (∃ v, W.heap[w.heap.size]? = some (.cells #[v] 27 (0, 0)) ∧ W.ownsRow (w.heap.size + 1) 35 9 v pre.length (pre.flatMap oc)) ∧ Below w.heap.size w W
theorem rise_sorted {l : List O} (h : RiseG l) : l.Pairwise (fun x y => ltG y x = false) := h.imp (fun {a b} hab => by
  rcases ltg_tri a b with ⟨q1, q2, q3⟩ | ⟨q1, q2, q3⟩ | ⟨q1, q2, q3⟩
  · exact q3
  · rw [hab] at q1; cases q1
  · rw [hab] at q1; cases q1)
theorem sorted_one {l1 l2 : List O} (hp : l1.Perm l2) (h1 : l1.Pairwise (fun x y => ltG y x = false)) (h2 : RiseG l2) : l1 = l2 := by
  refine List.Perm.eq_of_pairwise (le := fun x y => ltG y x = false) (fun a b ha hb q1 q2 => ?_) h1 (rise_sorted h2) hp
  refine rise_one h2 (hp.mem_iff.1 ha) hb ?_
  rcases ltg_tri a b with ⟨p1, p2, p3⟩ | ⟨p1, p2, p3⟩ | ⟨p1, p2, p3⟩ <;> simp_all
theorem own_keptX {W W' : World} {row : Option Nat} {base : Nat} {e : TypeId} {size : Nat} {v : Value} {m : Nat} {xs : List Value} (h : W.ownsRow base e size v m xs) (hg : W.grownBy W' row) (hr : ∀ r, row = some r → ∃ o : Obj, W.heap[r]? = some o ∧ o.isCells = false) : W'.ownsRow base e size v m xs := by
  refine h.kept hg ?_
  rcases h.2 with ⟨rfl, _⟩ | ⟨g, cap, cur, rfl, _, hb, _⟩
  · exact .inl rfl
  · refine .inr (fun e1 => ?_)
    obtain ⟨o, ho, hc⟩ := hr g e1.symm
    rw [hb] at ho
    cases ho
    cases hc
theorem AI.own (w : World) (B : Nat) (hB : w.heap.size ≤ B) : OwnFrom B (AI w) := by
  intro s W W' row h hg hr
  obtain ⟨⟨v, h1, h2⟩, h3⟩ := h
  refine ⟨⟨v, (hg.block _ (lt_of_block h1) (fun e => ?_)).trans h1, own_keptX h2 hg (fun r e => (hr r e).2)⟩, h3.grown hg h3.size (fun k e => Nat.le_trans hB (hr k e).1)⟩
  obtain ⟨o, ho, hc⟩ := (hr _ e.symm).2
  rw [h1] at ho
  cases ho
  cases hc
/-- The round's frame. -/
def AX (w : World) (Bm : Nat) (x : O) (a : Act) (W : World) : Prop := ∃ k, a = { tmps := #[.slice none 0 0, .func (.func 45) #[] #[.pointer (some ⟨Bm, 0, none⟩)], .pointer (some ⟨w.heap.size, 0, none⟩), undef, .slice none 0 0, .pointer (some ⟨k, 0, none⟩), .func (.func 45) #[] #[.pointer (some ⟨Bm, 0, none⟩)], oW x, undef, undef, undef, undef, undef], defers := [] } ∧ W.heap[k]? = some (.cells (oCells x) 35 (0, 0))
theorem AX.own (w : World) (Bm B : Nat) (x : O) (a : Act) : OwnFrom B (fun (_ : Unit) W => AX w Bm x a W) := by
  intro s W W' row h hg hr
  obtain ⟨k, e, h1⟩ := h
  refine ⟨k, e, (hg.block _ (lt_of_block h1) (fun e => ?_)).trans h1⟩
  obtain ⟨o, ho, hc⟩ := (hr _ e.symm).2
  rw [show W.heap[k]? = _ from h1] at ho
  cases ho
  cases hc
set_option maxHeartbeats 4000000 in
theorem appendSeq_in (n : Nat) (hn : 4 ≤ n) (w : World) (Bm b : Nat) (l : List O) (hl : l.length < 100000) (hBm : Bm < w.heap.size) (hm : w.cell? ⟨Bm, 0, none⟩ = some (.map (some b))) (h : TM w b l) :
    CallsIn Fence.wide n Try.prog 55 #[.slice none 0 0, .func (.func 45) #[] #[.pointer (some ⟨Bm, 0, none⟩)]] w fun e w' => ∃ (v : Value) (ss : List O), e = .returned v ∧ ss.Perm l ∧ w'.ownsRow (w.heap.size + 1) 35 9 v ss.length (ss.flatMap oc) ∧ Below w.heap.size w w' := by
  have h1 : 1 ≤ n := by omega
  have hro : Fence.wide.round = none := rfl
  obtain ⟨W0, hW0⟩ : ∃ W0, w.alloc (.cells #[.slice none 0 0] 27) = W0 := ⟨_, rfl⟩
  have hs0 : W0.heap.size = w.heap.size + 1 := by rw [← hW0]; simp
  have hv0 : W0.heap[w.heap.size]? = some (.cells #[.slice none 0 0] 27 (0, 0)) := by rw [← hW0]; exact World.alloc_heap_new w _
  have hb0 : Below w.heap.size w W0 := by rw [← hW0]; exact vstep w _
  have HW := Lib.hid hW0
  have HZ := Lib.hid hs0
  have HV := Lib.hid hv0
  have HB := Lib.hid hb0
  have SQ := Lib.hid (vals_stops (n - 1) (by omega) Bm b l w hBm hm h)
  obtain ⟨i0, hi, hz0, hz1, hz2⟩ := Ve.info_parts info35
  clear hW0 hs0 hv0 hb0 h hm
  refine callsIn_of_wp_marks Try.func55 rfl trivial ?_ hro
  simp only [Try.ntmps55, List.size_toArray, List.length_cons, List.length_nil, Nat.reduceAdd, Nat.reduceSub, Array.replicate_succ, Array.replicate_zero, List.push_toArray, List.append_toArray, List.nil_append, List.cons_append]
  gi_wp2
  rw [HW.out]
  refine wpIn_rangeFunc_ownH hro h1 (gf := 45) (lb := #[.pointer (some ⟨Bm, 0, none⟩)]) rfl trivial (enters_of Try.func45 (by kernel_rfl) rfl)
    SQ.out (fun h k => KeepsWalks.trans h k) (fun W l o o' _ h _ hw => KeepsWalks.putObj _ h hw) HB.out (fun _ => rfl)
    (AI w) (fun _ _ _ => False) (AI.own w _ HB.out.size) (fun _ _ _ _ _ hs _ _ => hs) ⟨⟨_, HV.out, World.ownsRow_nil _ _ _ _⟩, HB.out⟩
    (AX w Bm) (fun x a' => AX.own w Bm _ x a') ?assign ?body ?done ?stop
  case assign =>
    intro l' pre x W K hI hK
    gi_wp2_with (rw [Oper.semAt_eq _ _ _ (fun c h => by cases h)]; go_simp; try go_bits)
    exact hK _ _ ((KeepsOthers.alloc W _).from _) (KeepsWalks.alloc W _) ((AI.own w _ HB.out.size).alloc _ hI) ⟨W.heap.size, rfl, heap_alloc_new W _⟩
  case body =>
    rintro l' pre x a' W hl' hr' ⟨⟨v, hv, ho⟩, hbW⟩ ⟨k, rfl, hst⟩ hN
    have c0' := (cell_of_row _ _ 0 _ _ _ hst).trans (show (oCells x)[0]? = some (.int .i64 x.t) from rfl)
    have c1' := (cell_of_row _ _ 1 _ _ _ hst).trans (show (oCells x)[1]? = some (.int .i64 x.r) from rfl)
    have c2' := (cell_of_row _ _ 2 _ _ _ hst).trans (show (oCells x)[2]? = some (.int .i64 x.q) from rfl)
    have c3' := (cell_of_row _ _ 3 _ _ _ hst).trans (show (oCells x)[3]? = some (.int .i64 x.nt) from rfl)
    have c4' := (cell_of_row _ _ 4 _ _ _ hst).trans (show (oCells x)[4]? = some (.int .i64 x.nr) from rfl)
    have c5' := (cell_of_row _ _ 5 _ _ _ hst).trans (show (oCells x)[5]? = some (.int .i64 x.pt) from rfl)
    have c6' := (cell_of_row _ _ 6 _ _ _ hst).trans (show (oCells x)[6]? = some (.int .i64 x.pr) from rfl)
    have c7' := (cell_of_row _ _ 7 _ _ _ hst).trans (show (oCells x)[7]? = some (.string x.nm) from rfl)
    have c8' := (cell_of_row _ _ 8 _ _ _ hst).trans (show (oCells x)[8]? = some (.bool x.d) from rfl)
    have c3 := cell_of_one hv
    obtain ⟨va, vc, rfl⟩ := Ve.own_shape ho
    have OW := Lib.hid ho
    have HV3 := Lib.hid hv
    have BW := Lib.hid hbW
    have HN := Lib.hid (show pre.length < 100000 from by omega)
    have PM := Lib.hid (show pre ++ [x] = pre ++ [x] from rfl)
    generalize pre = ks at *
    have H5 := Lib.hid (show (W.alloc (.cells #[.int .i64 x.t, .int .i64 x.r, .int .i64 x.q, .int .i64 x.nt, .int .i64 x.nr, .int .i64 x.pt, .int .i64 x.pr, .string x.nm, .bool x.d] 35)).heap[W.heap.size]? = some (.cells (oc (x)).toArray 35 (0, 0)) from heap_alloc_new W _)
    have O5 := Lib.hid (own_keep OW.out (vstep W (.cells #[.int .i64 x.t, .int .i64 x.r, .int .i64 x.q, .int .i64 x.nt, .int .i64 x.nr, .int .i64 x.pt, .int .i64 x.pr, .string x.nm, .bool x.d] 35)))
    clear ho hv hbW hst hN
    gi_wp2_with (first
      | (gi_at_builtin; refine wpListIn_push rfl (.tmp 8) (.tmp 10) rfl (w.heap.size + 1) i0 hi hz0 hz1 hz2 (.slice va ks.length vc) ks (x) W.heap.size rfl rfl H5.out O5.out HN.out (by have := lt_of_block HV3.out; simp; omega) ?_; intro v6 w6 hown hgr; obtain ⟨va6, vc6, rfl⟩ := Ve.own_shape hown; have hv6 := (hgr.block w.heap.size (by have := lt_of_block HV3.out; simp; omega) (fun e => by have := (O5.out.lt _ e.symm).1; omega)).trans ((vstep W (.cells #[.int .i64 x.t, .int .i64 x.r, .int .i64 x.q, .int .i64 x.nt, .int .i64 x.nr, .int .i64 x.pt, .int .i64 x.pr, .string x.nm, .bool x.d] 35)).block w.heap.size (lt_of_block HV3.out) |>.trans HV3.out); have c6 := cell_of_one hv6; have f6 := free_of_one hv6; have V6 := Lib.hid hv6; have O6 := Lib.hid hown; have G6 := Lib.hid hgr; clear hown hgr hv6 c3)
      | (rw [Oper.semAt_eq _ _ _ (fun c h => by cases h)]; go_simp; try go_bits))
    have B5 := vstep W (.cells #[.int .i64 x.t, .int .i64 x.r, .int .i64 x.q, .int .i64 x.nt, .int .i64 x.nr, .int .i64 x.pt, .int .i64 x.pr, .string x.nm, .bool x.d] 35)
    have KO : ∀ u, KeepsOthers W (w6.setCell ⟨w.heap.size, 0, none⟩ u) := fun u => ((KeepsOthers.alloc W _).trans (KeepsOthers.of_grownBy G6.out (fun j o e ho => by
      rcases O5.out.2 with ⟨e1, _⟩ | ⟨g, cap, cur, e1, _, hb, _⟩
      · rw [e1] at e; cases e
      · rw [e1] at e
        injection e with e
        subst e
        rw [hb] at ho
        cases ho
        rfl))).trans (KeepsOthers.setCell _ _ _)
    have O7 : w6.ownsRow (w.heap.size + 1) 35 9 (.slice va6 (ks.length + 1) vc6) (ks ++ [x]).length ((ks ++ [x]).flatMap oc) := by have := O6.out; rw [show (ks ++ [x]).length = ks.length + 1 by simp] at this ⊢; exact this
    refine ⟨(KO _).from _, (KO _).walks, ⟨_, Boxed.set _ V6.out, ?_⟩, ?_⟩
    · exact O7.kept (grownBy_setCell' w6 w.heap.size _) (.inr (fun e => by have := (O7.lt _ e).1; omega))
    · exact ((BW.out.trans (B5.mono BW.out.size)).grown G6.out (by have := BW.out.size; simp; omega) (fun j e => by have := (O5.out.lt _ e).1; omega)).setCell (Nat.le_refl _) _
  case done =>
    rintro D ys W hD hS ⟨⟨v, hv, ho⟩, hbW⟩ hK
    have c3 := cell_of_one hv
    have HK := Lib.hid hK
    have PS := Lib.hid hS
    have HD := Lib.hid hD
    obtain ⟨va, vc, rfl⟩ := Ve.own_shape ho
    have FIN := Lib.hid (show W.ownsRow (w.heap.size + 1) 35 9 (.slice va ys.length vc) ys.length (ys.flatMap oc) ∧ Below w.heap.size w W from ⟨ho, hbW⟩)
    clear ho hbW hv hS hK hD
    gi_wp2
    refine ⟨by simp, .inl ⟨_, _, rfl, run_takeDeferred HK.out, ?_⟩⟩
    refine ⟨_, results_tmp rfl _ _ _, _, ys, rfl, PS.out, ?_, ?_⟩
    · exact own_keptX FIN.out.1 (grownBy_putObj' W D _) (fun r e => by cases e; exact ⟨_, HK.out, rfl⟩)
    · exact FIN.out.2.grown (grownBy_putObj' W D _) FIN.out.2.size (fun r e => by cases e; have := HD.out; have := HZ.out; omega)
  case stop =>
    rintro D c pre W _ _ h _
    exact h.elim
set_option maxHeartbeats 1000000 in
theorem collect_any (w : World) (Bm b : Nat) (l : List O) (hl : l.length < 100000) (hBm : Bm < w.heap.size) (hm : w.cell? ⟨Bm, 0, none⟩ = some (.map (some b))) (h : TM w b l) :
    Calls Try.prog 43 #[.func (.func 45) #[] #[.pointer (some ⟨Bm, 0, none⟩)]] w fun e w' => ∃ (v : Value) (ss : List O), e = .returned v ∧ ss.Perm l ∧ w'.ownsRow (w.heap.size + 1) 35 9 v ss.length (ss.flatMap oc) ∧ Below w.heap.size w w' := by
  have C := Lib.hid (callsIn_wide.1 (appendSeq_in 4 (Nat.le_refl _) w Bm b l hl hBm hm h))
  clear hm h
  go_enter Try.func43, Try.ntmps43
  go_wp2_with fail
  refine C.out.mono ?_
  rintro e w1 ⟨v, ss, rfl, h1, h2, h3⟩
  have FIN := Lib.hid (And.intro h1 (And.intro h2 h3))
  clear h1 h2 h3
  go_wp2
  go_returns
  exact ⟨v, ss, rfl, FIN.out⟩
set_option maxHeartbeats 1000000 in
theorem sorted_any (w : World) (Bm b : Nat) (l : List O) (hl : l.length < 100000) (hBm : Bm < w.heap.size) (hm : w.cell? ⟨Bm, 0, none⟩ = some (.map (some b))) (h : TM w b l) :
    Calls Try.prog 29 #[.func (.func 45) #[] #[.pointer (some ⟨Bm, 0, none⟩)], .func (.func 31) #[] #[]] w fun e w' => ∃ v, e = .returned v ∧ w'.ownsRow w.heap.size 35 9 v (l).length ((l).flatMap oc) ∧ Below w.heap.size w w' := by
  have C := Lib.hid (collect_any w Bm b l hl hBm hm h)
  have RS := Lib.hid h.rise
  clear hm h
  go_enter Try.func29, Try.ntmps29
  go_wp2_with fail
  refine C.out.mono ?_
  rintro e w1 ⟨v, ss, rfl, h1, h2, h3⟩
  have PS := Lib.hid h1
  have OW := Lib.hid h2
  have BW := Lib.hid h3
  obtain ⟨va, vc, rfl⟩ := Ve.own_shape h2
  have SO := Lib.hid (sort_own w1 _ _ ss h2 (by rw [h1.length_eq]; omega))
  clear h1 h2 h3 C
  generalize hks : ss = ks at *
  have HK := Lib.hid hks
  clear hks
  go_wp2_with fail
  refine SO.out.mono ?_
  rintro e w4 ⟨rfl, l', hp, hs, ho, hg⟩
  have EQ := Lib.hid (show l' = l from sorted_one (hp.trans PS.out) hs RS.out)
  have FIN := Lib.hid (show w4.ownsRow w.heap.size 35 9 (.slice va ks.length vc) (l).length ((l).flatMap oc) ∧ Below w.heap.size w w4 from by
    have e1 : ks.length = (l).length := by rw [← EQ.out]; exact hp.length_eq.symm
    rw [EQ.out, e1] at ho
    refine ⟨?_, BW.out.grown hg BW.out.size (fun k e => by have := (OW.out.lt k e).1; omega)⟩
    rw [e1]
    exact ⟨ho.1, ho.2.imp id fun ⟨g, cap, cur, h1, h2, h3⟩ => ⟨g, cap, cur, h1, by omega, h3⟩⟩)
  clear hp hs ho hg EQ SO
  go_wp2
  go_returns
  exact ⟨_, rfl, FIN.out.1, FIN.out.2⟩
set_option maxHeartbeats 1000000 in
theorem values_any (w : World) (m : Option Nat) : Calls Try.prog 30 #[.map m] w fun e w' => e = .returned (.func (.func 45) #[] #[.pointer (some ⟨w.heap.size, 0, none⟩)]) ∧ w' = w.alloc (.cells #[.map m] 58) := by
  go_enter Try.func30, Try.ntmps30
  go_wp2
  go_returns
  exact ⟨rfl, rfl⟩
set_option maxHeartbeats 1000000 in
theorem all_any (w : World) (p b : Nat) (l : List O) (h : GapI w p b l) (hl : l.length < 100000) :
    Calls Try.prog 16 #[pv p] w fun e w' => ∃ v, e = .returned v ∧ RowO w w' v l := by
  have K := Lib.hid (values_any w (some b))
  have B1 := Lib.hid (vstep w (.cells #[.map (some b)] 58))
  have S := Lib.hid (sorted_any (w.alloc (.cells #[.map (some b)] 58)) w.heap.size b l hl (by simp) (cell_of_one (heap_alloc_new w _)) (h.map.step B1.out))
  have c0 := h.cell
  clear h
  go_enter Try.func16, Try.ntmps16
  go_wp2_with fail
  refine K.out.mono ?_
  rintro e w1 ⟨rfl, rfl⟩
  go_wp2_with fail
  refine S.out.mono ?_
  rintro e w2 ⟨v, rfl, h1, h2⟩
  have FIN := Lib.hid (show RowO w w2 v l from ⟨by rw [cs9_flat]; exact Ve.own_less h1 B1.out.size, B1.out.trans (h2.mono B1.out.size)⟩)
  clear h1 h2 c0
  go_wp2
  go_returns
  exact ⟨_, rfl, FIN.out⟩
end Go.Proofs.Ytgnnpfainoppeaa
