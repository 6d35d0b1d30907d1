/- Gaps that are none. Made by gengu28.py, with tools/drawn.py. -/
import Derived.Test.YtgnnpfainoppeaaGT
set_option linter.unusedVariables false
set_option linter.unusedSimpArgs false
set_option maxRecDepth 100000
namespace Go.Proofs.Ytgnnpfainoppeaa
open Go.RowKit Go.WideMaps Go.Maps Go.WideShapes Go.ChangeMaps
open Ve (zs zs_len vw va RightP cs3 cs3_append)

abbrev NIt : Obj := .mapIter none 0 #[] 0
theorem range_nil (w : World) : (Instr.range 58 (.map none)).run Try.prog w = .ok (.pointer (some ⟨w.heap.size, 0, none⟩)) (w.alloc NIt) := by
  unfold Instr.range
  simp only [run_underlying Try.underlying58, Sem.run_bind, Sem.run_pure, run_newObj_alloc, Result.andThen_ok]
theorem next_nil (w : World) (r : Nat) (ty : TypeId) (h : w.heap[r]? = some NIt) : (Instr.next (.pointer (some ⟨r, 0, none⟩)) false ty).run Try.prog w = .ok (.tuple #[.bool false]) w := by
  have hg : (getObj r).run Try.prog w = .ok NIt w := by simp [getObj, Sem.run, h]
  unfold Instr.next
  simp only [Sem.run_bind, hg, Result.andThen_ok, Sem.run_pure]
section
variable {w : World} {ops : Array Oper} {rest : List Oper} {o : Oper} {a : Act} {Q : Exit → Act → World → Prop}
theorem wpList_nrange (hg : o.guard = none) (m : Operand) (hop : o.op = Op.range 58 m) (hm : a.eval m = .map none)
    (hK : wpList Try.prog ops Q rest (a.put o.dst (.pointer (some ⟨w.heap.size, 0, none⟩))) (w.alloc NIt)) : wpList Try.prog ops Q (o :: rest) a w := by
  refine wpList_plain hg fun K' hK' => ?_
  unfold Oper.wp
  simp [execOp, hop, hm, range_nil, Result.andThen]
  exact hK' _ _ hK
theorem wpList_nnext (hg : o.guard = none) (it : Operand) (hop : o.op = Op.next it false) (r : Nat) (hit : a.eval it = .pointer (some ⟨r, 0, none⟩)) (h : w.heap[r]? = some NIt)
    (hDone : wpList Try.prog ops Q rest (a.put o.dst (.tuple #[.bool false])) w) : wpList Try.prog ops Q (o :: rest) a w := by
  refine wpList_plain hg fun K' hK' => ?_
  unfold Oper.wp
  simp [execOp, hop, hit, next_nil w r _ h, Result.andThen]
  exact hK' _ _ hDone
variable {F : Fence} {n : Nat}
theorem wpListIn_nrange (hg : o.guard = none) (m : Operand) (hop : o.op = Op.range 58 m) (hm : a.eval m = .map none)
    (hK : wpListIn F n Try.prog ops Q rest (a.put o.dst (.pointer (some ⟨w.heap.size, 0, none⟩))) (w.alloc NIt)) : wpListIn F n Try.prog ops Q (o :: rest) a w := by
  refine wpListIn_plain hg fun K' hK' => ?_
  unfold Oper.wpIn
  refine ⟨by simp [Oper.about, hop], ?_⟩
  rw [Oper.semAt_plain F _ _ (by rw [hop]; intro c hc'; cases hc')]
  simp [execOp, hop, hm, range_nil, Result.andThen]
  exact hK' _ _ hK
theorem wpListIn_nnext (hg : o.guard = none) (it : Operand) (hop : o.op = Op.next it false) (r : Nat) (hit : a.eval it = .pointer (some ⟨r, 0, none⟩)) (h : w.heap[r]? = some NIt)
    (hDone : wpListIn F n Try.prog ops Q rest (a.put o.dst (.tuple #[.bool false])) w) : wpListIn F n Try.prog ops Q (o :: rest) a w := by
  refine wpListIn_plain hg fun K' hK' => ?_
  unfold Oper.wpIn
  refine ⟨by simp [Oper.about, hop], ?_⟩
  rw [Oper.semAt_plain F _ _ (by rw [hop]; intro c hc'; cases hc')]
  simp [execOp, hop, hit, next_nil w r _ h, Result.andThen]
  exact hK' _ _ hDone
end
theorem deleteFunc_nil (w : World) (v : Value) : Calls Try.prog 27 #[.map none, v] w fun e w' => e = .returned (.tuple #[]) ∧ Below w.heap.size w w' := by
  have H1 := Lib.hid (show (w.alloc NIt).heap[w.heap.size]? = some NIt from World.alloc_heap_new w _)
  have B1 := Lib.hid (vstep w NIt)
  obtain ⟨w0, hw0⟩ : ∃ z, w.alloc NIt = z := ⟨_, rfl⟩
  rw [hw0] at H1 B1
  have HW := Lib.hid hw0
  clear hw0
  go_enter Try.func27, Try.ntmps27
  go_wp2_with (at_range; refine wpList_nrange rfl _ rfl rfl ?_; rw [HW.out])
  refine wp_loop_rounds 1 ?_
  rw [rounds_succ]
  go_wp2_with (at_next; refine wpList_nnext rfl _ rfl w.heap.size rfl H1.out ?_)
  go_returns
  exact ⟨rfl, B1.out⟩
set_option maxHeartbeats 2000000 in
theorem vals1_nil (n : Nat) (hn : 1 ≤ n) (l' Bm : Nat) (J Jx : List O → World → Prop)
    (W : World) (hJ : AbidesFrom W.heap.size J) (hm : W.cell? ⟨Bm, 0, none⟩ = some (.map none)) (h0 : J [] W) :
    CallsIn Fence.wide n Try.prog 45 #[.func (.yield l') #[] #[], .pointer (some ⟨Bm, 0, none⟩)] W fun e W' => (∃ v, e = .returned v) ∧ ((∃ ss : List O, ss.Perm [] ∧ J ss W') ∨ (∃ pre : List O, True ∧ Jx pre W')) := by
  have hro : Fence.wide.round = none := rfl
  have H1 := Lib.hid (show (W.alloc NIt).heap[W.heap.size]? = some NIt from World.alloc_heap_new W _)
  have J1 := Lib.hid (hJ [] W (W.alloc NIt) none h0 (World.grownBy_alloc W _ none) (fun r e => by cases e))
  obtain ⟨w0, hw0⟩ : ∃ z, W.alloc NIt = z := ⟨_, rfl⟩
  rw [hw0] at H1 J1
  have HW := Lib.hid hw0
  clear hw0
  refine callsIn_of_wp Try.func45 rfl trivial ?_ hro
  simp only [Try.ntmps45, List.size_toArray, List.length_cons, List.length_nil, Nat.reduceAdd, Nat.reduceSub, Array.replicate_succ, Array.replicate_zero, List.push_toArray, List.append_toArray, List.nil_append, List.cons_append]
  gi_wp2_with (first
    | (gi_at_range; refine wpListIn_nrange rfl _ rfl rfl ?_; rw [HW.out])
    | gi_in)
  go_frame
  gi_loopw [4] (fun _ wr => wr = w0) (fun _ _ => 0)
  case atStart => rfl
  case round =>
    subst hrel
    gi_wp2_with (first
      | (gi_at_next; refine wpListIn_nnext rfl _ rfl W.heap.size rfl H1.out ?_)
      | gi_in)
    go_end0
    exact ⟨⟨_, rfl⟩, .inl ⟨[], List.Perm.refl _, J1.out⟩⟩
theorem vals_nil (n : Nat) (hn : 1 ≤ n) (Bm : Nat) (w : World) (hBm : Bm < w.heap.size) (hm : w.cell? ⟨Bm, 0, none⟩ = some (.map none)) :
    SeqStopsK Fence.wide n Try.prog 45 #[.pointer (some ⟨Bm, 0, none⟩)] encR KeepsWalks (fun ss => ss.Perm []) (fun _ => True) 0 w := fun l' J Jx W hW hJ _ hY h0 =>
  vals1_nil n hn l' Bm J Jx W hJ ((hW.cell (p := ⟨Bm, 0, none⟩) hBm).trans hm) h0
set_option maxHeartbeats 4000000 in
theorem appendSeq_nil (n : Nat) (hn : 4 ≤ n) (w : World) (Bm : Nat) (hBm : Bm < w.heap.size) (hm : w.cell? ⟨Bm, 0, none⟩ = some (.map none)) :
    CallsIn Fence.wide n Try.prog 55 #[.slice none 0 0, .func (.func 45) #[] #[.pointer (some ⟨Bm, 0, none⟩)]] w fun e w' => ∃ (v : Value) (ss : List O), e = .returned v ∧ ss.Perm [] ∧ w'.ownsRow (w.heap.size + 1) 35 9 v ss.length (ss.flatMap oc) ∧ Below w.heap.size w w' := by
  have h1 : 1 ≤ n := by omega
  have hro : Fence.wide.round = none := rfl
  obtain ⟨W0, hW0⟩ : ∃ W0, w.alloc (.cells #[.slice none 0 0] 27) = W0 := ⟨_, rfl⟩
  have hs0 : W0.heap.size = w.heap.size + 1 := by rw [← hW0]; simp
  have hv0 : W0.heap[w.heap.size]? = some (.cells #[.slice none 0 0] 27 (0, 0)) := by rw [← hW0]; exact World.alloc_heap_new w _
  have hb0 : Below w.heap.size w W0 := by rw [← hW0]; exact vstep w _
  have HW := Lib.hid hW0
  have HZ := Lib.hid hs0
  have HV := Lib.hid hv0
  have HB := Lib.hid hb0
  have SQ := Lib.hid (vals_nil (n - 1) (by omega) Bm w hBm hm)
  obtain ⟨i0, hi, hz0, hz1, hz2⟩ := Ve.info_parts info35
  clear hW0 hs0 hv0 hb0 hm
  refine callsIn_of_wp_marks Try.func55 rfl trivial ?_ hro
  simp only [Try.ntmps55, List.size_toArray, List.length_cons, List.length_nil, Nat.reduceAdd, Nat.reduceSub, Array.replicate_succ, Array.replicate_zero, List.push_toArray, List.append_toArray, List.nil_append, List.cons_append]
  gi_wp2
  rw [HW.out]
  refine wpIn_rangeFunc_ownH hro h1 (gf := 45) (lb := #[.pointer (some ⟨Bm, 0, none⟩)]) rfl trivial (enters_of Try.func45 (by kernel_rfl) rfl)
    SQ.out (fun h k => KeepsWalks.trans h k) (fun W l o o' _ h _ hw => KeepsWalks.putObj _ h hw) HB.out (fun _ => rfl)
    (AI w) (fun _ _ _ => False) (AI.own w _ HB.out.size) (fun _ _ _ _ _ hs _ _ => hs) ⟨⟨_, HV.out, World.ownsRow_nil _ _ _ _⟩, HB.out⟩
    (AX w Bm) (fun x a' => AX.own w Bm _ x a') ?assign ?body ?done ?stop
  case assign =>
    intro l' pre x W K hI hK
    gi_wp2_with (rw [Oper.semAt_eq _ _ _ (fun c h => by cases h)]; go_simp; try go_bits)
    exact hK _ _ ((KeepsOthers.alloc W _).from _) (KeepsWalks.alloc W _) ((AI.own w _ HB.out.size).alloc _ hI) ⟨W.heap.size, rfl, heap_alloc_new W _⟩
  case body =>
    rintro l' pre x a' W hl' hr' ⟨⟨v, hv, ho⟩, hbW⟩ ⟨k, rfl, hst⟩ hN
    have c0' := (cell_of_row _ _ 0 _ _ _ hst).trans (show (oCells x)[0]? = some (.int .i64 x.t) from rfl)
    have c1' := (cell_of_row _ _ 1 _ _ _ hst).trans (show (oCells x)[1]? = some (.int .i64 x.r) from rfl)
    have c2' := (cell_of_row _ _ 2 _ _ _ hst).trans (show (oCells x)[2]? = some (.int .i64 x.q) from rfl)
    have c3' := (cell_of_row _ _ 3 _ _ _ hst).trans (show (oCells x)[3]? = some (.int .i64 x.nt) from rfl)
    have c4' := (cell_of_row _ _ 4 _ _ _ hst).trans (show (oCells x)[4]? = some (.int .i64 x.nr) from rfl)
    have c5' := (cell_of_row _ _ 5 _ _ _ hst).trans (show (oCells x)[5]? = some (.int .i64 x.pt) from rfl)
    have c6' := (cell_of_row _ _ 6 _ _ _ hst).trans (show (oCells x)[6]? = some (.int .i64 x.pr) from rfl)
    have c7' := (cell_of_row _ _ 7 _ _ _ hst).trans (show (oCells x)[7]? = some (.string x.nm) from rfl)
    have c8' := (cell_of_row _ _ 8 _ _ _ hst).trans (show (oCells x)[8]? = some (.bool x.d) from rfl)
    have c3 := cell_of_one hv
    obtain ⟨va, vc, rfl⟩ := Ve.own_shape ho
    have OW := Lib.hid ho
    have HV3 := Lib.hid hv
    have BW := Lib.hid hbW
    have HN := Lib.hid (show pre.length < 100000 from by have : pre.length < 0 := hN; omega)
    have PM := Lib.hid (show pre ++ [x] = pre ++ [x] from rfl)
    generalize pre = ks at *
    have H5 := Lib.hid (show (W.alloc (.cells #[.int .i64 x.t, .int .i64 x.r, .int .i64 x.q, .int .i64 x.nt, .int .i64 x.nr, .int .i64 x.pt, .int .i64 x.pr, .string x.nm, .bool x.d] 35)).heap[W.heap.size]? = some (.cells (oc (x)).toArray 35 (0, 0)) from heap_alloc_new W _)
    have O5 := Lib.hid (own_keep OW.out (vstep W (.cells #[.int .i64 x.t, .int .i64 x.r, .int .i64 x.q, .int .i64 x.nt, .int .i64 x.nr, .int .i64 x.pt, .int .i64 x.pr, .string x.nm, .bool x.d] 35)))
    clear ho hv hbW hst hN
    gi_wp2_with (first
      | (gi_at_builtin; refine wpListIn_push rfl (.tmp 8) (.tmp 10) rfl (w.heap.size + 1) i0 hi hz0 hz1 hz2 (.slice va ks.length vc) ks (x) W.heap.size rfl rfl H5.out O5.out HN.out (by have := lt_of_block HV3.out; simp; omega) ?_; intro v6 w6 hown hgr; obtain ⟨va6, vc6, rfl⟩ := Ve.own_shape hown; have hv6 := (hgr.block w.heap.size (by have := lt_of_block HV3.out; simp; omega) (fun e => by have := (O5.out.lt _ e.symm).1; omega)).trans ((vstep W (.cells #[.int .i64 x.t, .int .i64 x.r, .int .i64 x.q, .int .i64 x.nt, .int .i64 x.nr, .int .i64 x.pt, .int .i64 x.pr, .string x.nm, .bool x.d] 35)).block w.heap.size (lt_of_block HV3.out) |>.trans HV3.out); have c6 := cell_of_one hv6; have f6 := free_of_one hv6; have V6 := Lib.hid hv6; have O6 := Lib.hid hown; have G6 := Lib.hid hgr; clear hown hgr hv6 c3)
      | (rw [Oper.semAt_eq _ _ _ (fun c h => by cases h)]; go_simp; try go_bits))
    have B5 := vstep W (.cells #[.int .i64 x.t, .int .i64 x.r, .int .i64 x.q, .int .i64 x.nt, .int .i64 x.nr, .int .i64 x.pt, .int .i64 x.pr, .string x.nm, .bool x.d] 35)
    have KO : ∀ u, KeepsOthers W (w6.setCell ⟨w.heap.size, 0, none⟩ u) := fun u => ((KeepsOthers.alloc W _).trans (KeepsOthers.of_grownBy G6.out (fun j o e ho => by
      rcases O5.out.2 with ⟨e1, _⟩ | ⟨g, cap, cur, e1, _, hb, _⟩
      · rw [e1] at e; cases e
      · rw [e1] at e
        injection e with e
        subst e
        rw [hb] at ho
        cases ho
        rfl))).trans (KeepsOthers.setCell _ _ _)
    have O7 : w6.ownsRow (w.heap.size + 1) 35 9 (.slice va6 (ks.length + 1) vc6) (ks ++ [x]).length ((ks ++ [x]).flatMap oc) := by have := O6.out; rw [show (ks ++ [x]).length = ks.length + 1 by simp] at this ⊢; exact this
    refine ⟨(KO _).from _, (KO _).walks, ⟨_, Boxed.set _ V6.out, ?_⟩, ?_⟩
    · exact O7.kept (grownBy_setCell' w6 w.heap.size _) (.inr (fun e => by have := (O7.lt _ e).1; omega))
    · exact ((BW.out.trans (B5.mono BW.out.size)).grown G6.out (by have := BW.out.size; simp; omega) (fun j e => by have := (O5.out.lt _ e).1; omega)).setCell (Nat.le_refl _) _
  case done =>
    rintro D ys W hD hS ⟨⟨v, hv, ho⟩, hbW⟩ hK
    have c3 := cell_of_one hv
    have HK := Lib.hid hK
    have PS := Lib.hid hS
    have HD := Lib.hid hD
    obtain ⟨va, vc, rfl⟩ := Ve.own_shape ho
    have FIN := Lib.hid (show W.ownsRow (w.heap.size + 1) 35 9 (.slice va ys.length vc) ys.length (ys.flatMap oc) ∧ Below w.heap.size w W from ⟨ho, hbW⟩)
    clear ho hbW hv hS hK hD
    gi_wp2
    refine ⟨by simp, .inl ⟨_, _, rfl, run_takeDeferred HK.out, ?_⟩⟩
    refine ⟨_, results_tmp rfl _ _ _, _, ys, rfl, PS.out, ?_, ?_⟩
    · exact own_keptX FIN.out.1 (grownBy_putObj' W D _) (fun r e => by cases e; exact ⟨_, HK.out, rfl⟩)
    · exact FIN.out.2.grown (grownBy_putObj' W D _) FIN.out.2.size (fun r e => by cases e; have := HD.out; have := HZ.out; omega)
  case stop =>
    rintro D c pre W _ _ h _
    exact h.elim
set_option maxHeartbeats 1000000 in
theorem collect_nil (w : World) (Bm : Nat) (hBm : Bm < w.heap.size) (hm : w.cell? ⟨Bm, 0, none⟩ = some (.map none)) :
    Calls Try.prog 43 #[.func (.func 45) #[] #[.pointer (some ⟨Bm, 0, none⟩)]] w fun e w' => ∃ (v : Value) (ss : List O), e = .returned v ∧ ss.Perm [] ∧ w'.ownsRow (w.heap.size + 1) 35 9 v ss.length (ss.flatMap oc) ∧ Below w.heap.size w w' := by
  have C := Lib.hid (callsIn_wide.1 (appendSeq_nil 4 (Nat.le_refl _) w Bm hBm hm))
  clear hm
  go_enter Try.func43, Try.ntmps43
  go_wp2_with fail
  refine C.out.mono ?_
  rintro e w1 ⟨v, ss, rfl, h1, h2, h3⟩
  have FIN := Lib.hid (And.intro h1 (And.intro h2 h3))
  clear h1 h2 h3
  go_wp2
  go_returns
  exact ⟨v, ss, rfl, FIN.out⟩
set_option maxHeartbeats 1000000 in
theorem sorted_nil (w : World) (Bm : Nat) (hBm : Bm < w.heap.size) (hm : w.cell? ⟨Bm, 0, none⟩ = some (.map none)) :
    Calls Try.prog 29 #[.func (.func 45) #[] #[.pointer (some ⟨Bm, 0, none⟩)], .func (.func 31) #[] #[]] w fun e w' => ∃ v, e = .returned v ∧ w'.ownsRow w.heap.size 35 9 v ([] : List O).length (([] : List O).flatMap oc) ∧ Below w.heap.size w w' := by
  have C := Lib.hid (collect_nil w Bm hBm hm)
  have RS := Lib.hid (show RiseG [] from List.Pairwise.nil)
  clear hm
  go_enter Try.func29, Try.ntmps29
  go_wp2_with fail
  refine C.out.mono ?_
  rintro e w1 ⟨v, ss, rfl, h1, h2, h3⟩
  have PS := Lib.hid h1
  have OW := Lib.hid h2
  have BW := Lib.hid h3
  obtain ⟨va, vc, rfl⟩ := Ve.own_shape h2
  have SO := Lib.hid (sort_own w1 _ _ ss h2 (by rw [h1.length_eq]; decide))
  clear h1 h2 h3 C
  generalize hks : ss = ks at *
  have HK := Lib.hid hks
  clear hks
  go_wp2_with fail
  refine SO.out.mono ?_
  rintro e w4 ⟨rfl, l', hp, hs, ho, hg⟩
  have EQ := Lib.hid (show l' = [] from sorted_one (hp.trans PS.out) hs RS.out)
  have FIN := Lib.hid (show w4.ownsRow w.heap.size 35 9 (.slice va ks.length vc) ([] : List O).length (([] : List O).flatMap oc) ∧ Below w.heap.size w w4 from by
    have e1 : ks.length = ([] : List O).length := by rw [← EQ.out]; exact hp.length_eq.symm
    rw [EQ.out, e1] at ho
    refine ⟨?_, BW.out.grown hg BW.out.size (fun k e => by have := (OW.out.lt k e).1; omega)⟩
    rw [e1]
    exact ⟨ho.1, ho.2.imp id fun ⟨g, cap, cur, h1, h2, h3⟩ => ⟨g, cap, cur, h1, by omega, h3⟩⟩)
  clear hp hs ho hg EQ SO
  go_wp2
  go_returns
  exact ⟨_, rfl, FIN.out.1, FIN.out.2⟩
/-- A gap that is none: nil, or one that New did not make. -/
def Dead (w : World) (u : Value) : Prop := u = .pointer none ∨ ∃ z, u = pv z ∧ w.heap[z]? = some (.cells #[.map none] 60 (0, 0))
theorem Dead.step {w w' : World} {u : Value} (h : Dead w u) (hb : Below w.heap.size w w') : Dead w' u := by
  rcases h with h | ⟨z, rfl, h⟩
  · exact .inl h
  · exact .inr ⟨z, rfl, (hb.block _ (lt_of_block h)).trans h⟩
theorem len_dead (w : World) (u : Value) (h : Dead w u) : Calls Try.prog 17 #[u] w fun e w' => e = .returned (.int .i64 0) ∧ w = w' := by
  rcases h with rfl | ⟨z, rfl, h⟩
  · go_enter Try.func17, Try.ntmps17
    go_wp2
    go_returns
    exact ⟨rfl, rfl⟩
  · have c0 := cell_of_one h
    clear h
    go_enter Try.func17, Try.ntmps17
    go_wp2
    go_returns
    exact ⟨rfl, rfl⟩
theorem all_dead (w : World) (u : Value) (h : Dead w u) : Calls Try.prog 16 #[u] w fun e w' => ∃ a c, e = .returned (.slice a 0 c) ∧ Below w.heap.size w w' := by
  rcases h with rfl | ⟨z, rfl, h⟩
  · go_enter Try.func16, Try.ntmps16
    go_wp2
    go_returns
    exact ⟨_, _, rfl, Below.refl _ _⟩
  · have K := Lib.hid (values_any w none)
    have B1 := Lib.hid (vstep w (.cells #[.map none] 58))
    have S := Lib.hid (sorted_nil (w.alloc (.cells #[.map none] 58)) w.heap.size (by simp) (cell_of_one (heap_alloc_new w _)))
    have c0 := cell_of_one h
    clear h
    go_enter Try.func16, Try.ntmps16
    go_wp2_with fail
    refine K.out.mono ?_
    rintro e w1 ⟨rfl, rfl⟩
    go_wp2_with fail
    refine S.out.mono ?_
    rintro e w2 ⟨v, rfl, h1, h2⟩
    obtain ⟨a, c, rfl⟩ := Ve.own_shape h1
    have FIN := Lib.hid (B1.out.trans (h2.mono B1.out.size))
    clear h1 h2 c0
    go_wp2
    go_returns
    exact ⟨_, _, rfl, FIN.out⟩
theorem lacks_dead (w : World) (u : Value) (h : Dead w u) : Calls Try.prog 19 #[u, .agg (va zs)] w fun e w' => ∃ a c, e = .returned (.slice a 0 c) ∧ Below w.heap.size w w' := by
  have B1 := vstep w (.cells (va zs) 29)
  have A := Lib.hid (all_dead (w.alloc (.cells (va zs) 29)) u (h.step B1))
  obtain ⟨w0, hw0⟩ : ∃ z, w.alloc (.cells (va zs) 29) = z := ⟨_, rfl⟩
  rw [hw0] at B1 A
  have BB := Lib.hid B1
  obtain ⟨VZ, hVZ⟩ : ∃ z, va zs = z := ⟨_, rfl⟩
  rw [hVZ] at hw0 ⊢
  clear hVZ h B1
  go_enter Try.func19, Try.ntmps19
  go_wp2_with fail
  refine A.out.mono ?_
  rintro e w1 ⟨a, c, rfl, hb⟩
  have FIN := Lib.hid (BB.out.trans (hb.mono BB.out.size))
  clear hb A hw0
  go_wp2
  refine wp_loop_rounds 1 ?_
  rw [rounds_succ]
  go_wp2
  go_returns
  exact ⟨_, _, rfl, FIN.out⟩
theorem add_dead (w : World) (u : Value) (h : Dead w u) (o : O) : Calls Try.prog 12 #[u, .agg (va zs), oV o] w fun e w' => e = .returned (.int .i64 1) ∧ Below w.heap.size w w' := by
  have B1 := vstep w (.cells (va zs) 29)
  have B2 := vstep (w.alloc (.cells (va zs) 29)) (.cells (oCells o) 35)
  have BB := Lib.hid (B1.trans (B2.mono B1.size))
  have D := h.step BB.out
  have E58 := fun W m => eq58 W m
  have HOV := Lib.hid (show oV o = .agg (oCells o) from rfl)
  rw [HOV.out]
  obtain ⟨w0, hw0⟩ : ∃ z, (w.alloc (.cells (va zs) 29)).alloc (.cells (oCells o) 35) = z := ⟨_, rfl⟩
  rw [hw0] at BB D
  obtain ⟨VZ, hVZ⟩ : ∃ z, va zs = z := ⟨_, rfl⟩
  rw [hVZ] at hw0 ⊢
  obtain ⟨OA, hOA⟩ : ∃ z, oCells o = z := ⟨_, rfl⟩
  rw [hOA] at hw0 ⊢
  clear hVZ hOA h B1 B2
  rcases D with rfl | ⟨z, rfl, h⟩
  · go_enter Try.func12, Try.ntmps12
    go_wp2
    go_returns
    exact ⟨rfl, BB.out⟩
  · have c0 := cell_of_one h
    clear h
    go_enter Try.func12, Try.ntmps12
    go_wp2
    go_returns
    exact ⟨rfl, BB.out⟩
end Go.Proofs.Ytgnnpfainoppeaa
