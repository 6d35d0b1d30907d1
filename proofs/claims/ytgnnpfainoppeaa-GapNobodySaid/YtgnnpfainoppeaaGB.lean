/- Gap's tools: drawn regions by hand, boxes of ops, what a call turns. Picked out of stage27 by mkgb.sh. -/
import Derived.Test.YtgnnpfainoppeaaGA
import Derived.Test.YtgnnpfainoppeaaVN
import Derived.Test.YtgnnpfainoppeaaVD
import Derived.Deep.RegionHeld3
import Derived.Laws.OwnMore
import Derived.Laws.StructEq
import Derived.Handy
set_option linter.unusedVariables false
set_option linter.unusedSimpArgs false
set_option maxRecDepth 100000
namespace Go.Proofs.Ytgnnpfainoppeaa
open Go.RowKit
open Ve (zs zs_len vw va)
section
variable {P : Program} {md : Region.Mode} {ops : Array Oper} {Q : Exit → Act → World → Prop} {S : World → Prop} {i fuel : Nat} {oi : Oper} {listed : Array Bool} {a : Act} {w : World}
/-- An operation that only reads, taken first. -/
theorem take_at (d : Nat) (v : Value) (hi : ops[i]? = some oi) (hd : oi.dst = some d) (hs : Region.noSelect ops = true) (hf : Region.free md ops listed i = true) (hr : (Region.ready md ops listed).contains i = true)
    (hQ : ∀ c a w, Q (.panic c) (a.put (some d) v) w → Q (.panic c) a w) (hy : YieldsIf P ops S oi v a) (hS : S w)
    (h : wpAnyH P md ops Q S fuel (listed.setIfInBounds i true) (a.put (some d) v) w) : wpAnyH P md ops Q S (fuel + 1) listed a w :=
  wpAnyH_take hi hs hf hr (by rw [hd]; exact hQ) hy hS (by rw [hd]; exact h)
theorem br_call (d : Nat) (f : FuncId) (args : Array Value) {rs : List Nat} (hi : ops[i]? = some oi) (hd : oi.dst = some d) (hw : Region.wanted oi (yielded ops a.tmps) = true)
    (hrun : (execOp a.eval oi).run P w = .ok (.enter f args) w)
    (hc : Calls P f args w fun e w' => ∃ v, e = .returned v ∧ S w' ∧ (S w' → wpAnyH P md ops Q S fuel (listed.setIfInBounds i true) (a.put (some d) v) w'))
    (hrs : AllReadyH P md ops Q S fuel listed a w rs) : AllReadyH P md ops Q S fuel listed a w (i :: rs) := by
  refine AllReadyH.cons hi (fun K hK => ?_) hrs
  rw [if_pos hw]
  unfold Oper.wp
  rw [hrun, Oper.upon_enter]
  refine hc.mono fun e w' hh => ?_
  obtain ⟨v, rfl, hS, h⟩ := hh
  rw [hd]
  exact hK.out _ _ hS h
theorem br_bslice (d : Nat) (ty : TypeId) (n : Nat) (ps : Array (Nat × Operand)) (vs : Array (Nat × Value)) (u : Value) (w' : World) {rs : List Nat} (hi : ops[i]? = some oi) (hd : oi.dst = some d) (hw : Region.wanted oi (yielded ops a.tmps) = true)
    (ho : oi.op = .buildSlice ty n ps) (hv : (ps.toList.map fun (i, x) => (i, a.eval x)).toArray = vs) (hrun : (Instr.buildSlice ty n vs).run P w = .ok u w') (hS : S w')
    (h : S w' → wpAnyH P md ops Q S fuel (listed.setIfInBounds i true) (a.put (some d) u) w')
    (hrs : AllReadyH P md ops Q S fuel listed a w rs) : AllReadyH P md ops Q S fuel listed a w (i :: rs) := by
  refine AllReadyH.cons hi (fun K hK => ?_) hrs
  rw [if_pos hw]
  have hv' : (ps.map fun (i, x) => (i, a.eval x)) = vs := by rw [← hv, ← Array.toList_map, Array.toArray_toList]
  unfold Oper.wp execOp
  simp only [ho, hv', hrun, Sem.run_bind, Sem.run_pure, Result.andThen_ok]
  show K _ _
  rw [hd]
  exact hK.out _ _ hS h
theorem br_alloc (d : Nat) (ty : TypeId) (u : Value) (w' : World) {rs : List Nat} (hi : ops[i]? = some oi) (hd : oi.dst = some d) (hw : Region.wanted oi (yielded ops a.tmps) = true)
    (ho : oi.op = .alloc ty) (hrun : (Instr.alloc ty true (.tuple #[])).run P w = .ok u w') (hS : S w')
    (h : S w' → wpAnyH P md ops Q S fuel (listed.setIfInBounds i true) (a.put (some d) u) w')
    (hrs : AllReadyH P md ops Q S fuel listed a w rs) : AllReadyH P md ops Q S fuel listed a w (i :: rs) := by
  refine AllReadyH.cons hi (fun K hK => ?_) hrs
  rw [if_pos hw]
  unfold Oper.wp execOp
  simp only [ho, hrun, Sem.run_bind, Sem.run_pure, Result.andThen_ok]
  show K _ _
  rw [hd]
  exact hK.out _ _ hS h
theorem br_store (ty : TypeId) (x y : Operand) (p v : Value) (w' : World) {rs : List Nat} (hi : ops[i]? = some oi) (hd : oi.dst = none) (hw : Region.wanted oi (yielded ops a.tmps) = true)
    (ho : oi.op = .store ty x y) (hx : a.eval x = p) (hy : a.eval y = v) (hrun : (Instr.storeAt ty p v).run P w = .ok () w') (hS : S w')
    (h : S w' → wpAnyH P md ops Q S fuel (listed.setIfInBounds i true) (a.put none undef) w')
    (hrs : AllReadyH P md ops Q S fuel listed a w rs) : AllReadyH P md ops Q S fuel listed a w (i :: rs) := by
  refine AllReadyH.cons hi (fun K hK => ?_) hrs
  rw [if_pos hw]
  unfold Oper.wp execOp
  simp only [ho, hx, hy, hrun, Sem.run_bind, Sem.run_pure, Result.andThen_ok]
  show K _ _
  rw [hd]
  exact hK.out _ _ hS h
theorem br_append {rs : List Nat} (d : Nat) (s x : Operand) (t tx : TypeId) (hi : ops[i]? = some oi) (hd : oi.dst = some d) (hw : Region.wanted oi (yielded ops a.tmps) = true)
    (ho : oi.op = .call { callee := .builtin .append, args := #[s, x], argTypes := #[t, tx] }) (v xv u : Value) (w' : World) (hs : a.eval s = v) (hx : a.eval x = xv)
    (hrun : (Builtin.append_ #[t, tx] oi.type #[v, xv]).run P w = .ok u w') (hS : S w')
    (h : S w' → wpAnyH P md ops Q S fuel (listed.setIfInBounds i true) (a.put (some d) u) w')
    (hrs : AllReadyH P md ops Q S fuel listed a w rs) : AllReadyH P md ops Q S fuel listed a w (i :: rs) := by
  refine AllReadyH.cons hi (fun K hK => ?_) hrs
  rw [if_pos hw]
  unfold Oper.wp
  simp only [execOp, ho, resolve, invoke, builtin, Sem.run_bind, Sem.run_pure, Result.andThen_ok, List.map_toArray, List.map_cons, List.map_nil, hs, hx, hrun]
  show K _ _
  rw [hd]
  exact hK.out _ _ hS h
end
section
variable {ops : Array Oper} {S : World → Prop} {op : Oper} {a : Act}
theorem yields_ld (x : Operand) (ty : TypeId) (v u : Value) (hS : ∀ w, S w → (Instr.loadAt ty v).run Try.prog w = .ok u w) (hw : Region.wanted op (yielded ops a.tmps) = true) (ho : op.op = .load ty x)
    (hx : a.eval x = v) : YieldsIf Try.prog ops S op u a :=
  .inl ⟨hw, fun w hw' => by
    unfold execOp
    simp only [ho, hx, hS w hw', Sem.run_bind, Sem.run_pure, Result.andThen_ok]⟩
theorem yields_ix (x y : Operand) (ty : TypeId) (v u r : Value) (hS : ∀ w, (Instr.indexAt ty v u).run Try.prog w = .ok r w) (hw : Region.wanted op (yielded ops a.tmps) = true) (ho : op.op = .indexAddr ty x y)
    (hx : a.eval x = v) (hy : a.eval y = u) : YieldsIf Try.prog ops S op r a :=
  .inl ⟨hw, fun w hw' => by
    unfold execOp
    simp only [ho, hx, hy, hS w, Sem.run_bind, Sem.run_pure, Result.andThen_ok]⟩
end
theorem br_load {P : Program} {md : Region.Mode} {ops : Array Oper} {Q : Exit → Act → World → Prop} {S : World → Prop} {i fuel : Nat} {oi : Oper} {listed : Array Bool} {a : Act} {w : World} {rs : List Nat} (d : Nat) (x : Operand) (ty : TypeId) (v u : Value) (hi : ops[i]? = some oi) (hd : oi.dst = some d) (hw : Region.wanted oi (yielded ops a.tmps) = true)
    (ho : oi.op = .load ty x) (hx : a.eval x = v) (hrun : (Instr.loadAt ty v).run P w = .ok u w) (hS : S w)
    (h : S w → wpAnyH P md ops Q S fuel (listed.setIfInBounds i true) (a.put (some d) u) w)
    (hrs : AllReadyH P md ops Q S fuel listed a w rs) : AllReadyH P md ops Q S fuel listed a w (i :: rs) := by
  refine AllReadyH.cons hi (fun K hK => ?_) hrs
  rw [if_pos hw]
  unfold Oper.wp execOp
  simp only [ho, hx, hrun, Sem.run_bind, Sem.run_pure, Result.andThen_ok]
  show K _ _
  rw [hd]
  exact hK.out _ _ hS h

theorem wpList_ld {P : Program} {w : World} {ops : Array Oper} {rest : List Oper} {o : Oper} {a : Act} {Q : Exit → Act → World → Prop} (hgd : o.guard = none) (x : Operand) (ty : TypeId)
    (ho : o.op = .load ty x) (v u : Value) (hx : a.eval x = v) (hl : (Instr.loadAt ty v).run P w = .ok u w)
    (h : wpList P ops Q rest (a.put o.dst u) w) : wpList P ops Q (o :: rest) a w :=
  wpList_plain hgd fun _ hK => by
    unfold Oper.wp execOp
    simp only [ho, hx, hl, Sem.run_bind, Sem.run_pure, Result.andThen_ok]
    exact hK _ _ h
theorem run_storeV (W : World) (g o : Nat) (a : Option Addr) (n c : Nat) (u : Value) (h : W.cell? ⟨g, o, none⟩ = some u) (hf : W.frozen? ⟨g, o, none⟩ = false) : (Instr.storeAt 27 (.pointer (some ⟨g, o, none⟩)) (.slice a n c)).run Try.prog W = .ok () (W.setCell ⟨g, o, none⟩ (.slice a n c)) := by
  go_simp
theorem ldV {W : World} {g o : Nat} {a : Option Addr} {n c : Nat} (h0 : W.cell? ⟨g, o, none⟩ = some (.slice a n c)) : (Instr.loadAt 27 (.pointer (some ⟨g, o, none⟩))).run Try.prog W = .ok (.slice a n c) W := by
  go_simp
theorem ldI {W : World} {g o : Nat} {x : Int} (h0 : W.cell? ⟨g, o, none⟩ = some (.int .i64 x)) : (Instr.loadAt 3 (.pointer (some ⟨g, o, none⟩))).run Try.prog W = .ok (.int .i64 x) W := by
  go_simp
theorem ldO {W : World} {g o : Nat} {x : O} (h : ∀ i u, (oc x)[i]? = some u → W.cell? ⟨g, o + i, none⟩ = some u) : (Instr.loadAt 35 (.pointer (some ⟨g, o, none⟩))).run Try.prog W = .ok (oV x) W := by
  have d0 := h 0 _ rfl
  have d1 := h 1 _ rfl
  have d2 := h 2 _ rfl
  have d3 := h 3 _ rfl
  have d4 := h 4 _ rfl
  have d5 := h 5 _ rfl
  have d6 := h 6 _ rfl
  have d7 := h 7 _ rfl
  have d8 := h 8 _ rfl
  simp only [Nat.add_zero] at d0
  unfold oV oCells
  go_simp
theorem box_o {W : World} {g : Nat} {x : O} (h : W.heap[g]? = some (.cells (oCells x) 35 (0, 0))) : ∀ i u, (oc x)[i]? = some u → W.cell? ⟨g, 0 + i, none⟩ = some u := fun i u hu => by
  rw [Nat.zero_add, cell_of_row _ _ _ _ _ _ h]
  unfold oc at hu
  rwa [Array.getElem?_toList] at hu
theorem one_olies {W : World} {g : Nat} {x : O} (h : W.heap[g]? = some (.cells (oCells x) 35 (0, 0))) : OLies W (.slice (some ⟨g, 0, none⟩) 1 1) [x] := by
  refine ⟨some ⟨g, 0, none⟩, 1, rfl, Nat.le_refl _, by unfold maxLen; omega, (fun e => by cases e), fun b hb _ => ?_⟩
  injection hb with hb
  subst hb
  refine ⟨g, 0, rfl, lt_of_block h, fun j p hj i u hu => ?_⟩
  cases j with
  | zero =>
    injection hj with hj
    subst hj
    have := box_o h i u hu
    rwa [show 0 + 0 * 9 + i = 0 + i by omega]
  | succ j => simp at hj
theorem bsO (W : World) (x : O) : (Instr.buildSlice 27 1 #[(0, oV x)]).run Try.prog W = .ok (.slice (some ⟨W.heap.size, 0, none⟩) 1 1) (W.alloc (.cells (oCells x) 35)) := by
  unfold oV oCells
  go_simp
  try rfl
abbrev pv (b : Nat) : Value := .pointer (some ⟨b, 0, none⟩)
abbrev pvo (b j : Nat) : Value := .pointer (some ⟨b, j, none⟩)
theorem vstep (W : World) (o : Obj) : Below W.heap.size W (W.alloc o) := (Below.refl _ _).alloc (Nat.le_refl _) _
theorem cs9_append : ∀ l m : List O, cs9 (l ++ m) = cs9 l ++ cs9 m
  | [], m => rfl
  | p :: r, m => by show oc p ++ cs9 (r ++ m) = (oc p ++ cs9 r) ++ cs9 m; rw [cs9_append r m, List.append_assoc]
/-- A row of ops of one's own. -/
def RowO (w w' : World) (v : Value) (l : List O) : Prop := w'.ownsRow w.heap.size 35 9 v l.length (cs9 l) ∧ Below w.heap.size w w'
/-- Only blocks of P turn. -/
structure Far (P : Nat → Prop) (w w' : World) : Prop where
  os : w'.os = w.os
  tape : w'.tape = w.tape
  output : w'.output = w.output
  size : w.heap.size ≤ w'.heap.size
  block : ∀ k, k < w.heap.size → ¬ P k → w'.heap[k]? = w.heap[k]?
theorem Far.of_grown {P : Nat → Prop} {w w' : World} {row : Option Nat} (h : w.grownBy w' row) (hr : ∀ k, row = some k → P k) : Far P w w' :=
  ⟨h.os, h.tape, h.output, h.size, fun k hk hn => h.block k hk (fun e => hn (hr k e.symm))⟩
theorem Far.of_below {P : Nat → Prop} {w w' : World} (h : Below w.heap.size w w') : Far P w w' := ⟨h.os, h.tape, h.output, h.size, fun k hk _ => h.block k hk⟩
theorem Far.refl (P : Nat → Prop) (w : World) : Far P w w := ⟨rfl, rfl, rfl, Nat.le_refl _, fun _ _ _ => rfl⟩
theorem Far.trans {P Q : Nat → Prop} {w w1 w2 : World} (h1 : Far P w w1) (h2 : Far Q w1 w2) (hq : ∀ k, k < w.heap.size → Q k → P k) : Far P w w2 :=
  ⟨h2.os.trans h1.os, h2.tape.trans h1.tape, h2.output.trans h1.output, Nat.le_trans h1.size h2.size, fun k hk hn => (h2.block k (Nat.lt_of_lt_of_le hk h1.size) (fun q => hn (hq k hk q))).trans (h1.block k hk hn)⟩
theorem Far.below {P : Nat → Prop} {w w' : World} {B : Nat} (h : Far P w w') (hB : B ≤ w.heap.size) (hp : ∀ k, P k → B ≤ k) : Below B w w' :=
  (⟨h.os, h.tape, h.output, h.size, fun k hk => h.block k (Nat.lt_of_lt_of_le hk hB) (fun q => by have := hp k q; omega)⟩)
theorem Far.row {P : Nat → Prop} {w w' : World} (h : Far P w w') {B e k n : Nat} {v : Value} {xs : List Value} (ho : w.ownsRow B e k v n xs) (hn : ∀ j, v.ownBlock = some j → ¬ P j) : w'.ownsRow B e k v n xs := by
  refine ⟨ho.1, ?_⟩
  rcases ho.2 with h0 | ⟨g, cap, cur, rfl, hB, hb, h1⟩
  · exact .inl h0
  · exact .inr ⟨g, cap, cur, rfl, hB, (h.block g (lt_of_block hb) (hn g rfl)).trans hb, h1⟩
theorem own_lt {w : World} {B e k n : Nat} {v : Value} {xs : List Value} (h : w.ownsRow B e k v n xs) : ∀ j, v.ownBlock = some j → B ≤ j ∧ j < w.heap.size := by
  intro j hj
  rcases h.2 with ⟨rfl, _⟩ | ⟨g, cap, cur, rfl, hB, hb, h1⟩
  · cases hj
  · have : g = j := by simpa [Value.ownBlock] using hj
    subst this
    exact ⟨hB, lt_of_block hb⟩
/-- An op stored whole into a box of its own; a result that lies there. -/
theorem store_o (W : World) (b : Nat) (p o : O) (h : W.heap[b]? = some (.cells (oCells p) 35 (0, 0))) :
    (Instr.storeAt 35 (.pointer (some ⟨b, 0, none⟩)) (oV o)).run Try.prog W = .ok () (W.setRow b (oCells o)) := by
  have := run_storeVar_row (P := Try.prog) W b 35 35 (oCells p) (oCells o) h (show (Try.prog.info? 35).map (·.size) = some 9 by kernel_rfl) rfl (Array.all_eq_true_iff_forall_mem.2 (fun v hv => oc_one o v (by unfold oc; simpa using hv)))
  unfold oV
  simp only [Instr.storeAt, Instr.sureAddr, Sem.run_bind, Sem.run_pure, Result.andThen_ok, this]
theorem alloc40 (W : World) : (Instr.alloc 35 true (.tuple #[])).run Try.prog W = .ok (pvo W.heap.size 0) (W.alloc (.cells (oCells O0) 35)) := by
  have h := (zero_of_info (P := Try.prog) (t := 35) (show (Try.prog.info? 35).map (fun i => (i.zero, i.size)) = some (some (oV O0), 9) by kernel_rfl)).1 W
  unfold Instr.alloc
  rw [Sem.run_bind, h]
  simp [newVar, Value.cells, oV, go_sem]
theorem box3 {W : World} {g : Nat} {x : O} (h : W.heap[g]? = some (.cells (oCells x) 35 (0, 0))) : W.cell? ⟨g, 0, none⟩ = some (.int .i64 x.t) ∧ W.cell? ⟨g, 1, none⟩ = some (.int .i64 x.r) ∧ W.cell? ⟨g, 2, none⟩ = some (.int .i64 x.q) := by
  refine ⟨?_, ?_, ?_⟩ <;> (rw [cell_of_row _ _ _ _ _ _ h]; rfl)
theorem wpList_bs {P : Program} {w : World} {ops : Array Oper} {rest : List Oper} {o : Oper} {a : Act} {Q : Exit → Act → World → Prop} (hgd : o.guard = none) (ty : TypeId) (x : Operand)
    (ho : o.op = .buildSlice ty 1 #[(0, x)]) (xv : Value) (hx : a.eval x = xv) (u : Value) (w' : World) (hr : (Instr.buildSlice ty 1 #[(0, xv)]).run P w = .ok u w')
    (h : wpList P ops Q rest (a.put o.dst u) w') : wpList P ops Q (o :: rest) a w :=
  wpList_plain hgd fun _ hK => by
    unfold Oper.wp execOp
    simp only [ho, List.map_toArray, List.map_cons, List.map_nil, hx, hr, Sem.run_bind, Sem.run_pure, Result.andThen_ok]
    exact hK _ _ h
theorem OLies.one {w : World} {v : Value} {l : List O} (h : OLies w v l) : v.oneCell' = true := by obtain ⟨ao, cap, rfl, _⟩ := h; rfl
theorem own_keep {w w' : World} {B e n size : Nat} {v : Value} {xs : List Value} (h : w.ownsRow B e size v n xs) (hb : Below w.heap.size w w') : w'.ownsRow B e size v n xs := (Far.of_below (P := fun _ => False) hb).row h (fun _ _ q => q)
theorem OLies.atK {w : World} {ao : Option Addr} {n cap : Nat} {l : List O} (h : OLies w (.slice ao n cap) l) {i : Nat} (hi : i < n) : ∃ g k o, ao = some ⟨g, k, none⟩ ∧ l[i]? = some o ∧ g < w.heap.size ∧ ∀ j u, (oc o)[j]? = some u → w.cell? ⟨g, k + i * 9 + j, none⟩ = some u := by
  obtain ⟨ao', cap', e, hn, hm, h0, hc⟩ := h
  injection e with e1 e2 e3
  subst e1 e2 e3
  cases ao with
  | none => obtain ⟨rfl, _⟩ := h0 rfl; simp at hi
  | some b =>
    obtain ⟨g, k, rfl, hg, hc⟩ := hc b rfl (ne_of_lt hi)
    have hp := List.getElem?_eq_getElem hi
    exact ⟨g, k, _, rfl, hp, hg, hc i _ hp⟩
theorem eq40 (o : O) (W : World) : (binOp .eql 35 (oV o) (oV o)).run Try.prog W = .ok (.bool true) W := by
  unfold oV oCells
  go_simp
theorem egt40 : (Try.prog.eqGuardType Try.prog.depth 35) = false := by kernel_rfl
theorem wpList_eq40 {w : World} {ops : Array Oper} {rest : List Oper} {o : Oper} {a : Act} {Q : Exit → Act → World → Prop} (hgd : o.guard = none) (x y : Operand)
    (ho : o.op = .binOp .eql 35 x y 35) (q : O) (hx : a.eval x = oV q) (hy : a.eval y = oV q) (h : wpList Try.prog ops Q rest (a.put o.dst (.bool true)) w) : wpList Try.prog ops Q (o :: rest) a w :=
  wpList_plain hgd fun _ hK => by
    unfold Oper.wp execOp
    have e1 : (eqGuard .eql 35 x y (oV q) (oV q)).run Try.prog w = .ok () w := by unfold oV; exact run_eqGuard_agg w .eql 35 x y _ _ egt40
    simp only [ho, hx, hy, e1, eq40, Sem.run_bind, Sem.run_pure, Result.andThen_ok]
    exact hK _ _ h
theorem box40 (W : World) (o : O) : (Instr.alloc 35 true (.tuple #[])).run Try.prog W = .ok (pvo W.heap.size 0) (W.alloc (.cells (oCells O0) 35)) ∧
    ∃ W2, (Instr.storeAt 35 (pvo W.heap.size 0) (oV o)).run Try.prog (W.alloc (.cells (oCells O0) 35)) = .ok () W2 ∧ Below W.heap.size W W2 ∧ W2.heap[W.heap.size]? = some (.cells (oCells o) 35 (0, 0)) :=
  ⟨alloc40 W, _, store_o _ _ O0 o (heap_alloc_new W _), Ve.below_setRow (vstep W _) (Nat.le_refl _) _, setRow_heap _ _ _ _ _ _ (heap_alloc_new W _)⟩
theorem ldBox {W : World} {k : Nat} {o : O} (h : W.heap[k]? = some (.cells (oCells o) 35 (0, 0))) : (Instr.loadAt 35 (pvo k 0)).run Try.prog W = .ok (oV o) W :=
  ldO (fun i u hu => by rw [Nat.zero_add, cell_of_row _ _ _ _ _ _ h]; simpa [oc, oCells] using hu)
theorem snocRec {α : Type} {P : List α → Prop} (h0 : P []) (h1 : ∀ l x, P l → P (l ++ [x])) : ∀ l, P l := by
  intro l
  have : ∀ (n : Nat) (l : List α), l.length = n → P l := by
    intro n
    induction n with
    | zero => intro l hl; rw [List.eq_nil_of_length_eq_zero hl]; exact h0
    | succ n ih =>
      intro l hl
      have hne : l ≠ [] := by rintro rfl; cases hl
      rw [← List.dropLast_concat_getLast hne]
      exact h1 _ _ (ih _ (by rw [List.length_dropLast]; omega))
  exact this _ l rfl
end Go.Proofs.Ytgnnpfainoppeaa
