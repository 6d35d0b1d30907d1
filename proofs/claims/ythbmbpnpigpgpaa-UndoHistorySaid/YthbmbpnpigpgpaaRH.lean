/- A drawn region, its operations taken one by one by hand. -/
import Derived.Test.YthbmbpnpigpgpaaTQ
import Derived.Deep.RegionHeld3
set_option linter.unusedVariables false
namespace Go.Proofs.Ythbmbpnpigpgpaa
open Go.RowKit

section
variable {P : Program} {md : Region.Mode} {ops : Array Oper} {Q : Exit → Act → World → Prop} {S : World → Prop} {i fuel : Nat} {oi : Oper} {listed : Array Bool} {a : Act} {w : World}
/-- An operation that only reads, taken first. -/
theorem take_at (d : Nat) (v : Value) (hi : ops[i]? = some oi) (hd : oi.dst = some d) (hs : Region.noSelect ops = true) (hf : Region.free md ops listed i = true) (hr : (Region.ready md ops listed).contains i = true)
    (hQ : ∀ c a w, Q (.panic c) (a.put (some d) v) w → Q (.panic c) a w) (hy : YieldsIf P ops S oi v a) (hS : S w)
    (h : wpAnyH P md ops Q S fuel (listed.setIfInBounds i true) (a.put (some d) v) w) : wpAnyH P md ops Q S (fuel + 1) listed a w :=
  wpAnyH_take hi hs hf hr (by rw [hd]; exact hQ) hy hS (by rw [hd]; exact h)
/-- The one operation that may come up: a call of a Go function. -/
theorem one_call (d : Nat) (f : FuncId) (args : Array Value) (hi : ops[i]? = some oi) (hd : oi.dst = some d) (hr : Region.ready md ops listed = [i]) (hw : Region.wanted oi (yielded ops a.tmps) = true)
    (hrun : (execOp a.eval oi).run P w = .ok (.enter f args) w)
    (hc : Calls P f args w fun e w' => ∃ v, e = .returned v ∧ S w' ∧ (S w' → wpAnyH P md ops Q S fuel (listed.setIfInBounds i true) (a.put (some d) v) w')) : wpAnyH P md ops Q S (fuel + 1) listed a w := by
  refine wpAnyH_ready (rs := [i]) hr (by simp) (AllReadyH.cons hi (fun K hK => ?_) AllReadyH.nil)
  rw [if_pos hw]
  unfold Oper.wp
  rw [hrun, Oper.upon_enter]
  refine hc.mono fun e w' hh => ?_
  obtain ⟨v, rfl, hS, h⟩ := hh
  rw [hd]
  exact hK.out _ _ hS h
/-- The one operation that may come up: a slice built. -/
theorem one_bslice (d : Nat) (ty : TypeId) (n : Nat) (ps : Array (Nat × Operand)) (vs : Array (Nat × Value)) (u : Value) (w' : World) (hi : ops[i]? = some oi) (hd : oi.dst = some d) (hr : Region.ready md ops listed = [i]) (hw : Region.wanted oi (yielded ops a.tmps) = true)
    (ho : oi.op = .buildSlice ty n ps) (hv : (ps.toList.map fun (i, x) => (i, a.eval x)).toArray = vs) (hrun : (Instr.buildSlice ty n vs).run P w = .ok u w') (hS : S w')
    (h : S w' → wpAnyH P md ops Q S fuel (listed.setIfInBounds i true) (a.put (some d) u) w') : wpAnyH P md ops Q S (fuel + 1) listed a w := by
  refine wpAnyH_ready (rs := [i]) hr (by simp) (AllReadyH.cons hi (fun K hK => ?_) AllReadyH.nil)
  rw [if_pos hw]
  have hv' : (ps.map fun (i, x) => (i, a.eval x)) = vs := by rw [← hv, ← Array.toList_map, Array.toArray_toList]
  unfold Oper.wp execOp
  simp only [ho, hv', hrun, Sem.run_bind, Sem.run_pure, Result.andThen_ok]
  show K _ _
  rw [hd]
  exact hK.out _ _ hS h
theorem br_call (d : Nat) (f : FuncId) (args : Array Value) {rs : List Nat} (hi : ops[i]? = some oi) (hd : oi.dst = some d) (hw : Region.wanted oi (yielded ops a.tmps) = true)
    (hrun : (execOp a.eval oi).run P w = .ok (.enter f args) w)
    (hc : Calls P f args w fun e w' => ∃ v, e = .returned v ∧ S w' ∧ (S w' → wpAnyH P md ops Q S fuel (listed.setIfInBounds i true) (a.put (some d) v) w'))
    (hrs : AllReadyH P md ops Q S fuel listed a w rs) : AllReadyH P md ops Q S fuel listed a w (i :: rs) := by
  refine AllReadyH.cons hi (fun K hK => ?_) hrs
  rw [if_pos hw]
  unfold Oper.wp
  rw [hrun, Oper.upon_enter]
  refine hc.mono fun e w' hh => ?_
  obtain ⟨v, rfl, hS, h⟩ := hh
  rw [hd]
  exact hK.out _ _ hS h
theorem br_bslice (d : Nat) (ty : TypeId) (n : Nat) (ps : Array (Nat × Operand)) (vs : Array (Nat × Value)) (u : Value) (w' : World) {rs : List Nat} (hi : ops[i]? = some oi) (hd : oi.dst = some d) (hw : Region.wanted oi (yielded ops a.tmps) = true)
    (ho : oi.op = .buildSlice ty n ps) (hv : (ps.toList.map fun (i, x) => (i, a.eval x)).toArray = vs) (hrun : (Instr.buildSlice ty n vs).run P w = .ok u w') (hS : S w')
    (h : S w' → wpAnyH P md ops Q S fuel (listed.setIfInBounds i true) (a.put (some d) u) w')
    (hrs : AllReadyH P md ops Q S fuel listed a w rs) : AllReadyH P md ops Q S fuel listed a w (i :: rs) := by
  refine AllReadyH.cons hi (fun K hK => ?_) hrs
  rw [if_pos hw]
  have hv' : (ps.map fun (i, x) => (i, a.eval x)) = vs := by rw [← hv, ← Array.toList_map, Array.toArray_toList]
  unfold Oper.wp execOp
  simp only [ho, hv', hrun, Sem.run_bind, Sem.run_pure, Result.andThen_ok]
  show K _ _
  rw [hd]
  exact hK.out _ _ hS h
theorem br_alloc (d : Nat) (ty : TypeId) (u : Value) (w' : World) {rs : List Nat} (hi : ops[i]? = some oi) (hd : oi.dst = some d) (hw : Region.wanted oi (yielded ops a.tmps) = true)
    (ho : oi.op = .alloc ty) (hrun : (Instr.alloc ty true (.tuple #[])).run P w = .ok u w') (hS : S w')
    (h : S w' → wpAnyH P md ops Q S fuel (listed.setIfInBounds i true) (a.put (some d) u) w')
    (hrs : AllReadyH P md ops Q S fuel listed a w rs) : AllReadyH P md ops Q S fuel listed a w (i :: rs) := by
  refine AllReadyH.cons hi (fun K hK => ?_) hrs
  rw [if_pos hw]
  unfold Oper.wp execOp
  simp only [ho, hrun, Sem.run_bind, Sem.run_pure, Result.andThen_ok]
  show K _ _
  rw [hd]
  exact hK.out _ _ hS h
theorem br_store (ty : TypeId) (x y : Operand) (p v : Value) (w' : World) {rs : List Nat} (hi : ops[i]? = some oi) (hd : oi.dst = none) (hw : Region.wanted oi (yielded ops a.tmps) = true)
    (ho : oi.op = .store ty x y) (hx : a.eval x = p) (hy : a.eval y = v) (hrun : (Instr.storeAt ty p v).run P w = .ok () w') (hS : S w')
    (h : S w' → wpAnyH P md ops Q S fuel (listed.setIfInBounds i true) (a.put none undef) w')
    (hrs : AllReadyH P md ops Q S fuel listed a w rs) : AllReadyH P md ops Q S fuel listed a w (i :: rs) := by
  refine AllReadyH.cons hi (fun K hK => ?_) hrs
  rw [if_pos hw]
  unfold Oper.wp execOp
  simp only [ho, hx, hy, hrun, Sem.run_bind, Sem.run_pure, Result.andThen_ok]
  show K _ _
  rw [hd]
  exact hK.out _ _ hS h
theorem one_append (d : Nat) (s x : Operand) (t tx : TypeId) (hi : ops[i]? = some oi) (hd : oi.dst = some d) (hr : Region.ready md ops listed = [i]) (hw : Region.wanted oi (yielded ops a.tmps) = true)
    (ho : oi.op = .call { callee := .builtin .append, args := #[s, x], argTypes := #[t, tx] }) (v xv u : Value) (w' : World) (hs : a.eval s = v) (hx : a.eval x = xv)
    (hrun : (Builtin.append_ #[t, tx] oi.type #[v, xv]).run P w = .ok u w') (hS : S w')
    (h : S w' → wpAnyH P md ops Q S fuel (listed.setIfInBounds i true) (a.put (some d) u) w') : wpAnyH P md ops Q S (fuel + 1) listed a w := by
  refine wpAnyH_ready (rs := [i]) hr (by simp) (AllReadyH.cons hi (fun K hK => ?_) AllReadyH.nil)
  rw [if_pos hw]
  unfold Oper.wp
  simp only [execOp, ho, resolve, invoke, builtin, Sem.run_bind, Sem.run_pure, Result.andThen_ok, List.map_toArray, List.map_cons, List.map_nil, hs, hx, hrun]
  show K _ _
  rw [hd]
  exact hK.out _ _ hS h
theorem br_append {rs : List Nat} (d : Nat) (s x : Operand) (t tx : TypeId) (hi : ops[i]? = some oi) (hd : oi.dst = some d) (hw : Region.wanted oi (yielded ops a.tmps) = true)
    (ho : oi.op = .call { callee := .builtin .append, args := #[s, x], argTypes := #[t, tx] }) (v xv u : Value) (w' : World) (hs : a.eval s = v) (hx : a.eval x = xv)
    (hrun : (Builtin.append_ #[t, tx] oi.type #[v, xv]).run P w = .ok u w') (hS : S w')
    (h : S w' → wpAnyH P md ops Q S fuel (listed.setIfInBounds i true) (a.put (some d) u) w')
    (hrs : AllReadyH P md ops Q S fuel listed a w rs) : AllReadyH P md ops Q S fuel listed a w (i :: rs) := by
  refine AllReadyH.cons hi (fun K hK => ?_) hrs
  rw [if_pos hw]
  unfold Oper.wp
  simp only [execOp, ho, resolve, invoke, builtin, Sem.run_bind, Sem.run_pure, Result.andThen_ok, List.map_toArray, List.map_cons, List.map_nil, hs, hx, hrun]
  show K _ _
  rw [hd]
  exact hK.out _ _ hS h
end
section
variable {ops : Array Oper} {S : World → Prop} {op : Oper} {a : Act}
theorem yields_ld (x : Operand) (ty : TypeId) (v u : Value) (hS : ∀ w, S w → (Instr.loadAt ty v).run Try.prog w = .ok u w) (hw : Region.wanted op (yielded ops a.tmps) = true) (ho : op.op = .load ty x)
    (hx : a.eval x = v) : YieldsIf Try.prog ops S op u a :=
  .inl ⟨hw, fun w hw' => by
    unfold execOp
    simp only [ho, hx, hS w hw', Sem.run_bind, Sem.run_pure, Result.andThen_ok]⟩
theorem yields_ix (x y : Operand) (ty : TypeId) (v u r : Value) (hS : ∀ w, (Instr.indexAt ty v u).run Try.prog w = .ok r w) (hw : Region.wanted op (yielded ops a.tmps) = true) (ho : op.op = .indexAddr ty x y)
    (hx : a.eval x = v) (hy : a.eval y = u) : YieldsIf Try.prog ops S op r a :=
  .inl ⟨hw, fun w hw' => by
    unfold execOp
    simp only [ho, hx, hy, hS w, Sem.run_bind, Sem.run_pure, Result.andThen_ok]⟩
theorem yields_slh (x y : Operand) (ty : TypeId) (v u r : Value) (hS : ∀ w, (Instr.sliceAt ty v none (some u) none).run Try.prog w = .ok r w) (hw : Region.wanted op (yielded ops a.tmps) = true) (ho : op.op = .slice ty x none (some y) none)
    (hx : a.eval x = v) (hy : a.eval y = u) : YieldsIf Try.prog ops S op r a :=
  .inl ⟨hw, fun w hw' => by
    unfold execOp
    simp only [ho, Option.map_some, Option.map_none, hx, hy, hS w, Sem.run_bind, Sem.run_pure, Result.andThen_ok]⟩
theorem yields_sll (x y : Operand) (ty : TypeId) (v u r : Value) (hS : ∀ w, (Instr.sliceAt ty v (some u) none none).run Try.prog w = .ok r w) (hw : Region.wanted op (yielded ops a.tmps) = true) (ho : op.op = .slice ty x (some y) none none)
    (hx : a.eval x = v) (hy : a.eval y = u) : YieldsIf Try.prog ops S op r a :=
  .inl ⟨hw, fun w hw' => by
    unfold execOp
    simp only [ho, Option.map_some, Option.map_none, hx, hy, hS w, Sem.run_bind, Sem.run_pure, Result.andThen_ok]⟩
end
end Go.Proofs.Ythbmbpnpigpgpaa

