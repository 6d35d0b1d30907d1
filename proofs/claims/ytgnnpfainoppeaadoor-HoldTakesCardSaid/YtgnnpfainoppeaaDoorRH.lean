/- A drawn region, its operations taken one by one by hand. -/
import Derived.Test.YtgnnpfainoppeaaDoorHI
import Derived.Deep.RegionHeld3
set_option linter.unusedVariables false
set_option linter.unusedSimpArgs false
set_option maxRecDepth 100000
namespace Go.Proofs.YtgnnpfainoppeaaDoor
open Go.RowKit

section
variable {P : Program} {md : Region.Mode} {ops : Array Oper} {Q : Exit → Act → World → Prop} {S : World → Prop} {i fuel : Nat} {oi : Oper} {listed : Array Bool} {a : Act} {w : World}
/-- An operation that only reads, taken first. -/
theorem take_at (d : Nat) (v : Value) (hi : ops[i]? = some oi) (hd : oi.dst = some d) (hs : Region.noSelect ops = true) (hf : Region.free md ops listed i = true) (hr : (Region.ready md ops listed).contains i = true)
    (hQ : ∀ c a w, Q (.panic c) (a.put (some d) v) w → Q (.panic c) a w) (hy : YieldsIf P ops S oi v a) (hS : S w)
    (h : wpAnyH P md ops Q S fuel (listed.setIfInBounds i true) (a.put (some d) v) w) : wpAnyH P md ops Q S (fuel + 1) listed a w :=
  wpAnyH_take hi hs hf hr (by rw [hd]; exact hQ) hy hS (by rw [hd]; exact h)
/-- The one operation that may come up: a call of a Go function. -/
theorem one_call (d : Nat) (f : FuncId) (args : Array Value) (hi : ops[i]? = some oi) (hd : oi.dst = some d) (hr : Region.ready md ops listed = [i]) (hw : Region.wanted oi (yielded ops a.tmps) = true)
    (hrun : (execOp a.eval oi).run P w = .ok (.enter f args) w)
    (hc : Calls P f args w fun e w' => ∃ v, e = .returned v ∧ S w' ∧ (S w' → wpAnyH P md ops Q S fuel (listed.setIfInBounds i true) (a.put (some d) v) w')) : wpAnyH P md ops Q S (fuel + 1) listed a w := by
  refine wpAnyH_ready (rs := [i]) hr (by simp) (AllReadyH.cons hi (fun K hK => ?_) AllReadyH.nil)
  rw [if_pos hw]
  unfold Oper.wp
  rw [hrun, Oper.upon_enter]
  refine hc.mono fun e w' hh => ?_
  obtain ⟨v, rfl, hS, h⟩ := hh
  rw [hd]
  exact hK.out _ _ hS h
/-- The one operation that may come up: a slice built. -/
theorem one_bslice (d : Nat) (ty : TypeId) (n : Nat) (ps : Array (Nat × Operand)) (vs : Array (Nat × Value)) (u : Value) (w' : World) (hi : ops[i]? = some oi) (hd : oi.dst = some d) (hr : Region.ready md ops listed = [i]) (hw : Region.wanted oi (yielded ops a.tmps) = true)
    (ho : oi.op = .buildSlice ty n ps) (hv : (ps.toList.map fun (i, x) => (i, a.eval x)).toArray = vs) (hrun : (Instr.buildSlice ty n vs).run P w = .ok u w') (hS : S w')
    (h : S w' → wpAnyH P md ops Q S fuel (listed.setIfInBounds i true) (a.put (some d) u) w') : wpAnyH P md ops Q S (fuel + 1) listed a w := by
  refine wpAnyH_ready (rs := [i]) hr (by simp) (AllReadyH.cons hi (fun K hK => ?_) AllReadyH.nil)
  rw [if_pos hw]
  have hv' : (ps.map fun (i, x) => (i, a.eval x)) = vs := by rw [← hv, ← Array.toList_map, Array.toArray_toList]
  unfold Oper.wp execOp
  simp only [ho, hv', hrun, Sem.run_bind, Sem.run_pure, Result.andThen_ok]
  show K _ _
  rw [hd]
  exact hK.out _ _ hS h
theorem br_call (d : Nat) (f : FuncId) (args : Array Value) {rs : List Nat} (hi : ops[i]? = some oi) (hd : oi.dst = some d) (hw : Region.wanted oi (yielded ops a.tmps) = true)
    (hrun : (execOp a.eval oi).run P w = .ok (.enter f args) w)
    (hc : Calls P f args w fun e w' => ∃ v, e = .returned v ∧ S w' ∧ (S w' → wpAnyH P md ops Q S fuel (listed.setIfInBounds i true) (a.put (some d) v) w'))
    (hrs : AllReadyH P md ops Q S fuel listed a w rs) : AllReadyH P md ops Q S fuel listed a w (i :: rs) := by
  refine AllReadyH.cons hi (fun K hK => ?_) hrs
  rw [if_pos hw]
  unfold Oper.wp
  rw [hrun, Oper.upon_enter]
  refine hc.mono fun e w' hh => ?_
  obtain ⟨v, rfl, hS, h⟩ := hh
  rw [hd]
  exact hK.out _ _ hS h
theorem br_bslice (d : Nat) (ty : TypeId) (n : Nat) (ps : Array (Nat × Operand)) (vs : Array (Nat × Value)) (u : Value) (w' : World) {rs : List Nat} (hi : ops[i]? = some oi) (hd : oi.dst = some d) (hw : Region.wanted oi (yielded ops a.tmps) = true)
    (ho : oi.op = .buildSlice ty n ps) (hv : (ps.toList.map fun (i, x) => (i, a.eval x)).toArray = vs) (hrun : (Instr.buildSlice ty n vs).run P w = .ok u w') (hS : S w')
    (h : S w' → wpAnyH P md ops Q S fuel (listed.setIfInBounds i true) (a.put (some d) u) w')
    (hrs : AllReadyH P md ops Q S fuel listed a w rs) : AllReadyH P md ops Q S fuel listed a w (i :: rs) := by
  refine AllReadyH.cons hi (fun K hK => ?_) hrs
  rw [if_pos hw]
  have hv' : (ps.map fun (i, x) => (i, a.eval x)) = vs := by rw [← hv, ← Array.toList_map, Array.toArray_toList]
  unfold Oper.wp execOp
  simp only [ho, hv', hrun, Sem.run_bind, Sem.run_pure, Result.andThen_ok]
  show K _ _
  rw [hd]
  exact hK.out _ _ hS h
theorem br_alloc (d : Nat) (ty : TypeId) (u : Value) (w' : World) {rs : List Nat} (hi : ops[i]? = some oi) (hd : oi.dst = some d) (hw : Region.wanted oi (yielded ops a.tmps) = true)
    (ho : oi.op = .alloc ty) (hrun : (Instr.alloc ty true (.tuple #[])).run P w = .ok u w') (hS : S w')
    (h : S w' → wpAnyH P md ops Q S fuel (listed.setIfInBounds i true) (a.put (some d) u) w')
    (hrs : AllReadyH P md ops Q S fuel listed a w rs) : AllReadyH P md ops Q S fuel listed a w (i :: rs) := by
  refine AllReadyH.cons hi (fun K hK => ?_) hrs
  rw [if_pos hw]
  unfold Oper.wp execOp
  simp only [ho, hrun, Sem.run_bind, Sem.run_pure, Result.andThen_ok]
  show K _ _
  rw [hd]
  exact hK.out _ _ hS h
theorem br_store (ty : TypeId) (x y : Operand) (p v : Value) (w' : World) {rs : List Nat} (hi : ops[i]? = some oi) (hd : oi.dst = none) (hw : Region.wanted oi (yielded ops a.tmps) = true)
    (ho : oi.op = .store ty x y) (hx : a.eval x = p) (hy : a.eval y = v) (hrun : (Instr.storeAt ty p v).run P w = .ok () w') (hS : S w')
    (h : S w' → wpAnyH P md ops Q S fuel (listed.setIfInBounds i true) (a.put none undef) w')
    (hrs : AllReadyH P md ops Q S fuel listed a w rs) : AllReadyH P md ops Q S fuel listed a w (i :: rs) := by
  refine AllReadyH.cons hi (fun K hK => ?_) hrs
  rw [if_pos hw]
  unfold Oper.wp execOp
  simp only [ho, hx, hy, hrun, Sem.run_bind, Sem.run_pure, Result.andThen_ok]
  show K _ _
  rw [hd]
  exact hK.out _ _ hS h
theorem one_append (d : Nat) (s x : Operand) (t tx : TypeId) (hi : ops[i]? = some oi) (hd : oi.dst = some d) (hr : Region.ready md ops listed = [i]) (hw : Region.wanted oi (yielded ops a.tmps) = true)
    (ho : oi.op = .call { callee := .builtin .append, args := #[s, x], argTypes := #[t, tx] }) (v xv u : Value) (w' : World) (hs : a.eval s = v) (hx : a.eval x = xv)
    (hrun : (Builtin.append_ #[t, tx] oi.type #[v, xv]).run P w = .ok u w') (hS : S w')
    (h : S w' → wpAnyH P md ops Q S fuel (listed.setIfInBounds i true) (a.put (some d) u) w') : wpAnyH P md ops Q S (fuel + 1) listed a w := by
  refine wpAnyH_ready (rs := [i]) hr (by simp) (AllReadyH.cons hi (fun K hK => ?_) AllReadyH.nil)
  rw [if_pos hw]
  unfold Oper.wp
  simp only [execOp, ho, resolve, invoke, builtin, Sem.run_bind, Sem.run_pure, Result.andThen_ok, List.map_toArray, List.map_cons, List.map_nil, hs, hx, hrun]
  show K _ _
  rw [hd]
  exact hK.out _ _ hS h
theorem br_append {rs : List Nat} (d : Nat) (s x : Operand) (t tx : TypeId) (hi : ops[i]? = some oi) (hd : oi.dst = some d) (hw : Region.wanted oi (yielded ops a.tmps) = true)
    (ho : oi.op = .call { callee := .builtin .append, args := #[s, x], argTypes := #[t, tx] }) (v xv u : Value) (w' : World) (hs : a.eval s = v) (hx : a.eval x = xv)
    (hrun : (Builtin.append_ #[t, tx] oi.type #[v, xv]).run P w = .ok u w') (hS : S w')
    (h : S w' → wpAnyH P md ops Q S fuel (listed.setIfInBounds i true) (a.put (some d) u) w')
    (hrs : AllReadyH P md ops Q S fuel listed a w rs) : AllReadyH P md ops Q S fuel listed a w (i :: rs) := by
  refine AllReadyH.cons hi (fun K hK => ?_) hrs
  rw [if_pos hw]
  unfold Oper.wp
  simp only [execOp, ho, resolve, invoke, builtin, Sem.run_bind, Sem.run_pure, Result.andThen_ok, List.map_toArray, List.map_cons, List.map_nil, hs, hx, hrun]
  show K _ _
  rw [hd]
  exact hK.out _ _ hS h
end
section
variable {ops : Array Oper} {S : World → Prop} {op : Oper} {a : Act}
theorem yields_ld (x : Operand) (ty : TypeId) (v u : Value) (hS : ∀ w, S w → (Instr.loadAt ty v).run Tryd.prog w = .ok u w) (hw : Region.wanted op (yielded ops a.tmps) = true) (ho : op.op = .load ty x)
    (hx : a.eval x = v) : YieldsIf Tryd.prog ops S op u a :=
  .inl ⟨hw, fun w hw' => by
    unfold execOp
    simp only [ho, hx, hS w hw', Sem.run_bind, Sem.run_pure, Result.andThen_ok]⟩
theorem yields_ix (x y : Operand) (ty : TypeId) (v u r : Value) (hS : ∀ w, (Instr.indexAt ty v u).run Tryd.prog w = .ok r w) (hw : Region.wanted op (yielded ops a.tmps) = true) (ho : op.op = .indexAddr ty x y)
    (hx : a.eval x = v) (hy : a.eval y = u) : YieldsIf Tryd.prog ops S op r a :=
  .inl ⟨hw, fun w hw' => by
    unfold execOp
    simp only [ho, hx, hy, hS w, Sem.run_bind, Sem.run_pure, Result.andThen_ok]⟩
theorem yields_slh (x y : Operand) (ty : TypeId) (v u r : Value) (hS : ∀ w, (Instr.sliceAt ty v none (some u) none).run Tryd.prog w = .ok r w) (hw : Region.wanted op (yielded ops a.tmps) = true) (ho : op.op = .slice ty x none (some y) none)
    (hx : a.eval x = v) (hy : a.eval y = u) : YieldsIf Tryd.prog ops S op r a :=
  .inl ⟨hw, fun w hw' => by
    unfold execOp
    simp only [ho, Option.map_some, Option.map_none, hx, hy, hS w, Sem.run_bind, Sem.run_pure, Result.andThen_ok]⟩
theorem yields_sll (x y : Operand) (ty : TypeId) (v u r : Value) (hS : ∀ w, (Instr.sliceAt ty v (some u) none none).run Tryd.prog w = .ok r w) (hw : Region.wanted op (yielded ops a.tmps) = true) (ho : op.op = .slice ty x (some y) none none)
    (hx : a.eval x = v) (hy : a.eval y = u) : YieldsIf Tryd.prog ops S op r a :=
  .inl ⟨hw, fun w hw' => by
    unfold execOp
    simp only [ho, Option.map_some, Option.map_none, hx, hy, hS w, Sem.run_bind, Sem.run_pure, Result.andThen_ok]⟩
end
theorem br_load {P : Program} {md : Region.Mode} {ops : Array Oper} {Q : Exit → Act → World → Prop} {S : World → Prop} {i fuel : Nat} {oi : Oper} {listed : Array Bool} {a : Act} {w : World} {rs : List Nat} (d : Nat) (x : Operand) (ty : TypeId) (v u : Value) (hi : ops[i]? = some oi) (hd : oi.dst = some d) (hw : Region.wanted oi (yielded ops a.tmps) = true)
    (ho : oi.op = .load ty x) (hx : a.eval x = v) (hrun : (Instr.loadAt ty v).run P w = .ok u w) (hS : S w)
    (h : S w → wpAnyH P md ops Q S fuel (listed.setIfInBounds i true) (a.put (some d) u) w)
    (hrs : AllReadyH P md ops Q S fuel listed a w rs) : AllReadyH P md ops Q S fuel listed a w (i :: rs) := by
  refine AllReadyH.cons hi (fun K hK => ?_) hrs
  rw [if_pos hw]
  unfold Oper.wp execOp
  simp only [ho, hx, hrun, Sem.run_bind, Sem.run_pure, Result.andThen_ok]
  show K _ _
  rw [hd]
  exact hK.out _ _ hS h

theorem wpList_ld {P : Program} {w : World} {ops : Array Oper} {rest : List Oper} {o : Oper} {a : Act} {Q : Exit → Act → World → Prop} (hgd : o.guard = none) (x : Operand) (ty : TypeId)
    (ho : o.op = .load ty x) (v u : Value) (hx : a.eval x = v) (hl : (Instr.loadAt ty v).run P w = .ok u w)
    (h : wpList P ops Q rest (a.put o.dst u) w) : wpList P ops Q (o :: rest) a w :=
  wpList_plain hgd fun _ hK => by
    unfold Oper.wp execOp
    simp only [ho, hx, hl, Sem.run_bind, Sem.run_pure, Result.andThen_ok]
    exact hK _ _ h
theorem run_storeV (W : World) (g o : Nat) (a : Option Addr) (n c : Nat) (u : Value) (h : W.cell? ⟨g, o, none⟩ = some u) (hf : W.frozen? ⟨g, o, none⟩ = false) : (Instr.storeAt 34 (.pointer (some ⟨g, o, none⟩)) (.slice a n c)).run Tryd.prog W = .ok () (W.setCell ⟨g, o, none⟩ (.slice a n c)) := by
  go_simp
theorem ldV {W : World} {g o : Nat} {a : Option Addr} {n c : Nat} (h0 : W.cell? ⟨g, o, none⟩ = some (.slice a n c)) : (Instr.loadAt 34 (.pointer (some ⟨g, o, none⟩))).run Tryd.prog W = .ok (.slice a n c) W := by
  go_simp
theorem ldI {W : World} {g o : Nat} {x : Int} (h0 : W.cell? ⟨g, o, none⟩ = some (.int .i64 x)) : (Instr.loadAt 3 (.pointer (some ⟨g, o, none⟩))).run Tryd.prog W = .ok (.int .i64 x) W := by
  go_simp
theorem ldO {W : World} {g o : Nat} {x : O} (h : ∀ i u, (oc x)[i]? = some u → W.cell? ⟨g, o + i, none⟩ = some u) : (Instr.loadAt 40 (.pointer (some ⟨g, o, none⟩))).run Tryd.prog W = .ok (oV x) W := by
  have d0 := h 0 _ rfl
  have d1 := h 1 _ rfl
  have d2 := h 2 _ rfl
  have d3 := h 3 _ rfl
  have d4 := h 4 _ rfl
  have d5 := h 5 _ rfl
  have d6 := h 6 _ rfl
  have d7 := h 7 _ rfl
  have d8 := h 8 _ rfl
  simp only [Nat.add_zero] at d0
  unfold oV oCells
  go_simp
theorem box_o {W : World} {g : Nat} {x : O} (h : W.heap[g]? = some (.cells (oCells x) 40 (0, 0))) : ∀ i u, (oc x)[i]? = some u → W.cell? ⟨g, 0 + i, none⟩ = some u := fun i u hu => by
  rw [Nat.zero_add, cell_of_row _ _ _ _ _ _ h]
  unfold oc at hu
  rwa [Array.getElem?_toList] at hu
theorem one_olies {W : World} {g : Nat} {x : O} (h : W.heap[g]? = some (.cells (oCells x) 40 (0, 0))) : OLies W (.slice (some ⟨g, 0, none⟩) 1 1) [x] := by
  refine ⟨some ⟨g, 0, none⟩, 1, rfl, Nat.le_refl _, by unfold maxLen; omega, (fun e => by cases e), fun b hb _ => ?_⟩
  injection hb with hb
  subst hb
  refine ⟨g, 0, rfl, lt_of_block h, fun j p hj i u hu => ?_⟩
  cases j with
  | zero =>
    injection hj with hj
    subst hj
    have := box_o h i u hu
    rwa [show 0 + 0 * 9 + i = 0 + i by omega]
  | succ j => simp at hj
theorem bsO (W : World) (x : O) : (Instr.buildSlice 34 1 #[(0, oV x)]).run Tryd.prog W = .ok (.slice (some ⟨W.heap.size, 0, none⟩) 1 1) (W.alloc (.cells (oCells x) 40)) := by
  unfold oV oCells
  go_simp
  try rfl
theorem ix64 {b i : Nat} (hi : i < 64) (W : World) : (Instr.indexAt 64 (.pointer (some ⟨b, 65, none⟩)) (.int .i64 (i : Int))).run Tryd.prog W = .ok (.pointer (some ⟨b, 65 + i, none⟩)) W := by
  have h0 : (0 : Int) ≤ (i : Int) := by omega
  have h1 : (i : Int) < 64 := by omega
  go_simp
theorem ix27 {b o i : Nat} (hi : i < 64) (W : World) : (Instr.indexAt 27 (.pointer (some ⟨b, o, none⟩)) (.int .i64 (i : Int))).run Tryd.prog W = .ok (.pointer (some ⟨b, o + i, none⟩)) W := by
  have h0 : (0 : Int) ≤ (i : Int) := by omega
  have h1 : (i : Int) < 64 := by omega
  go_simp
/-- One more op at the end of a replica's. -/
theorem push {W : World} {B b : Nat} {s : HS} (h : HK W B b s) (i : Nat) (hi : i < 64) (hl : (s.L i).length ≤ 1000) (hB : B ≤ W.heap.size) (g : Nat) (o : O) (hg : W.heap[g]? = some (.cells (oCells o) 40 (0, 0))) :
    ∃ a c W1 W2, (Builtin.append_ #[34, 34] 34 #[s.S i, .slice (some ⟨g, 0, none⟩) 1 1]).run Tryd.prog W = .ok (.slice a ((s.L i).length + 1) c) W1 ∧
      (Instr.storeAt 34 (.pointer (some ⟨b, 65 + i, none⟩)) (.slice a ((s.L i).length + 1) c)).run Tryd.prog W1 = .ok () W2 ∧
      HOut B b s { s with S := sup s.S i (.slice a ((s.L i).length + 1) c), L := fup s.L i (s.L i ++ [o]) } W W2 := by
  obtain ⟨i0, hi0, hz0, hz1, hz2⟩ := Ve.info_parts info25
  obtain ⟨v, W1, hr, ho, hgr, hsp⟩ := Wi.run_append_src_own (P := Tryd.prog) W B 34 34 34 40 i0 (oV O0) 9 80 Tryd.u27 hi0 hz0 hz1 hz2 rfl (by decide) (s.S i) (s.L i).length (cs9 (s.L i)) (h.rows i hi) (.slice (some ⟨g, 0, none⟩) 1 1) 1 (cs9 [o]) (one_olies hg).src (by unfold maxLen; omega) (by omega) hB
  obtain ⟨a, c, rfl⟩ := Ve.own_shape ho
  have hf : Far (fun k => (s.S i).ownBlock = some k) W W1 := Far.of_grown hgr (fun k e => e)
  have hb1 := (hf.block b h.blt (fun q => h.nb i hi q)).trans h.box
  have hsp2 : ∀ k, (Value.slice a ((s.L i).length + 1) c).ownBlock = some k → (s.S i).ownBlock = some k ∨ W.heap.size ≤ k := fun k e => by
    rcases hsp with hs | ⟨k', hs, hk⟩
    · exact .inl (by rw [← hs]; exact e)
    · rw [hs] at e; injection e with e; exact .inr (by omega)
  have ho2 : W1.ownsRow B 40 9 (.slice a ((s.L i).length + 1) c) (s.L i ++ [o]).length (cs9 (s.L i ++ [o])) := by
    rw [List.length_append, cs9_append]; exact ho
  exact ⟨a, c, W1, _, hr, run_storeV W1 b (65 + i) a _ c (s.S i) (by rw [cell_of_row _ _ _ _ _ _ hb1, hca, List.getElem?_toArray, hcl_s s h.len i hi]) (frozen_of_row _ _ _ _ _ hb1), HOut.sets h i hi hf (fun k q => q) _ _ ho2 hsp2⟩
end Go.Proofs.YtgnnpfainoppeaaDoor
