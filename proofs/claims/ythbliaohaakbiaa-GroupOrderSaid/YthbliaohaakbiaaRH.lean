/- A drawn region, its operations taken one by one by hand. -/
import Derived.Test.YthbliaohaakbiaaGQ
import Derived.Deep.RegionHeld3
set_option linter.unusedVariables false
namespace Go.Proofs.Ythbliaohaakbiaa
open Go.RowKit

section
variable {P : Program} {md : Region.Mode} {ops : Array Oper} {Q : Exit → Act → World → Prop} {S : World → Prop} {i fuel : Nat} {oi : Oper} {listed : Array Bool} {a : Act} {w : World}
/-- An operation that only reads, taken first. -/
theorem take_at (d : Nat) (v : Value) (hi : ops[i]? = some oi) (hd : oi.dst = some d) (hs : Region.noSelect ops = true) (hf : Region.free md ops listed i = true) (hr : (Region.ready md ops listed).contains i = true)
    (hQ : ∀ c a w, Q (.panic c) (a.put (some d) v) w → Q (.panic c) a w) (hy : YieldsIf P ops S oi v a) (hS : S w)
    (h : wpAnyH P md ops Q S fuel (listed.setIfInBounds i true) (a.put (some d) v) w) : wpAnyH P md ops Q S (fuel + 1) listed a w :=
  wpAnyH_take hi hs hf hr (by rw [hd]; exact hQ) hy hS (by rw [hd]; exact h)
/-- The one operation that may come up: a call of a Go function. -/
theorem one_call (d : Nat) (f : FuncId) (args : Array Value) (hi : ops[i]? = some oi) (hd : oi.dst = some d) (hr : Region.ready md ops listed = [i]) (hw : Region.wanted oi (yielded ops a.tmps) = true)
    (hrun : (execOp a.eval oi).run P w = .ok (.enter f args) w)
    (hc : Calls P f args w fun e w' => ∃ v, e = .returned v ∧ S w' ∧ (S w' → wpAnyH P md ops Q S fuel (listed.setIfInBounds i true) (a.put (some d) v) w')) : wpAnyH P md ops Q S (fuel + 1) listed a w := by
  refine wpAnyH_ready (rs := [i]) hr (by simp) (AllReadyH.cons hi (fun K hK => ?_) AllReadyH.nil)
  rw [if_pos hw]
  unfold Oper.wp
  rw [hrun, Oper.upon_enter]
  refine hc.mono fun e w' hh => ?_
  obtain ⟨v, rfl, hS, h⟩ := hh
  rw [hd]
  exact hK.out _ _ hS h
/-- The one operation that may come up: a slice built. -/
theorem one_bslice (d : Nat) (ty : TypeId) (n : Nat) (ps : Array (Nat × Operand)) (vs : Array (Nat × Value)) (u : Value) (w' : World) (hi : ops[i]? = some oi) (hd : oi.dst = some d) (hr : Region.ready md ops listed = [i]) (hw : Region.wanted oi (yielded ops a.tmps) = true)
    (ho : oi.op = .buildSlice ty n ps) (hv : (ps.toList.map fun (i, x) => (i, a.eval x)).toArray = vs) (hrun : (Instr.buildSlice ty n vs).run P w = .ok u w') (hS : S w')
    (h : S w' → wpAnyH P md ops Q S fuel (listed.setIfInBounds i true) (a.put (some d) u) w') : wpAnyH P md ops Q S (fuel + 1) listed a w := by
  refine wpAnyH_ready (rs := [i]) hr (by simp) (AllReadyH.cons hi (fun K hK => ?_) AllReadyH.nil)
  rw [if_pos hw]
  have hv' : (ps.map fun (i, x) => (i, a.eval x)) = vs := by rw [← hv, ← Array.toList_map, Array.toArray_toList]
  unfold Oper.wp execOp
  simp only [ho, hv', hrun, Sem.run_bind, Sem.run_pure, Result.andThen_ok]
  show K _ _
  rw [hd]
  exact hK.out _ _ hS h
theorem br_call (d : Nat) (f : FuncId) (args : Array Value) {rs : List Nat} (hi : ops[i]? = some oi) (hd : oi.dst = some d) (hw : Region.wanted oi (yielded ops a.tmps) = true)
    (hrun : (execOp a.eval oi).run P w = .ok (.enter f args) w)
    (hc : Calls P f args w fun e w' => ∃ v, e = .returned v ∧ S w' ∧ (S w' → wpAnyH P md ops Q S fuel (listed.setIfInBounds i true) (a.put (some d) v) w'))
    (hrs : AllReadyH P md ops Q S fuel listed a w rs) : AllReadyH P md ops Q S fuel listed a w (i :: rs) := by
  refine AllReadyH.cons hi (fun K hK => ?_) hrs
  rw [if_pos hw]
  unfold Oper.wp
  rw [hrun, Oper.upon_enter]
  refine hc.mono fun e w' hh => ?_
  obtain ⟨v, rfl, hS, h⟩ := hh
  rw [hd]
  exact hK.out _ _ hS h
theorem br_bslice (d : Nat) (ty : TypeId) (n : Nat) (ps : Array (Nat × Operand)) (vs : Array (Nat × Value)) (u : Value) (w' : World) {rs : List Nat} (hi : ops[i]? = some oi) (hd : oi.dst = some d) (hw : Region.wanted oi (yielded ops a.tmps) = true)
    (ho : oi.op = .buildSlice ty n ps) (hv : (ps.toList.map fun (i, x) => (i, a.eval x)).toArray = vs) (hrun : (Instr.buildSlice ty n vs).run P w = .ok u w') (hS : S w')
    (h : S w' → wpAnyH P md ops Q S fuel (listed.setIfInBounds i true) (a.put (some d) u) w')
    (hrs : AllReadyH P md ops Q S fuel listed a w rs) : AllReadyH P md ops Q S fuel listed a w (i :: rs) := by
  refine AllReadyH.cons hi (fun K hK => ?_) hrs
  rw [if_pos hw]
  have hv' : (ps.map fun (i, x) => (i, a.eval x)) = vs := by rw [← hv, ← Array.toList_map, Array.toArray_toList]
  unfold Oper.wp execOp
  simp only [ho, hv', hrun, Sem.run_bind, Sem.run_pure, Result.andThen_ok]
  show K _ _
  rw [hd]
  exact hK.out _ _ hS h
theorem br_alloc (d : Nat) (ty : TypeId) (u : Value) (w' : World) {rs : List Nat} (hi : ops[i]? = some oi) (hd : oi.dst = some d) (hw : Region.wanted oi (yielded ops a.tmps) = true)
    (ho : oi.op = .alloc ty) (hrun : (Instr.alloc ty true (.tuple #[])).run P w = .ok u w') (hS : S w')
    (h : S w' → wpAnyH P md ops Q S fuel (listed.setIfInBounds i true) (a.put (some d) u) w')
    (hrs : AllReadyH P md ops Q S fuel listed a w rs) : AllReadyH P md ops Q S fuel listed a w (i :: rs) := by
  refine AllReadyH.cons hi (fun K hK => ?_) hrs
  rw [if_pos hw]
  unfold Oper.wp execOp
  simp only [ho, hrun, Sem.run_bind, Sem.run_pure, Result.andThen_ok]
  show K _ _
  rw [hd]
  exact hK.out _ _ hS h
theorem br_store (ty : TypeId) (x y : Operand) (p v : Value) (w' : World) {rs : List Nat} (hi : ops[i]? = some oi) (hd : oi.dst = none) (hw : Region.wanted oi (yielded ops a.tmps) = true)
    (ho : oi.op = .store ty x y) (hx : a.eval x = p) (hy : a.eval y = v) (hrun : (Instr.storeAt ty p v).run P w = .ok () w') (hS : S w')
    (h : S w' → wpAnyH P md ops Q S fuel (listed.setIfInBounds i true) (a.put none undef) w')
    (hrs : AllReadyH P md ops Q S fuel listed a w rs) : AllReadyH P md ops Q S fuel listed a w (i :: rs) := by
  refine AllReadyH.cons hi (fun K hK => ?_) hrs
  rw [if_pos hw]
  unfold Oper.wp execOp
  simp only [ho, hx, hy, hrun, Sem.run_bind, Sem.run_pure, Result.andThen_ok]
  show K _ _
  rw [hd]
  exact hK.out _ _ hS h
theorem one_append (d : Nat) (s x : Operand) (t tx : TypeId) (hi : ops[i]? = some oi) (hd : oi.dst = some d) (hr : Region.ready md ops listed = [i]) (hw : Region.wanted oi (yielded ops a.tmps) = true)
    (ho : oi.op = .call { callee := .builtin .append, args := #[s, x], argTypes := #[t, tx] }) (v xv u : Value) (w' : World) (hs : a.eval s = v) (hx : a.eval x = xv)
    (hrun : (Builtin.append_ #[t, tx] oi.type #[v, xv]).run P w = .ok u w') (hS : S w')
    (h : S w' → wpAnyH P md ops Q S fuel (listed.setIfInBounds i true) (a.put (some d) u) w') : wpAnyH P md ops Q S (fuel + 1) listed a w := by
  refine wpAnyH_ready (rs := [i]) hr (by simp) (AllReadyH.cons hi (fun K hK => ?_) AllReadyH.nil)
  rw [if_pos hw]
  unfold Oper.wp
  simp only [execOp, ho, resolve, invoke, builtin, Sem.run_bind, Sem.run_pure, Result.andThen_ok, List.map_toArray, List.map_cons, List.map_nil, hs, hx, hrun]
  show K _ _
  rw [hd]
  exact hK.out _ _ hS h
theorem br_append {rs : List Nat} (d : Nat) (s x : Operand) (t tx : TypeId) (hi : ops[i]? = some oi) (hd : oi.dst = some d) (hw : Region.wanted oi (yielded ops a.tmps) = true)
    (ho : oi.op = .call { callee := .builtin .append, args := #[s, x], argTypes := #[t, tx] }) (v xv u : Value) (w' : World) (hs : a.eval s = v) (hx : a.eval x = xv)
    (hrun : (Builtin.append_ #[t, tx] oi.type #[v, xv]).run P w = .ok u w') (hS : S w')
    (h : S w' → wpAnyH P md ops Q S fuel (listed.setIfInBounds i true) (a.put (some d) u) w')
    (hrs : AllReadyH P md ops Q S fuel listed a w rs) : AllReadyH P md ops Q S fuel listed a w (i :: rs) := by
  refine AllReadyH.cons hi (fun K hK => ?_) hrs
  rw [if_pos hw]
  unfold Oper.wp
  simp only [execOp, ho, resolve, invoke, builtin, Sem.run_bind, Sem.run_pure, Result.andThen_ok, List.map_toArray, List.map_cons, List.map_nil, hs, hx, hrun]
  show K _ _
  rw [hd]
  exact hK.out _ _ hS h
end
section
variable {ops : Array Oper} {S : World → Prop} {op : Oper} {a : Act}
theorem yields_ld (x : Operand) (ty : TypeId) (v u : Value) (hS : ∀ w, S w → (Instr.loadAt ty v).run Try.prog w = .ok u w) (hw : Region.wanted op (yielded ops a.tmps) = true) (ho : op.op = .load ty x)
    (hx : a.eval x = v) : YieldsIf Try.prog ops S op u a :=
  .inl ⟨hw, fun w hw' => by
    unfold execOp
    simp only [ho, hx, hS w hw', Sem.run_bind, Sem.run_pure, Result.andThen_ok]⟩
theorem yields_ix (x y : Operand) (ty : TypeId) (v u r : Value) (hS : ∀ w, (Instr.indexAt ty v u).run Try.prog w = .ok r w) (hw : Region.wanted op (yielded ops a.tmps) = true) (ho : op.op = .indexAddr ty x y)
    (hx : a.eval x = v) (hy : a.eval y = u) : YieldsIf Try.prog ops S op r a :=
  .inl ⟨hw, fun w hw' => by
    unfold execOp
    simp only [ho, hx, hy, hS w, Sem.run_bind, Sem.run_pure, Result.andThen_ok]⟩
theorem yields_slh (x y : Operand) (ty : TypeId) (v u r : Value) (hS : ∀ w, (Instr.sliceAt ty v none (some u) none).run Try.prog w = .ok r w) (hw : Region.wanted op (yielded ops a.tmps) = true) (ho : op.op = .slice ty x none (some y) none)
    (hx : a.eval x = v) (hy : a.eval y = u) : YieldsIf Try.prog ops S op r a :=
  .inl ⟨hw, fun w hw' => by
    unfold execOp
    simp only [ho, Option.map_some, Option.map_none, hx, hy, hS w, Sem.run_bind, Sem.run_pure, Result.andThen_ok]⟩
theorem yields_sll (x y : Operand) (ty : TypeId) (v u r : Value) (hS : ∀ w, (Instr.sliceAt ty v (some u) none none).run Try.prog w = .ok r w) (hw : Region.wanted op (yielded ops a.tmps) = true) (ho : op.op = .slice ty x (some y) none none)
    (hx : a.eval x = v) (hy : a.eval y = u) : YieldsIf Try.prog ops S op r a :=
  .inl ⟨hw, fun w hw' => by
    unfold execOp
    simp only [ho, Option.map_some, Option.map_none, hx, hy, hS w, Sem.run_bind, Sem.run_pure, Result.andThen_ok]⟩
end
section
variable {α : Type} {enc : α → List Value} {k : Nat}
theorem run_pushK {P : Program} (w : World) (t : TypeId) (ty : TypeId) (hk : ∀ x, (enc x).length = k) (hk0 : 0 < k) (h1 : ∀ x, ∀ v ∈ enc x, v.oneCell' = true)
    (base : Nat) (e : TypeId) (i : TypeInfo) (z : Value) (bytes : Nat) (ht : P.underlying t = some (.slice e)) (hi : P.info? e = some i) (hz : i.zero = some z)
    (hsize : i.size = k) (hby : i.bytes = bytes) (hzs : z.cells.size = k) (v : Value) (l : List α) (p : α) (g : Nat) (hb : w.heap[g]? = some (.cells (enc p).toArray e (0, 0)))
    (hown : w.ownsRow base e k v l.length (l.flatMap enc)) (h63 : l.length + 1 ≤ maxLen) (hbytes : (l.length + 1) * bytes ≤ 140737488355328) (hbase : base ≤ w.heap.size) :
    ∃ v' w', (Builtin.append_ #[t, t] ty #[v, .slice (some ⟨g, 0, none⟩) 1 1]).run P w = .ok v' w' ∧ w'.ownsRow base e k v' (l ++ [p]).length ((l ++ [p]).flatMap enc) ∧ w.grownBy w' v.ownBlock := by
  obtain ⟨v', w', h2, h3, h4, _⟩ := run_append_src_own (P := P) w base t t ty e i z k bytes ht hi hz hsize hby hzs hk0 v l.length (l.flatMap enc) hown (.slice (some ⟨g, 0, none⟩) 1 1) 1 ([p].flatMap enc) ((one_liesK hk hb).src ht hk hk0 h1) h63 hbytes hbase
  exact ⟨v', w', h2, by rw [List.length_append, List.flatMap_append]; exact h3, h4⟩
theorem br_load {P : Program} {md : Region.Mode} {ops : Array Oper} {Q : Exit → Act → World → Prop} {S : World → Prop} {i fuel : Nat} {oi : Oper} {listed : Array Bool} {a : Act} {w : World} {rs : List Nat} (d : Nat) (x : Operand) (ty : TypeId) (v u : Value) (hi : ops[i]? = some oi) (hd : oi.dst = some d) (hw : Region.wanted oi (yielded ops a.tmps) = true)
    (ho : oi.op = .load ty x) (hx : a.eval x = v) (hrun : (Instr.loadAt ty v).run P w = .ok u w) (hS : S w)
    (h : S w → wpAnyH P md ops Q S fuel (listed.setIfInBounds i true) (a.put (some d) u) w)
    (hrs : AllReadyH P md ops Q S fuel listed a w rs) : AllReadyH P md ops Q S fuel listed a w (i :: rs) := by
  refine AllReadyH.cons hi (fun K hK => ?_) hrs
  rw [if_pos hw]
  unfold Oper.wp execOp
  simp only [ho, hx, hrun, Sem.run_bind, Sem.run_pure, Result.andThen_ok]
  show K _ _
  rw [hd]
  exact hK.out _ _ hS h
end
/-! ### places, loads -/
theorem ix22 {g o n cap i : Nat} (h : i < n) (hn : n ≤ 9223372036854775807) (W : World) : (Instr.indexAt 22 (.slice (some ⟨g, o, none⟩) n cap) (.int .i64 (i : Int))).run Try.prog W = .ok (.pointer (some ⟨g, o + i * 4, none⟩)) W := by
  go_simp
theorem ix27 {g o n cap i : Nat} (h : i < n) (hn : n ≤ 9223372036854775807) (W : World) : (Instr.indexAt 27 (.slice (some ⟨g, o, none⟩) n cap) (.int .i64 (i : Int))).run Try.prog W = .ok (.pointer (some ⟨g, o + i * 4, none⟩)) W := by
  go_simp
theorem ix25 {g o n cap i : Nat} (h : i < n) (hn : n ≤ 9223372036854775807) (W : World) : (Instr.indexAt 25 (.slice (some ⟨g, o, none⟩) n cap) (.int .i64 (i : Int))).run Try.prog W = .ok (.pointer (some ⟨g, o + i * 3, none⟩)) W := by
  go_simp
theorem ix34 {g o n cap i : Nat} (h : i < n) (hn : n ≤ 9223372036854775807) (W : World) : (Instr.indexAt 34 (.slice (some ⟨g, o, none⟩) n cap) (.int .i64 (i : Int))).run Try.prog W = .ok (.pointer (some ⟨g, o + i * 3, none⟩)) W := by
  go_simp
theorem ix30 {g o n cap i : Nat} (h : i < n) (hn : n ≤ 9223372036854775807) (W : World) : (Instr.indexAt 30 (.slice (some ⟨g, o, none⟩) n cap) (.int .i64 (i : Int))).run Try.prog W = .ok (.pointer (some ⟨g, o + i * 2, none⟩)) W := by
  go_simp
theorem ldS {W : World} {g o : Nat} {a b : Int} (h0 : W.cell? ⟨g, o, none⟩ = some (.int .i64 a)) (h1 : W.cell? ⟨g, o + 1, none⟩ = some (.int .i64 b)) : (Instr.loadAt 39 (.pointer (some ⟨g, o, none⟩))).run Try.prog W = .ok (.agg #[.int .i64 a, .int .i64 b]) W := by
  go_simp
theorem ldT {W : World} {g o : Nat} {s : ByteArray} (h0 : W.cell? ⟨g, o, none⟩ = some (.string s)) : (Instr.loadAt 9 (.pointer (some ⟨g, o, none⟩))).run Try.prog W = .ok (.string s) W := by
  go_simp
theorem ldB {W : World} {g o : Nat} {s : Bool} (h0 : W.cell? ⟨g, o, none⟩ = some (.bool s)) : (Instr.loadAt 4 (.pointer (some ⟨g, o, none⟩))).run Try.prog W = .ok (.bool s) W := by
  go_simp
theorem ldV {W : World} {g o : Nat} {a : Option Addr} {n c : Nat} (h0 : W.cell? ⟨g, o, none⟩ = some (.slice a n c)) : (Instr.loadAt 30 (.pointer (some ⟨g, o, none⟩))).run Try.prog W = .ok (.slice a n c) W := by
  go_simp
theorem ldI {W : World} {g o : Nat} {x : It} (h0 : W.cell? ⟨g, o, none⟩ = some (.int .i64 x.t)) (h1 : W.cell? ⟨g, o + 1, none⟩ = some (.int .i64 x.r)) (h2 : W.cell? ⟨g, o + 2, none⟩ = some (.string x.n)) (h3 : W.cell? ⟨g, o + 3, none⟩ = some (.bool x.d)) : (Instr.loadAt 41 (.pointer (some ⟨g, o, none⟩))).run Try.prog W = .ok (ivl x) W := by
  go_simp
theorem ldI2 {W : World} {g o : Nat} {x : It} (h0 : W.cell? ⟨g, o, none⟩ = some (.int .i64 x.t)) (h1 : W.cell? ⟨g, o + 1, none⟩ = some (.int .i64 x.r)) (h2 : W.cell? ⟨g, o + 2, none⟩ = some (.string x.n)) (h3 : W.cell? ⟨g, o + 3, none⟩ = some (.bool x.d)) : (Instr.loadAt 42 (.pointer (some ⟨g, o, none⟩))).run Try.prog W = .ok (ivl x) W := by
  go_simp
theorem ldG {W : World} {g o : Nat} {n : ByteArray} {d : Bool} {v : Value} (h0 : W.cell? ⟨g, o, none⟩ = some (.string n)) (h1 : W.cell? ⟨g, o + 1, none⟩ = some (.bool d)) (h2 : W.cell? ⟨g, o + 2, none⟩ = some v) : (Instr.loadAt 32 (.pointer (some ⟨g, o, none⟩))).run Try.prog W = .ok (gvl n d v) W := by
  go_simp
theorem ldG2 {W : World} {g o : Nat} {n : ByteArray} {d : Bool} {v : Value} (h0 : W.cell? ⟨g, o, none⟩ = some (.string n)) (h1 : W.cell? ⟨g, o + 1, none⟩ = some (.bool d)) (h2 : W.cell? ⟨g, o + 2, none⟩ = some v) : (Instr.loadAt 58 (.pointer (some ⟨g, o, none⟩))).run Try.prog W = .ok (gvl n d v) W := by
  go_simp
theorem bsI (W : World) (x : It) : (Instr.buildSlice 27 1 #[(0, ivl x)]).run Try.prog W = .ok (.slice (some ⟨W.heap.size, 0, none⟩) 1 1) (W.alloc (.cells (encI x).toArray 41)) := by
  go_simp
  try rfl
theorem bsS (W : World) (a b : Int) : (Instr.buildSlice 30 1 #[(0, .agg #[.int .i64 a, .int .i64 b])]).run Try.prog W = .ok (.slice (some ⟨W.heap.size, 0, none⟩) 1 1) (W.alloc (.cells (encS (a, b)).toArray 39)) := by
  go_simp
  try rfl
theorem bsG (W : World) (n : ByteArray) (d : Bool) (v : Value) (h : v.oneCell' = true) (hv : v.cells = #[v]) : (Instr.buildSlice 25 1 #[(0, gvl n d v)]).run Try.prog W = .ok (.slice (some ⟨W.heap.size, 0, none⟩) 1 1) (W.alloc (.cells #[.string n, .bool d, v] 32)) := by
  go_simp
  try rfl
theorem bsG2 (W : World) (n : ByteArray) (d : Bool) (v : Value) (h : v.oneCell' = true) (hv : v.cells = #[v]) : (Instr.buildSlice 34 1 #[(0, gvl n d v)]).run Try.prog W = .ok (.slice (some ⟨W.heap.size, 0, none⟩) 1 1) (W.alloc (.cells #[.string n, .bool d, v] 58)) := by
  go_simp
  try rfl
end Go.Proofs.Ythbliaohaakbiaa
