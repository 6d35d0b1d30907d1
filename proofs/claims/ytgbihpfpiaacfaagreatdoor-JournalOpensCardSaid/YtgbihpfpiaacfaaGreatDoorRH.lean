/- A drawn region, its operations taken one by one by hand. -/
import Derived.Test.YtgbihpfpiaacfaaGreatDoorDI
import Derived.Deep.RegionHeld3
set_option linter.unusedVariables false
namespace Go.Proofs.YtgbihpfpiaacfaaGreatDoor
open Go.RowKit

section
variable {P : Program} {md : Region.Mode} {ops : Array Oper} {Q : Exit → Act → World → Prop} {S : World → Prop} {i fuel : Nat} {oi : Oper} {listed : Array Bool} {a : Act} {w : World}
/-- An operation that only reads, taken first. -/
theorem take_at (d : Nat) (v : Value) (hi : ops[i]? = some oi) (hd : oi.dst = some d) (hs : Region.noSelect ops = true) (hf : Region.free md ops listed i = true) (hr : (Region.ready md ops listed).contains i = true)
    (hQ : ∀ c a w, Q (.panic c) (a.put (some d) v) w → Q (.panic c) a w) (hy : YieldsIf P ops S oi v a) (hS : S w)
    (h : wpAnyH P md ops Q S fuel (listed.setIfInBounds i true) (a.put (some d) v) w) : wpAnyH P md ops Q S (fuel + 1) listed a w :=
  wpAnyH_take hi hs hf hr (by rw [hd]; exact hQ) hy hS (by rw [hd]; exact h)
theorem br_call (d : Nat) (f : FuncId) (args : Array Value) {rs : List Nat} (hi : ops[i]? = some oi) (hd : oi.dst = some d) (hw : Region.wanted oi (yielded ops a.tmps) = true)
    (hrun : (execOp a.eval oi).run P w = .ok (.enter f args) w)
    (hc : Calls P f args w fun e w' => ∃ v, e = .returned v ∧ S w' ∧ (S w' → wpAnyH P md ops Q S fuel (listed.setIfInBounds i true) (a.put (some d) v) w'))
    (hrs : AllReadyH P md ops Q S fuel listed a w rs) : AllReadyH P md ops Q S fuel listed a w (i :: rs) := by
  refine AllReadyH.cons hi (fun K hK => ?_) hrs
  rw [if_pos hw]
  unfold Oper.wp
  rw [hrun, Oper.upon_enter]
  refine hc.mono fun e w' hh => ?_
  obtain ⟨v, rfl, hS, h⟩ := hh
  rw [hd]
  exact hK.out _ _ hS h
theorem br_store (ty : TypeId) (x y : Operand) (p v : Value) (w' : World) {rs : List Nat} (hi : ops[i]? = some oi) (hd : oi.dst = none) (hw : Region.wanted oi (yielded ops a.tmps) = true)
    (ho : oi.op = .store ty x y) (hx : a.eval x = p) (hy : a.eval y = v) (hrun : (Instr.storeAt ty p v).run P w = .ok () w') (hS : S w')
    (h : S w' → wpAnyH P md ops Q S fuel (listed.setIfInBounds i true) (a.put none undef) w')
    (hrs : AllReadyH P md ops Q S fuel listed a w rs) : AllReadyH P md ops Q S fuel listed a w (i :: rs) := by
  refine AllReadyH.cons hi (fun K hK => ?_) hrs
  rw [if_pos hw]
  unfold Oper.wp execOp
  simp only [ho, hx, hy, hrun, Sem.run_bind, Sem.run_pure, Result.andThen_ok]
  show K _ _
  rw [hd]
  exact hK.out _ _ hS h
theorem one_append (d : Nat) (s x : Operand) (t tx : TypeId) (hi : ops[i]? = some oi) (hd : oi.dst = some d) (hr : Region.ready md ops listed = [i]) (hw : Region.wanted oi (yielded ops a.tmps) = true)
    (ho : oi.op = .call { callee := .builtin .append, args := #[s, x], argTypes := #[t, tx] }) (v xv u : Value) (w' : World) (hs : a.eval s = v) (hx : a.eval x = xv)
    (hrun : (Builtin.append_ #[t, tx] oi.type #[v, xv]).run P w = .ok u w') (hS : S w')
    (h : S w' → wpAnyH P md ops Q S fuel (listed.setIfInBounds i true) (a.put (some d) u) w') : wpAnyH P md ops Q S (fuel + 1) listed a w := by
  refine wpAnyH_ready (rs := [i]) hr (by simp) (AllReadyH.cons hi (fun K hK => ?_) AllReadyH.nil)
  rw [if_pos hw]
  unfold Oper.wp
  simp only [execOp, ho, resolve, invoke, builtin, Sem.run_bind, Sem.run_pure, Result.andThen_ok, List.map_toArray, List.map_cons, List.map_nil, hs, hx, hrun]
  show K _ _
  rw [hd]
  exact hK.out _ _ hS h
end
section
variable {ops : Array Oper} {S : World → Prop} {op : Oper} {a : Act}
theorem yields_ld (x : Operand) (ty : TypeId) (v u : Value) (hS : ∀ w, S w → (Instr.loadAt ty v).run Tryz.prog w = .ok u w) (hw : Region.wanted op (yielded ops a.tmps) = true) (ho : op.op = .load ty x)
    (hx : a.eval x = v) : YieldsIf Tryz.prog ops S op u a :=
  .inl ⟨hw, fun w hw' => by
    unfold execOp
    simp only [ho, hx, hS w hw', Sem.run_bind, Sem.run_pure, Result.andThen_ok]⟩
theorem yields_slh (x y : Operand) (ty : TypeId) (v u r : Value) (hS : ∀ w, (Instr.sliceAt ty v none (some u) none).run Tryz.prog w = .ok r w) (hw : Region.wanted op (yielded ops a.tmps) = true) (ho : op.op = .slice ty x none (some y) none)
    (hx : a.eval x = v) (hy : a.eval y = u) : YieldsIf Tryz.prog ops S op r a :=
  .inl ⟨hw, fun w hw' => by
    unfold execOp
    simp only [ho, Option.map_some, Option.map_none, hx, hy, hS w, Sem.run_bind, Sem.run_pure, Result.andThen_ok]⟩
end
theorem br_load {P : Program} {md : Region.Mode} {ops : Array Oper} {Q : Exit → Act → World → Prop} {S : World → Prop} {i fuel : Nat} {oi : Oper} {listed : Array Bool} {a : Act} {w : World} {rs : List Nat} (d : Nat) (x : Operand) (ty : TypeId) (v u : Value) (hi : ops[i]? = some oi) (hd : oi.dst = some d) (hw : Region.wanted oi (yielded ops a.tmps) = true)
    (ho : oi.op = .load ty x) (hx : a.eval x = v) (hrun : (Instr.loadAt ty v).run P w = .ok u w) (hS : S w)
    (h : S w → wpAnyH P md ops Q S fuel (listed.setIfInBounds i true) (a.put (some d) u) w)
    (hrs : AllReadyH P md ops Q S fuel listed a w rs) : AllReadyH P md ops Q S fuel listed a w (i :: rs) := by
  refine AllReadyH.cons hi (fun K hK => ?_) hrs
  rw [if_pos hw]
  unfold Oper.wp execOp
  simp only [ho, hx, hrun, Sem.run_bind, Sem.run_pure, Result.andThen_ok]
  show K _ _
  rw [hd]
  exact hK.out _ _ hS h
/-! ### places, loads -/
theorem br_put {P : Program} {md : Region.Mode} {ops : Array Oper} {Q : Exit → Act → World → Prop} {S : World → Prop} {i fuel : Nat} {oi : Oper} {listed : Array Bool} {a : Act} {w : World} {rs : List Nat} (ty : TypeId) (m x v : Operand) (mv xv vv : Value) (w' : World) (hi : ops[i]? = some oi) (hd : oi.dst = none) (hw : Region.wanted oi (yielded ops a.tmps) = true)
    (ho : oi.op = .mapUpdate ty m x v) (hm : a.eval m = mv) (hx : a.eval x = xv) (hv : a.eval v = vv) (hrun : (Instr.mapUpdate ty mv xv vv).run P w = .ok () w') (hS : S w')
    (h : S w' → wpAnyH P md ops Q S fuel (listed.setIfInBounds i true) (a.put none undef) w')
    (hrs : AllReadyH P md ops Q S fuel listed a w rs) : AllReadyH P md ops Q S fuel listed a w (i :: rs) := by
  refine AllReadyH.cons hi (fun K hK => ?_) hrs
  rw [if_pos hw]
  unfold Oper.wp execOp
  simp only [ho, hm, hx, hv, hrun, Sem.run_bind, Sem.run_pure, Result.andThen_ok]
  show K _ _
  rw [hd]
  exact hK.out _ _ hS h
theorem ldS69 {W : World} {g : Nat} {a : Option Addr} {n c : Nat} {s : Int} (h : FB W g (.slice a n c) s) : (Instr.loadAt 82 (.pointer (some ⟨g, 0, none⟩))).run Tryz.prog W = .ok (.agg #[.slice a n c, .int .i64 s]) W := by
  obtain ⟨h0, h1⟩ := h.cells
  go_simp
theorem ldV33 {W : World} {g o : Nat} {a : Option Addr} {n c : Nat} (h : W.cell? ⟨g, o, none⟩ = some (.slice a n c)) : (Instr.loadAt 39 (.pointer (some ⟨g, o, none⟩))).run Tryz.prog W = .ok (.slice a n c) W := by go_simp
theorem ldM56 {W : World} {g o : Nat} {m : Option Nat} (h : W.cell? ⟨g, o, none⟩ = some (.map m)) : (Instr.loadAt 68 (.pointer (some ⟨g, o, none⟩))).run Tryz.prog W = .ok (.map m) W := by go_simp
theorem ldI3 {W : World} {g o : Nat} {x : Int} (h : W.cell? ⟨g, o, none⟩ = some (.int .i64 x)) : (Instr.loadAt 3 (.pointer (some ⟨g, o, none⟩))).run Tryz.prog W = .ok (.int .i64 x) W := by go_simp
theorem run_storeV33 (W : World) (g o : Nat) (a : Option Addr) (n c : Nat) (u : Value) (h : W.cell? ⟨g, o, none⟩ = some u) (hf : W.frozen? ⟨g, o, none⟩ = false) : (Instr.storeAt 39 (.pointer (some ⟨g, o, none⟩)) (.slice a n c)).run Tryz.prog W = .ok () (W.setCell ⟨g, o, none⟩ (.slice a n c)) := by
  go_simp
theorem slh33 (W : World) (a : Option Addr) (L c n : Nat) (hn : n ≤ c) (hc : c ≤ maxLen) : (Instr.sliceAt 39 (.slice a L c) none (some (.int .i64 (n : Int))) none).run Tryz.prog W = .ok (.slice a n c) W := by
  have hnm : n ≤ 9223372036854775807 := by unfold maxLen at hc; omega
  go_simp
theorem dm_of {w : World} {B d b : Nat} {s : DS} (h : DK w B d s) (hm : s.m = some b) : DM w b s.l := by
  rcases h.map with ⟨h0, _⟩ | ⟨b', h0, _, hb⟩
  · rw [h0] at hm; cases hm
  · rw [h0] at hm; injection hm with hm; subst hm; exact hb
end Go.Proofs.YtgbihpfpiaacfaaGreatDoor

