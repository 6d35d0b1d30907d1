/- Merged by tools/merge.py: PY, RQ, RP, PZ, RW, RX. -/
import Derived.Test.YtbeodechhneeeaaGreatDoorUQ
set_option linter.unusedVariables false
set_option linter.unusedSimpArgs false
set_option maxRecDepth 100000
namespace Go.Proofs.YtbeodechhneeeaaGreatDoor
open Go.RowKit Go.Shelf
open Tb (Rw setF getF aboveF Rise TabI TM LiesK LiesR)

/-- What is handed back lies where the old one did, or in a new block. -/
def Spr (n : Nat) (W : World) (v r : Value) : Prop := ∀ k, r.ownBlock = some k → v.ownBlock = some k ∨ (n ≤ k ∧ k < W.heap.size)
theorem Spr.refl (n : Nat) (W : World) (v : Value) : Spr n W v v := fun k e => .inl e
theorem Spr.trans {n m : Nat} {W W' : World} {a b c : Value} (h1 : Spr n W a b) (h2 : Spr m W' b c) (hs : n ≤ m) (hb : W.heap.size ≤ W'.heap.size) : Spr n W' a c := fun k e => (h2 k e).elim (fun e => (h1 k e).elim .inl (fun q => .inr ⟨q.1, Nat.lt_of_lt_of_le q.2 hb⟩)) (fun e => .inr ⟨Nat.le_trans hs e.1, e.2⟩)
theorem Frs.spr {n : Nat} {W : World} {v r : Value} (h : Frs n W r) : Spr n W v r := fun k e => .inr (h k e)
structure PX (w W : World) (o : O) : Prop where
  bel : Below w.heap.size w W
  box : W.heap[w.heap.size]? = some (.cells (oCells o) 33 (0, 0))
theorem PX.step {w W W' : World} {o : O} (h : PX w W o) (hb : Below W.heap.size W W') : PX w W' o := ⟨h.bel.trans (hb.mono h.bel.size), (hb.block _ (pl_lt h.box)).trans h.box⟩
end Go.Proofs.YtbeodechhneeeaaGreatDoor


set_option linter.unusedVariables false
set_option linter.unusedSimpArgs false
set_option maxRecDepth 100000
namespace Go.Proofs.YtbeodechhneeeaaGreatDoor
open Go.RowKit Go.Shelf
open Tb (Rw TabI TM LiesK)

section
variable {ops : Array Oper} {S : World → Prop} {op : Oper} {a : Act}
theorem yields_slh (x y : Operand) (ty : TypeId) (v u r : Value) (hS : ∀ w, (Instr.sliceAt ty v none (some u) none).run Tryz.prog w = .ok r w) (hw : Region.wanted op (yielded ops a.tmps) = true) (ho : op.op = .slice ty x none (some y) none)
    (hx : a.eval x = v) (hy : a.eval y = u) : YieldsIf Tryz.prog ops S op r a :=
  .inl ⟨hw, fun w hw' => by
    unfold execOp
    simp only [ho, Option.map_some, Option.map_none, hx, hy, hS w, Sem.run_bind, Sem.run_pure, Result.andThen_ok]⟩
theorem yields_slt (x y : Operand) (ty : TypeId) (v u r : Value) (hS : ∀ w, (Instr.sliceAt ty v (some u) none none).run Tryz.prog w = .ok r w) (hw : Region.wanted op (yielded ops a.tmps) = true) (ho : op.op = .slice ty x (some y) none none)
    (hx : a.eval x = v) (hy : a.eval y = u) : YieldsIf Tryz.prog ops S op r a :=
  .inl ⟨hw, fun w hw' => by
    unfold execOp
    simp only [ho, Option.map_some, Option.map_none, hx, hy, hS w, Sem.run_bind, Sem.run_pure, Result.andThen_ok]⟩
end
theorem run_size34 (w : World) : (Go.sizeOf 33).run Tryz.prog w = .ok 9 w := by kernel_rfl
theorem head34 {ra : Option Addr} {n rc k : Nat} {w : World} {l : List O} (h : OLies w (.slice ra n rc) l) (hk : k ≤ n) :
    (∀ W, (Instr.sliceAt 22 (.slice ra n rc) none (some (.int .i64 (k : Int))) none).run Tryz.prog W = .ok (.slice ra k rc) W) ∧ OLies w (.slice ra k rc) (l.take k) := by
  obtain ⟨ao, cap, e, h1, h2, h3, h4⟩ := h
  injection e with e1 e2 e3
  subst e1 e2 e3
  have hl : (l.take k).length = k := by rw [List.length_take]; omega
  refine ⟨fun W => ?_, ra, rc, by rw [hl], by rw [hl]; omega, h2, fun e => ?_, fun b hb hne => ?_⟩
  · rw [run_sliceAt_slice (P := Tryz.prog) (h := Tryz.u27), run_slice_h (P := Tryz.prog) (ht := Tryz.u27) (h0 := by omega) (h2 := by omega)]
    rw [show (Go.sizeOf (Tryz.prog.elem 22)).run Tryz.prog W = .ok 9 W from run_size34 W]
    show Result.ok (sliced ra 0 (k : Int).toNat rc 9) W = _
    unfold sliced
    cases ra with
    | none => simp
    | some b =>
      simp
      try rw [show b.add 0 = b from by unfold Addr.add; simp]
      exact fun _ => rfl
  · have := h3 e
    rw [this.1]
    exact ⟨by simp, this.2⟩
  · obtain ⟨g, o, rfl, hg, hc⟩ := h4 b hb (fun e => hne (by rw [e]; simp))
    refine ⟨g, o, rfl, hg, fun j p hj i u hu => hc j p ?_ i u hu⟩
    rw [List.getElem?_take] at hj
    split at hj
    · exact hj
    · cases hj
theorem tail34 {ra : Option Addr} {n rc k : Nat} {w : World} {l : List O} (h : OLies w (.slice ra n rc) l) (hk : k ≤ n) :
    ∃ A, (∀ W, (Instr.sliceAt 22 (.slice ra n rc) (some (.int .i64 (k : Int))) none none).run Tryz.prog W = .ok (.slice A (n - k) (rc - k)) W) ∧ OLies w (.slice A (n - k) (rc - k)) (l.drop k) := by
  obtain ⟨A, h1, h2⟩ := slice_tailK (enc := oc) (k := 9) (t := 22) Tryz.u27 run_size34 (show LiesK oc 9 w (.slice ra n rc) l from h) hk
  refine ⟨A, fun W => ?_, h2⟩
  rw [run_sliceAt_slice (P := Tryz.prog) (h := Tryz.u27)]
  exact h1 W
end Go.Proofs.YtbeodechhneeeaaGreatDoor


set_option linter.unusedVariables false
set_option linter.unusedSimpArgs false
set_option maxRecDepth 100000
namespace Go.Proofs.YtbeodechhneeeaaGreatDoor
open Go.RowKit Go.Shelf
open Tb (Rw TabI TM LiesK)

theorem app34 (w : World) (B : Nat) (v : Value) (l : List O) (x : Value) (m : List O) (hown : w.ownsRow B 33 9 v l.length (cs9 l)) (hs : OLies w x m) (hl : l.length + m.length ≤ 1000) (hB : B ≤ w.heap.size) :
    ∃ va w', (Builtin.append_ #[22, 22] 22 #[v, x]).run Tryz.prog w = .ok va w' ∧ w'.ownsRow B 33 9 va (l ++ m).length (cs9 (l ++ m)) ∧ Below B w w' := by
  obtain ⟨i0, hi9, hz0, hz1, hz2⟩ := info_parts info25
  obtain ⟨va, w', h1, h2, h3, _⟩ := Tb.run_append_src_own (P := Tryz.prog) w B 22 22 22 33 i0 (oV O0) 9 80 Tryz.u27 hi9 hz0 hz1 hz2 rfl (by decide) v l.length (cs9 l) hown x m.length (cs9 m) hs.src (by unfold maxLen; omega) (by omega) hB
  refine ⟨va, w', h1, ?_, (Below.refl B w).grown h3 hB (fun k hk => (own_lt hown k hk).1)⟩
  rw [List.length_append, cs9_append]
  exact h2
end Go.Proofs.YtbeodechhneeeaaGreatDoor


set_option linter.unusedVariables false
set_option linter.unusedSimpArgs false
set_option maxRecDepth 100000
namespace Go.Proofs.YtbeodechhneeeaaGreatDoor
open Go.RowKit Go.Shelf
open Tb (Rw setF getF aboveF Rise TabI TM LiesK LiesR ltS)

theorem ld30 {W : World} {g o : Nat} {a : Option Addr} {n c : Nat} (h : W.cell? ⟨g, o, none⟩ = some (.slice a n c)) : (Instr.loadAt 22 (.pointer (some ⟨g, o, none⟩))).run Tryz.prog W = .ok (.slice a n c) W := by
  go_simp
def rdidF (T : List Rw) : List O → Int → Int → Bool
  | [], _, _ => false
  | o :: L, t, r => if o.t = t ∧ o.r = r then !skipF T o else rdidF (doF T o) L t r
end Go.Proofs.YtbeodechhneeeaaGreatDoor


set_option linter.unusedVariables false
set_option linter.unusedSimpArgs false
set_option maxRecDepth 100000
namespace Go.Proofs.YtbeodechhneeeaaGreatDoor
open Go.RowKit Go.Shelf
open Tb (Rw setF getF aboveF Rise TabI TM LiesK LiesR ltS)

theorem ld9 {W : World} {g o : Nat} {s : ByteArray} (h : W.cell? ⟨g, o, none⟩ = some (.string s)) : (Instr.loadAt 9 (.pointer (some ⟨g, o, none⟩))).run Tryz.prog W = .ok (.string s) W := by
  go_simp
theorem ld4 {W : World} {g o : Nat} {s : Bool} (h : W.cell? ⟨g, o, none⟩ = some (.bool s)) : (Instr.loadAt 4 (.pointer (some ⟨g, o, none⟩))).run Tryz.prog W = .ok (.bool s) W := by
  go_simp
theorem ld69 {W : World} {g : Nat} {a b : Int} {s : ByteArray} {d : Bool} (h : W.heap[g]? = some (.cells #[.int .i64 a, .int .i64 b, .string s, .bool d] 47 (0, 0))) : (Instr.loadAt 47 (.pointer (some ⟨g, 0, none⟩))).run Tryz.prog W = .ok (.agg #[.int .i64 a, .int .i64 b, .string s, .bool d]) W := by
  obtain ⟨c0, c1, c2, c3⟩ := box4 h
  clear h
  go_simp
theorem bld69 (W : World) (a b : Int) (s : ByteArray) (d : Bool) : (Instr.build 47 #[(0, .agg #[.int .i64 a, .int .i64 b]), (1, .string s), (2, .bool d)]).run Tryz.prog W = .ok (.agg #[.int .i64 a, .int .i64 b, .string s, .bool d]) W := by kernel_rfl
theorem ne69 (W : World) (a b : Int) (s : ByteArray) (d : Bool) : (binOp .neq 47 (.agg #[.int .i64 a, .int .i64 b, .string s, .bool d]) (.agg #[.int .i64 a, .int .i64 b, .string s, .bool d])).run Tryz.prog W = .ok (.bool false) W := by
  go_simp
theorem egt69 : (Tryz.prog.eqGuardType Tryz.prog.depth 47) = false := by kernel_rfl
theorem gn69 (x y : Operand) (a b : Array Value) (w : World) : (eqGuard .neq 47 x y (.agg a) (.agg b)).run Tryz.prog w = .ok () w := run_eqGuard_agg w .neq 47 x y _ _ egt69
/-- A getter's entry, boxed; the row it must be. -/
structure RWI (w W : World) (k : Nat) (x : Rw) : Prop where
  bel : Below w.heap.size w W
  box : W.heap[k]? = some (.cells #[.int .i64 x.pt, .int .i64 x.pr, .string x.nm, .bool x.d] 47 (0, 0))
end Go.Proofs.YtbeodechhneeeaaGreatDoor


set_option linter.unusedVariables false
set_option linter.unusedSimpArgs false
set_option maxRecDepth 100000
namespace Go.Proofs.YtbeodechhneeeaaGreatDoor
open Go.RowKit Go.Shelf
open Tb (Rw setF getF aboveF Rise TabI TM LiesK LiesR ltS)

end Go.Proofs.YtbeodechhneeeaaGreatDoor


