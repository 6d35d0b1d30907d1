/- TreeOrder, plain; the ways its walk needs. -/
import Derived.Test.YtkmeceoilighiaaUQ
set_option linter.unusedVariables false
set_option linter.unusedSimpArgs false
set_option maxRecDepth 100000
namespace Go.Proofs.Ytkmeceoilighiaa
open Go.RowKit Go.Shelf
open Tb (Rw TabI TM LiesK)

section
variable {ops : Array Oper} {S : World → Prop} {op : Oper} {a : Act}
theorem yields_slh (x y : Operand) (ty : TypeId) (v u r : Value) (hS : ∀ w, (Instr.sliceAt ty v none (some u) none).run Try.prog w = .ok r w) (hw : Region.wanted op (yielded ops a.tmps) = true) (ho : op.op = .slice ty x none (some y) none)
    (hx : a.eval x = v) (hy : a.eval y = u) : YieldsIf Try.prog ops S op r a :=
  .inl ⟨hw, fun w hw' => by
    unfold execOp
    simp only [ho, Option.map_some, Option.map_none, hx, hy, hS w, Sem.run_bind, Sem.run_pure, Result.andThen_ok]⟩
theorem yields_slt (x y : Operand) (ty : TypeId) (v u r : Value) (hS : ∀ w, (Instr.sliceAt ty v (some u) none none).run Try.prog w = .ok r w) (hw : Region.wanted op (yielded ops a.tmps) = true) (ho : op.op = .slice ty x (some y) none none)
    (hx : a.eval x = v) (hy : a.eval y = u) : YieldsIf Try.prog ops S op r a :=
  .inl ⟨hw, fun w hw' => by
    unfold execOp
    simp only [ho, Option.map_some, Option.map_none, hx, hy, hS w, Sem.run_bind, Sem.run_pure, Result.andThen_ok]⟩
end
theorem run_size34 (w : World) : (Go.sizeOf 34).run Try.prog w = .ok 9 w := by kernel_rfl
theorem head34 {ra : Option Addr} {n rc k : Nat} {w : World} {l : List O} (h : OLies w (.slice ra n rc) l) (hk : k ≤ n) :
    (∀ W, (Instr.sliceAt 30 (.slice ra n rc) none (some (.int .i64 (k : Int))) none).run Try.prog W = .ok (.slice ra k rc) W) ∧ OLies w (.slice ra k rc) (l.take k) := by
  obtain ⟨ao, cap, e, h1, h2, h3, h4⟩ := h
  injection e with e1 e2 e3
  subst e1 e2 e3
  have hl : (l.take k).length = k := by rw [List.length_take]; omega
  refine ⟨fun W => ?_, ra, rc, by rw [hl], by rw [hl]; omega, h2, fun e => ?_, fun b hb hne => ?_⟩
  · rw [run_sliceAt_slice (P := Try.prog) (h := Try.u27), run_slice_h (P := Try.prog) (ht := Try.u27) (h0 := by omega) (h2 := by omega)]
    rw [show (Go.sizeOf (Try.prog.elem 30)).run Try.prog W = .ok 9 W from run_size34 W]
    show Result.ok (sliced ra 0 (k : Int).toNat rc 9) W = _
    unfold sliced
    cases ra with
    | none => simp
    | some b =>
      simp
      try rw [show b.add 0 = b from by unfold Addr.add; simp]
      exact fun _ => rfl
  · have := h3 e
    rw [this.1]
    exact ⟨by simp, this.2⟩
  · obtain ⟨g, o, rfl, hg, hc⟩ := h4 b hb (fun e => hne (by rw [e]; simp))
    refine ⟨g, o, rfl, hg, fun j p hj i u hu => hc j p ?_ i u hu⟩
    rw [List.getElem?_take] at hj
    split at hj
    · exact hj
    · cases hj
theorem tail34 {ra : Option Addr} {n rc k : Nat} {w : World} {l : List O} (h : OLies w (.slice ra n rc) l) (hk : k ≤ n) :
    ∃ A, (∀ W, (Instr.sliceAt 30 (.slice ra n rc) (some (.int .i64 (k : Int))) none none).run Try.prog W = .ok (.slice A (n - k) (rc - k)) W) ∧ OLies w (.slice A (n - k) (rc - k)) (l.drop k) := by
  obtain ⟨A, h1, h2⟩ := slice_tailK (enc := oc) (k := 9) (t := 30) Try.u27 run_size34 (show LiesK oc 9 w (.slice ra n rc) l from h) hk
  refine ⟨A, fun W => ?_, h2⟩
  rw [run_sliceAt_slice (P := Try.prog) (h := Try.u27)]
  exact h1 W
theorem rem3 {b n : Nat} (hb : b < 256) (hn : 0 < n) (hn2 : n < 100000) (W : World) : (binOp .rem 3 (.int .i64 (b : Int)) (.int .i64 (n : Int))).run Try.prog W = .ok (.int .i64 ((b % n : Nat) : Int)) W := by
  have h0 : ¬ ((n : Int) = 0) := by omega
  go_simp
  rw [if_neg (by omega), Int.tmod_eq_emod_of_nonneg (by omega)]
/-! ### plain -/
theorem addE_of {L : List O} {o : O} (ho : rO o = true) (hn : hasO L o.t o.r = false) : addE 0 0 L o = 0 := by
  unfold addE
  rw [if_neg (by rw [ho]; simp), if_neg ?_, if_neg (by rw [hn]; simp)]
  have ht : 1 ≤ o.t := by
    unfold rO rB St.rightB St.rT at ho
    simp only [Bool.and_eq_true, decide_eq_true_eq] at ho
    omega
  unfold St.cmpS Lib.compareInt
  rw [if_neg (by omega)]
  split
  · omega
  · split <;> omega
def One (l : List O) : Prop := l.Pairwise (fun a b => ¬ (a.t = b.t ∧ a.r = b.r))
theorem One.perm {l m : List O} (h : One l) (hp : l.Perm m) : One m := by
  unfold One at *
  exact (List.Perm.pairwise_iff (R := fun (a b : O) => ¬ (a.t = b.t ∧ a.r = b.r)) (fun {x y} hh e => hh ⟨e.1.symm, e.2.symm⟩) hp).1 h
/-- What is still to come is not there. -/
theorem fresh {u K A B L : List O} {x : O} (hu : One u) (hp : (K ++ (A ++ x :: B)).Perm u) (hm : ∀ y ∈ L, y ∈ K) : hasO L x.t x.r = false := by
  have h := hu.perm hp.symm
  have h := (List.pairwise_append.1 h).2.2
  refine List.any_eq_false.2 (fun a ha => ?_)
  have := h a (hm a ha) x (by simp)
  simpa using this
theorem perm_take {u K A B : List O} {x : O} (hp : (K ++ (A ++ x :: B)).Perm u) : ((x :: K) ++ (A ++ B)).Perm u := by
  refine List.Perm.trans ?_ hp
  have h1 : (x :: K ++ (A ++ B)).Perm (K ++ x :: (A ++ B)) := List.perm_middle.symm
  exact h1.trans (List.Perm.append_left K List.perm_middle.symm)
theorem split_at {α : Type} {l : List α} {k : Nat} {x : α} (h : l[k]? = some x) : l = l.take k ++ x :: l.drop (k + 1) := by
  obtain ⟨h1, h2⟩ := List.getElem?_eq_some_iff.1 h
  rw [← h2, ← List.drop_eq_getElem_cons h1, List.take_append_drop]
/-- How long a slice is. -/
def slLen : Value → Nat
  | .slice _ n _ => n
  | _ => 0
/-- Members of a tree's log, and how many. -/
structure LM (L K u : List O) : Prop where
  lg : LG L K.length
  mem : ∀ y, y ∈ L ↔ y ∈ K
  right : ∀ o ∈ u, rO o = true ∧ OkO o
theorem LM.put {L K u A B : List O} {x : O} (h : LM L K u) (hu : One u) (hp : (K ++ (A ++ x :: B)).Perm u) : addE 0 0 L x = 0 ∧ LM (putO L x) (x :: K) u := by
  have hx : x ∈ u := hp.subset (by simp)
  obtain ⟨h1, h2⟩ := h.right x hx
  have he := addE_of h1 (fresh hu hp (fun y hy => (h.mem y).1 hy))
  refine ⟨he, h.lg.put h2 he, fun y => ?_, h.right⟩
  rw [put_mem, List.mem_cons, h.mem]
theorem LM.end {L1 L2 K1 K2 u : List O} (h1 : LM L1 K1 u) (h2 : LM L2 K2 u) (p1 : K1.Perm u) (p2 : K2.Perm u) : L1 = L2 :=
  riseO_ext h1.lg.rise h2.lg.rise (fun y => by rw [h1.mem, h2.mem, p1.mem_iff, p2.mem_iff])
end Go.Proofs.Ytkmeceoilighiaa
