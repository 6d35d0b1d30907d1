/- A vector as sixty-four numbers; its box; how a walk reads it. -/
import Derived.Test.YtgnnpfainoppeaaChecked
import Derived.Test.YtgnnpfainoppeaaProg
import Derived.WalkKit
import Derived.WalkSpells
import Derived.Lib.Hide
import Derived.Lib.Walk
import Derived.OneCell
import Derived.LoopTactic
import Derived.Deep.Cut
import Derived.Outline
import Derived.Handy
import Derived.RegionTactic
import Derived.BigQuiet
import Derived.Deep.QuietTactic
import Derived.Deep.MidRow
import Derived.Below
set_option linter.unusedVariables false
namespace Go.Proofs.Ytgnnpfainoppeaa.Ve
open Go.RowKit

def va (l : List Int) : Array Value := (l.map (Value.int .i64)).toArray
def vw (l : List Int) : Value := .agg (va l)
theorem va_get (l : List Int) (i : Nat) (x : Int) (h : l[i]? = some x) : (va l)[i]? = some (.int .i64 x) := by
  unfold va
  rw [List.getElem?_toArray, List.getElem?_map, h]; rfl
theorem va_size (l : List Int) : (va l).size = l.length := by unfold va; simp
theorem va_len (l : List Int) (hl : l.length = 64) (i : Nat) (hi : i < 64) : ∃ x, l[i]? = some x := ⟨l[i]'(by omega), List.getElem?_eq_getElem _⟩
/-- An array of sixty-four numbers. -/
def V64 (ty : TypeId) : Prop := (∃ e, Try.prog.underlying ty = some (.array 64 e)) ∧ (Try.prog.info? ty).map (·.size) = some 64
theorem v24 : V64 29 := ⟨⟨3, by kernel_rfl⟩, by kernel_rfl⟩
theorem load_va {ty : TypeId} (ht : V64 ty) (W : World) (b : Nat) (l : List Int) (hl : l.length = 64) (h : W.heap[b]? = some (.cells (va l) ty (0, 0))) :
    (Instr.loadAt ty (.pointer (some ⟨b, 0, none⟩))).run Try.prog W = .ok (.agg (va l)) W := by
  have e : va l = (l.map (Value.int .i64)).toArray := rfl
  rw [e] at h ⊢
  obtain ⟨⟨t, ht⟩, hs⟩ := ht
  refine run_loadAt_mid W b 0 ty (l.map (Value.int .i64)) (.array 64 t) ?_ ht rfl (by rw [hs, List.length_map, hl])
  intro j v hv
  rw [cell_of_row W b _ _ _ _ h, Nat.zero_add, List.getElem?_toArray]
  exact hv
theorem cell_va {W : World} {b : Nat} {ty : TypeId} {l : List Int} (h : W.heap[b]? = some (.cells (va l) ty (0, 0))) {i : Nat} {x : Int} (hx : l[i]? = some x) : W.cell? ⟨b, i, none⟩ = some (.int .i64 x) := by
  rw [cell_of_row W b _ _ _ _ h, va_get l i x hx]
theorem elem24 : (Try.prog.info? 3).map (·.size) = some 1 := by kernel_rfl
theorem index_va (W : World) (A : Array Value) (hA : A.size = 64) (i : Nat) (hi : i < 64) (x : Int) (hu : A[i]? = some (.int .i64 x)) : (Instr.index 29 (.agg A) (.int .i64 (i : Int))).run Try.prog W = .ok (.int .i64 x) W := by
  have hp : (0 : Int) ≤ (i : Int) ∧ (i : Int) < ((64 : Nat) : Int) := by omega
  have ht : Try.prog.underlying 29 = some (.array 64 3) := by kernel_rfl
  cases hq : Try.prog.info? 3 with
  | none => have := elem24; rw [hq] at this; simp at this
  | some j =>
    have hs : j.size = 1 := by have := elem24; rw [hq] at this; simpa using this
    simp [Instr.index, run_underlying ht, asIntOf, hp, sizeOf, typeInfo, hq, hs, go_sem]
    rw [if_pos hi, hu]
    rfl
theorem wpList_load_arr {P : Program} {w : World} {ops : Array Oper} {rest : List Oper} {o : Oper} {a : Act} {Q : Exit → Act → World → Prop} (hgd : o.guard = none) (x : Operand) (ty : TypeId)
    (ho : o.op = .load ty x) (v u : Value) (hx : a.eval x = v) (hl : (Instr.loadAt ty v).run P w = .ok u w)
    (h : wpList P ops Q rest (a.put o.dst u) w) : wpList P ops Q (o :: rest) a w :=
  wpList_plain hgd fun _ hK => by
    unfold Oper.wp execOp
    simp only [ho, hx, hl, Sem.run_bind, Sem.run_pure, Result.andThen_ok]
    exact hK _ _ h
end Go.Proofs.Ytgnnpfainoppeaa.Ve


