/- Arrays of sixty-four numbers. Made by genvv15.py. -/
import Derived.Test.YtbeodechhneeeaaGreatDoorFR
import Derived.WalkKit
import Derived.WalkSpells
import Derived.Lib.Hide
import Derived.Lib.Walk
import Derived.OneCell
import Derived.LoopTactic
import Derived.Deep.Cut
import Derived.Outline
import Derived.Handy
import Derived.RegionTactic
import Derived.BigQuiet
import Derived.Deep.QuietTactic
import Derived.Deep.MidRow
import Derived.Below
import Derived.Deep.WholeRow
set_option linter.unusedVariables false
namespace Go.Proofs.YtbeodechhneeeaaGreatDoor.Vx
open Go.RowKit

def va (l : List Int) : Array Value := (l.map (Value.int .i64)).toArray
def vw (l : List Int) : Value := .agg (va l)
theorem va_get (l : List Int) (i : Nat) (x : Int) (h : l[i]? = some x) : (va l)[i]? = some (.int .i64 x) := by
  unfold va
  rw [List.getElem?_toArray, List.getElem?_map, h]; rfl
theorem va_size (l : List Int) : (va l).size = l.length := by unfold va; simp
theorem va_len (l : List Int) (hl : l.length = 64) (i : Nat) (hi : i < 64) : ∃ x, l[i]? = some x := ⟨l[i]'(by omega), List.getElem?_eq_getElem _⟩
/-- An array of sixty-four numbers. -/
def V64 (ty : TypeId) : Prop := (∃ e, Tryz.prog.underlying ty = some (.array 64 e)) ∧ (Tryz.prog.info? ty).map (·.size) = some 64
theorem v24 : V64 52 := ⟨⟨3, by kernel_rfl⟩, by kernel_rfl⟩
theorem v26 : V64 51 := ⟨⟨3, by kernel_rfl⟩, by kernel_rfl⟩
theorem load_va {ty : TypeId} (ht : V64 ty) (W : World) (b : Nat) (l : List Int) (hl : l.length = 64) (h : W.heap[b]? = some (.cells (va l) ty (0, 0))) :
    (Instr.loadAt ty (.pointer (some ⟨b, 0, none⟩))).run Tryz.prog W = .ok (.agg (va l)) W := by
  have e : va l = (l.map (Value.int .i64)).toArray := rfl
  rw [e] at h ⊢
  obtain ⟨⟨t, ht⟩, hs⟩ := ht
  refine run_loadAt_mid W b 0 ty (l.map (Value.int .i64)) (.array 64 t) ?_ ht rfl (by rw [hs, List.length_map, hl])
  intro j v hv
  rw [cell_of_row W b _ _ _ _ h, Nat.zero_add, List.getElem?_toArray]
  exact hv
theorem cell_va {W : World} {b : Nat} {ty : TypeId} {l : List Int} (h : W.heap[b]? = some (.cells (va l) ty (0, 0))) {i : Nat} {x : Int} (hx : l[i]? = some x) : W.cell? ⟨b, i, none⟩ = some (.int .i64 x) := by
  rw [cell_of_row W b _ _ _ _ h, va_get l i x hx]
theorem elem24 : (Tryz.prog.info? 3).map (·.size) = some 1 := by kernel_rfl
theorem index_va (W : World) (A : Array Value) (hA : A.size = 64) (i : Nat) (hi : i < 64) (x : Int) (hu : A[i]? = some (.int .i64 x)) : (Instr.index 52 (.agg A) (.int .i64 (i : Int))).run Tryz.prog W = .ok (.int .i64 x) W := by
  have hp : (0 : Int) ≤ (i : Int) ∧ (i : Int) < ((64 : Nat) : Int) := by omega
  have ht : Tryz.prog.underlying 52 = some (.array 64 3) := by kernel_rfl
  cases hq : Tryz.prog.info? 3 with
  | none => have := elem24; rw [hq] at this; simp at this
  | some j =>
    have hs : j.size = 1 := by have := elem24; rw [hq] at this; simpa using this
    simp [Instr.index, run_underlying ht, asIntOf, hp, sizeOf, typeInfo, hq, hs, go_sem]
    rw [if_pos hi, hu]
    rfl
theorem wpList_load_arr {P : Program} {w : World} {ops : Array Oper} {rest : List Oper} {o : Oper} {a : Act} {Q : Exit → Act → World → Prop} (hgd : o.guard = none) (x : Operand) (ty : TypeId)
    (ho : o.op = .load ty x) (v u : Value) (hx : a.eval x = v) (hl : (Instr.loadAt ty v).run P w = .ok u w)
    (h : wpList P ops Q rest (a.put o.dst u) w) : wpList P ops Q (o :: rest) a w :=
  wpList_plain hgd fun _ hK => by
    unfold Oper.wp execOp
    simp only [ho, hx, hl, Sem.run_bind, Sem.run_pure, Result.andThen_ok]
    exact hK _ _ h
end Go.Proofs.YtbeodechhneeeaaGreatDoor.Vx


set_option linter.unusedVariables false
namespace Go.Proofs.YtbeodechhneeeaaGreatDoor.Vx
open Go.RowKit

def zs : List Int := List.replicate 64 0
theorem zs_len : zs.length = 64 := List.length_replicate
def Z64 (ty : TypeId) : Prop := (Tryz.prog.info? ty).map (fun i => (i.zero, i.size)) = some (some (vw zs), 64)
theorem z24 : Z64 52 := by unfold Z64; kernel_rfl
theorem alloc_va {ty : TypeId} (hz : Z64 ty) (W : World) : (Instr.alloc ty true (.tuple #[])).run Tryz.prog W = .ok (.pointer (some ⟨W.heap.size, 0, none⟩)) (W.alloc (.cells (va zs) ty)) := by
  have h := (zero_of_info hz).1 W
  unfold Instr.alloc
  rw [Sem.run_bind, h]
  simp [newVar, Value.cells, vw, go_sem]
theorem store_va {ty : TypeId} (ht : V64 ty) (W : World) (b : Nat) (old : Array Value) (hold : old.size = 64) (l : List Int) (hl : l.length = 64) (h : W.heap[b]? = some (.cells old ty (0, 0))) :
    (Instr.storeAt ty (.pointer (some ⟨b, 0, none⟩)) (.agg (va l))).run Tryz.prog W = .ok () (W.setRow b (va l)) := by
  have hs : (va l).size = 64 := by rw [va_size, hl]
  have := run_storeVar_row (P := Tryz.prog) W b ty ty old (va l) h (by rw [ht.2, hs]) (by rw [hold, hs]) (all_oneCell_toArray (fun v hv => by
    obtain ⟨x, _, rfl⟩ := List.mem_map.1 hv; rfl))
  simp only [Instr.storeAt, Instr.sureAddr, Sem.run_bind, Sem.run_pure, Result.andThen_ok, this]
theorem wpList_alloc_arr {P : Program} {w : World} {ops : Array Oper} {rest : List Oper} {o : Oper} {a : Act} {Q : Exit → Act → World → Prop} (hgd : o.guard = none) (ty : TypeId)
    (ho : o.op = .alloc ty) (u : Value) (w' : World) (hr : (Instr.alloc ty true (.tuple #[])).run P w = .ok u w')
    (h : wpList P ops Q rest (a.put o.dst u) w') : wpList P ops Q (o :: rest) a w :=
  wpList_plain hgd fun _ hK => by
    unfold Oper.wp execOp
    simp only [ho, hr, Sem.run_bind, Sem.run_pure, Result.andThen_ok]
    exact hK _ _ h
theorem wpList_store_arr {P : Program} {w : World} {ops : Array Oper} {rest : List Oper} {o : Oper} {a : Act} {Q : Exit → Act → World → Prop} (hgd : o.guard = none) (x y : Operand) (ty : TypeId)
    (ho : o.op = .store ty x y) (p v : Value) (hx : a.eval x = p) (hy : a.eval y = v) (w' : World) (hr : (Instr.storeAt ty p v).run P w = .ok () w')
    (h : wpList P ops Q rest (a.put o.dst undef) w') : wpList P ops Q (o :: rest) a w :=
  wpList_plain hgd fun _ hK => by
    unfold Oper.wp execOp
    simp only [ho, hx, hy, hr, Sem.run_bind, Sem.run_pure, Result.andThen_ok]
    exact hK _ _ h
theorem row_setC {w : World} {b j : Nat} {c : Array Value} {t : TypeId} {fz : Nat × Nat} {u : Value} (h : w.heap[b]? = some (.cells c t fz)) : (w.setCell ⟨b, j, none⟩ u).heap[b]? = some (.cells (c.setIfInBounds j u) t fz) := by
  have hlt := (Array.getElem?_eq_some_iff.1 h).1
  have h' : w.heap[b] = .cells c t fz := by simpa [Array.getElem?_eq_getElem hlt] using h
  show (w.heap.modify b _)[b]? = _
  rw [Array.getElem?_eq_getElem (by simpa using hlt), Array.getElem_modify_self, h']
  rfl
theorem va_set (l : List Int) (i : Nat) (x : Int) : (va l).setIfInBounds i (.int .i64 x) = va (l.set i x) := by
  unfold va
  rw [List.setIfInBounds_toArray, List.map_set]
theorem set_va {W : World} {b : Nat} {ty : TypeId} {l : List Int} (h : W.heap[b]? = some (.cells (va l) ty (0, 0))) (i : Nat) (x : Int) : (W.setCell ⟨b, i, none⟩ (.int .i64 x)).heap[b]? = some (.cells (va (l.set i x)) ty (0, 0)) := by
  rw [row_setC h, va_set]
theorem loadVar_va {ty : TypeId} (ht : V64 ty) (W : World) (b : Nat) (l : List Int) (hl : l.length = 64) (h : W.heap[b]? = some (.cells (va l) ty (0, 0))) :
    (loadVar ty ⟨b, 0, none⟩).run Tryz.prog W = .ok (vw l) W := by
  obtain ⟨e, he⟩ := ht.1
  exact run_loadVar_row (P := Tryz.prog) W b ty ty (va l) (0, 0) _ h he rfl (by rw [ht.2, va_size, hl])
theorem below_setRow {w W : World} (h : Below w.heap.size w W) {g : Nat} (hg : w.heap.size ≤ g) (cs : Array Value) : Below w.heap.size w (W.setRow g cs) :=
  h.trans ⟨rfl, rfl, rfl, by simp [World.setRow], fun k hk => setRow_other _ _ _ _ (by omega)⟩
theorem ret_va {fn : Func} {a b : Nat} {ty : TypeId} {tmps : Array Value} {w : World} {l : List Int} (hres : fn.results = #[.cell a ty]) (ht : V64 ty) (hl : l.length = 64)
    (hv : tmps.getD a undef = .pointer (some ⟨b, 0, none⟩)) (hb : w.heap[b]? = some (.cells (va l) ty (0, 0))) : (results fn tmps).run Tryz.prog w = .ok (vw l) w := by
  have := loadVar_va ht w b l hl hb
  have hv2 : tmps[a]?.getD undef = .pointer (some ⟨b, 0, none⟩) := by simpa using hv
  simp [results, hres, hv2, asAddr, this]
end Go.Proofs.YtbeodechhneeeaaGreatDoor.Vx



