/- A vector made, stored, handed back through a cell. -/
import Derived.Test.YtgnnpfainoppeaaVC
import Derived.Deep.WholeRow
set_option linter.unusedVariables false
namespace Go.Proofs.Ytgnnpfainoppeaa.Ve
open Go.RowKit

def zs : List Int := List.replicate 64 0
theorem zs_len : zs.length = 64 := List.length_replicate
def Z64 (ty : TypeId) : Prop := (Try.prog.info? ty).map (fun i => (i.zero, i.size)) = some (some (vw zs), 64)
theorem z24 : Z64 29 := by unfold Z64; kernel_rfl
theorem alloc_va {ty : TypeId} (hz : Z64 ty) (W : World) : (Instr.alloc ty true (.tuple #[])).run Try.prog W = .ok (.pointer (some ⟨W.heap.size, 0, none⟩)) (W.alloc (.cells (va zs) ty)) := by
  have h := (zero_of_info hz).1 W
  unfold Instr.alloc
  rw [Sem.run_bind, h]
  simp [newVar, Value.cells, vw, go_sem]
theorem store_va {ty : TypeId} (ht : V64 ty) (W : World) (b : Nat) (old : Array Value) (hold : old.size = 64) (l : List Int) (hl : l.length = 64) (h : W.heap[b]? = some (.cells old ty (0, 0))) :
    (Instr.storeAt ty (.pointer (some ⟨b, 0, none⟩)) (.agg (va l))).run Try.prog W = .ok () (W.setRow b (va l)) := by
  have hs : (va l).size = 64 := by rw [va_size, hl]
  have := run_storeVar_row (P := Try.prog) W b ty ty old (va l) h (by rw [ht.2, hs]) (by rw [hold, hs]) (all_oneCell_toArray (fun v hv => by
    obtain ⟨x, _, rfl⟩ := List.mem_map.1 hv; rfl))
  simp only [Instr.storeAt, Instr.sureAddr, Sem.run_bind, Sem.run_pure, Result.andThen_ok, this]
theorem wpList_alloc_arr {P : Program} {w : World} {ops : Array Oper} {rest : List Oper} {o : Oper} {a : Act} {Q : Exit → Act → World → Prop} (hgd : o.guard = none) (ty : TypeId)
    (ho : o.op = .alloc ty) (u : Value) (w' : World) (hr : (Instr.alloc ty true (.tuple #[])).run P w = .ok u w')
    (h : wpList P ops Q rest (a.put o.dst u) w') : wpList P ops Q (o :: rest) a w :=
  wpList_plain hgd fun _ hK => by
    unfold Oper.wp execOp
    simp only [ho, hr, Sem.run_bind, Sem.run_pure, Result.andThen_ok]
    exact hK _ _ h
theorem wpList_store_arr {P : Program} {w : World} {ops : Array Oper} {rest : List Oper} {o : Oper} {a : Act} {Q : Exit → Act → World → Prop} (hgd : o.guard = none) (x y : Operand) (ty : TypeId)
    (ho : o.op = .store ty x y) (p v : Value) (hx : a.eval x = p) (hy : a.eval y = v) (w' : World) (hr : (Instr.storeAt ty p v).run P w = .ok () w')
    (h : wpList P ops Q rest (a.put o.dst undef) w') : wpList P ops Q (o :: rest) a w :=
  wpList_plain hgd fun _ hK => by
    unfold Oper.wp execOp
    simp only [ho, hx, hy, hr, Sem.run_bind, Sem.run_pure, Result.andThen_ok]
    exact hK _ _ h
theorem row_setC {w : World} {b j : Nat} {c : Array Value} {t : TypeId} {fz : Nat × Nat} {u : Value} (h : w.heap[b]? = some (.cells c t fz)) : (w.setCell ⟨b, j, none⟩ u).heap[b]? = some (.cells (c.setIfInBounds j u) t fz) := by
  have hlt := (Array.getElem?_eq_some_iff.1 h).1
  have h' : w.heap[b] = .cells c t fz := by simpa [Array.getElem?_eq_getElem hlt] using h
  show (w.heap.modify b _)[b]? = _
  rw [Array.getElem?_eq_getElem (by simpa using hlt), Array.getElem_modify_self, h']
  rfl
theorem va_set (l : List Int) (i : Nat) (x : Int) : (va l).setIfInBounds i (.int .i64 x) = va (l.set i x) := by
  unfold va
  rw [List.setIfInBounds_toArray, List.map_set]
theorem set_va {W : World} {b : Nat} {ty : TypeId} {l : List Int} (h : W.heap[b]? = some (.cells (va l) ty (0, 0))) (i : Nat) (x : Int) : (W.setCell ⟨b, i, none⟩ (.int .i64 x)).heap[b]? = some (.cells (va (l.set i x)) ty (0, 0)) := by
  rw [row_setC h, va_set]
theorem loadVar_va {ty : TypeId} (ht : V64 ty) (W : World) (b : Nat) (l : List Int) (hl : l.length = 64) (h : W.heap[b]? = some (.cells (va l) ty (0, 0))) :
    (loadVar ty ⟨b, 0, none⟩).run Try.prog W = .ok (vw l) W := by
  obtain ⟨e, he⟩ := ht.1
  exact run_loadVar_row (P := Try.prog) W b ty ty (va l) (0, 0) _ h he rfl (by rw [ht.2, va_size, hl])
theorem below_setRow {w W : World} (h : Below w.heap.size w W) {g : Nat} (hg : w.heap.size ≤ g) (cs : Array Value) : Below w.heap.size w (W.setRow g cs) :=
  h.trans ⟨rfl, rfl, rfl, by simp [World.setRow], fun k hk => setRow_other _ _ _ _ (by omega)⟩
theorem ret_va {fn : Func} {a b : Nat} {ty : TypeId} {tmps : Array Value} {w : World} {l : List Int} (hres : fn.results = #[.cell a ty]) (ht : V64 ty) (hl : l.length = 64)
    (hv : tmps.getD a undef = .pointer (some ⟨b, 0, none⟩)) (hb : w.heap[b]? = some (.cells (va l) ty (0, 0))) : (results fn tmps).run Try.prog w = .ok (vw l) w := by
  have := loadVar_va ht w b l hl hb
  have hv2 : tmps[a]?.getD undef = .pointer (some ⟨b, 0, none⟩) := by simpa using hv
  simp [results, hres, hv2, asAddr, this]
end Go.Proofs.Ytgnnpfainoppeaa.Ve


