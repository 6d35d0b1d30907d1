/- No hold: Trim and Get of a nil hold. -/
import Derived.Test.YtgnnpfainoppeaaDoorHB
set_option linter.unusedVariables false
set_option linter.unusedSimpArgs false
set_option maxRecDepth 100000
namespace Go.Proofs.YtgnnpfainoppeaaDoor
open Go.RowKit
open Ve

set_option maxHeartbeats 1600000 in
theorem trim_nil (w : World) (l : List Int) (t r : Int) : Calls Tryd.prog 15 #[.pointer none, vw l, .agg #[.int .i64 t, .int .i64 r]] w fun e w' => e = .returned (.int .i64 0) ∧ Below w.heap.size w w' := by
  have X := Lib.hid (((Below.refl w.heap.size w).alloc (Nat.le_refl _) (.cells (va l) 27)).alloc (by simp) (.cells #[.int .i64 t, .int .i64 r] 38))
  have HU := Lib.hid (show vw l = .agg (va l) from rfl)
  rw [HU.out]
  generalize va l = A at *
  clear HU
  go_enter Tryd.func15, Tryd.ntmps15
  go_wp2
  go_returns
  exact ⟨rfl, X.out⟩
/-- An op stored whole into a box of its own; a result that lies there. -/
theorem store_o (W : World) (b : Nat) (p o : O) (h : W.heap[b]? = some (.cells (oCells p) 40 (0, 0))) :
    (Instr.storeAt 40 (.pointer (some ⟨b, 0, none⟩)) (oV o)).run Tryd.prog W = .ok () (W.setRow b (oCells o)) := by
  have := run_storeVar_row (P := Tryd.prog) W b 40 40 (oCells p) (oCells o) h (show (Tryd.prog.info? 40).map (·.size) = some 9 by kernel_rfl) rfl (Array.all_eq_true_iff_forall_mem.2 (fun v hv => oc_one o v (by unfold oc; simpa using hv)))
  unfold oV
  simp only [Instr.storeAt, Instr.sureAddr, Sem.run_bind, Sem.run_pure, Result.andThen_ok, this]
set_option maxHeartbeats 1600000 in
theorem get_nil (w : World) (r s : Int) : Calls Tryd.prog 17 #[.pointer none, .int .i64 r, .int .i64 s] w fun e w' => e = .returned (.tuple #[oV O0, .bool false]) ∧ Below w.heap.size w w' := by
  have P := Lib.hid (fun W => part_nil W r s s)
  have X := Lib.hid ((Below.refl w.heap.size w).alloc (Nat.le_refl _) (.cells (oCells O0) 40))
  have RW := Lib.hid (heap_alloc_new w (.cells (oCells O0) 40))
  have SZ := Lib.hid (show (w.alloc (.cells (oCells O0) 40)).heap.size = w.heap.size + 1 by simp)
  have ST := Lib.hid (fun W (h : W.heap[w.heap.size]? = some (.cells (oCells O0) 40 (0, 0))) => store_o W w.heap.size O0 O0 h)
  go_enter Tryd.func17, Tryd.ntmps17
  go_wp2_with fail
  refine (P.out _).mono ?_
  rintro e w1 ⟨rfl, h1⟩
  have X1 := Lib.hid (X.out.trans (h1.mono (by have := SZ.out; exact Nat.le_trans (Nat.le_succ _) (Nat.le_of_eq this.symm))))
  have R1 := Lib.hid ((h1.block w.heap.size (by have := SZ.out; exact Nat.lt_of_lt_of_eq (Nat.lt_succ_self _) this.symm)).trans RW.out)
  clear h1
  have S1 := Lib.hid (ST.out w1 R1.out)
  have R2 := Lib.hid (setRow_heap _ _ _ (oCells O0) _ _ R1.out)
  have X2 := Lib.hid (below_setRow X1.out (g := w.heap.size) (Nat.le_refl _) (oCells O0))
  have d0 := (cell_of_row _ _ 0 _ _ _ R2.out).trans (show (oCells O0)[0]? = some (.int .i64 0) from rfl)
  have d1 := (cell_of_row _ _ 1 _ _ _ R2.out).trans (show (oCells O0)[1]? = some (.int .i64 0) from rfl)
  have d2 := (cell_of_row _ _ 2 _ _ _ R2.out).trans (show (oCells O0)[2]? = some (.int .i64 0) from rfl)
  have d3 := (cell_of_row _ _ 3 _ _ _ R2.out).trans (show (oCells O0)[3]? = some (.int .i64 0) from rfl)
  have d4 := (cell_of_row _ _ 4 _ _ _ R2.out).trans (show (oCells O0)[4]? = some (.int .i64 0) from rfl)
  have d5 := (cell_of_row _ _ 5 _ _ _ R2.out).trans (show (oCells O0)[5]? = some (.int .i64 0) from rfl)
  have d6 := (cell_of_row _ _ 6 _ _ _ R2.out).trans (show (oCells O0)[6]? = some (.int .i64 0) from rfl)
  have d7 := (cell_of_row _ _ 7 _ _ _ R2.out).trans (show (oCells O0)[7]? = some (.string ⟨#[]⟩) from rfl)
  have d8 := (cell_of_row _ _ 8 _ _ _ R2.out).trans (show (oCells O0)[8]? = some (.bool false) from rfl)
  go_wp2_with (first | refine wpList_store_arr rfl (.tmp 6) (.tmp 18) 40 rfl _ _ rfl rfl _ S1.out ?_ | refine bodyPost_ret (by simp [results, Tryd.results17, go_sem, d0, d1, d2, d3, d4, d5, d6, d7, d8]; try rfl) rfl ⟨rfl, X2.out⟩)
end Go.Proofs.YtgnnpfainoppeaaDoor
