/- No hold: Base, Known, All, Time of a nil hold. -/
import Derived.Test.YtgnnpfainoppeaaDoorVD
import Derived.Test.YtgnnpfainoppeaaDoorVV
import Derived.Test.YtgnnpfainoppeaaDoorQG
set_option linter.unusedVariables false
set_option linter.unusedSimpArgs false
set_option maxRecDepth 100000
namespace Go.Proofs.YtgnnpfainoppeaaDoor
open Go.RowKit
open Ve

theorem build_va (W : World) : (Instr.build 27 #[]).run Tryd.prog W = .ok (.agg (va zs)) W := by
  have h := (zero_of_info z24).1 W
  have ht : Tryd.prog.underlying 27 = some (.array 64 3) := by kernel_rfl
  unfold Instr.build
  rw [Sem.run_bind, h]
  simp [run_underlying ht, Instr.fill, vw, Value.cells, Sem.run_bind]
theorem wpList_build_arr {P : Program} {w : World} {ops : Array Oper} {rest : List Oper} {o : Oper} {a : Act} {Q : Exit → Act → World → Prop} (hgd : o.guard = none) (ty : TypeId)
    (ho : o.op = .build ty #[]) (u : Value) (hr : (Instr.build ty #[]).run P w = .ok u w)
    (h : wpList P ops Q rest (a.put o.dst u) w) : wpList P ops Q (o :: rest) a w :=
  wpList_plain hgd fun _ hK => by
    unfold Oper.wp execOp
    simp only [ho, List.map_toArray, List.map_nil, hr, Sem.run_bind, Sem.run_pure, Result.andThen_ok]
    exact hK _ _ h
set_option maxHeartbeats 1600000 in
theorem base_nil (w : World) : Calls Tryd.prog 26 #[.pointer none] w fun e w' => e = .returned (vw zs) ∧ Below w.heap.size w w' := by
  have AZ := Lib.hid (alloc_va z24 w)
  have BZ := Lib.hid (fun W => build_va W)
  have X := Lib.hid ((Below.refl w.heap.size w).alloc (Nat.le_refl _) (.cells (va zs) 27))
  have RW := Lib.hid (show (w.alloc (.cells (va zs) 27)).heap[w.heap.size]? = some (.cells (va zs) 27 (0, 0)) from heap_alloc_new w _)
  have ST := Lib.hid (store_va v24 (w.alloc (.cells (va zs) 27)) w.heap.size (va zs) (by rw [va_size, zs_len]) zs zs_len RW.out)
  go_enter Tryd.func26, Tryd.ntmps26
  go_wp2_with (first | refine wpList_alloc_arr rfl 27 rfl _ _ AZ.out ?_ | refine wpList_build_arr rfl 27 rfl _ (BZ.out _) ?_ | refine wpList_store_arr rfl (.tmp 2) (.tmp 5) 27 rfl _ _ rfl rfl _ ST.out ?_ |
    refine bodyPost_ret (ret_va (b := w.heap.size) rfl v24 zs_len rfl (setRow_heap _ _ _ _ _ _ RW.out)) rfl ⟨rfl, below_setRow X.out (Nat.le_refl _) _⟩)
set_option maxHeartbeats 3200000 in
theorem known_nil (w : World) : Calls Tryd.prog 24 #[.pointer none] w fun e w' => e = .returned (vw zs) ∧ Below w.heap.size w w' := by
  have AZ := Lib.hid (alloc_va z24 w)
  have RW := Lib.hid (show (w.alloc (.cells (va zs) 27)).heap[w.heap.size]? = some (.cells (va zs) 27 (0, 0)) from heap_alloc_new w _)
  have SZ := Lib.hid (show (w.alloc (.cells (va zs) 27)).heap.size = w.heap.size + 1 by simp)
  have X := Lib.hid ((Below.refl w.heap.size w).alloc (Nat.le_refl _) (.cells (va zs) 27))
  generalize hW : w.alloc (.cells (va zs) 27) = W0 at *
  have BN := Lib.hid (base_nil W0)
  have HU := Lib.hid (show vw zs = .agg (va zs) from rfl)
  rw [HU.out] at BN
  clear hW
  go_enter Tryd.func24, Tryd.ntmps24
  go_wp2_with (first | refine wpList_alloc_arr rfl 27 rfl _ _ AZ.out ?_)
  refine BN.out.mono ?_
  rintro e w1 ⟨rfl, hb1⟩
  have R1 := Lib.hid ((hb1.block _ (by rw [SZ.out]; omega)).trans RW.out)
  have G1 := Lib.hid (show w.heap.size + 1 ≤ w1.heap.size from by have := hb1.size; rw [SZ.out] at this; exact this)
  have X1 := Lib.hid (X.out.trans (hb1.mono (by rw [SZ.out]; omega)))
  clear hb1 BN
  have A1 := Lib.hid (alloc_va z24 w1)
  have N1 := Lib.hid (heap_alloc_new w1 (.cells (va zs) 27))
  have O1 := Lib.hid (show (w1.alloc (.cells (va zs) 27)).heap[w.heap.size]? = some (.cells (va zs) 27 (0, 0)) from (((Below.refl w1.heap.size w1).alloc (Nat.le_refl _) (.cells (va zs) 27)).block _ (by have := G1.out; omega)).trans R1.out)
  have ST := Lib.hid (store_va v24 (w1.alloc (.cells (va zs) 27)) w1.heap.size (va zs) (by rw [va_size, zs_len]) zs zs_len N1.out)
  have R2 := Lib.hid (setRow_heap _ _ _ (va zs) _ _ N1.out)
  have O2 := Lib.hid (show ((w1.alloc (.cells (va zs) 27)).setRow w1.heap.size (va zs)).heap[w.heap.size]? = some (.cells (va zs) 27 (0, 0)) from (setRow_other _ _ _ _ (by have := G1.out; omega)).trans O1.out)
  have LD := Lib.hid (load_va v24 ((w1.alloc (.cells (va zs) 27)).setRow w1.heap.size (va zs)) w1.heap.size zs zs_len R2.out)
  have S2 := Lib.hid (store_va v24 ((w1.alloc (.cells (va zs) 27)).setRow w1.heap.size (va zs)) w.heap.size (va zs) (by rw [va_size, zs_len]) zs zs_len O2.out)
  have R3 := Lib.hid (setRow_heap _ _ _ (va zs) _ _ O2.out)
  have X3 := Lib.hid (below_setRow (below_setRow (X1.out.alloc (by have := G1.out; omega) (.cells (va zs) 27)) (g := w1.heap.size) (by have := G1.out; omega) (va zs)) (g := w.heap.size) (Nat.le_refl _) (va zs))
  go_wp2_with (first | refine wpList_alloc_arr rfl 27 rfl _ _ A1.out ?_ | refine wpList_store_arr rfl (.tmp 3) (.tmp 7) 27 rfl _ _ rfl rfl _ ST.out ?_ | refine wpList_load_arr rfl (.tmp 3) 27 rfl _ _ rfl LD.out ?_ | refine wpList_store_arr rfl (.tmp 2) (.tmp 26) 27 rfl _ _ rfl rfl _ S2.out ?_ |
    refine bodyPost_ret (ret_va (b := w.heap.size) rfl v24 zs_len rfl R3.out) rfl ⟨rfl, X3.out⟩)
end Go.Proofs.YtgnnpfainoppeaaDoor
