/- GapNobody's law. -/
import Derived.Test.YtgnnpfainoppeaaGV
set_option linter.unusedVariables false
set_option linter.unusedSimpArgs false
set_option maxRecDepth 100000
namespace Go.Proofs.Ytgnnpfainoppeaa
open Go.RowKit Go.WideMaps Go.Maps Go.WideShapes Go.ChangeMaps
open Ve (zs zs_len vw va RightP cs3 cs3_append)

theorem wpList_build_arrG {w : World} {ops : Array Oper} {rest : List Oper} {o : Oper} {a : Act} {Q : Exit → Act → World → Prop} (hw : Region.wanted o (yielded ops a.tmps) = true) (ty : TypeId)
    (ho : o.op = .build ty #[]) (u : Value) (hr : (Instr.build ty #[]).run Try.prog w = .ok u w)
    (h : wpList Try.prog ops Q rest (a.put o.dst u) w) : wpList Try.prog ops Q (o :: rest) a w :=
  BigFrame.wpList_want hw fun _ hK => by
    unfold Oper.wp execOp
    simp only [ho, List.map_toArray, List.map_nil, hr, Sem.run_bind, Sem.run_pure, Result.andThen_ok]
    exact hK _ _ h
structure Nob (w W : World) (o : O) : Prop where
  bel : Below w.heap.size w W
  o : W.heap[w.heap.size]? = some (.cells (oCells o) 35 (0, 0))
  z : W.heap[w.heap.size + 1]? = some (.cells #[.map none] 60 (0, 0))
  sl : W.heap[w.heap.size + 2]? = some (.cells #[.pointer none, pv (w.heap.size + 1)] 25 (0, 0))
theorem Nob.step {w W W' : World} {o : O} (h : Nob w W o) (hb : Below W.heap.size W W') : Nob w W' o :=
  ⟨h.bel.trans (hb.mono h.bel.size), (hb.block _ (lt_of_block h.o)).trans h.o, (hb.block _ (lt_of_block h.z)).trans h.z, (hb.block _ (lt_of_block h.sl)).trans h.sl⟩
theorem Nob.new (w : World) (o : O) : Nob w (((w.alloc (.cells (oCells o) 35)).alloc (.cells #[.map none] 60)).alloc (.cells #[.pointer none, pv (w.heap.size + 1)] 25)) o := by
  have B1 := vstep w (.cells (oCells o) 35)
  have B2 := vstep (w.alloc (.cells (oCells o) 35)) (.cells #[.map none] 60)
  have B3 := vstep ((w.alloc (.cells (oCells o) 35)).alloc (.cells #[.map none] 60)) (.cells #[.pointer none, pv (w.heap.size + 1)] 25)
  have s1 : (w.alloc (.cells (oCells o) 35)).heap.size = w.heap.size + 1 := by simp
  have s2 : ((w.alloc (.cells (oCells o) 35)).alloc (.cells #[.map none] 60)).heap.size = w.heap.size + 2 := by simp
  refine ⟨(B1.trans (B2.mono (by omega))).trans (B3.mono (by omega)), ?_, ?_, ?_⟩
  · exact (B3.block _ (by omega)).trans ((B2.block _ (by omega)).trans (heap_alloc_new w _))
  · have := heap_alloc_new (w.alloc (.cells (oCells o) 35)) (.cells #[.map none] 60)
    rw [s1] at this
    exact (B3.block _ (by omega)).trans this
  · have := heap_alloc_new ((w.alloc (.cells (oCells o) 35)).alloc (.cells #[.map none] 60)) (.cells #[.pointer none, pv (w.heap.size + 1)] 25)
    rw [s2] at this
    exact this
theorem Nob.at {w W : World} {o : O} (h : Nob w W o) {i : Nat} (hi : i < 2) : ∃ u, W.cell? ⟨w.heap.size + 2, i, none⟩ = some u ∧ Dead W u := by
  obtain rfl | rfl : i = 0 ∨ i = 1 := by omega
  · exact ⟨.pointer none, by rw [cell_of_row _ _ _ _ _ _ h.sl]; rfl, .inl rfl⟩
  · exact ⟨pv (w.heap.size + 1), by rw [cell_of_row _ _ _ _ _ _ h.sl]; rfl, .inr ⟨_, rfl, h.z⟩⟩
set_option maxHeartbeats 6400000 in
theorem nobody_law (w : World) (o : O) (n : Int) :
    Calls Try.prog 5 #[oV o, .int .i64 n] w fun e w' => e = .returned (.bool true) ∧ Below w.heap.size w w' := by
  have N0 := Lib.hid (Nob.new w o)
  have BZ := Lib.hid (fun W => build_va W)
  have AW := Lib.hid (fun W => awake_any W)
  have HO := Lib.hid (show oV o = .agg (oCells o) from rfl)
  rw [HO.out]
  obtain ⟨A, hA⟩ : ∃ A, oCells o = A := ⟨_, rfl⟩
  rw [hA] at N0
  have HA := Lib.hid hA
  rw [hA]
  clear hA
  go_enter Try.func5, Try.ntmps5
  go_upto_region 4 with fail
  obtain ⟨w1, hw1⟩ : ∃ y, ((w.alloc (.cells A 35)).alloc (.cells #[.map none] 60)).alloc (.cells #[.pointer none, .pointer (some ⟨w.heap.size + 1, 0, none⟩)] 25) = y := ⟨_, rfl⟩
  have e1 : ((w.alloc (.cells A 35)).alloc (.cells #[.map none] 60)).alloc (.cells #[.pointer none, pv (w.heap.size + 1)] 25) = w1 := hw1
  rw [e1] at N0
  rw [hw1]
  clear hw1 e1
  have AD := Lib.hid (fun W u (h : Dead W u) => add_dead W u h o)
  have RD := Lib.hid (fun W u (h : Dead W u) => ready_dead W u h n)
  have LD := Lib.hid (fun W u (h : Dead W u) => lacks_dead W u h)
  have ND := Lib.hid (fun W u (h : Dead W u) => len_dead W u h)
  have WD := Lib.hid (fun W u (h : Dead W u) => all_dead W u h)
  have LO := Lib.hid (fun W (h : Nob w W o) => ldBox h.o)
  obtain ⟨VZ, hVZ⟩ : ∃ z, va zs = z := ⟨_, rfl⟩
  obtain ⟨OV, hOV⟩ : ∃ z, oV o = z := ⟨_, rfl⟩
  rw [hVZ] at BZ AD RD LD
  rw [hOV] at AD LO
  clear hVZ hOV HO
  go_loopw [7] (fun kv wr => ∃ i : Nat, kv = .int .i64 i ∧ i ≤ 2 ∧ Hid (Nob w wr o)) (fun kv _ => 2 - (intOf kv).toNat)
  case atStart => exact ⟨0, rfl, Nat.zero_le _, N0⟩
  case round =>
    obtain ⟨i, rfl, hi, hJ⟩ := hrel
    by_cases hlt : i < 2
    · obtain ⟨u, hu, hd⟩ := hJ.out.at hlt
      have D0 := Lib.hid hd
      have LO0 := Lib.hid (LO.out _ hJ.out)
      clear hd N0
      go_wp2_with (first | refine wpList_build_arr rfl 29 rfl _ (BZ.out _) ?_ | (refine wpList_ld rfl (.tmp 2) 35 rfl (pvo w.heap.size 0) OV rfl LO0.out ?_; simp only [Act.put, List.setIfInBounds_toArray, List.set_cons_zero, List.set_cons_succ]))
      refine (AD.out _ u D0.out).mono ?_
      rintro e w2 ⟨rfl, hb⟩
      have J2 := Lib.hid (hJ.out.step hb)
      have D2 := Lib.hid (D0.out.step hb)
      clear hb hJ D0 LO0 hu
      go_wp2_with (first | refine wpList_build_arrG rfl 29 rfl _ (BZ.out _) ?_)
      refine (RD.out _ u D2.out).mono ?_
      rintro e w3 ⟨a3, c3, rfl, hb⟩
      have J3 := Lib.hid (J2.out.step hb)
      have D3 := Lib.hid (D2.out.step hb)
      clear hb J2 D2
      go_wp2_with (first | refine wpList_build_arrG rfl 29 rfl _ (BZ.out _) ?_)
      refine (LD.out _ u D3.out).mono ?_
      rintro e w4 ⟨a4, c4, rfl, hb⟩
      have J4 := Lib.hid (J3.out.step hb)
      have D4 := Lib.hid (D3.out.step hb)
      clear hb J3 D3
      go_wp2_with fail
      refine (ND.out _ u D4.out).mono ?_
      rintro e w5 ⟨rfl, rfl⟩
      go_wp2_with fail
      refine (WD.out _ u D4.out).mono ?_
      rintro e w6 ⟨a6, c6, rfl, hb⟩
      have J6 := Lib.hid (J4.out.step hb)
      clear hb J4 D4
      go_wp2
      go_roundw
      case rel => exact ⟨i + 1, by go_num, by omega, J6⟩
      case measure => simp [intOf]; omega
    · have h2 : i = 2 := by omega
      subst h2
      go_wp2_with fail
      refine (AW.out _).mono ?_
      rintro e w2 ⟨rfl, hb⟩
      have FIN := Lib.hid (hJ.out.bel.trans (hb.mono hJ.out.bel.size))
      clear hb
      go_wp2
      go_returns
      exact ⟨rfl, FIN.out⟩
end Go.Proofs.Ytgnnpfainoppeaa
