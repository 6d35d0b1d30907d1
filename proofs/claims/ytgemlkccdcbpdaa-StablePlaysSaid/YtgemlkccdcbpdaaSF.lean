/- take. -/
import Derived.Test.YtgemlkccdcbpdaaSE
import Derived.Test.YtgemlkccdcbpdaaVX
import Derived.Test.YtgemlkccdcbpdaaRH
set_option linter.unusedVariables false
namespace Go.Proofs.Ytgemlkccdcbpdaa
open Go.RowKit

section
variable {P : Program} {md : Region.Mode} {ops : Array Oper} {Q : Exit → Act → World → Prop} {S : World → Prop} {i fuel : Nat} {oi : Oper} {listed : Array Bool} {a : Act} {w : World}
theorem br_load (d : Nat) (ty : TypeId) (x : Operand) (p u : Value) {rs : List Nat} (hi : ops[i]? = some oi) (hd : oi.dst = some d) (hw : Region.wanted oi (yielded ops a.tmps) = true)
    (ho : oi.op = .load ty x) (hx : a.eval x = p) (hrun : (Instr.loadAt ty p).run P w = .ok u w) (hS : S w)
    (h : S w → wpAnyH P md ops Q S fuel (listed.setIfInBounds i true) (a.put (some d) u) w)
    (hrs : AllReadyH P md ops Q S fuel listed a w rs) : AllReadyH P md ops Q S fuel listed a w (i :: rs) := by
  refine AllReadyH.cons hi (fun K hK => ?_) hrs
  rw [if_pos hw]
  unfold Oper.wp execOp
  simp only [ho, hx, hrun, Sem.run_bind, Sem.run_pure, Result.andThen_ok]
  show K _ _
  rw [hd]
  exact hK.out _ _ hS h
end
theorem there_later {w w' : World} {k o n : Nat} (hk : k < w.heap.size) (h : w.there k o n) (hb : Below w.heap.size w w') : w'.there k o n := fun j hj =>
  ⟨by rw [hb.cell (p := ⟨k, o + j, none⟩) hk]; exact (h j hj).1, by rw [hb.frozen (p := ⟨k, o + j, none⟩) hk]; exact (h j hj).2⟩
theorem range_parts {w : World} {q off : Nat} {m : Mb} (hm : m.1.length = 64) (hr : w.rangeAt q off (mc m)) : w.rangeAt q off (m.1.map (Value.int .i64)) ∧ w.cell? ⟨q, off + 64, none⟩ = some (.int .i64 m.2) :=
  ⟨fun j v hj => hr j v (by unfold mc; rw [List.getElem?_append_left (List.getElem?_eq_some_iff.1 hj).1]; exact hj), hr 64 _ (by unfold mc; rw [List.getElem?_append_right (by rw [List.length_map, hm]; omega), List.length_map, hm]; rfl)⟩
theorem grown_cells {w w1 : World} {q : Nat} (h : w.grownBy w1 (some q)) : ∀ (vs : List Value) (o : Nat), w.grownBy (w1.setCells q o vs) (some q)
  | [], _ => h
  | v :: r, o => by
    rw [World.setCells]
    refine grown_cells (w1 := w1.setCell ⟨q, o, none⟩ v) ⟨h.os, h.tape, h.output, by simpa using h.size, fun k hk hne => ?_⟩ r (o + 1)
    exact (Below.heap_setCell _ _ _ _ (fun e => hne (by rw [e]))).trans (h.block k hk hne)
/-- What take leaves of all else. -/
structure Kept (w w' : World) (q off : Nat) : Prop where
  grown : w.grownBy w' (some q)
  row : ∀ o' cs, o' + cs.length ≤ off ∨ off + 65 ≤ o' → w.rangeAt q o' cs → w'.rangeAt q o' cs
  may : ∀ o' n, w.there q o' n → w'.there q o' n
set_option maxRecDepth 100000 in
set_option maxHeartbeats 1600000 in
theorem take_any (w : World) (q off : Nat) (m : Mb) (hm : m.1.length = 64) (hq : q < w.heap.size) (hr : w.rangeAt q off (mc m)) (ht : w.there q off 65) (l : List Int) (hl : l.length = 64) (t : Int) :
    Calls Try.prog 28 #[.pointer (some ⟨q, off, none⟩), vw l, .int .i64 t] w fun e w' => e = .returned (.tuple #[]) ∧ w'.rangeAt q off (mc (joinF [m.1, l], max m.2 t)) ∧ Kept w w' q off := by
  have X := Lib.hid (vstep w (.cells (va l) 34))
  have XB := Lib.hid (heap_alloc_new w (.cells (va l) 34))
  have HJ := Lib.hid (show (joinF [m.1, l]).length = 64 from jF_len (jF_len zs_len hm) hl)
  have LA := Lib.hid (fun (W : World) (h : W.rangeAt q off (m.1.map (Value.int .i64))) => load_mid hm h)
  have LB := Lib.hid (fun (W : World) (g : Nat) (h : VAt 34 W g l) => load_va v34 W g l hl h)
  have BS := Lib.hid (fun W => build_two W m.1 l hm hl)
  have JN := Lib.hid (fun (W : World) (g : Nat) (h : W.heap[g]? = some (.cells (va (m.1 ++ l)) 34 (0, 0))) => join_any W _ _ (two_at hm hl h) (by simp))
  unfold vw at *
  generalize joinF [m.1, l] = jj at *
  go_enter Try.func28, Try.ntmps28
  go_wp2_with fail
  obtain ⟨W1, hW1⟩ : ∃ y, w.alloc (.cells (va l) 34) = y := ⟨_, rfl⟩
  have HR1 := Lib.hid (range_later hq hr X.out)
  have HT1 := Lib.hid (there_later hq ht X.out)
  rw [hW1] at X XB HR1 HT1 ⊢
  have X0 := Lib.hid (X.out.trans ((below_drewN W1 1).mono X.out.size))
  obtain ⟨W0, hW0⟩ : ∃ y, W1.drew = y := ⟨_, rfl⟩
  have XB0 := Lib.hid (show VAt 34 W0 w.heap.size l by rw [← hW0]; exact XB.out)
  have HR0 := Lib.hid (show W0.rangeAt q off (mc m) by rw [← hW0]; exact fun j v hj => HR1.out j v hj)
  have HT0 := Lib.hid (show W0.there q off 65 by rw [← hW0]; exact fun j hj => HT1.out j hj)
  have R0 := Lib.hid (range_parts hm HR0.out)
  have B0 := Lib.hid (show Below w.heap.size w W0 by rw [← hW0]; exact X.out.drew)
  have hq0 := Lib.hid (Nat.lt_of_lt_of_le hq B0.out.size)
  go_cut [13] from 6 (fun jv wx => ∃ w3, Below W0.heap.size W0 w3 ∧ wx = w3.setCells q off (va jj).toList)
  case first =>
    refine wp_region_held_drew (S := fun _ => True) (by kernel_rfl) trivial (fun _ => ?_)
    rw [hW0]
    clear hW0 hW1 hr ht
    refine take_at (i := 0) 6 ?_ rfl rfl (by kernel_rfl) (by kernel_rfl) (by kernel_rfl) (fun _ _ _ h => h) (.inl ⟨rfl, ?_⟩) trivial ?_
    rotate_left 1
    · intro w hSw; go_simp; try with_reducible rfl
    simp only [Act.put, List.setIfInBounds_toArray, List.set_cons_zero, List.set_cons_succ]
    refine take_at (i := 1) 7 ?_ rfl rfl (by kernel_rfl) (by kernel_rfl) (by kernel_rfl) (fun _ _ _ h => h) (.inl ⟨rfl, ?_⟩) trivial ?_
    rotate_left 1
    · intro w hSw; go_simp; try with_reducible rfl
    simp only [Act.put, List.setIfInBounds_toArray, List.set_cons_zero, List.set_cons_succ]
    refine take_at (i := 2) 8 ?_ rfl rfl (by kernel_rfl) (by kernel_rfl) (by kernel_rfl) (fun _ _ _ h => h) (.inl ⟨rfl, ?_⟩) trivial ?_
    rotate_left 1
    · intro w hSw; go_simp; try with_reducible rfl
    simp only [Act.put, List.setIfInBounds_toArray, List.set_cons_zero, List.set_cons_succ]
    refine take_at (i := 3) 9 ?_ rfl rfl (by kernel_rfl) (by kernel_rfl) (by kernel_rfl) (fun _ _ _ h => h) (.inl ⟨rfl, ?_⟩) trivial ?_
    rotate_left 1
    · intro w hSw; go_simp; try with_reducible rfl
    simp only [Act.put, List.setIfInBounds_toArray, List.set_cons_zero, List.set_cons_succ]
    refine wpAnyH_ready (rs := [4, 5]) (by kernel_rfl) (by simp) (br_load (i := 4) 10 34 (.tmp 9) (.pointer (some ⟨q, off, none⟩)) (.agg (va m.1)) rfl rfl rfl rfl rfl (LA.out _ R0.out.1) trivial (fun _ => ?_) (br_load (i := 5) 11 34 (.tmp 4) (.pointer (some ⟨w.heap.size, 0, none⟩)) (.agg (va l)) rfl rfl rfl rfl rfl (LB.out _ _ XB0.out) trivial (fun _ => ?_) AllReadyH.nil))
    · simp only [Act.put, List.setIfInBounds_toArray, List.set_cons_zero, List.set_cons_succ]
      refine wpAnyH_ready (rs := [5]) (by kernel_rfl) (by simp) (br_load (i := 5) 11 34 (.tmp 4) (.pointer (some ⟨w.heap.size, 0, none⟩)) (.agg (va l)) rfl rfl rfl rfl rfl (LB.out _ _ XB0.out) trivial (fun _ => ?_) AllReadyH.nil)
      simp only [Act.put, List.setIfInBounds_toArray, List.set_cons_zero, List.set_cons_succ]
      refine one_bslice (i := 6) 12 76 2 _ #[(0, .agg (va m.1)), (1, .agg (va l))] _ _ rfl rfl (by kernel_rfl) rfl rfl rfl (BS.out _) trivial (fun _ => ?_)
      simp only [Act.put, List.setIfInBounds_toArray, List.set_cons_zero, List.set_cons_succ]
      refine one_call (i := 7) 13 35 #[.slice (some ⟨W0.heap.size, 0, none⟩) 2 2] rfl rfl (by kernel_rfl) rfl (by go_simp) ?_
      refine (JN.out _ _ (heap_alloc_new _ _)).mono ?_
      rintro e w3 ⟨rfl, hb3⟩
      refine ⟨_, rfl, trivial, fun _ => ?_⟩
      simp only [Act.put, List.setIfInBounds_toArray, List.set_cons_zero, List.set_cons_succ]
      refine take_at (i := 8) 14 ?_ rfl rfl (by kernel_rfl) (by kernel_rfl) (by kernel_rfl) (fun _ _ _ h => h) (.inl ⟨rfl, ?_⟩) trivial ?_
      rotate_left 1
      · intro w hSw; go_simp; try with_reducible rfl
      simp only [Act.put, List.setIfInBounds_toArray, List.set_cons_zero, List.set_cons_succ]
      refine take_at (i := 9) 15 ?_ rfl rfl (by kernel_rfl) (by kernel_rfl) (by kernel_rfl) (fun _ _ _ h => h) (.inl ⟨rfl, ?_⟩) trivial ?_
      rotate_left 1
      · intro w hSw; go_simp; try with_reducible rfl
      simp only [Act.put, List.setIfInBounds_toArray, List.set_cons_zero, List.set_cons_succ]
      have BB := Lib.hid ((vstep W0 (.cells (va (m.1 ++ l)) 34)).trans (hb3.mono (vstep W0 (.cells (va (m.1 ++ l)) 34)).size))
      have R3 := Lib.hid (range_later hq0.out HR0.out BB.out)
      have T3 := Lib.hid (there_later hq0.out HT0.out BB.out)
      clear hb3
      have S3 := Lib.hid (run_storeAt_mid (P := Try.prog) w3 q off 34 (va jj) (fun j hj => T3.out j (by rw [va_size, HJ.out] at hj; omega)) (by rw [va_size, HJ.out]; exact v34.2) (by rw [va_list]; exact all_oneCell_toArray (fun v hv => by obtain ⟨x, _, rfl⟩ := List.mem_map.1 hv; rfl)))
      refine wpAnyH_ready (rs := [10]) (by kernel_rfl) (by simp) (br_store 34 (.tmp 15) (.tmp 13) (.pointer (some ⟨q, off, none⟩)) (.agg (va jj)) _ rfl rfl rfl rfl rfl rfl S3.out trivial (fun _ => ?_) AllReadyH.nil)
      simp only [Act.put]
      refine wpAnyH_done (by kernel_rfl) ?_ _
      go_wp2_with fail
      go_meet
      exact ⟨w3, BB.out, rfl⟩
    · simp only [Act.put, List.setIfInBounds_toArray, List.set_cons_zero, List.set_cons_succ]
      refine wpAnyH_ready (rs := [4]) (by kernel_rfl) (by simp) (br_load (i := 4) 10 34 (.tmp 9) (.pointer (some ⟨q, off, none⟩)) (.agg (va m.1)) rfl rfl rfl rfl rfl (LA.out _ R0.out.1) trivial (fun _ => ?_) AllReadyH.nil)
      simp only [Act.put, List.setIfInBounds_toArray, List.set_cons_zero, List.set_cons_succ]
      refine one_bslice (i := 6) 12 76 2 _ #[(0, .agg (va m.1)), (1, .agg (va l))] _ _ rfl rfl (by kernel_rfl) rfl rfl rfl (BS.out _) trivial (fun _ => ?_)
      simp only [Act.put, List.setIfInBounds_toArray, List.set_cons_zero, List.set_cons_succ]
      refine one_call (i := 7) 13 35 #[.slice (some ⟨W0.heap.size, 0, none⟩) 2 2] rfl rfl (by kernel_rfl) rfl (by go_simp) ?_
      refine (JN.out _ _ (heap_alloc_new _ _)).mono ?_
      rintro e w3 ⟨rfl, hb3⟩
      refine ⟨_, rfl, trivial, fun _ => ?_⟩
      simp only [Act.put, List.setIfInBounds_toArray, List.set_cons_zero, List.set_cons_succ]
      refine take_at (i := 8) 14 ?_ rfl rfl (by kernel_rfl) (by kernel_rfl) (by kernel_rfl) (fun _ _ _ h => h) (.inl ⟨rfl, ?_⟩) trivial ?_
      rotate_left 1
      · intro w hSw; go_simp; try with_reducible rfl
      simp only [Act.put, List.setIfInBounds_toArray, List.set_cons_zero, List.set_cons_succ]
      refine take_at (i := 9) 15 ?_ rfl rfl (by kernel_rfl) (by kernel_rfl) (by kernel_rfl) (fun _ _ _ h => h) (.inl ⟨rfl, ?_⟩) trivial ?_
      rotate_left 1
      · intro w hSw; go_simp; try with_reducible rfl
      simp only [Act.put, List.setIfInBounds_toArray, List.set_cons_zero, List.set_cons_succ]
      have BB := Lib.hid ((vstep W0 (.cells (va (m.1 ++ l)) 34)).trans (hb3.mono (vstep W0 (.cells (va (m.1 ++ l)) 34)).size))
      have R3 := Lib.hid (range_later hq0.out HR0.out BB.out)
      have T3 := Lib.hid (there_later hq0.out HT0.out BB.out)
      clear hb3
      have S3 := Lib.hid (run_storeAt_mid (P := Try.prog) w3 q off 34 (va jj) (fun j hj => T3.out j (by rw [va_size, HJ.out] at hj; omega)) (by rw [va_size, HJ.out]; exact v34.2) (by rw [va_list]; exact all_oneCell_toArray (fun v hv => by obtain ⟨x, _, rfl⟩ := List.mem_map.1 hv; rfl)))
      refine wpAnyH_ready (rs := [10]) (by kernel_rfl) (by simp) (br_store 34 (.tmp 15) (.tmp 13) (.pointer (some ⟨q, off, none⟩)) (.agg (va jj)) _ rfl rfl rfl rfl rfl rfl S3.out trivial (fun _ => ?_) AllReadyH.nil)
      simp only [Act.put]
      refine wpAnyH_done (by kernel_rfl) ?_ _
      go_wp2_with fail
      go_meet
      exact ⟨w3, BB.out, rfl⟩
  case rest =>
    obtain ⟨w3, b3, rfl⟩ := hcut
    have hvl : (va jj).toList.length = 64 := by rw [Array.length_toList, va_size, HJ.out]
    have T3 := there_later hq0.out HT0.out b3
    have R3 := range_later hq0.out HR0.out b3
    have T4 : (w3.setCells q off (va jj).toList).there q off 65 := World.there_setCells T3 _ _ _
    have RS : (w3.setCells q off (va jj).toList).rangeAt q off (va jj).toList := World.rangeAt_setCells_same _ _ _ _ (fun j hj => T3 j (by omega))
    have RT : (w3.setCells q off (va jj).toList).rangeAt q (off + 64) [.int .i64 m.2] := World.rangeAt_setCells_apart (fun j v hj => by
      match j, hj with
      | 0, hj => injection hj with hj; subst hj; exact (range_parts hm R3).2
      | j + 1, hj => simp at hj) _ _ _ (by omega)
    have d := RT 0 _ rfl
    have f := (T4 64 (by omega)).2
    have KP := Lib.hid (show Kept w ((w3.setCells q off (va jj).toList).setCells q (off + 64) [.int .i64 (max m.2 t)]) q off from by
      have B3 := B0.out.trans (b3.mono B0.out.size)
      refine ⟨?_, fun o' cs hap hcs => ?_, fun o' n hh => ?_⟩
      · exact grown_cells (grown_cells ⟨B3.os, B3.tape, B3.output, B3.size, fun k hk _ => B3.block k hk⟩ _ _) _ _
      · exact World.rangeAt_setCells_apart (World.rangeAt_setCells_apart (range_later hq hcs B3) _ _ _ (by omega)) _ _ _ (by simp only [List.length_singleton]; omega)
      · exact World.there_setCells (World.there_setCells (there_later hq hh B3) _ _ _) _ _ _)
    have RN := Lib.hid (show ((w3.setCells q off (va jj).toList).setCells q (off + 64) [.int .i64 (max m.2 t)]).rangeAt q off (mc (jj, max m.2 t)) from by
      have h1 := World.rangeAt_setCells_apart RS q (off + 64) [.int .i64 (max m.2 t)] (by omega)
      have h2 := World.rangeAt_setCells_same (w3.setCells q off (va jj).toList) q (off + 64) [.int .i64 (max m.2 t)] (fun j hj => by
        have := T4 (64 + j) (by simp only [List.length_singleton] at hj; omega)
        rwa [← Nat.add_assoc] at this)
      intro j v hj
      unfold mc at hj
      by_cases hj64 : j < 64
      · rw [List.getElem?_append_left (by rw [List.length_map]; show j < jj.length; rw [HJ.out]; exact hj64)] at hj
        exact h1 j v (by rw [va_list]; exact hj)
      · rw [List.getElem?_append_right (by rw [List.length_map]; show jj.length ≤ j; rw [HJ.out]; omega), List.length_map] at hj
        rw [show jj.length = 64 from HJ.out] at hj
        have := h2 (j - 64) v hj
        rw [show off + 64 + (j - 64) = off + j by omega] at this
        exact this)
    obtain ⟨wc, hwc⟩ : ∃ y, w3.setCells q off (va jj).toList = y := ⟨_, rfl⟩
    rw [hwc] at d f KP RN ⊢
    clear hwc T3 R3 T4 RS RT b3 hvl
    go_wp2
    go_end0
    exact ⟨rfl, RN.out, KP.out⟩
end Go.Proofs.Ytgemlkccdcbpdaa
