/- The reference's right, New; the program's New refused. -/
import Derived.Test.YtgemlkccdcbpdaaSP
set_option linter.unusedVariables false
namespace Go.Proofs.Ytgemlkccdcbpdaa
open Go.RowKit

theorem u27 : Try.prog.underlying 27 = some (.slice 53) := by kernel_rfl
theorem load27 (W : World) (p : Addr) (v : Value) (h : W.cell? p = some v) : (Instr.loadAt 27 (.pointer (some p))).run Try.prog W = .ok v W := by
  go_simp
theorem load3 (W : World) (p : Addr) (v : Value) (h : W.cell? p = some v) : (Instr.loadAt 3 (.pointer (some p))).run Try.prog W = .ok v W := by
  go_simp
set_option maxRecDepth 100000 in
set_option maxHeartbeats 800000 in
theorem rrightm_any (w : World) (l : List Int) (hl : l.length = 64) (c : Bool) (hc : c = true ↔ RightP l) (t : Int) : Calls Try.prog 24 #[vw l, .int .i64 t] w fun e w' => e = .returned (.bool (rightM c t)) ∧ Below w.heap.size w w' := by
  have X := Lib.hid (vstep w (.cells (va l) 33))
  have LD := Lib.hid (load_va v33 (w.alloc (.cells (va l) 33)) w.heap.size l hl (heap_alloc_new w _))
  have R := Lib.hid (fun W => rright_any W l hl c hc)
  unfold vw at *
  generalize va l = A at *
  clear hc hl
  cases c with
  | false =>
    have HE := Lib.hid (show rightM false t = false from rfl)
    go_enter Try.func24, Try.ntmps24
    go_wp2_with (refine wpList_load_arr rfl (.tmp 2) 33 rfl _ _ rfl LD.out ?_)
    refine (R.out _).mono ?_
    rintro e w1 ⟨rfl, hb1⟩
    have B1 := Lib.hid (X.out.trans (hb1.mono X.out.size))
    clear hb1
    go_wp2
    go_returns
    exact ⟨by rw [HE.out]; rfl, B1.out⟩
  | true =>
    by_cases h1 : 0 ≤ t
    · by_cases h2 : t ≤ 281474976710656
      · have HE := Lib.hid (show rightM true t = true by unfold rightM; rw [decide_eq_true h1, decide_eq_true h2]; rfl)
        go_enter Try.func24, Try.ntmps24
        go_wp2_with (refine wpList_load_arr rfl (.tmp 2) 33 rfl _ _ rfl LD.out ?_)
        refine (R.out _).mono ?_
        rintro e w1 ⟨rfl, hb1⟩
        have B1 := Lib.hid (X.out.trans (hb1.mono X.out.size))
        clear hb1
        go_wp2
        go_returns
        exact ⟨by rw [HE.out]; rfl, B1.out⟩
      · have HE := Lib.hid (show rightM true t = false by unfold rightM; rw [decide_eq_false h2, Bool.and_false])
        have hd2 : decide (t ≤ 281474976710656) = false := decide_eq_false h2
        go_enter Try.func24, Try.ntmps24
        go_wp2_with (refine wpList_load_arr rfl (.tmp 2) 33 rfl _ _ rfl LD.out ?_)
        refine (R.out _).mono ?_
        rintro e w1 ⟨rfl, hb1⟩
        have B1 := Lib.hid (X.out.trans (hb1.mono X.out.size))
        clear hb1
        go_wp2
        go_returns
        exact ⟨by rw [HE.out]; rfl, B1.out⟩
    · have HE := Lib.hid (show rightM true t = false by unfold rightM; rw [decide_eq_false h1]; rfl)
      go_enter Try.func24, Try.ntmps24
      go_wp2_with (refine wpList_load_arr rfl (.tmp 2) 33 rfl _ _ rfl LD.out ?_)
      refine (R.out _).mono ?_
      rintro e w1 ⟨rfl, hb1⟩
      have B1 := Lib.hid (X.out.trans (hb1.mono X.out.size))
      clear hb1
      go_wp2
      go_returns
      exact ⟨by rw [HE.out]; rfl, B1.out⟩
/-- The reference's members, in a row that the call owns. -/
structure RAt (W : World) (q : Nat) (ms : List Mb) : Prop where
  row : ∀ (i : Nat) m, ms[i]? = some m → W.rangeAt q (i * 65) (mc m)
  may : ∀ i, i < ms.length → W.there q (i * 65) 65
  qlt : q < W.heap.size
  m64 : ∀ (i : Nat) m, ms[i]? = some m → m.1.length = 64
  len : ms.length ≤ 64
theorem RAt.step {W W' : World} {q : Nat} {ms : List Mb} (h : RAt W q ms) (hb : Below W.heap.size W W') : RAt W' q ms :=
  ⟨fun i m hm => range_later h.qlt (h.row i m hm) hb, fun i hi => there_later h.qlt (h.may i hi) hb, Nat.lt_of_lt_of_le h.qlt hb.size, h.m64, h.len⟩
theorem RAt.blocks {W W' : World} {q : Nat} {ms : List Mb} (h : RAt W q ms) (hq : W'.heap[q]? = W.heap[q]?) (hs : W.heap.size ≤ W'.heap.size) : RAt W' q ms := by
  have cq : ∀ o, W'.cell? ⟨q, o, none⟩ = W.cell? ⟨q, o, none⟩ := fun o => World.cell?_of_block (a := ⟨q, o, none⟩) hq
  exact ⟨fun i m hm j v hv => (cq _).trans (h.row i m hm j v hv), fun i hi j hj => ⟨by rw [cq]; exact (h.may i hi j hj).1, by rw [World.frozen?_of_block (a := ⟨q, _, none⟩) hq]; exact (h.may i hi j hj).2⟩, Nat.lt_of_lt_of_le h.qlt hs, h.m64, h.len⟩
theorem RAt.setCell {W : World} {q b o : Nat} {ms : List Mb} (h : RAt W q ms) (hn : q ≠ b) (v : Value) : RAt (W.setCell ⟨b, o, none⟩ v) q ms := h.blocks (Below.heap_setCell _ _ _ _ hn) (by simp)
def rv (sf : Int) (q n cap : Nat) : Value := .agg #[.int .i64 sf, .slice (some ⟨q, 0, none⟩) n cap]
theorem fresh_ref (w : World) (C : Array Value) (n : Nat) (hn : n ≤ 64) (hC : ∀ (j k : Nat) v, j < n → (mc mz)[k]? = some v → C[j * 65 + k]? = some v) : RAt (w.alloc (.cells C 53)) w.heap.size (List.replicate n mz) := by
  have h1 := heap_alloc_new w (.cells C 53)
  refine ⟨fun j m hj => ?_, fun j hj k hk => ?_, by simp, fun j m hj => ?_, by rw [List.length_replicate]; exact hn⟩
  · rw [List.getElem?_replicate] at hj
    split at hj
    · rename_i hjn
      injection hj with hj
      subst hj
      intro k v hk
      rw [cell_of_row _ _ _ _ _ _ h1]
      exact hC j k v hjn hk
    · cases hj
  · rw [List.length_replicate] at hj
    refine ⟨?_, frozen_of_row _ _ _ _ _ h1⟩
    rw [cell_of_row _ _ _ _ _ _ h1, hC j k _ hj (List.getElem?_eq_getElem (by rw [mc_len mz mz_len]; exact hk))]
    rfl
  · rw [List.getElem?_replicate] at hj
    split at hj
    · injection hj with hj; subst hj; exact mz_len
    · cases hj
theorem i53 : (Try.prog.info? 53).map (fun i => (i.zero, i.size, i.bytes)) = some (some (.agg (mc mz).toArray), 65, 520) := by kernel_rfl
theorem i53_parts : ∃ i, Try.prog.info? 53 = some i ∧ i.zero = some (.agg (mc mz).toArray) ∧ i.size = 65 ∧ i.bytes = 520 := by
  have h := i53
  cases hq : Try.prog.info? 53 with
  | none => rw [hq] at h; cases h
  | some i => rw [hq] at h; injection h with h; injection h with h1 h; injection h with h2 h3; exact ⟨i, rfl, h1, h2, h3⟩
set_option maxRecDepth 100000 in
set_option maxHeartbeats 800000 in
theorem rnew_any (w : World) (i n : Nat) (hi : i < n) (hn : n ≤ 64) :
    Calls Try.prog 8 #[.int .i64 (i : Int), .int .i64 (n : Int)] w fun e w' => ∃ q, e = .returned (.tuple #[rv (i : Int) q n n, .bool true]) ∧ RAt w' q (List.replicate n mz) ∧ Below w.heap.size w w' ∧ w.heap.size ≤ q := by
  obtain ⟨i0, hq, hz0, hz1, hz2⟩ := i53_parts
  have X := Lib.hid (vstep w (.cells #[.int .i64 0, .slice none 0 0] 29))
  have X1 := Lib.hid (heap_alloc_new w (.cells #[.int .i64 0, .slice none 0 0] 29))
  obtain ⟨W, hW⟩ : ∃ y, w.alloc (.cells #[.int .i64 0, .slice none 0 0] 29) = y := ⟨_, rfl⟩
  rw [hW] at X X1
  have HW := Lib.hid hW
  have hmk := run_make (P := Try.prog) W 27 53 i0 _ u27 hq hz0 .i64 .i64 (n : Int) (n : Int) (by omega) (by omega) (by rw [hz2]; omega) (by omega)
  rw [hz1, show ((n : Int)).toNat = n from by omega] at hmk
  have FW := Lib.hid (fresh_ref W (madeCells (Value.agg (mc mz).toArray).cells (n * 65)) n hn (made_at n))
  generalize madeCells (Value.agg (mc mz).toArray).cells (n * 65) = C at *
  have Y := Lib.hid (vstep W (.cells C 53))
  have X2 := Lib.hid ((Y.out.block _ (lt_of_block X1.out)).trans X1.out)
  clear hq hz0 hz1 hz2 hW
  go_enter Try.func8, Try.ntmps8
  go_upto_region 1 with (fail)
  rw [HW.out]
  go_upto_region 3 with (fail)
  have d0 := (cell_of_row _ w.heap.size 0 _ _ _ X2.out)
  have d1 := (cell_of_row _ w.heap.size 1 _ _ _ X2.out)
  have f0 := frozen_of_row _ w.heap.size 0 _ _ X2.out
  have f1 := frozen_of_row _ w.heap.size 1 _ _ X2.out
  go_wp2
  refine bodyPost_ret (by simp [results, Try.results8, go_sem, d0, d1]; try rfl) rfl ?_
  exact ⟨_, rfl, (FW.out.setCell (Nat.ne_of_gt (lt_of_block X1.out)) _).setCell (Nat.ne_of_gt (lt_of_block X1.out)) _, ((X.out.trans (Y.out.mono X.out.size)).setCell (p := ⟨w.heap.size, 0, none⟩) (Nat.le_refl _) _).setCell (p := ⟨w.heap.size, 1, none⟩) (Nat.le_refl _) _, X.out.size⟩
set_option maxRecDepth 100000 in
set_option maxHeartbeats 800000 in
theorem rnew_bad (w : World) (s r : Int) (h : r < 1 ∨ 64 < r ∨ s < 0 ∨ r ≤ s) : Calls Try.prog 8 #[.int .i64 s, .int .i64 r] w fun e w' => e = .returned (.tuple #[.agg #[.int .i64 0, .slice none 0 0], .bool false]) ∧ Below w.heap.size w w' := by
  have X := Lib.hid (vstep w (.cells #[.int .i64 0, .slice none 0 0] 29))
  have X1 := Lib.hid (heap_alloc_new w (.cells #[.int .i64 0, .slice none 0 0] 29))
  obtain ⟨W, hW⟩ : ∃ y, w.alloc (.cells #[.int .i64 0, .slice none 0 0] 29) = y := ⟨_, rfl⟩
  rw [hW] at X X1
  have HW := Lib.hid hW
  clear hW
  have d0 := (cell_of_row _ w.heap.size 0 _ _ _ X1.out)
  have d1 := (cell_of_row _ w.heap.size 1 _ _ _ X1.out)
  have f0 := frozen_of_row _ w.heap.size 0 _ _ X1.out
  have f1 := frozen_of_row _ w.heap.size 1 _ _ X1.out
  have hcase : r < 1 ∨ (¬ r < 1 ∧ 64 < r) ∨ (¬ r < 1 ∧ ¬ 64 < r ∧ s < 0) ∨ (¬ r < 1 ∧ ¬ 64 < r ∧ ¬ s < 0 ∧ r ≤ s) := by omega
  clear h
  rcases hcase with h1 | ⟨h1, h2⟩ | ⟨h1, h2, h3⟩ | ⟨h1, h2, h3, h4⟩
  all_goals
    go_enter Try.func8, Try.ntmps8
    go_upto_region 1 with (fail)
    rw [HW.out]
    go_wp2
    refine bodyPost_ret (by simp [results, Try.results8, go_sem, d0, d1]; try rfl) rfl ?_
    first
    | exact ⟨rfl, (X.out.setCell (p := ⟨w.heap.size, 0, none⟩) (Nat.le_refl _) _).setCell (p := ⟨w.heap.size, 1, none⟩) (Nat.le_refl _) _⟩
    | exact (X.out.setCell (p := ⟨w.heap.size, 0, none⟩) (Nat.le_refl _) _).setCell (p := ⟨w.heap.size, 1, none⟩) (Nat.le_refl _) _
set_option maxRecDepth 100000 in
set_option maxHeartbeats 800000 in
theorem new_bad (w : World) (s r : Int) (h : r < 1 ∨ 64 < r ∨ s < 0 ∨ r ≤ s) : Calls Try.prog 7 #[.int .i64 s, .int .i64 r] w fun e w' => e = .returned (.tuple #[.pointer none, .int .i64 2]) ∧ Below w.heap.size w w' := by
  by_cases h1 : r < 1
  · go_enter Try.func7, Try.ntmps7
    go_wp2
    go_returns
    exact ⟨rfl, Below.refl _ _⟩
  · by_cases h2 : 64 < r
    · go_enter Try.func7, Try.ntmps7
      go_wp2
      go_returns
      exact ⟨rfl, Below.refl _ _⟩
    · by_cases h3 : s < 0
      · go_enter Try.func7, Try.ntmps7
        go_wp2
        go_returns
        exact ⟨rfl, Below.refl _ _⟩
      · have h4 : r ≤ s := by omega
        go_enter Try.func7, Try.ntmps7
        go_wp2
        go_returns
        exact ⟨rfl, Below.refl _ _⟩
end Go.Proofs.Ytgemlkccdcbpdaa
