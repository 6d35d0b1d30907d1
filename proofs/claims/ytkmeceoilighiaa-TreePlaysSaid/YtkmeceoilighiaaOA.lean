/- An op as a value: its kind, whether it may be. Made by genoa7.py. -/
import Derived.Test.YtkmeceoilighiaaNAll
import Derived.Test.YtkmeceoilighiaaWWBase
import Derived.Test.YtkmeceoilighiaaSAll
import Derived.Shelf.Small.Wraps
set_option linter.unusedVariables false
namespace Go.Proofs.Ytkmeceoilighiaa
open Go.RowKit

theorem lt_of_block {w : World} {b : Nat} {o : Obj} (h : w.heap[b]? = some o) : b < w.heap.size := (Array.getElem?_eq_some_iff.1 h).1
theorem later_cell {W : World} {g j : Nat} {c : Array Value} {t : TypeId} {v : Value} (h : W.heap[g]? = some (.cells c t (0, 0))) (hv : c[j]? = some v) : ∀ x : Later W, x.w.cell? ⟨g, j, none⟩ = some v := fun x => by
  rw [x.below.cell (p := ⟨g, j, none⟩) (Array.getElem?_eq_some_iff.1 h).1, cell_of_row _ _ _ _ _ _ h, hv]
/-- The box of an op at block b. -/
def OpAt (W : World) (b : Nat) (t r q nt nr pt pr : Int) (nm : ByteArray) (d : Bool) : Prop := W.heap[b]? = some (.cells #[.int .i64 t, .int .i64 r, .int .i64 q, .int .i64 nt, .int .i64 nr, .int .i64 pt, .int .i64 pr, .string nm, .bool d] 34 (0, 0))
theorem OpAt.step {W W' : World} {b : Nat} {t r q nt nr pt pr : Int} {nm : ByteArray} {d : Bool} (h : OpAt W b t r q nt nr pt pr nm d) (hb : Below W.heap.size W W') : OpAt W' b t r q nt nr pt pr nm d := (hb.block _ (lt_of_block h)).trans h
theorem OpAt.cells {W : World} {b : Nat} {t r q nt nr pt pr : Int} {nm : ByteArray} {d : Bool} (h : OpAt W b t r q nt nr pt pr nm d) :
    W.cell? ⟨b, 0, none⟩ = some (.int .i64 t) ∧ W.cell? ⟨b, 1, none⟩ = some (.int .i64 r) ∧ W.cell? ⟨b, 2, none⟩ = some (.int .i64 q) ∧ W.cell? ⟨b, 3, none⟩ = some (.int .i64 nt) ∧ W.cell? ⟨b, 4, none⟩ = some (.int .i64 nr) ∧ W.cell? ⟨b, 5, none⟩ = some (.int .i64 pt) ∧ W.cell? ⟨b, 6, none⟩ = some (.int .i64 pr) ∧ W.cell? ⟨b, 7, none⟩ = some (.string nm) ∧ W.cell? ⟨b, 8, none⟩ = some (.bool d) := by
  refine ⟨?_, ?_, ?_, ?_, ?_, ?_, ?_, ?_, ?_⟩ <;> (rw [cell_of_row _ _ _ _ _ _ h]; rfl)
def BX (w W : World) (t r q nt nr pt pr : Int) (nm : ByteArray) (d : Bool) : Prop := Below w.heap.size w W ∧ OpAt W w.heap.size t r q nt nr pt pr nm d
theorem BX.step {w W W' : World} {t r q nt nr pt pr : Int} {nm : ByteArray} {d : Bool} (h : BX w W t r q nt nr pt pr nm d) (hb : Below W.heap.size W W') : BX w W' t r q nt nr pt pr nm d := ⟨h.1.trans (hb.mono h.1.size), h.2.step hb⟩
theorem BX.start (w : World) (t r q nt nr pt pr : Int) (nm : ByteArray) (d : Bool) : BX w (w.alloc (.cells #[.int .i64 t, .int .i64 r, .int .i64 q, .int .i64 nt, .int .i64 nr, .int .i64 pt, .int .i64 pr, .string nm, .bool d] 34)) t r q nt nr pt pr nm d := ⟨(Below.refl w.heap.size w).alloc (Nat.le_refl _) _, heap_alloc_new w _⟩
def kindI (t r nt nr pt pr : Int) : Int := if t = nt ∧ r = nr then 1 else if pt = 0 ∧ pr = 1 then 3 else 2
theorem ret_i {a b : Int} (h : a = b) : (Ending.returned (.int .i64 a)) = .returned (.int .i64 b) := by rw [h]
set_option maxRecDepth 100000 in
set_option maxHeartbeats 400000 in
theorem rtrash_any (w : World) : Calls Try.prog 73 #[] w fun e w' => e = .returned (.agg #[.int .i64 0, .int .i64 1]) ∧ Below w.heap.size w w' := by
  go_enter Try.func73, Try.ntmps73
  go_wp2
  go_returns
  exact ⟨rfl, (Below.refl _ _).alloc (Nat.le_refl _) _⟩
set_option maxRecDepth 100000 in
set_option maxHeartbeats 1600000 in
theorem kind_any (w : World) (t r q nt nr pt pr : Int) (nm : ByteArray) (d : Bool) :
    Calls Try.prog 84 #[.agg #[.int .i64 t, .int .i64 r, .int .i64 q, .int .i64 nt, .int .i64 nr, .int .i64 pt, .int .i64 pr, .string nm, .bool d]] w fun e w' => e = .returned (.int .i64 (kindI t r nt nr pt pr)) ∧ Below w.heap.size w w' := by
  have T0 := Lib.hid (BX.start w t r q nt nr pt pr nm d)
  have kd : kindI t r nt nr pt pr = if t = nt ∧ r = nr then 1 else if pt = 0 ∧ pr = 1 then 3 else 2 := rfl
  by_cases h1 : t = nt ∧ r = nr
  · have t1 := beqb_ t nt h1.1
    have t2 := beqb_ r nr h1.2
    rw [if_pos h1] at kd
    have KD := Lib.hid kd
    clear h1 kd
    go_enter Try.func84, Try.ntmps84
    go_wp2
    go_returns
    exact ⟨ret_i KD.out.symm, T0.out.1⟩
  · rw [if_neg h1] at kd
    have hc : (t == nt) = false ∨ ((t == nt) = true ∧ (r == nr) = false) := by
      by_cases e : t = nt
      · exact .inr ⟨beqb_ t nt e, bneb_ r nr (fun e2 => h1 ⟨e, e2⟩)⟩
      · exact .inl (bneb_ t nt e)
    have D40 := Lib.hid (fun x : Later (w.alloc (.cells #[.int .i64 t, .int .i64 r, .int .i64 q, .int .i64 nt, .int .i64 nr, .int .i64 pt, .int .i64 pr, .string nm, .bool d] 34)) => St.trash_any x.w)
    have k0 := later_cell T0.out.2 (j := 0) rfl
    have k1 := later_cell T0.out.2 (j := 1) rfl
    have k2 := later_cell T0.out.2 (j := 2) rfl
    have k3 := later_cell T0.out.2 (j := 3) rfl
    have k4 := later_cell T0.out.2 (j := 4) rfl
    have k5 := later_cell T0.out.2 (j := 5) rfl
    have k6 := later_cell T0.out.2 (j := 6) rfl
    have k7 := later_cell T0.out.2 (j := 7) rfl
    have k8 := later_cell T0.out.2 (j := 8) rfl
    have KD := Lib.hid kd
    clear h1 kd
    by_cases h2 : pt = 0 ∧ pr = 1
    · have u1 := beqb_ pt 0 h2.1
      have u2 := beqb_ pr 1 h2.2
      rw [if_pos h2] at KD
      clear h2
      rcases hc with t1 | ⟨t1, t2⟩
      all_goals
        go_enter Try.func84, Try.ntmps84
        go_upto_region 3 with (fail)
        refine wp_region_later (by kernel_rfl) (by kernel_rfl) ?_
        repeat (go_big_quiet_step (first
          | (go_at_call 83; with_reducible exact later_call (D40.out _))))
        refine wpQuiet_nil ?_
        rintro _ ⟨xl, rfl⟩
        have T1 := Lib.hid (T0.out.step xl.below)
        generalize xl.w = w4 at *
        go_wp2
        go_returns
        exact ⟨ret_i KD.out.symm, T1.out.1⟩
    · rw [if_neg h2] at KD
      have hp : (pt == 0) = false ∨ ((pt == 0) = true ∧ (pr == 1) = false) := by
        by_cases e : pt = 0
        · exact .inr ⟨beqb_ pt 0 e, bneb_ pr 1 (fun e2 => h2 ⟨e, e2⟩)⟩
        · exact .inl (bneb_ pt 0 e)
      clear h2
      rcases hc with t1 | ⟨t1, t2⟩
      all_goals
        rcases hp with u1 | ⟨u1, u2⟩
        all_goals
          go_enter Try.func84, Try.ntmps84
          go_upto_region 3 with (fail)
          refine wp_region_later (by kernel_rfl) (by kernel_rfl) ?_
          repeat (go_big_quiet_step (first
            | (go_at_call 83; with_reducible exact later_call (D40.out _))))
          refine wpQuiet_nil ?_
          rintro _ ⟨xl, rfl⟩
          have T1 := Lib.hid (T0.out.step xl.below)
          generalize xl.w = w4 at *
          go_wp2
          go_returns
          exact ⟨ret_i KD.out.symm, T1.out.1⟩
end Go.Proofs.Ytkmeceoilighiaa



