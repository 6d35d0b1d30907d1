/- Merged by tools/merge.py: OA, OB, OC, OF, OG, OJ, OT, OS. -/
import Derived.Test.YtbeodechhneeeaaGreatDoorDR
import Derived.Test.YtbeodechhneeeaaGreatDoorNAll
import Derived.Test.YtbeodechhneeeaaGreatDoorSAll
import Derived.Test.YtbeodechhneeeaaGreatDoorVE
import Derived.Test.YtbeodechhneeeaaGreatDoorWSame
import Derived.Test.YtbeodechhneeeaaGreatDoorWWBase
import Derived.Shelf.Small.Wraps
import Derived.Deep.RegionHeld3
import Derived.Laws.OwnMore
import Derived.Laws.StructEq
import Derived.Handy
import Derived.WalkKit
import Derived.Deep.AppendSrc
import Derived.OwnWalk
set_option linter.unusedVariables false
namespace Go.Proofs.YtbeodechhneeeaaGreatDoor
open Go.RowKit

theorem lt_of_block {w : World} {b : Nat} {o : Obj} (h : w.heap[b]? = some o) : b < w.heap.size := (Array.getElem?_eq_some_iff.1 h).1
theorem later_cell {W : World} {g j : Nat} {c : Array Value} {t : TypeId} {v : Value} (h : W.heap[g]? = some (.cells c t (0, 0))) (hv : c[j]? = some v) : ∀ x : Later W, x.w.cell? ⟨g, j, none⟩ = some v := fun x => by
  rw [x.below.cell (p := ⟨g, j, none⟩) (Array.getElem?_eq_some_iff.1 h).1, cell_of_row _ _ _ _ _ _ h, hv]
/-- The box of an op at block b. -/
def OpAt (W : World) (b : Nat) (t r q nt nr pt pr : Int) (nm : ByteArray) (d : Bool) : Prop := W.heap[b]? = some (.cells #[.int .i64 t, .int .i64 r, .int .i64 q, .int .i64 nt, .int .i64 nr, .int .i64 pt, .int .i64 pr, .string nm, .bool d] 33 (0, 0))
theorem OpAt.step {W W' : World} {b : Nat} {t r q nt nr pt pr : Int} {nm : ByteArray} {d : Bool} (h : OpAt W b t r q nt nr pt pr nm d) (hb : Below W.heap.size W W') : OpAt W' b t r q nt nr pt pr nm d := (hb.block _ (lt_of_block h)).trans h
theorem OpAt.cells {W : World} {b : Nat} {t r q nt nr pt pr : Int} {nm : ByteArray} {d : Bool} (h : OpAt W b t r q nt nr pt pr nm d) :
    W.cell? ⟨b, 0, none⟩ = some (.int .i64 t) ∧ W.cell? ⟨b, 1, none⟩ = some (.int .i64 r) ∧ W.cell? ⟨b, 2, none⟩ = some (.int .i64 q) ∧ W.cell? ⟨b, 3, none⟩ = some (.int .i64 nt) ∧ W.cell? ⟨b, 4, none⟩ = some (.int .i64 nr) ∧ W.cell? ⟨b, 5, none⟩ = some (.int .i64 pt) ∧ W.cell? ⟨b, 6, none⟩ = some (.int .i64 pr) ∧ W.cell? ⟨b, 7, none⟩ = some (.string nm) ∧ W.cell? ⟨b, 8, none⟩ = some (.bool d) := by
  refine ⟨?_, ?_, ?_, ?_, ?_, ?_, ?_, ?_, ?_⟩ <;> (rw [cell_of_row _ _ _ _ _ _ h]; rfl)
def BX (w W : World) (t r q nt nr pt pr : Int) (nm : ByteArray) (d : Bool) : Prop := Below w.heap.size w W ∧ OpAt W w.heap.size t r q nt nr pt pr nm d
theorem BX.step {w W W' : World} {t r q nt nr pt pr : Int} {nm : ByteArray} {d : Bool} (h : BX w W t r q nt nr pt pr nm d) (hb : Below W.heap.size W W') : BX w W' t r q nt nr pt pr nm d := ⟨h.1.trans (hb.mono h.1.size), h.2.step hb⟩
theorem BX.start (w : World) (t r q nt nr pt pr : Int) (nm : ByteArray) (d : Bool) : BX w (w.alloc (.cells #[.int .i64 t, .int .i64 r, .int .i64 q, .int .i64 nt, .int .i64 nr, .int .i64 pt, .int .i64 pr, .string nm, .bool d] 33)) t r q nt nr pt pr nm d := ⟨(Below.refl w.heap.size w).alloc (Nat.le_refl _) _, heap_alloc_new w _⟩
def kindI (t r nt nr pt pr : Int) : Int := if t = nt ∧ r = nr then 1 else if pt = 0 ∧ pr = 1 then 3 else 2
theorem ret_i {a b : Int} (h : a = b) : (Ending.returned (.int .i64 a)) = .returned (.int .i64 b) := by rw [h]
set_option maxRecDepth 100000 in
set_option maxHeartbeats 400000 in
theorem rtrash_any (w : World) : Calls Tryz.prog 80 #[] w fun e w' => e = .returned (.agg #[.int .i64 0, .int .i64 1]) ∧ Below w.heap.size w w' := by
  go_enter Tryz.func80, Tryz.ntmps80
  go_wp2
  go_returns
  exact ⟨rfl, (Below.refl _ _).alloc (Nat.le_refl _) _⟩
set_option maxRecDepth 100000 in
set_option maxHeartbeats 1600000 in
theorem kind_any (w : World) (t r q nt nr pt pr : Int) (nm : ByteArray) (d : Bool) :
    Calls Tryz.prog 72 #[.agg #[.int .i64 t, .int .i64 r, .int .i64 q, .int .i64 nt, .int .i64 nr, .int .i64 pt, .int .i64 pr, .string nm, .bool d]] w fun e w' => e = .returned (.int .i64 (kindI t r nt nr pt pr)) ∧ Below w.heap.size w w' := by
  have T0 := Lib.hid (BX.start w t r q nt nr pt pr nm d)
  have kd : kindI t r nt nr pt pr = if t = nt ∧ r = nr then 1 else if pt = 0 ∧ pr = 1 then 3 else 2 := rfl
  by_cases h1 : t = nt ∧ r = nr
  · have t1 := beqb_ t nt h1.1
    have t2 := beqb_ r nr h1.2
    rw [if_pos h1] at kd
    have KD := Lib.hid kd
    clear h1 kd
    go_enter Tryz.func72, Tryz.ntmps72
    go_wp2
    go_returns
    exact ⟨ret_i KD.out.symm, T0.out.1⟩
  · rw [if_neg h1] at kd
    have hc : (t == nt) = false ∨ ((t == nt) = true ∧ (r == nr) = false) := by
      by_cases e : t = nt
      · exact .inr ⟨beqb_ t nt e, bneb_ r nr (fun e2 => h1 ⟨e, e2⟩)⟩
      · exact .inl (bneb_ t nt e)
    have D40 := Lib.hid (fun x : Later (w.alloc (.cells #[.int .i64 t, .int .i64 r, .int .i64 q, .int .i64 nt, .int .i64 nr, .int .i64 pt, .int .i64 pr, .string nm, .bool d] 33)) => St.trash_any x.w)
    have k0 := later_cell T0.out.2 (j := 0) rfl
    have k1 := later_cell T0.out.2 (j := 1) rfl
    have k2 := later_cell T0.out.2 (j := 2) rfl
    have k3 := later_cell T0.out.2 (j := 3) rfl
    have k4 := later_cell T0.out.2 (j := 4) rfl
    have k5 := later_cell T0.out.2 (j := 5) rfl
    have k6 := later_cell T0.out.2 (j := 6) rfl
    have k7 := later_cell T0.out.2 (j := 7) rfl
    have k8 := later_cell T0.out.2 (j := 8) rfl
    have KD := Lib.hid kd
    clear h1 kd
    by_cases h2 : pt = 0 ∧ pr = 1
    · have u1 := beqb_ pt 0 h2.1
      have u2 := beqb_ pr 1 h2.2
      rw [if_pos h2] at KD
      clear h2
      rcases hc with t1 | ⟨t1, t2⟩
      all_goals
        go_enter Tryz.func72, Tryz.ntmps72
        go_upto_region 3 with (fail)
        refine wp_region_later (by kernel_rfl) (by kernel_rfl) ?_
        repeat (go_big_quiet_step (first
          | (go_at_call 89; with_reducible exact later_call (D40.out _))))
        refine wpQuiet_nil ?_
        rintro _ ⟨xl, rfl⟩
        have T1 := Lib.hid (T0.out.step xl.below)
        generalize xl.w = w4 at *
        go_wp2
        go_returns
        exact ⟨ret_i KD.out.symm, T1.out.1⟩
    · rw [if_neg h2] at KD
      have hp : (pt == 0) = false ∨ ((pt == 0) = true ∧ (pr == 1) = false) := by
        by_cases e : pt = 0
        · exact .inr ⟨beqb_ pt 0 e, bneb_ pr 1 (fun e2 => h2 ⟨e, e2⟩)⟩
        · exact .inl (bneb_ pt 0 e)
      clear h2
      rcases hc with t1 | ⟨t1, t2⟩
      all_goals
        rcases hp with u1 | ⟨u1, u2⟩
        all_goals
          go_enter Tryz.func72, Tryz.ntmps72
          go_upto_region 3 with (fail)
          refine wp_region_later (by kernel_rfl) (by kernel_rfl) ?_
          repeat (go_big_quiet_step (first
            | (go_at_call 89; with_reducible exact later_call (D40.out _))))
          refine wpQuiet_nil ?_
          rintro _ ⟨xl, rfl⟩
          have T1 := Lib.hid (T0.out.step xl.below)
          generalize xl.w = w4 at *
          go_wp2
          go_returns
          exact ⟨ret_i KD.out.symm, T1.out.1⟩
end Go.Proofs.YtbeodechhneeeaaGreatDoor





set_option linter.unusedVariables false
namespace Go.Proofs.YtbeodechhneeeaaGreatDoor
open Go.RowKit

theorem check_is (s : ByteArray) : ∃ c, CheckIs s c := by
  by_cases h1 : Lits s ∨ BadFrom s 0
  · exact ⟨25, .inl ⟨h1, rfl⟩⟩
  · by_cases h2 : 255 < s.size
    · exact ⟨26, .inr (.inl ⟨fun h => h1 (.inl h), fun h => h1 (.inr h), h2, rfl⟩)⟩
    · exact ⟨0, .inr (.inr ⟨fun h => h1 (.inl h), fun h => h1 (.inr h), by omega, rfl⟩)⟩
noncomputable def ckI (s : ByteArray) : Int := (check_is s).choose
theorem ckI_is (s : ByteArray) : CheckIs s (ckI s) := (check_is s).choose_spec
def rpB (t r nt nr pt pr : Int) : Bool := if pt = 0 ∧ pr = 0 then true else if pt = 0 ∧ pr = 1 then !decide (t = nt ∧ r = nr) else St.rightB pt pr && (decide (St.cmpS pt pr t r < 0) && !decide (pt = nt ∧ pr = nr))
noncomputable def rB (t r q nt nr pt pr : Int) (nm : ByteArray) : Bool := St.rightB t r && (decide (1 ≤ q) && (decide (q ≤ 4294967296) && (St.rightB nt nr && (decide (St.cmpS nt nr t r ≤ 0) && (rpB t r nt nr pt pr && decide (ckI nm = 0))))))
theorem no2 {a b : Int} {x y : Int} (h : ¬ (a = x ∧ b = y)) : (a == x) = false ∨ ((a == x) = true ∧ (b == y) = false) := by
  by_cases e : a = x
  · exact .inr ⟨beqb_ a x e, bneb_ b y (fun e2 => h ⟨e, e2⟩)⟩
  · exact .inl (bneb_ a x e)
theorem yes2 {a b : Int} {x y : Int} (h : a = x ∧ b = y) : (a == x) = true ∧ (b == y) = true := ⟨beqb_ a x h.1, beqb_ b y h.2⟩
theorem ret_b' {a b : Bool} (h : b = a) : (Ending.returned (.bool a)) = .returned (.bool b) := by rw [h]
set_option maxRecDepth 100000 in
set_option maxHeartbeats 6400000 in
theorem rightParent_any (w : World) (t r q nt nr pt pr : Int) (nm : ByteArray) (d : Bool) :
    Calls Tryz.prog 56 #[.agg #[.int .i64 t, .int .i64 r, .int .i64 q, .int .i64 nt, .int .i64 nr, .int .i64 pt, .int .i64 pr, .string nm, .bool d]] w fun e w' => e = .returned (.bool (rpB t r nt nr pt pr)) ∧ Below w.heap.size w w' := by
  have T0 := Lib.hid (BX.start w t r q nt nr pt pr nm d)
  by_cases h0 : pt = 0 ∧ pr = 0
  · have E := Lib.hid (show rpB t r nt nr pt pr = true from by unfold rpB; rw [if_pos h0])
    obtain ⟨u1, u2⟩ := yes2 h0
    clear h0
    go_enter Tryz.func56, Tryz.ntmps56
    go_wp2_with fail
    refine (St.root_any _).mono ?_
    rintro e w1 ⟨rfl, hb⟩
    have T1 := Lib.hid (T0.out.step hb)
    clear hb
    go_wp2_with fail
    go_returns
    exact ⟨ret_b' E.out, T1.out.1⟩
  · have h0' := no2 h0
    by_cases h1 : pt = 0 ∧ pr = 1
    · have E1 := Lib.hid (show rpB t r nt nr pt pr = !decide (t = nt ∧ r = nr) from by unfold rpB; rw [if_neg h0, if_pos h1])
      obtain ⟨u1, u2⟩ := yes2 h1
      have u3 : (pr == 0) = false := bneb_ pr 0 (by omega)
      have KD := Lib.hid (show kindI t r nt nr pt pr = if t = nt ∧ r = nr then 1 else 3 from by unfold kindI; rw [if_pos h1])
      clear h0 h0' h1
      go_enter Tryz.func56, Tryz.ntmps56
      go_wp2_with fail
      refine (St.root_any _).mono ?_
      rintro e w1 ⟨rfl, hb⟩
      have T1 := Lib.hid (T0.out.step hb)
      clear hb
      go_wp2_with fail
      refine (St.trash_any _).mono ?_
      rintro e w2 ⟨rfl, hb⟩
      have T2 := Lib.hid (T1.out.step hb)
      clear hb
      obtain ⟨c0, c1, c2, c3, c4, c5, c6, c7, c8⟩ := T2.out.2.cells
      go_wp2_with fail
      refine (kind_any _ t r q nt nr pt pr nm d).mono ?_
      rintro e w3 ⟨rfl, hb⟩
      have T3 := Lib.hid (T2.out.step hb)
      clear hb
      by_cases h2 : t = nt ∧ r = nr
      · have E := Lib.hid (show rpB t r nt nr pt pr = false from by rw [E1.out, decide_eq_true h2]; rfl)
        have kk := KD.out
        rw [if_pos h2] at kk
        rw [kk]
        clear h2 kk c0 c1 c2 c3 c4 c5 c6 c7 c8
        go_wp2_with fail
        go_returns
        exact ⟨ret_b' E.out, T3.out.1⟩
      · have E := Lib.hid (show rpB t r nt nr pt pr = true from by rw [E1.out, decide_eq_false h2]; rfl)
        have kk := KD.out
        rw [if_neg h2] at kk
        rw [kk]
        clear h2 kk c0 c1 c2 c3 c4 c5 c6 c7 c8
        go_wp2_with fail
        go_returns
        exact ⟨ret_b' E.out, T3.out.1⟩
    · have E1 := Lib.hid (show rpB t r nt nr pt pr = (St.rightB pt pr && (decide (St.cmpS pt pr t r < 0) && !decide (pt = nt ∧ pr = nr))) from by unfold rpB; rw [if_neg h0, if_neg h1])
      have h1' := no2 h1
      have hcase : ((pt == 0) = false) ∨ ((pt == 0) = true ∧ (pr == 0) = false ∧ (pr == 1) = false) := by
        rcases h0' with a | ⟨a, b⟩
        · exact .inl a
        · rcases h1' with a' | ⟨_, b'⟩
          · rw [a] at a'; cases a'
          · exact .inr ⟨a, b, b'⟩
      clear h0 h0' h1 h1'
      rcases hcase with u1 | ⟨u1, u2, u3⟩
      all_goals
        go_enter Tryz.func56, Tryz.ntmps56
        go_wp2_with fail
        refine (St.root_any _).mono ?_
        rintro e w1 ⟨rfl, hb⟩
        have T1 := Lib.hid (T0.out.step hb)
        clear hb
        go_wp2_with fail
        refine (St.trash_any _).mono ?_
        rintro e w2 ⟨rfl, hb⟩
        have T2 := Lib.hid (T1.out.step hb)
        clear hb
        obtain ⟨c0, c1, c2, c3, c4, c5, c6, c7, c8⟩ := T2.out.2.cells
        go_wp2_with fail
        refine (St.right_any _ pt pr).mono ?_
        rintro e w3 ⟨rfl, hb⟩
        have T3 := Lib.hid (T2.out.step hb)
        clear hb
        clear c0 c1 c2 c3 c4 c5 c6 c7 c8
        cases hr : St.rightB pt pr with
        | false =>
          have E := Lib.hid (show rpB t r nt nr pt pr = false from by rw [E1.out, hr]; rfl)
          clear hr
          go_wp2_with fail
          go_returns
          exact ⟨ret_b' E.out, T3.out.1⟩
        | true =>
          rw [hr] at E1
          clear hr
          obtain ⟨c0, c1, c2, c3, c4, c5, c6, c7, c8⟩ := T3.out.2.cells
          go_wp2_with fail
          refine (St.compare_any _ pt pr t r).mono ?_
          rintro e w4 ⟨rfl, hb⟩
          have T4 := Lib.hid (T3.out.step hb)
          clear hb
          clear c0 c1 c2 c3 c4 c5 c6 c7 c8
          by_cases hz : St.cmpS pt pr t r < 0
          · rw [decide_eq_true hz] at E1
            generalize St.cmpS pt pr t r = z at *
            obtain ⟨c0, c1, c2, c3, c4, c5, c6, c7, c8⟩ := T4.out.2.cells
            by_cases h2 : pt = nt ∧ pr = nr
            · have E := Lib.hid (show rpB t r nt nr pt pr = false from by rw [E1.out, decide_eq_true h2]; rfl)
              obtain ⟨v1, v2⟩ := yes2 h2
              clear h2
              go_wp2_with fail
              go_returns
              exact ⟨ret_b' E.out, T4.out.1⟩
            · have E := Lib.hid (show rpB t r nt nr pt pr = true from by rw [E1.out, decide_eq_false h2]; rfl)
              have h2' := no2 h2
              clear h2
              rcases h2' with v1 | ⟨v1, v2⟩
              all_goals
                go_wp2_with fail
                go_returns
                exact ⟨ret_b' E.out, T4.out.1⟩
          · have E := Lib.hid (show rpB t r nt nr pt pr = false from by rw [E1.out, decide_eq_false hz]; rfl)
            generalize St.cmpS pt pr t r = z at *
            go_wp2_with fail
            go_returns
            exact ⟨ret_b' E.out, T4.out.1⟩
set_option maxRecDepth 100000 in
set_option maxHeartbeats 6400000 in
theorem right_any (w : World) (t r q nt nr pt pr : Int) (nm : ByteArray) (d : Bool) (hz : nm.size ≤ 1000000) :
    Calls Tryz.prog 31 #[.agg #[.int .i64 t, .int .i64 r, .int .i64 q, .int .i64 nt, .int .i64 nr, .int .i64 pt, .int .i64 pr, .string nm, .bool d]] w fun e w' => e = .returned (.bool (rB t r q nt nr pt pr nm)) ∧ Below w.heap.size w w' := by
  have T0 := Lib.hid (BX.start w t r q nt nr pt pr nm d)
  have CK := Lib.hid (fun W => check_any W nm hz (ckI nm) (ckI_is nm))
  clear hz
  go_enter Tryz.func31, Tryz.ntmps31
  go_wp2_with fail
  refine (St.right_any _ t r).mono ?_
  rintro e w1 ⟨rfl, hb⟩
  have T1 := Lib.hid (T0.out.step hb)
  clear hb
  cases h1 : St.rightB t r with
  | false =>
    have E := Lib.hid (show rB t r q nt nr pt pr nm = false from by unfold rB; simp [h1])
    clear h1
    go_wp2_with fail
    go_returns
    exact ⟨ret_b' E.out, T1.out.1⟩
  | true =>
    obtain ⟨c0, c1, c2, c3, c4, c5, c6, c7, c8⟩ := T1.out.2.cells
    by_cases h2 : 1 ≤ q
    · by_cases h3 : q ≤ 4294967296
      · have H123 := Lib.hid (And.intro h1 (And.intro h2 h3))
        clear h1
        go_wp2_with fail
        refine (St.right_any _ nt nr).mono ?_
        rintro e w2 ⟨rfl, hb⟩
        have T2 := Lib.hid (T1.out.step hb)
        clear hb
        clear c0 c1 c2 c3 c4 c5 c6 c7 c8 h2 h3
        cases h4 : St.rightB nt nr with
        | false =>
          have E := Lib.hid (show rB t r q nt nr pt pr nm = false from by unfold rB; simp [h4])
          clear h4
          go_wp2_with fail
          go_returns
          exact ⟨ret_b' E.out, T2.out.1⟩
        | true =>
          have H4 := Lib.hid h4
          clear h4
          obtain ⟨c0, c1, c2, c3, c4, c5, c6, c7, c8⟩ := T2.out.2.cells
          go_wp2_with fail
          refine (St.compare_any _ nt nr t r).mono ?_
          rintro e w3 ⟨rfl, hb⟩
          have T3 := Lib.hid (T2.out.step hb)
          clear hb
          clear c0 c1 c2 c3 c4 c5 c6 c7 c8
          by_cases h5 : St.cmpS nt nr t r ≤ 0
          · have H5 := Lib.hid h5
            have h5' := h5
            clear h5
            generalize hz : St.cmpS nt nr t r = z at h5' ⊢
            have HZ := Lib.hid hz
            clear hz
            obtain ⟨c0, c1, c2, c3, c4, c5, c6, c7, c8⟩ := T3.out.2.cells
            go_wp2_with fail
            refine (rightParent_any _ t r q nt nr pt pr nm d).mono ?_
            rintro e w4 ⟨rfl, hb⟩
            have T4 := Lib.hid (T3.out.step hb)
            clear hb
            clear c0 c1 c2 c3 c4 c5 c6 c7 c8 h5'
            cases h6 : rpB t r nt nr pt pr with
            | false =>
              have E := Lib.hid (show rB t r q nt nr pt pr nm = false from by unfold rB; simp [h6])
              clear h6
              go_wp2_with fail
              go_returns
              exact ⟨ret_b' E.out, T4.out.1⟩
            | true =>
              have H6 := Lib.hid h6
              clear h6
              obtain ⟨c0, c1, c2, c3, c4, c5, c6, c7, c8⟩ := T4.out.2.cells
              go_wp2_with fail
              refine (CK.out _).mono ?_
              rintro e w5 ⟨rfl, hb⟩
              have T5 := Lib.hid (T4.out.step hb)
              clear hb
              clear c0 c1 c2 c3 c4 c5 c6 c7 c8
              by_cases h7 : ckI nm = 0
              · have E := Lib.hid (show rB t r q nt nr pt pr nm = true from by unfold rB; simp [H123.out, H4.out, H5.out, H6.out, h7])
                rw [h7]
                clear h7
                go_wp2_with fail
                go_returns
                exact ⟨ret_b' E.out, T5.out.1⟩
              · have E := Lib.hid (show rB t r q nt nr pt pr nm = false from by unfold rB; simp [h7])
                have v1 := bneb_ (ckI nm) 0 h7
                generalize ckI nm = z at *
                go_wp2_with fail
                go_returns
                exact ⟨ret_b' E.out, T5.out.1⟩
          · have E := Lib.hid (show rB t r q nt nr pt pr nm = false from by unfold rB; simp [h5])
            generalize St.cmpS nt nr t r = z at *
            go_wp2_with fail
            go_returns
            exact ⟨ret_b' E.out, T3.out.1⟩
      · have E := Lib.hid (show rB t r q nt nr pt pr nm = false from by unfold rB; simp [h3])
        clear h1
        go_wp2_with fail
        go_returns
        exact ⟨ret_b' E.out, T1.out.1⟩
    · have E := Lib.hid (show rB t r q nt nr pt pr nm = false from by unfold rB; simp [h2])
      clear h1
      go_wp2_with fail
      go_returns
      exact ⟨ret_b' E.out, T1.out.1⟩
end Go.Proofs.YtbeodechhneeeaaGreatDoor





set_option linter.unusedVariables false
namespace Go.Proofs.YtbeodechhneeeaaGreatDoor
open Go.RowKit

theorem less_cmp (a1 a2 b1 b2 : Int) : St.lessB a1 a2 b1 b2 = !decide (St.cmpS b1 b2 a1 a2 ≤ 0) := by
  rcases St.cmp_less b1 b2 a1 a2 with ⟨h, e⟩ | ⟨_, h, e⟩ | ⟨_, h, e⟩
  · rw [e]
    show St.lessB a1 a2 b1 b2 = false
    unfold St.lessB at h ⊢
    split at h <;> split <;> simp at * <;> omega
  · rw [e, h]; rfl
  · rw [e, h]; rfl
theorem less_cmp2 (a1 a2 b1 b2 : Int) : St.lessB a1 a2 b1 b2 = decide (St.cmpS a1 a2 b1 b2 < 0) := by
  rcases St.cmp_less a1 a2 b1 b2 with ⟨h, e⟩ | ⟨h, _, e⟩ | ⟨h, _, e⟩ <;> (rw [e, h]; rfl)
set_option maxRecDepth 100000 in
set_option maxHeartbeats 6400000 in
theorem rright_any (w : World) (t r q nt nr pt pr : Int) (nm : ByteArray) (d : Bool) (hz : nm.size ≤ 1000000) :
    Calls Tryz.prog 47 #[.agg #[.int .i64 t, .int .i64 r, .int .i64 q, .int .i64 nt, .int .i64 nr, .int .i64 pt, .int .i64 pr, .string nm, .bool d]] w fun e w' => e = .returned (.bool (rB t r q nt nr pt pr nm)) ∧ Below w.heap.size w w' := by
  have T0 := Lib.hid (BX.start w t r q nt nr pt pr nm d)
  have CK := Lib.hid (fun W => rcheck_any W nm (by omega) (ckI nm) (ckI_is nm))
  clear hz
  go_enter Tryz.func47, Tryz.ntmps47
  go_wp2_with fail
  refine (St.rright_any _ t r).mono ?_
  rintro e w1 ⟨rfl, hb⟩
  have T1 := Lib.hid (T0.out.step hb)
  clear hb
  cases h1 : St.rightB t r with
  | false =>
    have E := Lib.hid (show rB t r q nt nr pt pr nm = false from by unfold rB; simp [h1])
    clear h1
    go_wp2_with fail
    go_returns
    exact ⟨ret_b' E.out, T1.out.1⟩
  | true =>
    obtain ⟨c0, c1, c2, c3, c4, c5, c6, c7, c8⟩ := T1.out.2.cells
    by_cases h2 : 1 ≤ q
    · have h2' : ¬ q < 1 := by omega
      by_cases h3 : q ≤ 4294967296
      · have h3' : ¬ 4294967296 < q := by omega
        have H123 := Lib.hid (And.intro h1 (And.intro h2 h3))
        clear h1
        go_wp2_with fail
        refine (St.rright_any _ nt nr).mono ?_
        rintro e w2 ⟨rfl, hb⟩
        have T2 := Lib.hid (T1.out.step hb)
        clear hb
        clear c0 c1 c2 c3 c4 c5 c6 c7 c8 h2 h3
        cases h4 : St.rightB nt nr with
        | false =>
          have E := Lib.hid (show rB t r q nt nr pt pr nm = false from by unfold rB; simp [h4])
          clear h4
          go_wp2_with fail
          go_returns
          exact ⟨ret_b' E.out, T2.out.1⟩
        | true =>
          have H4 := Lib.hid h4
          clear h4
          obtain ⟨c0, c1, c2, c3, c4, c5, c6, c7, c8⟩ := T2.out.2.cells
          go_wp2_with fail
          refine (St.less_any _ t r nt nr).mono ?_
          rintro e w3 ⟨rfl, hb⟩
          have T3 := Lib.hid (T2.out.step hb)
          clear hb
          clear c0 c1 c2 c3 c4 c5 c6 c7 c8
          rw [less_cmp]
          by_cases h5 : St.cmpS nt nr t r ≤ 0
          · have H5 := Lib.hid h5
            rw [decide_eq_true h5]
            clear h5
            obtain ⟨c0, c1, c2, c3, c4, c5, c6, c7, c8⟩ := T3.out.2.cells
            go_wp2_with fail
            refine (CK.out _).mono ?_
            rintro e w4 ⟨rfl, hw⟩
            have T4 := T3
            subst hw
            by_cases h7 : ckI nm = 0
            · have H7 := Lib.hid h7
              rw [h7]
              clear h7
              by_cases g0 : pt = 0 ∧ pr = 0
              · have E := Lib.hid (show rB t r q nt nr pt pr nm = true from by unfold rB rpB; simp [H123.out, H4.out, H5.out, H7.out, g0])
                obtain ⟨u1, u2⟩ := yes2 g0
                clear g0
                go_wp2_with fail
                go_returns
                exact ⟨ret_b' E.out, T4.out.1⟩
              · have g0' := no2 g0
                have k0 := later_cell T4.out.2 (j := 0) rfl
                have k1 := later_cell T4.out.2 (j := 1) rfl
                have k3 := later_cell T4.out.2 (j := 3) rfl
                have k4 := later_cell T4.out.2 (j := 4) rfl
                have k5 := later_cell T4.out.2 (j := 5) rfl
                have k6 := later_cell T4.out.2 (j := 6) rfl
                have D40 := Lib.hid (fun x : Later w3 => rtrash_any x.w)
                by_cases g1 : pt = 0 ∧ pr = 1
                · obtain ⟨u1, u2⟩ := yes2 g1
                  have u3 : (pr == 0) = false := bneb_ pr 0 (by omega)
                  by_cases g2 : t = nt ∧ r = nr
                  · have E := Lib.hid (show rB t r q nt nr pt pr nm = false from by unfold rB rpB; rw [if_neg g0, if_pos g1]; simp [g2])
                    obtain ⟨v1, v2⟩ := yes2 g2
                    clear g0 g0' g1 g2
                    go_upto_region 5 with (fail)
                    refine wp_region_later (by kernel_rfl) (by kernel_rfl) ?_
                    repeat (go_big_quiet_step (first
                      | (go_at_call 80; with_reducible exact later_call (D40.out _))))
                    refine wpQuiet_nil ?_
                    rintro _ ⟨xl, rfl⟩
                    have T5 := Lib.hid (T4.out.step xl.below)
                    generalize xl.w = w5 at *
                    clear k0 k1 k3 k4 k5 k6 D40
                    clear c0 c1 c2 c3 c4 c5 c6 c7 c8
                    obtain ⟨c0, c1, c2, c3, c4, c5, c6, c7, c8⟩ := T5.out.2.cells
                    go_wp2_with fail
                    go_returns
                    exact ⟨ret_b' E.out, T5.out.1⟩
                  · have E := Lib.hid (show rB t r q nt nr pt pr nm = true from by unfold rB rpB; rw [if_neg g0, if_pos g1]; simp [H123.out, H4.out, H5.out, H7.out]; exact Classical.not_and_iff_not_or_not.1 g2)
                    have g2' := no2 g2
                    clear g0 g0' g1 g2
                    rcases g2' with v1 | ⟨v1, v2⟩
                    all_goals
                      go_upto_region 5 with (fail)
                      refine wp_region_later (by kernel_rfl) (by kernel_rfl) ?_
                      repeat (go_big_quiet_step (first
                        | (go_at_call 80; with_reducible exact later_call (D40.out _))))
                      refine wpQuiet_nil ?_
                      rintro _ ⟨xl, rfl⟩
                      have T5 := Lib.hid (T4.out.step xl.below)
                      generalize xl.w = w5 at *
                      clear k0 k1 k3 k4 k5 k6 D40
                      clear c0 c1 c2 c3 c4 c5 c6 c7 c8
                      obtain ⟨c0, c1, c2, c3, c4, c5, c6, c7, c8⟩ := T5.out.2.cells
                      go_wp2_with fail
                      go_returns
                      exact ⟨ret_b' E.out, T5.out.1⟩
                · have E1 := Lib.hid (show rB t r q nt nr pt pr nm = (St.rightB pt pr && (decide (St.cmpS pt pr t r < 0) && !decide (pt = nt ∧ pr = nr))) from by unfold rB rpB; rw [if_neg g0, if_neg g1]; simp [H123.out, H4.out, H5.out, H7.out])
                  have g1' := no2 g1
                  have hcase : ((pt == 0) = false) ∨ ((pt == 0) = true ∧ (pr == 0) = false ∧ (pr == 1) = false) := by
                    rcases g0' with a | ⟨a, b⟩
                    · exact .inl a
                    · rcases g1' with a' | ⟨_, b'⟩
                      · rw [a] at a'; cases a'
                      · exact .inr ⟨a, b, b'⟩
                  clear g0 g0' g1 g1'
                  rcases hcase with u1 | ⟨u1, u2, u3⟩
                  all_goals
                    go_upto_region 5 with (fail)
                    refine wp_region_later (by kernel_rfl) (by kernel_rfl) ?_
                    repeat (go_big_quiet_step (first
                      | (go_at_call 80; with_reducible exact later_call (D40.out _))))
                    refine wpQuiet_nil ?_
                    rintro _ ⟨xl, rfl⟩
                    have T5 := Lib.hid (T4.out.step xl.below)
                    generalize xl.w = w5 at *
                    clear k0 k1 k3 k4 k5 k6 D40
                    clear c0 c1 c2 c3 c4 c5 c6 c7 c8
                    obtain ⟨c0, c1, c2, c3, c4, c5, c6, c7, c8⟩ := T5.out.2.cells
                    go_wp2_with fail
                    refine (St.rright_any _ pt pr).mono ?_
                    rintro e w6 ⟨rfl, hb⟩
                    have T6 := Lib.hid (T5.out.step hb)
                    clear hb
                    clear c0 c1 c2 c3 c4 c5 c6 c7 c8
                    cases hr : St.rightB pt pr with
                    | false =>
                      have E := Lib.hid (show rB t r q nt nr pt pr nm = false from by rw [E1.out, hr]; rfl)
                      clear hr
                      go_wp2_with fail
                      go_returns
                      exact ⟨ret_b' E.out, T6.out.1⟩
                    | true =>
                      rw [hr] at E1
                      clear hr
                      obtain ⟨c0, c1, c2, c3, c4, c5, c6, c7, c8⟩ := T6.out.2.cells
                      go_wp2_with fail
                      refine (St.less_any _ pt pr t r).mono ?_
                      rintro e w7 ⟨rfl, hb⟩
                      have T7 := Lib.hid (T6.out.step hb)
                      clear hb
                      clear c0 c1 c2 c3 c4 c5 c6 c7 c8
                      rw [less_cmp2]
                      cases hz : decide (St.cmpS pt pr t r < 0) with
                      | true =>
                        rw [hz] at E1
                        clear hz
                        obtain ⟨c0, c1, c2, c3, c4, c5, c6, c7, c8⟩ := T7.out.2.cells
                        by_cases h2 : pt = nt ∧ pr = nr
                        · have E := Lib.hid (show rB t r q nt nr pt pr nm = false from by rw [E1.out, decide_eq_true h2]; rfl)
                          obtain ⟨v1, v2⟩ := yes2 h2
                          clear h2
                          go_wp2_with fail
                          go_returns
                          exact ⟨ret_b' E.out, T7.out.1⟩
                        · have E := Lib.hid (show rB t r q nt nr pt pr nm = true from by rw [E1.out, decide_eq_false h2]; rfl)
                          have h2' := no2 h2
                          clear h2
                          rcases h2' with v1 | ⟨v1, v2⟩
                          all_goals
                            go_wp2_with fail
                            go_returns
                            exact ⟨ret_b' E.out, T7.out.1⟩
                      | false =>
                        have E := Lib.hid (show rB t r q nt nr pt pr nm = false from by rw [E1.out, hz]; rfl)
                        clear hz
                        go_wp2_with fail
                        go_returns
                        exact ⟨ret_b' E.out, T7.out.1⟩
            · have E := Lib.hid (show rB t r q nt nr pt pr nm = false from by unfold rB; simp [h7])
              have v1 := neb_ (ckI nm) 0 h7
              generalize ckI nm = z at *
              go_wp2_with fail
              go_returns
              exact ⟨ret_b' E.out, T4.out.1⟩
          · have E := Lib.hid (show rB t r q nt nr pt pr nm = false from by unfold rB; simp [h5])
            rw [decide_eq_false h5]
            clear h5
            go_wp2_with fail
            go_returns
            exact ⟨ret_b' E.out, T3.out.1⟩
      · have h3' : 4294967296 < q := by omega
        have E := Lib.hid (show rB t r q nt nr pt pr nm = false from by unfold rB; simp [h3])
        clear h1
        go_wp2_with fail
        go_returns
        exact ⟨ret_b' E.out, T1.out.1⟩
    · have h2' : q < 1 := by omega
      have E := Lib.hid (show rB t r q nt nr pt pr nm = false from by unfold rB; simp [h2])
      clear h1
      go_wp2_with fail
      go_returns
      exact ⟨ret_b' E.out, T1.out.1⟩
end Go.Proofs.YtbeodechhneeeaaGreatDoor





set_option linter.unusedVariables false
namespace Go.Proofs.YtbeodechhneeeaaGreatDoor
open Go.RowKit

structure O where
  t : Int
  r : Int
  q : Int
  nt : Int
  nr : Int
  pt : Int
  pr : Int
  nm : ByteArray
  d : Bool
def O0 : O := ⟨0, 0, 0, 0, 0, 0, 0, ⟨#[]⟩, false⟩
def oCells (o : O) : Array Value := #[.int .i64 o.t, .int .i64 o.r, .int .i64 o.q, .int .i64 o.nt, .int .i64 o.nr, .int .i64 o.pt, .int .i64 o.pr, .string o.nm, .bool o.d]
def oV (o : O) : Value := .agg (oCells o)
end Go.Proofs.YtbeodechhneeeaaGreatDoor





set_option linter.unusedVariables false
namespace Go.Proofs.YtbeodechhneeeaaGreatDoor
open Go.RowKit

theorem info25 : (Tryz.prog.info? 33).map (fun i => (i.zero, i.size, i.bytes)) = some (some (oV O0), 9, 80) := by kernel_rfl
theorem Tryz.u27 : Tryz.prog.underlying 22 = some (.slice 33) := by kernel_rfl
theorem add_addr (k o j : Nat) : (⟨k, o, none⟩ : Addr).add j = ⟨k, o + j, none⟩ := by
  unfold Addr.add; split <;> simp_all
def oc (o : O) : List Value := (oCells o).toList
theorem oc_len (o : O) : (oc o).length = 9 := rfl
def cs9 : List O → List Value
  | [] => []
  | p :: r => oc p ++ cs9 r
theorem cs9_length : ∀ l : List O, (cs9 l).length = l.length * 9
  | [] => rfl
  | p :: r => by show (oc p ++ cs9 r).length = (r.length + 1) * 9; rw [List.length_append, oc_len, cs9_length r]; omega
theorem oc_one (o : O) : ∀ u ∈ oc o, u.oneCell' = true := by
  intro u hu
  simp only [oc, oCells, List.mem_cons, List.not_mem_nil, or_false] at hu
  rcases hu with rfl | rfl | rfl | rfl | rfl | rfl | rfl | rfl | rfl <;> rfl
theorem cs9_one : ∀ (l : List O), ∀ u ∈ cs9 l, u.oneCell' = true
  | [], u, h => by cases h
  | p :: r, u, h => by
    rcases List.mem_append.1 h with h | h
    · exact oc_one p u h
    · exact cs9_one r u h
theorem cs9_get : ∀ (l : List O) (j : Nat) (p : O), l[j]? = some p → ∀ i, i < 9 → (cs9 l)[j * 9 + i]? = (oc p)[i]?
  | [], j, p, h, i, hi => by cases h
  | q :: r, 0, p, h, i, hi => by
    injection h with h
    subst h
    show (oc q ++ cs9 r)[0 * 9 + i]? = _
    rw [List.getElem?_append_left (by rw [oc_len]; omega), Nat.zero_mul, Nat.zero_add]
  | q :: r, j + 1, p, h, i, hi => by
    have ih := cs9_get r j p (by simpa using h) i hi
    show (oc q ++ cs9 r)[(j + 1) * 9 + i]? = _
    rw [List.getElem?_append_right (by rw [oc_len]; omega), oc_len, show (j + 1) * 9 + i - 9 = j * 9 + i by omega]
    exact ih
theorem cs9_at (l : List O) (i : Nat) (u : Value) (h : (cs9 l)[i]? = some u) : ∃ j p r, l[j]? = some p ∧ r < 9 ∧ i = j * 9 + r ∧ (oc p)[r]? = some u := by
  have hlt := (List.getElem?_eq_some_iff.1 h).1
  rw [cs9_length] at hlt
  have hj : i / 9 < l.length := by omega
  have hr : i % 9 < 9 := Nat.mod_lt _ (by omega)
  have e : i = i / 9 * 9 + i % 9 := by omega
  refine ⟨i / 9, _, i % 9, List.getElem?_eq_getElem hj, hr, e, ?_⟩
  have := cs9_get l (i / 9) _ (List.getElem?_eq_getElem hj) (i % 9) hr
  rw [← this, ← e]
  exact h
/-- A slice that holds these ops, wherever. -/
def OLies (w : World) (v : Value) (l : List O) : Prop := ∃ ao cap, v = .slice ao l.length cap ∧ l.length ≤ cap ∧ cap ≤ maxLen ∧ (ao = none → l = [] ∧ cap = 0) ∧
  ∀ b, ao = some b → l ≠ [] → ∃ g k, b = ⟨g, k, none⟩ ∧ g < w.heap.size ∧ ∀ (j : Nat) p, l[j]? = some p → ∀ i u, (oc p)[i]? = some u → w.cell? ⟨g, k + j * 9 + i, none⟩ = some u
theorem OLies.nil (w : World) : OLies w (.slice none 0 0) [] := ⟨none, 0, rfl, Nat.le_refl _, Nat.zero_le _, fun _ => ⟨rfl, rfl⟩, fun b hb => by cases hb⟩
theorem OLies.step {w w' : World} {v : Value} {l : List O} (h : OLies w v l) (hb : Below w.heap.size w w') : OLies w' v l := by
  obtain ⟨ao, cap, rfl, hn, hm, h0, hc⟩ := h
  refine ⟨ao, cap, rfl, hn, hm, h0, fun b hbb hne => ?_⟩
  obtain ⟨g, k, rfl, hk, hc⟩ := hc b hbb hne
  exact ⟨g, k, rfl, Nat.lt_of_lt_of_le hk hb.size, fun j p hj i u hi => (hb.cell (p := ⟨g, k + j * 9 + i, none⟩) hk).trans (hc j p hj i u hi)⟩
theorem OLies.shape {w : World} {v : Value} {l : List O} (h : OLies w v l) : ∃ ao cap, v = .slice ao l.length cap := by
  obtain ⟨ao, cap, e, _⟩ := h; exact ⟨ao, cap, e⟩
theorem OLies.len {w : World} {v : Value} {l : List O} (h : OLies w v l) : l.length ≤ 9223372036854775807 := by
  obtain ⟨ao, cap, e, h1, h2, _⟩ := h
  unfold maxLen at h2
  omega
theorem ne_of_lt {l : List O} {i : Nat} (h : i < l.length) : l ≠ [] := by rintro rfl; simp at h
theorem OLies.at' {w : World} {ao : Option Addr} {n cap : Nat} {l : List O} (h : OLies w (.slice ao n cap) l) {i : Nat} (hi : i < n) : ∃ g k o, ao = some ⟨g, k, none⟩ ∧ l[i]? = some o ∧ g < w.heap.size ∧ (w.cell? ⟨g, k + i * 9, none⟩ = some (.int .i64 o.t) ∧ w.cell? ⟨g, k + i * 9 + 1, none⟩ = some (.int .i64 o.r) ∧ w.cell? ⟨g, k + i * 9 + 2, none⟩ = some (.int .i64 o.q) ∧ w.cell? ⟨g, k + i * 9 + 3, none⟩ = some (.int .i64 o.nt) ∧ w.cell? ⟨g, k + i * 9 + 4, none⟩ = some (.int .i64 o.nr) ∧ w.cell? ⟨g, k + i * 9 + 5, none⟩ = some (.int .i64 o.pt) ∧ w.cell? ⟨g, k + i * 9 + 6, none⟩ = some (.int .i64 o.pr) ∧ w.cell? ⟨g, k + i * 9 + 7, none⟩ = some (.string o.nm) ∧ w.cell? ⟨g, k + i * 9 + 8, none⟩ = some (.bool o.d)) := by
  obtain ⟨ao', cap', e, hn, hm, h0, hc⟩ := h
  injection e with e1 e2 e3
  subst e1 e2 e3
  cases ao with
  | none => obtain ⟨rfl, _⟩ := h0 rfl; simp at hi
  | some b =>
    obtain ⟨g, k, rfl, hg, hc⟩ := hc b rfl (ne_of_lt hi)
    have hp := List.getElem?_eq_getElem hi
    exact ⟨g, k, _, rfl, hp, hg, hc i _ hp 0 _ rfl, hc i _ hp 1 _ rfl, hc i _ hp 2 _ rfl, hc i _ hp 3 _ rfl, hc i _ hp 4 _ rfl, hc i _ hp 5 _ rfl, hc i _ hp 6 _ rfl, hc i _ hp 7 _ rfl, hc i _ hp 8 _ rfl⟩
theorem OLies.src {w : World} {v : Value} {l : List O} (h : OLies w v l) : Src Tryz.prog 9 22 v l.length (cs9 l) w := by
  obtain ⟨ao, cap, rfl, hn, _, h0, hc⟩ := h
  cases ao with
  | none =>
    obtain ⟨rfl, rfl⟩ := h0 rfl
    exact Src.ofNil _ Tryz.u27 0
  | some b =>
    refine Src.ofSlice _ Tryz.u27 _ _ _ _ (cs9_length l) (fun i u hi => ?_) (cs9_one l)
    obtain ⟨j, p, r, hj, hr, rfl, hu⟩ := cs9_at l i u hi
    obtain ⟨g, k, rfl, _, hc⟩ := hc b rfl (ne_of_lt (List.getElem?_eq_some_iff.1 hj).1)
    rw [add_addr, ← Nat.add_assoc]
    exact hc j p hj r u hu
theorem own_olies {w : World} {B : Nat} {v : Value} {l : List O} (h : w.ownsRow B 33 9 v l.length (cs9 l)) : OLies w v l := by
  rcases h.2 with ⟨rfl, hn⟩ | ⟨g, cap, cur, rfl, hB, hg, hn, hm, hs, ht⟩
  · have : l = [] := List.eq_nil_of_length_eq_zero hn
    subst this
    exact OLies.nil w
  · refine ⟨_, cap, rfl, hn, hm, (fun h => by cases h), fun b hb _ => ?_⟩
    cases hb
    refine ⟨g, 0, rfl, (Array.getElem?_eq_some_iff.1 hg).1, fun j p hj i u hi => ?_⟩
    have hi9 : i < 9 := by have := (List.getElem?_eq_some_iff.1 hi).1; rwa [oc_len] at this
    have c := cs9_get l j p hj i hi9
    have h0 := h.cells (g := g) rfl _ _ (c.trans hi)
    rw [add_addr] at h0
    rw [Nat.zero_add] at h0 ⊢
    exact h0
end Go.Proofs.YtbeodechhneeeaaGreatDoor





set_option linter.unusedVariables false
namespace Go.Proofs.YtbeodechhneeeaaGreatDoor
open Go.RowKit

noncomputable def sameO (l m : List O) : Bool := @decide (l = m) (Classical.propDecidable _)
theorem sameO_self (l : List O) : sameO l l = true := by unfold sameO; simp
theorem sameO_ne {l m : List O} (h : l ≠ m) : sameO l m = false := by unfold sameO; simp [h]
theorem O.ext' {p q : O} (h1 : p.t = q.t) (h2 : p.r = q.r) (h3 : p.q = q.q) (h4 : p.nt = q.nt) (h5 : p.nr = q.nr) (h6 : p.pt = q.pt) (h7 : p.pr = q.pr) (h8 : p.nm = q.nm) (h9 : p.d = q.d) : p = q := by
  cases p; cases q; simp_all
theorem list_ext_get {l m : List O} (hl : l.length = m.length) (h : ∀ j : Nat, j < l.length → l[j]? = m[j]?) : l = m := by
  apply List.ext_getElem? 
  intro j
  by_cases hj : j < l.length
  · exact h j hj
  · rw [List.getElem?_eq_none (by omega), List.getElem?_eq_none (by omega)]
set_option maxRecDepth 100000 in
set_option maxHeartbeats 6400000 in
theorem rsameO_any (w : World) (v1 v2 : Value) (l m : List O) (h1 : OLies w v1 l) (h2 : OLies w v2 m) :
    Calls Tryz.prog 17 #[v1, v2] w fun e w' => e = .returned (.bool (sameO l m)) ∧ Below w.heap.size w w' := by
  have hl1 := h1.len
  have hl2 := h2.len
  have H1 := Lib.hid h1
  have H2 := Lib.hid h2
  obtain ⟨a1, c1, rfl⟩ := h1.shape
  obtain ⟨a2, c2, rfl⟩ := h2.shape
  clear h1 h2
  by_cases hne : l.length = m.length
  · have HN := Lib.hid hne
    have t0 : ((l.length : Int) != (m.length : Int)) = false := by simp [hne]
    go_enter Tryz.func17, Tryz.ntmps17
    clear hne
    go_wp2
    clear t0
    go_loopw [5] (fun kv wr => ∃ i : Nat, kv = .int .i64 i ∧ i ≤ l.length ∧ Hid (∀ j : Nat, j < i → l[j]? = m[j]?) ∧ ∃ n, wr = w.drewN n) (fun kv _ => l.length - (intOf kv).toNat)
    case atStart => exact ⟨0, rfl, Nat.zero_le _, Lib.hid (fun j h => absurd h (Nat.not_lt_zero _)), 0, rfl⟩
    case round =>
      obtain ⟨i, rfl, hi, hJ, n, rfl⟩ := hrel
      by_cases hlt : i < l.length
      · obtain ⟨k, o, p, rfl, hp, hg, d0, d1, d2, d3, d4, d5, d6, d7, d8⟩ := H1.out.at' hlt
        obtain ⟨k', o', p', rfl, hp', hg', e0, e1, e2, e3, e4, e5, e6, e7, e8⟩ := H2.out.at' (show i < m.length from by have := HN.out; omega)
        have hmlt : i < m.length := by have := HN.out; omega
        clear hg hg'
        by_cases hpp : p = p'
        · subst hpp
          have HJ2 := Lib.hid (show ∀ j : Nat, j < i + 1 → l[j]? = m[j]? from fun j hj => by
            by_cases e : j = i
            · subst e; rw [hp, hp']
            · exact hJ.out j (by omega))
          clear hp hp' hJ
          go_wp2
          go_quiet (fail)
          go_wp2
          go_roundw
          case rel => exact ⟨i + 1, by go_num, by omega, HJ2, _, rfl⟩
          case measure => simp [intOf]; omega
        · have HE := Lib.hid (show sameO l m = false from sameO_ne (fun e => hpp (by subst e; rw [hp] at hp'; injection hp')))
          clear hp hp' hJ
          have hd : (p.t == p'.t) = false ∨ ((p.t == p'.t) = true ∧ ((p.r == p'.r) = false ∨ ((p.r == p'.r) = true ∧ ((p.q == p'.q) = false ∨ ((p.q == p'.q) = true ∧ ((p.nt == p'.nt) = false ∨ ((p.nt == p'.nt) = true ∧ ((p.nr == p'.nr) = false ∨ ((p.nr == p'.nr) = true ∧ ((p.pt == p'.pt) = false ∨ ((p.pt == p'.pt) = true ∧ ((p.pr == p'.pr) = false ∨ ((p.pr == p'.pr) = true ∧ ((p.nm.toList == p'.nm.toList) = false ∨ ((p.nm.toList == p'.nm.toList) = true ∧ (p.d == p'.d) = false))))))))))))))) := by
            have key : ¬ (p.t = p'.t ∧ p.r = p'.r ∧ p.q = p'.q ∧ p.nt = p'.nt ∧ p.nr = p'.nr ∧ p.pt = p'.pt ∧ p.pr = p'.pr ∧ p.nm = p'.nm ∧ p.d = p'.d) := fun ⟨a1, a2, a3, a4, a5, a6, a7, a8, a9⟩ => hpp (O.ext' a1 a2 a3 a4 a5 a6 a7 a8 a9)
            by_cases x1 : p.t = p'.t
            · refine .inr ⟨beqb_ _ _ x1, ?_⟩
              by_cases x2 : p.r = p'.r
              · refine .inr ⟨beqb_ _ _ x2, ?_⟩
                by_cases x3 : p.q = p'.q
                · refine .inr ⟨beqb_ _ _ x3, ?_⟩
                  by_cases x4 : p.nt = p'.nt
                  · refine .inr ⟨beqb_ _ _ x4, ?_⟩
                    by_cases x5 : p.nr = p'.nr
                    · refine .inr ⟨beqb_ _ _ x5, ?_⟩
                      by_cases x6 : p.pt = p'.pt
                      · refine .inr ⟨beqb_ _ _ x6, ?_⟩
                        by_cases x7 : p.pr = p'.pr
                        · refine .inr ⟨beqb_ _ _ x7, ?_⟩
                          by_cases x8 : p.nm = p'.nm
                          · refine .inr ⟨tl_eq x8, ?_⟩
                            exact Bool.eq_false_iff.2 (fun e => key ⟨x1, x2, x3, x4, x5, x6, x7, x8, by simpa using e⟩)
                          · exact .inl (tl_ne x8)
                        · exact .inl (bneb_ _ _ x7)
                      · exact .inl (bneb_ _ _ x6)
                    · exact .inl (bneb_ _ _ x5)
                  · exact .inl (bneb_ _ _ x4)
                · exact .inl (bneb_ _ _ x3)
              · exact .inl (bneb_ _ _ x2)
            · exact .inl (bneb_ _ _ x1)
          clear hpp
          rcases hd with x0 | ⟨x0, x1 | ⟨x1, x2 | ⟨x2, x3 | ⟨x3, x4 | ⟨x4, x5 | ⟨x5, x6 | ⟨x6, x7 | ⟨x7, x8⟩⟩⟩⟩⟩⟩⟩⟩
          all_goals
            go_wp2
            go_quiet (fail)
            go_wp2
            go_returns
            exact ⟨ret_b' HE.out, by first | exact Wi.below_drewN _ _ | exact (Wi.below_drewN w n).trans ((Wi.below_drewN _ _).mono (Wi.below_drewN w n).size)⟩
      · have HE := Lib.hid (show sameO l m = true from by
          have : l = m := list_ext_get HN.out (fun j hj => hJ.out j (by omega))
          rw [this]; exact sameO_self m)
        clear hJ
        go_wp2
        go_returns
        exact ⟨ret_b' HE.out, by first | exact Wi.below_drewN _ _ | exact (Wi.below_drewN w n).trans ((Wi.below_drewN _ _).mono (Wi.below_drewN w n).size)⟩
  · have HE := Lib.hid (show sameO l m = false from sameO_ne (fun e => hne (by rw [e])))
    have t0 : ((l.length : Int) != (m.length : Int)) = true := by simp; omega
    clear hne
    go_enter Tryz.func17, Tryz.ntmps17
    go_wp2
    go_returns
    exact ⟨ret_b' HE.out, Below.refl _ _⟩
end Go.Proofs.YtbeodechhneeeaaGreatDoor





set_option linter.unusedVariables false
set_option linter.unusedSimpArgs false
set_option maxRecDepth 100000
namespace Go.Proofs.YtbeodechhneeeaaGreatDoor
open Go.RowKit
theorem ldO {W : World} {g o : Nat} {x : O} (h : ∀ i u, (oc x)[i]? = some u → W.cell? ⟨g, o + i, none⟩ = some u) : (Instr.loadAt 33 (.pointer (some ⟨g, o, none⟩))).run Tryz.prog W = .ok (oV x) W := by
  have d0 := h 0 _ rfl
  have d1 := h 1 _ rfl
  have d2 := h 2 _ rfl
  have d3 := h 3 _ rfl
  have d4 := h 4 _ rfl
  have d5 := h 5 _ rfl
  have d6 := h 6 _ rfl
  have d7 := h 7 _ rfl
  have d8 := h 8 _ rfl
  simp only [Nat.add_zero] at d0
  unfold oV oCells
  go_simp
theorem vstep (W : World) (o : Obj) : Below W.heap.size W (W.alloc o) := (Below.refl _ _).alloc (Nat.le_refl _) _
theorem cs9_append : ∀ l m : List O, cs9 (l ++ m) = cs9 l ++ cs9 m
  | [], m => rfl
  | p :: r, m => by show oc p ++ cs9 (r ++ m) = (oc p ++ cs9 r) ++ cs9 m; rw [cs9_append r m, List.append_assoc]
theorem own_lt {w : World} {B e k n : Nat} {v : Value} {xs : List Value} (h : w.ownsRow B e k v n xs) : ∀ j, v.ownBlock = some j → B ≤ j ∧ j < w.heap.size := by
  intro j hj
  rcases h.2 with ⟨rfl, _⟩ | ⟨g, cap, cur, rfl, hB, hb, h1⟩
  · cases hj
  · have : g = j := by simpa [Value.ownBlock] using hj
    subst this
    exact ⟨hB, lt_of_block hb⟩
theorem OLies.one {w : World} {v : Value} {l : List O} (h : OLies w v l) : v.oneCell' = true := by obtain ⟨ao, cap, rfl, _⟩ := h; rfl
theorem OLies.atK {w : World} {ao : Option Addr} {n cap : Nat} {l : List O} (h : OLies w (.slice ao n cap) l) {i : Nat} (hi : i < n) : ∃ g k o, ao = some ⟨g, k, none⟩ ∧ l[i]? = some o ∧ g < w.heap.size ∧ ∀ j u, (oc o)[j]? = some u → w.cell? ⟨g, k + i * 9 + j, none⟩ = some u := by
  obtain ⟨ao', cap', e, hn, hm, h0, hc⟩ := h
  injection e with e1 e2 e3
  subst e1 e2 e3
  cases ao with
  | none => obtain ⟨rfl, _⟩ := h0 rfl; simp at hi
  | some b =>
    obtain ⟨g, k, rfl, hg, hc⟩ := hc b rfl (ne_of_lt hi)
    have hp := List.getElem?_eq_getElem hi
    exact ⟨g, k, _, rfl, hp, hg, hc i _ hp⟩
end Go.Proofs.YtbeodechhneeeaaGreatDoor



set_option linter.unusedVariables false
set_option linter.unusedSimpArgs false
set_option maxRecDepth 100000
namespace Go.Proofs.YtbeodechhneeeaaGreatDoor
open Go.RowKit
theorem own_below {w w' : World} {E e size n : Nat} {v : Value} {xs : List Value} (h : w.ownsRow E e size v n xs) (hb : Below w.heap.size w w') : w'.ownsRow E e size v n xs :=
  h.kept (row := none) ⟨hb.os, hb.tape, hb.output, hb.size, fun k hk _ => hb.block k hk⟩ (by cases h : v.ownBlock <;> simp)
set_option maxRecDepth 100000 in
theorem one_op (W : World) (o : O) : OLies (W.alloc (.cells #[.int .i64 o.t, .int .i64 o.r, .int .i64 o.q, .int .i64 o.nt, .int .i64 o.nr, .int .i64 o.pt, .int .i64 o.pr, .string o.nm, .bool o.d] 33)) (.slice (some ⟨W.heap.size, 0, none⟩) 1 1) [o] := by
  refine ⟨_, 1, rfl, Nat.le_refl _, by unfold maxLen; omega, (fun h => by cases h), fun b hb _ => ?_⟩
  cases hb
  refine ⟨W.heap.size, 0, rfl, by simp, fun j p hj i u hi => ?_⟩
  have hj0 : j = 0 := by
    have := (List.getElem?_eq_some_iff.1 hj).1
    simp at this
    exact this
  subst hj0
  injection hj with hj
  subst hj
  rw [cell_of_row _ _ _ _ _ _ (heap_alloc_new W _), show 0 + 0 * 9 + i = i by omega]
  have h := hi
  unfold oc at h
  rw [Array.getElem?_toList] at h
  exact h
theorem bs_op (W : World) (o : O) : (Instr.buildSlice 22 1 #[(0, .agg #[.int .i64 o.t, .int .i64 o.r, .int .i64 o.q, .int .i64 o.nt, .int .i64 o.nr, .int .i64 o.pt, .int .i64 o.pr, .string o.nm, .bool o.d])]).run Tryz.prog W = .ok (.slice (some ⟨W.heap.size, 0, none⟩) 1 1) (W.alloc (.cells #[.int .i64 o.t, .int .i64 o.r, .int .i64 o.q, .int .i64 o.nt, .int .i64 o.nr, .int .i64 o.pt, .int .i64 o.pr, .string o.nm, .bool o.d] 33)) := by go_simp

def lessO (x y : O) : Bool := St.lessB x.t x.r y.t y.r
def stepO (x : O) (s : List O × Bool) (y : O) : List O × Bool := ((if !s.2 && lessO x y then s.1 ++ [x] else s.1) ++ [y], s.2 || lessO x y)
def foldO (x : O) (u : List O) : List O × Bool := u.foldl (stepO x) ([], false)
def insO (x : O) (u : List O) : List O := if (foldO x u).2 then (foldO x u).1 else (foldO x u).1 ++ [x]
def srtO (l : List O) : List O := l.foldl (fun u x => insO x u) []
theorem foldO_snoc (x : O) (u : List O) (j : Nat) (y : O) (h : u[j]? = some y) : foldO x (u.take (j + 1)) = stepO x (foldO x (u.take j)) y := by
  obtain ⟨hlt, e⟩ := List.getElem?_eq_some_iff.1 h
  unfold foldO
  rw [List.take_succ_eq_append_getElem hlt, List.foldl_append, e]
  rfl
theorem srtO_snoc (l : List O) (i : Nat) (x : O) (h : l[i]? = some x) : srtO (l.take (i + 1)) = insO x (srtO (l.take i)) := by
  obtain ⟨hlt, e⟩ := List.getElem?_eq_some_iff.1 h
  unfold srtO
  rw [List.take_succ_eq_append_getElem hlt, List.foldl_append, e]
  rfl
theorem foldO_len (x : O) : ∀ (u : List O) (s : List O × Bool), (u.foldl (stepO x) s).1.length + (if (u.foldl (stepO x) s).2 then 0 else 1) = s.1.length + u.length + (if s.2 then 0 else 1)
  | [], s => rfl
  | y :: u, s => by
    rw [List.foldl_cons, foldO_len x u (stepO x s y)]
    unfold stepO
    cases s.2 <;> cases lessO x y <;> simp <;> omega
theorem insO_len (x : O) (u : List O) : (insO x u).length = u.length + 1 := by
  have := foldO_len x u ([], false)
  unfold insO foldO
  cases h : (List.foldl (stepO x) ([], false) u).2 <;> rw [h] at this <;> simp at this ⊢ <;> omega
theorem foldO_le (x : O) (u : List O) : (foldO x u).1.length ≤ u.length + 1 := by
  have := foldO_len x u ([], false)
  unfold foldO
  simp at this
  omega
theorem srtO_len (l : List O) : (srtO l).length = l.length := by
  have : ∀ (l u : List O), (l.foldl (fun u x => insO x u) u).length = u.length + l.length := by
    intro l
    induction l with
    | nil => intro u; simp
    | cons x l ih => intro u; rw [List.foldl_cons, ih, insO_len, List.length_cons]; omega
  have h := this l []
  unfold srtO
  simpa using h
theorem push_own {w3 w4 : World} {E : Nat} {v v' : Value} {m : List O} {o : O} {ob : Obj} (ho : w3.ownsRow E 33 9 v m.length (cs9 m)) (hE : E ≤ w3.heap.size) (hown : w4.ownsRow E 33 9 v' (m.length + 1) (cs9 m ++ cs9 [o])) (hgr : (w3.alloc ob).grownBy w4 v.ownBlock) : w4.ownsRow E 33 9 v' (m ++ [o]).length (cs9 (m ++ [o])) ∧ Below E w3 w4 :=
  ⟨by rw [List.length_append, cs9_append]; exact hown, ((Below.refl E w3).alloc hE _).trans ((Below.refl E _).grown hgr (Nat.le_trans hE (vstep w3 ob).size) (fun k hk => (ho.lt k hk).1))⟩
theorem OLies.keep {w w' : World} {E : Nat} {v : Value} {l : List O} (h : OLies w v l) (hb : Below E w w') (hE : w.heap.size ≤ E) : OLies w' v l := by
  obtain ⟨ao, cap, rfl, hn, hm, h0, hc⟩ := h
  refine ⟨ao, cap, rfl, hn, hm, h0, fun b hbb hne => ?_⟩
  obtain ⟨g, k, rfl, hk, hc⟩ := hc b hbb hne
  exact ⟨g, k, rfl, Nat.lt_of_lt_of_le hk hb.size, fun j p hj i u hi => (hb.cell (p := ⟨g, k + j * 9 + i, none⟩) (Nat.lt_of_lt_of_le hk hE)).trans (hc j p hj i u hi)⟩

theorem at_later {w : World} {g k : Nat} {o : O} (hg : g < w.heap.size) (h : w.cell? ⟨g, k, none⟩ = some (.int .i64 o.t) ∧ w.cell? ⟨g, k + 1, none⟩ = some (.int .i64 o.r)) : (∀ x : Later w, x.w.cell? ⟨g, k, none⟩ = some (.int .i64 o.t)) ∧ (∀ x : Later w, x.w.cell? ⟨g, k + 1, none⟩ = some (.int .i64 o.r)) :=
  ⟨fun x => (x.below.cell (p := ⟨g, k, none⟩) hg).trans h.1, fun x => (x.below.cell (p := ⟨g, k + 1, none⟩) hg).trans h.2⟩
/-- What is handed back lies in new blocks. -/
def Frs (n : Nat) (W : World) (v : Value) : Prop := ∀ k, v.ownBlock = some k → n ≤ k ∧ k < W.heap.size
theorem own_frs {m : Nat} {W : World} {E e z n : Nat} {v : Value} {xs : List Value} (h : W.ownsRow E e z v n xs) (hE : m ≤ E) : Frs m W v := fun k e => ⟨Nat.le_trans hE (h.lt k e).1, (h.lt k e).2⟩
theorem Frs.step {n : Nat} {W W' : World} {v : Value} (h : Frs n W v) (hb : Below W.heap.size W W') : Frs n W' v := fun k e => ⟨(h k e).1, Nat.lt_of_lt_of_le (h k e).2 hb.size⟩
set_option maxRecDepth 100000 in
set_option maxHeartbeats 12800000 in
theorem rsorted_any (w : World) (v : Value) (l : List O) (h : OLies w v l) (hl : l.length ≤ 100) :
    Calls Tryz.prog 50 #[v] w fun e w' => ∃ r, e = .returned r ∧ OLies w' r (srtO l) ∧ Below w.heap.size w w' ∧ Frs w.heap.size w' r := by
  obtain ⟨i0, hi9, hz0, hz1, hz2⟩ := info_parts info25
  have H := Lib.hid h
  obtain ⟨ao, cap, rfl⟩ := h.shape
  clear h
  go_enter Tryz.func50, Tryz.ntmps50
  go_wp2
  go_loopw [3, 4] (fun ov kv wr => ∃ i : Nat, kv = .int .i64 i ∧ i ≤ l.length ∧ Hid (OLies wr ov (srtO (l.take i)) ∧ Below w.heap.size w wr ∧ Frs w.heap.size wr ov)) (fun _ kv _ => l.length - (intOf kv).toNat)
  case atStart => exact ⟨0, rfl, Nat.zero_le _, Lib.hid ⟨by simpa [srtO] using OLies.nil w, Below.refl _ _, fun k e => by cases e⟩⟩
  case round =>
    obtain ⟨i, rfl, hi, hI⟩ := hrel
    obtain ⟨oa, oc, hov⟩ := hI.out.1.shape
    subst hov
    have LU := Lib.hid (show (srtO (l.take i)).length = i from by rw [srtO_len, List.length_take]; omega)
    by_cases hlt : i < l.length
    · have HU := Lib.hid hI.out.1
      have HB := Lib.hid hI.out.2.1
      have HL := Lib.hid (H.out.step hI.out.2.1)
      obtain ⟨g, o, x, rfl, hx, hg, hc⟩ := (H.out.step hI.out.2.1).at' hlt
      have HX := Lib.hid hx
      have SS := Lib.hid (srtO_snoc l i x hx)
      clear hx hg hc hI H
      generalize srtO (l.take i) = u at *
      have LE := Lib.hid (show u.length ≤ 100 from by have := LU.out; omega)
      have hul := HU.out.len
      generalize wr = wo at *
      go_wp2_with fail
      go_loopw [5, 6, 7] (fun nv dv kv wi => ∃ j : Nat, kv = .int .i64 j ∧ j ≤ u.length ∧ dv = .bool (foldO x (u.take j)).2 ∧ Hid (wi.ownsRow wo.heap.size 33 9 nv (foldO x (u.take j)).1.length (cs9 (foldO x (u.take j)).1) ∧ Below wo.heap.size wo wi)) (fun _ _ kv _ => u.length - (intOf kv).toNat)
      case atStart => exact ⟨0, rfl, Nat.zero_le _, rfl, Lib.hid ⟨World.ownsRow_nil _ _ _ _, Below.refl _ _⟩⟩
      case round =>
        obtain ⟨j, rfl, hj, rfl, hJ⟩ := hrel
        obtain ⟨na, nc, hnv⟩ := Ve.own_shape hJ.out.1
        subst hnv
        have OW := Lib.hid hJ.out.1
        have BW := Lib.hid hJ.out.2
        have LF := Lib.hid (show (foldO x (u.take j)).1.length ≤ 101 from by have := foldO_le x (u.take j); have := LE.out; rw [List.length_take] at *; omega)
        by_cases hju : j < u.length
        · obtain ⟨gy, oy, y, e1, hy, hgy, hcy⟩ := (HU.out.keep BW.out (Nat.le_refl _)).at' hju
          subst e1
          obtain ⟨gx, ox, x', e2, hx', hgx, hcx⟩ := (HL.out.keep BW.out (Nat.le_refl _)).at' hlt
          injection e2 with e2
          injection e2 with e2 e3
          subst e2 e3
          rw [HX.out] at hx'
          injection hx' with hx'
          subst hx'
          have SJ := Lib.hid (foldO_snoc x u j y hy)
          have YE := Lib.hid (fun (y' : O) {h : j < u.length} (e : u[j] = y') => show y' = y from by have := (List.getElem?_eq_some_iff.1 hy).2; rw [← e, ← this])
          obtain ⟨ex0, ex1⟩ := at_later hgx ⟨hcx.1, hcx.2.1⟩
          obtain ⟨ey0, ey1⟩ := at_later hgy ⟨hcy.1, hcy.2.1⟩
          have HLX := Lib.hid (fun W (hb : Below wr.heap.size wr W) => (HL.out.keep (BW.out.trans (hb.mono BW.out.size)) (Nat.le_refl _)).at' hlt)
          have HLY := Lib.hid (fun W (hb : Below wr.heap.size wr W) => (HU.out.keep (BW.out.trans (hb.mono BW.out.size)) (Nat.le_refl _)).at' hju)
          have CX := Lib.hid hcx
          have CY := Lib.hid hcy
          have GX := Lib.hid hgx
          have GY := Lib.hid hgy
          have LC := Lib.hid (fun X : Later wr => St.less_any X.w x.t x.r y.t y.r)
          clear hJ hy hgy hcy hgx hcx
          have EL : St.lessB x.t x.r y.t y.r = lessO x y := rfl
          rw [EL] at LC
          clear EL
          generalize foldO x (u.take j) = s at *
          obtain ⟨m, dn⟩ := s
          dsimp only at OW LF
          cases dn with
          | true =>
            go_upto_region 10 with (fail)
            refine wp_region_later (by kernel_rfl) (by kernel_rfl) ?_
            repeat (go_big_quiet_step (first
              | (go_at_call 78; with_reducible exact later_call (LC.out _))))
            refine wpQuiet_nil ?_
            rintro _ ⟨xl, rfl⟩
            have X4 := Lib.hid xl.below
            have OW4 := Lib.hid (own_below OW.out xl.below)
            have BW4 := Lib.hid (BW.out.trans (xl.below.mono BW.out.size))
            clear ex0 ex1 ey0 ey1
            generalize xl.w = w4 at *
            have yC := CY.out
            obtain ⟨y0, y1, y2, y3, y4, y5, y6, y7, y8⟩ := yC
            have y0 := (X4.out.cell (p := ⟨gy, oy + j * 9, none⟩) GY.out).trans y0
            have y1 := (X4.out.cell (p := ⟨gy, oy + j * 9 + 1, none⟩) GY.out).trans y1
            have y2 := (X4.out.cell (p := ⟨gy, oy + j * 9 + 2, none⟩) GY.out).trans y2
            have y3 := (X4.out.cell (p := ⟨gy, oy + j * 9 + 3, none⟩) GY.out).trans y3
            have y4 := (X4.out.cell (p := ⟨gy, oy + j * 9 + 4, none⟩) GY.out).trans y4
            have y5 := (X4.out.cell (p := ⟨gy, oy + j * 9 + 5, none⟩) GY.out).trans y5
            have y6 := (X4.out.cell (p := ⟨gy, oy + j * 9 + 6, none⟩) GY.out).trans y6
            have y7 := (X4.out.cell (p := ⟨gy, oy + j * 9 + 7, none⟩) GY.out).trans y7
            have y8 := (X4.out.cell (p := ⟨gy, oy + j * 9 + 8, none⟩) GY.out).trans y8
            have OX5 := Lib.hid (own_below OW4.out (vstep w4 (.cells #[.int .i64 y.t, .int .i64 y.r, .int .i64 y.q, .int .i64 y.nt, .int .i64 y.nr, .int .i64 y.pt, .int .i64 y.pr, .string y.nm, .bool y.d] 33)))
            have bso5 := bs_op w4 y
            have SR5 := Lib.hid (one_op w4 y).src
            have Q5 := Lib.hid (And.intro (show (m).length + 1 ≤ maxLen from by have := LF.out; unfold maxLen; (try simp only [List.length_append, List.length_cons, List.length_nil]); omega) (And.intro (show ((m).length + 1) * 80 ≤ 140737488355328 from by have := LF.out; (try simp only [List.length_append, List.length_cons, List.length_nil]); omega) (show wo.heap.size ≤ (w4.alloc (.cells #[.int .i64 y.t, .int .i64 y.r, .int .i64 y.q, .int .i64 y.nt, .int .i64 y.nr, .int .i64 y.pt, .int .i64 y.pr, .string y.nm, .bool y.d] 33)).heap.size from Nat.le_trans BW4.out.size (vstep w4 (.cells #[.int .i64 y.t, .int .i64 y.r, .int .i64 y.q, .int .i64 y.nt, .int .i64 y.nr, .int .i64 y.pt, .int .i64 y.pr, .string y.nm, .bool y.d] 33)).size)))
            have FIN := Lib.hid (show stepO x (m, true) y = (m ++ [y], true) from by unfold stepO; simp)
            go_wp2_with (at_builtin; refine Wi.wpList_append_src_own rfl (.tmp 42) (.tmp 47) 22 22 rfl wo.heap.size 33 i0 (oV O0) 9 80 Tryz.u27 hi9 hz0 hz1 hz2 rfl (by decide) _ _ _ rfl OX5.out _ 1 (cs9 [y]) rfl SR5.out Q5.out.1 Q5.out.2.1 Q5.out.2.2 ?_; intro v5 w5 hown hgr hsp; obtain ⟨va5, vc5, rfl⟩ := Ve.own_shape hown; have P5 := Lib.hid (push_own OW4.out BW4.out.size hown hgr); clear hown hgr hsp)
            have R := Lib.hid (show Value.bool true = .bool (foldO x (u.take (j + 1))).2 ∧ (w5.ownsRow wo.heap.size 33 9 (.slice va5 (m.length + 1) vc5) (foldO x (u.take (j + 1))).1.length (cs9 (foldO x (u.take (j + 1))).1) ∧ Below wo.heap.size wo w5) from by
              rw [SJ.out, FIN.out]
              exact ⟨rfl, P5.out.1, BW4.out.trans P5.out.2⟩)
            go_roundw
            case rel => exact ⟨j + 1, by go_num, by omega, R.out.1, Lib.hid R.out.2⟩
            case measure => simp [intOf]; omega
          | false =>
            cases hlo : lessO x y with
            | false =>
              rw [hlo] at LC
              have FIN := Lib.hid (show stepO x (m, false) y = (m ++ [y], false) from by unfold stepO; simp [hlo])
              clear hlo
              go_upto_region 10 with (fail)
              refine wp_region_later (by kernel_rfl) (by kernel_rfl) ?_
              repeat (go_big_quiet_step (first
                | (go_at_call 78; with_reducible exact later_call (LC.out _))))
              refine wpQuiet_nil ?_
              rintro _ ⟨xl, rfl⟩
              have X4 := Lib.hid xl.below
              have OW4 := Lib.hid (own_below OW.out xl.below)
              have BW4 := Lib.hid (BW.out.trans (xl.below.mono BW.out.size))
              clear ex0 ex1 ey0 ey1
              generalize xl.w = w4 at *
              have yC := CY.out
              obtain ⟨y0, y1, y2, y3, y4, y5, y6, y7, y8⟩ := yC
              have y0 := (X4.out.cell (p := ⟨gy, oy + j * 9, none⟩) GY.out).trans y0
              have y1 := (X4.out.cell (p := ⟨gy, oy + j * 9 + 1, none⟩) GY.out).trans y1
              have y2 := (X4.out.cell (p := ⟨gy, oy + j * 9 + 2, none⟩) GY.out).trans y2
              have y3 := (X4.out.cell (p := ⟨gy, oy + j * 9 + 3, none⟩) GY.out).trans y3
              have y4 := (X4.out.cell (p := ⟨gy, oy + j * 9 + 4, none⟩) GY.out).trans y4
              have y5 := (X4.out.cell (p := ⟨gy, oy + j * 9 + 5, none⟩) GY.out).trans y5
              have y6 := (X4.out.cell (p := ⟨gy, oy + j * 9 + 6, none⟩) GY.out).trans y6
              have y7 := (X4.out.cell (p := ⟨gy, oy + j * 9 + 7, none⟩) GY.out).trans y7
              have y8 := (X4.out.cell (p := ⟨gy, oy + j * 9 + 8, none⟩) GY.out).trans y8
              have OX5 := Lib.hid (own_below OW4.out (vstep w4 (.cells #[.int .i64 y.t, .int .i64 y.r, .int .i64 y.q, .int .i64 y.nt, .int .i64 y.nr, .int .i64 y.pt, .int .i64 y.pr, .string y.nm, .bool y.d] 33)))
              have bso5 := bs_op w4 y
              have SR5 := Lib.hid (one_op w4 y).src
              have Q5 := Lib.hid (And.intro (show (m).length + 1 ≤ maxLen from by have := LF.out; unfold maxLen; (try simp only [List.length_append, List.length_cons, List.length_nil]); omega) (And.intro (show ((m).length + 1) * 80 ≤ 140737488355328 from by have := LF.out; (try simp only [List.length_append, List.length_cons, List.length_nil]); omega) (show wo.heap.size ≤ (w4.alloc (.cells #[.int .i64 y.t, .int .i64 y.r, .int .i64 y.q, .int .i64 y.nt, .int .i64 y.nr, .int .i64 y.pt, .int .i64 y.pr, .string y.nm, .bool y.d] 33)).heap.size from Nat.le_trans BW4.out.size (vstep w4 (.cells #[.int .i64 y.t, .int .i64 y.r, .int .i64 y.q, .int .i64 y.nt, .int .i64 y.nr, .int .i64 y.pt, .int .i64 y.pr, .string y.nm, .bool y.d] 33)).size)))
              go_wp2_with (at_builtin; refine Wi.wpList_append_src_own rfl (.tmp 42) (.tmp 47) 22 22 rfl wo.heap.size 33 i0 (oV O0) 9 80 Tryz.u27 hi9 hz0 hz1 hz2 rfl (by decide) _ _ _ rfl OX5.out _ 1 (cs9 [y]) rfl SR5.out Q5.out.1 Q5.out.2.1 Q5.out.2.2 ?_; intro v5 w5 hown hgr hsp; obtain ⟨va5, vc5, rfl⟩ := Ve.own_shape hown; have P5 := Lib.hid (push_own OW4.out BW4.out.size hown hgr); clear hown hgr hsp)
              have R := Lib.hid (show Value.bool false = .bool (foldO x (u.take (j + 1))).2 ∧ (w5.ownsRow wo.heap.size 33 9 (.slice va5 (m.length + 1) vc5) (foldO x (u.take (j + 1))).1.length (cs9 (foldO x (u.take (j + 1))).1) ∧ Below wo.heap.size wo w5) from by
                rw [SJ.out, FIN.out]
                exact ⟨rfl, P5.out.1, BW4.out.trans P5.out.2⟩)
              go_roundw
              case rel => exact ⟨j + 1, by go_num, by omega, R.out.1, Lib.hid R.out.2⟩
              case measure => simp [intOf]; omega
            | true =>
              rw [hlo] at LC
              have FIN := Lib.hid (show stepO x (m, false) y = ((m ++ [x]) ++ [y], true) from by unfold stepO; simp [hlo])
              clear hlo
              go_upto_region 10 with (fail)
              refine wp_region_later (by kernel_rfl) (by kernel_rfl) ?_
              repeat (go_big_quiet_step (first
                | (go_at_call 78; with_reducible exact later_call (LC.out _))))
              refine wpQuiet_nil ?_
              rintro _ ⟨xl, rfl⟩
              have X4 := Lib.hid xl.below
              have OW4 := Lib.hid (own_below OW.out xl.below)
              have BW4 := Lib.hid (BW.out.trans (xl.below.mono BW.out.size))
              clear ex0 ex1 ey0 ey1
              generalize xl.w = w4 at *
              have xC := CX.out
              obtain ⟨x0, x1, x2, x3, x4, x5, x6, x7, x8⟩ := xC
              have x0 := (X4.out.cell (p := ⟨g, o + i * 9, none⟩) GX.out).trans x0
              have x1 := (X4.out.cell (p := ⟨g, o + i * 9 + 1, none⟩) GX.out).trans x1
              have x2 := (X4.out.cell (p := ⟨g, o + i * 9 + 2, none⟩) GX.out).trans x2
              have x3 := (X4.out.cell (p := ⟨g, o + i * 9 + 3, none⟩) GX.out).trans x3
              have x4 := (X4.out.cell (p := ⟨g, o + i * 9 + 4, none⟩) GX.out).trans x4
              have x5 := (X4.out.cell (p := ⟨g, o + i * 9 + 5, none⟩) GX.out).trans x5
              have x6 := (X4.out.cell (p := ⟨g, o + i * 9 + 6, none⟩) GX.out).trans x6
              have x7 := (X4.out.cell (p := ⟨g, o + i * 9 + 7, none⟩) GX.out).trans x7
              have x8 := (X4.out.cell (p := ⟨g, o + i * 9 + 8, none⟩) GX.out).trans x8
              have yC := CY.out
              obtain ⟨y0, y1, y2, y3, y4, y5, y6, y7, y8⟩ := yC
              have y0 := (X4.out.cell (p := ⟨gy, oy + j * 9, none⟩) GY.out).trans y0
              have y1 := (X4.out.cell (p := ⟨gy, oy + j * 9 + 1, none⟩) GY.out).trans y1
              have y2 := (X4.out.cell (p := ⟨gy, oy + j * 9 + 2, none⟩) GY.out).trans y2
              have y3 := (X4.out.cell (p := ⟨gy, oy + j * 9 + 3, none⟩) GY.out).trans y3
              have y4 := (X4.out.cell (p := ⟨gy, oy + j * 9 + 4, none⟩) GY.out).trans y4
              have y5 := (X4.out.cell (p := ⟨gy, oy + j * 9 + 5, none⟩) GY.out).trans y5
              have y6 := (X4.out.cell (p := ⟨gy, oy + j * 9 + 6, none⟩) GY.out).trans y6
              have y7 := (X4.out.cell (p := ⟨gy, oy + j * 9 + 7, none⟩) GY.out).trans y7
              have y8 := (X4.out.cell (p := ⟨gy, oy + j * 9 + 8, none⟩) GY.out).trans y8
              have OX5 := Lib.hid (own_below OW4.out (vstep w4 (.cells #[.int .i64 x.t, .int .i64 x.r, .int .i64 x.q, .int .i64 x.nt, .int .i64 x.nr, .int .i64 x.pt, .int .i64 x.pr, .string x.nm, .bool x.d] 33)))
              have bso5 := bs_op w4 x
              have SR5 := Lib.hid (one_op w4 x).src
              have Q5 := Lib.hid (And.intro (show (m).length + 1 ≤ maxLen from by have := LF.out; unfold maxLen; (try simp only [List.length_append, List.length_cons, List.length_nil]); omega) (And.intro (show ((m).length + 1) * 80 ≤ 140737488355328 from by have := LF.out; (try simp only [List.length_append, List.length_cons, List.length_nil]); omega) (show wo.heap.size ≤ (w4.alloc (.cells #[.int .i64 x.t, .int .i64 x.r, .int .i64 x.q, .int .i64 x.nt, .int .i64 x.nr, .int .i64 x.pt, .int .i64 x.pr, .string x.nm, .bool x.d] 33)).heap.size from Nat.le_trans BW4.out.size (vstep w4 (.cells #[.int .i64 x.t, .int .i64 x.r, .int .i64 x.q, .int .i64 x.nt, .int .i64 x.nr, .int .i64 x.pt, .int .i64 x.pr, .string x.nm, .bool x.d] 33)).size)))
              have W45 := Lib.hid (vstep w4 (.cells #[.int .i64 x.t, .int .i64 x.r, .int .i64 x.q, .int .i64 x.nt, .int .i64 x.nr, .int .i64 x.pt, .int .i64 x.pr, .string x.nm, .bool x.d] 33))
              go_upto_region 12 with (at_builtin; refine Wi.wpList_append_src_own rfl (.tmp 35) (.tmp 40) 22 22 rfl wo.heap.size 33 i0 (oV O0) 9 80 Tryz.u27 hi9 hz0 hz1 hz2 rfl (by decide) _ _ _ rfl OX5.out _ 1 (cs9 [x]) rfl SR5.out Q5.out.1 Q5.out.2.1 Q5.out.2.2 ?_; intro v5 w5 hown hgr hsp; obtain ⟨va5, vc5, rfl⟩ := Ve.own_shape hown; have P5 := Lib.hid (push_own OW4.out BW4.out.size hown hgr); clear hown hgr hsp)
              obtain ⟨m2, hm2⟩ : ∃ z, m ++ [x] = z := ⟨_, rfl⟩
              have Z := Lib.hid (show m2.length = m.length + 1 from by rw [← hm2]; simp)
              have OW5 := Lib.hid P5.out.1
              have BW5 := Lib.hid (BW4.out.trans P5.out.2)
              rw [hm2, ← Z.out] at OW5
              rw [hm2] at FIN
              have LF := Lib.hid (show m2.length ≤ 102 from by have := LF.out; have := Z.out; omega)
              clear hm2
              have HY := (HU.out.keep BW5.out (Nat.le_refl _)).at' hju
              obtain ⟨gy', oy', y', e1, hy', hgy', z0, z1, z2, z3, z4, z5, z6, z7, z8⟩ := HY
              injection e1 with e1
              injection e1 with e1 e2
              subst e1 e2
              have HYX := Lib.hid (List.getElem?_eq_some_iff.1 hy')
              clear hy' hgy' x0 x1 x2 x3 x4 x5 x6 x7 x8 y0 y1 y2 y3 y4 y5 y6 y7 y8
              rw [← Z.out]
              have OX6 := Lib.hid (own_below OW5.out (vstep w5 (.cells #[.int .i64 y'.t, .int .i64 y'.r, .int .i64 y'.q, .int .i64 y'.nt, .int .i64 y'.nr, .int .i64 y'.pt, .int .i64 y'.pr, .string y'.nm, .bool y'.d] 33)))
              have bso6 := bs_op w5 y'
              have SR6 := Lib.hid (one_op w5 y').src
              have Q6 := Lib.hid (And.intro (show (m2).length + 1 ≤ maxLen from by have := LF.out; unfold maxLen; (try simp only [List.length_append, List.length_cons, List.length_nil]); omega) (And.intro (show ((m2).length + 1) * 80 ≤ 140737488355328 from by have := LF.out; (try simp only [List.length_append, List.length_cons, List.length_nil]); omega) (show wo.heap.size ≤ (w5.alloc (.cells #[.int .i64 y'.t, .int .i64 y'.r, .int .i64 y'.q, .int .i64 y'.nt, .int .i64 y'.nr, .int .i64 y'.pt, .int .i64 y'.pr, .string y'.nm, .bool y'.d] 33)).heap.size from Nat.le_trans BW5.out.size (vstep w5 (.cells #[.int .i64 y'.t, .int .i64 y'.r, .int .i64 y'.q, .int .i64 y'.nt, .int .i64 y'.nr, .int .i64 y'.pt, .int .i64 y'.pr, .string y'.nm, .bool y'.d] 33)).size)))
              go_wp2_with (at_builtin; refine Wi.wpList_append_src_own rfl (.tmp 42) (.tmp 47) 22 22 rfl wo.heap.size 33 i0 (oV O0) 9 80 Tryz.u27 hi9 hz0 hz1 hz2 rfl (by decide) _ _ _ rfl OX6.out _ 1 (cs9 [y']) rfl SR6.out Q6.out.1 Q6.out.2.1 Q6.out.2.2 ?_; intro v6 w6 hown hgr hsp; obtain ⟨va6, vc6, rfl⟩ := Ve.own_shape hown; have P6 := Lib.hid (push_own OW5.out BW5.out.size hown hgr); clear hown hgr hsp)
              have R := Lib.hid (show Value.bool true = .bool (foldO x (u.take (j + 1))).2 ∧ (w6.ownsRow wo.heap.size 33 9 (.slice va6 (m2.length + 1) vc6) (foldO x (u.take (j + 1))).1.length (cs9 (foldO x (u.take (j + 1))).1) ∧ Below wo.heap.size wo w6) from by
                have e : y' = y := YE.out _ HYX.out.2
                subst e
                rw [SJ.out, FIN.out]
                exact ⟨rfl, P6.out.1, BW5.out.trans P6.out.2⟩)
              go_roundw
              case rel => exact ⟨j + 1, by go_num, by omega, R.out.1, Lib.hid R.out.2⟩
              case measure => simp [intOf]; omega
        · have ST := Lib.hid (show foldO x (u.take j) = foldO x u from by rw [List.take_of_length_le (by omega)])
          rw [ST.out] at OW LF ⊢
          clear hJ
          have INS := Lib.hid (show insO x u = if (foldO x u).2 then (foldO x u).1 else (foldO x u).1 ++ [x] from rfl)
          obtain ⟨gx, ox, x', e2, hx', hgx, hcx⟩ := (HL.out.keep BW.out (Nat.le_refl _)).at' hlt
          injection e2 with e2
          injection e2 with e2 e3
          subst e2 e3
          rw [HX.out] at hx'
          injection hx' with hx'
          subst hx'
          have CX := Lib.hid hcx
          clear hgx hcx
          generalize foldO x u = s at *
          obtain ⟨m, dn⟩ := s
          dsimp only at OW LF
          cases dn with
          | true =>
            have FIN := Lib.hid (show OLies wr (.slice na m.length nc) (srtO (l.take (i + 1))) ∧ Below w.heap.size w wr ∧ Frs w.heap.size wr (.slice na m.length nc) from by
              rw [SS.out, INS.out]
              exact ⟨own_olies OW.out, HB.out.trans (BW.out.mono HB.out.size), own_frs OW.out HB.out.size⟩)
            go_wp2
            go_roundw
            case rel => exact ⟨i + 1, by go_num, by omega, FIN⟩
            case measure => simp [intOf]; omega
          | false =>
            obtain ⟨x0, x1, x2, x3, x4, x5, x6, x7, x8⟩ := CX.out
            have OX5 := Lib.hid (own_below OW.out (vstep wr (.cells #[.int .i64 x.t, .int .i64 x.r, .int .i64 x.q, .int .i64 x.nt, .int .i64 x.nr, .int .i64 x.pt, .int .i64 x.pr, .string x.nm, .bool x.d] 33)))
            have bso5 := bs_op wr x
            have SR5 := Lib.hid (one_op wr x).src
            have Q5 := Lib.hid (And.intro (show (m).length + 1 ≤ maxLen from by have := LF.out; unfold maxLen; (try simp only [List.length_append, List.length_cons, List.length_nil]); omega) (And.intro (show ((m).length + 1) * 80 ≤ 140737488355328 from by have := LF.out; (try simp only [List.length_append, List.length_cons, List.length_nil]); omega) (show wo.heap.size ≤ (wr.alloc (.cells #[.int .i64 x.t, .int .i64 x.r, .int .i64 x.q, .int .i64 x.nt, .int .i64 x.nr, .int .i64 x.pt, .int .i64 x.pr, .string x.nm, .bool x.d] 33)).heap.size from Nat.le_trans BW.out.size (vstep wr (.cells #[.int .i64 x.t, .int .i64 x.r, .int .i64 x.q, .int .i64 x.nt, .int .i64 x.nr, .int .i64 x.pt, .int .i64 x.pr, .string x.nm, .bool x.d] 33)).size)))
            go_wp2_with (at_builtin; refine Wi.wpList_append_src_own rfl (.tmp 51) (.tmp 56) 22 22 rfl wo.heap.size 33 i0 (oV O0) 9 80 Tryz.u27 hi9 hz0 hz1 hz2 rfl (by decide) _ _ _ rfl OX5.out _ 1 (cs9 [x]) rfl SR5.out Q5.out.1 Q5.out.2.1 Q5.out.2.2 ?_; intro v5 w5 hown hgr hsp; obtain ⟨va5, vc5, rfl⟩ := Ve.own_shape hown; have P5 := Lib.hid (push_own OW.out BW.out.size hown hgr); clear hown hgr hsp)
            have FIN := Lib.hid (show OLies w5 (.slice va5 (m.length + 1) vc5) (srtO (l.take (i + 1))) ∧ Below w.heap.size w w5 ∧ Frs w.heap.size w5 (.slice va5 (m.length + 1) vc5) from by
              rw [SS.out, INS.out]
              exact ⟨own_olies P5.out.1, HB.out.trans ((BW.out.trans P5.out.2).mono HB.out.size), own_frs P5.out.1 HB.out.size⟩)
            go_roundw
            case rel => exact ⟨i + 1, by go_num, by omega, FIN⟩
            case measure => simp [intOf]; omega
    · have FIN := Lib.hid (show OLies wr (.slice oa (srtO (l.take i)).length oc) (srtO l) ∧ Below w.heap.size w wr ∧ Frs w.heap.size wr (.slice oa (srtO (l.take i)).length oc) from by
        have h := hI.out
        rw [show l.take i = l from List.take_of_length_le (by omega)] at h ⊢
        exact h)
      clear hI
      go_wp2
      go_returns
      exact ⟨_, rfl, FIN.out⟩
end Go.Proofs.YtbeodechhneeeaaGreatDoor


