/- The clock: runs, rightTime, rightRep, New, Now, See, Tick. -/
import Derived.Test.YthpolhlhpdhomaaDoorRows
import Derived.WalkKit
import Derived.WalkSpells
import Derived.Lib.Hide
import Derived.Lib.Walk
import Derived.OneCell
import Derived.LoopTactic
import Derived.Deep.Cut
import Derived.Outline
import Derived.Handy
import Derived.RegionTactic
import Derived.ChangeAlike
set_option linter.unusedVariables false
namespace Go.Proofs.YthpolhlhpdhomaaDoor
open Go.RowKit

def CkB (w : World) (c : Nat) (made : Bool) (rep t : Int) : Prop := w.heap[c]? = some (.cells #[.bool made, .int .i64 rep, .int .i64 t] 51 (0, 0))
theorem CkB.cells {w : World} {c : Nat} {made : Bool} {rep t : Int} (h : CkB w c made rep t) :
    (w.cell? ⟨c, 0, none⟩ = some (.bool made) ∧ w.cell? ⟨c, 1, none⟩ = some (.int .i64 rep) ∧ w.cell? ⟨c, 2, none⟩ = some (.int .i64 t)) ∧
    (w.frozen? ⟨c, 0, none⟩ = false ∧ w.frozen? ⟨c, 1, none⟩ = false ∧ w.frozen? ⟨c, 2, none⟩ = false) := by
  refine ⟨⟨?_, ?_, ?_⟩, frozen_of_row _ _ _ _ _ h, frozen_of_row _ _ _ _ _ h, frozen_of_row _ _ _ _ _ h⟩
  all_goals (rw [cell_of_row _ _ _ _ _ _ h]; rfl)
theorem CkB.old {w w' : World} {c : Nat} {made : Bool} {rep t : Int} (h : CkB w c made rep t) (hb : Below w.heap.size w w') : CkB w' c made rep t := (hb.block c (lt_of_block h)).trans h
theorem row_setC {w : World} {b j : Nat} {c : Array Value} {t : TypeId} {fz : Nat × Nat} {u : Value} (h : w.heap[b]? = some (.cells c t fz)) : (w.setCell ⟨b, j, none⟩ u).heap[b]? = some (.cells (c.setIfInBounds j u) t fz) := by
  have hlt := (Array.getElem?_eq_some_iff.1 h).1
  have h' : w.heap[b] = .cells c t fz := by simpa [Array.getElem?_eq_getElem hlt] using h
  show (w.heap.modify b _)[b]? = _
  rw [Array.getElem?_eq_getElem (by simpa using hlt), Array.getElem_modify_self, h']
  rfl

set_option maxRecDepth 100000 in
set_option maxHeartbeats 400000 in
theorem runs_any (w : World) (c : Nat) (made : Bool) (rep t : Int) (h : CkB w c made rep t) :
    Calls Tryd.prog 46 #[.pointer (some ⟨c, 0, none⟩)] w fun e w' => e = .returned (.bool made) ∧ w = w' := by
  obtain ⟨⟨c0, c1, c2⟩, f0, f1, f2⟩ := h.cells
  clear h
  go_enter Tryd.func46, Tryd.ntmps46
  go_wp2
  go_returns
  exact ⟨rfl, rfl⟩
set_option maxRecDepth 100000 in
set_option maxHeartbeats 400000 in
theorem runs_nil (w : World) : Calls Tryd.prog 46 #[.pointer none] w fun e w' => e = .returned (.bool false) ∧ w = w' := by
  go_enter Tryd.func46, Tryd.ntmps46
  go_wp2
  go_returns
  exact ⟨rfl, rfl⟩

def rT (n : Int) : Bool := decide (1 ≤ n ∧ n ≤ 281474976710656)
def rR (n : Int) : Bool := decide (0 ≤ n ∧ n < 64)
theorem ret_b {a b : Bool} (h : a = b) : Ending.returned (.bool a) = .returned (.bool b) := by rw [h]
set_option maxRecDepth 100000 in
set_option maxHeartbeats 400000 in
theorem rtime_any (w : World) (n : Int) : Calls Tryd.prog 38 #[.int .i64 n] w fun e w' => e = .returned (.bool (rT n)) ∧ w = w' := by
  by_cases h : 1 ≤ n
  · go_enter Tryd.func38, Tryd.ntmps38
    go_wp2
    go_returns
    exact ⟨ret_b (by unfold rT; simp [h]), rfl⟩
  · have h' : decide (1 ≤ n) = false := by simpa using h
    have h'' : n < 1 := by omega
    go_enter Tryd.func38, Tryd.ntmps38
    go_wp2
    go_returns
    exact ⟨ret_b (by unfold rT; simp; omega), rfl⟩
set_option maxRecDepth 100000 in
set_option maxHeartbeats 400000 in
theorem rrep_any (w : World) (n : Int) : Calls Tryd.prog 39 #[.int .i64 n] w fun e w' => e = .returned (.bool (rR n)) ∧ w = w' := by
  by_cases h : 0 ≤ n
  · go_enter Tryd.func39, Tryd.ntmps39
    go_wp2
    go_returns
    exact ⟨ret_b (by unfold rR; simp [h]), rfl⟩
  · have h' : decide (0 ≤ n) = false := by simpa using h
    have h'' : n < 0 := by omega
    go_enter Tryd.func39, Tryd.ntmps39
    go_wp2
    go_returns
    exact ⟨ret_b (by unfold rR; simp; omega), rfl⟩

set_option maxRecDepth 100000 in
set_option maxHeartbeats 400000 in
theorem new_yes (w : World) (n : Int) (h : rR n = true) : Calls Tryd.prog 31 #[.int .i64 n] w fun e w' => e = .returned (.tuple #[.pointer (some ⟨w.heap.size, 0, none⟩), .int .i64 0]) ∧ w.alloc (.cells #[.bool true, .int .i64 n, .int .i64 0] 51) = w' := by
  have C := Lib.hid (rrep_any w n)
  rw [h] at C
  clear h
  go_enter Tryd.func31, Tryd.ntmps31
  go_wp2_with fail
  refine C.out.mono ?_
  rintro e w1 ⟨rfl, rfl⟩
  go_wp2
  go_returns
  exact ⟨rfl, rfl⟩
set_option maxRecDepth 100000 in
set_option maxHeartbeats 400000 in
theorem new_no (w : World) (n : Int) (h : rR n = false) : Calls Tryd.prog 31 #[.int .i64 n] w fun e w' => e = .returned (.tuple #[.pointer none, .int .i64 2]) ∧ w = w' := by
  have C := Lib.hid (rrep_any w n)
  rw [h] at C
  clear h
  go_enter Tryd.func31, Tryd.ntmps31
  go_wp2_with fail
  refine C.out.mono ?_
  rintro e w1 ⟨rfl, rfl⟩
  go_wp2
  go_returns
  exact ⟨rfl, rfl⟩

set_option maxRecDepth 100000 in
set_option maxHeartbeats 400000 in
theorem now_any (w : World) (c : Nat) (made : Bool) (rep t : Int) (h : CkB w c made rep t) :
    Calls Tryd.prog 34 #[.pointer (some ⟨c, 0, none⟩)] w fun e w' => e = .returned (.int .i64 (if made then t else 0)) ∧ w = w' := by
  obtain ⟨⟨c0, c1, c2⟩, f0, f1, f2⟩ := h.cells
  have C := Lib.hid (runs_any w c made rep t h)
  clear h
  cases made
  all_goals
    go_enter Tryd.func34, Tryd.ntmps34
    go_wp2_with fail
    refine C.out.mono ?_
    rintro e w1 ⟨rfl, rfl⟩
    go_wp2
    go_returns
    exact ⟨rfl, rfl⟩
set_option maxRecDepth 100000 in
set_option maxHeartbeats 400000 in
theorem now_nil (w : World) : Calls Tryd.prog 34 #[.pointer none] w fun e w' => e = .returned (.int .i64 0) ∧ w = w' := by
  go_enter Tryd.func34, Tryd.ntmps34
  go_wp2_with fail
  refine (runs_nil w).mono ?_
  rintro e w1 ⟨rfl, rfl⟩
  go_wp2
  go_returns
  exact ⟨rfl, rfl⟩

set_option maxRecDepth 100000 in
set_option maxHeartbeats 400000 in
theorem see_nil (w : World) (n : Int) : Calls Tryd.prog 33 #[.pointer none, .int .i64 n] w fun e w' => e = .returned (.bool false) ∧ w = w' := by
  go_enter Tryd.func33, Tryd.ntmps33
  go_wp2_with fail
  refine (runs_nil w).mono ?_
  rintro e w1 ⟨rfl, rfl⟩
  go_wp2
  go_returns
  exact ⟨rfl, rfl⟩
set_option maxRecDepth 100000 in
set_option maxHeartbeats 400000 in
theorem see_zero (w : World) (c : Nat) (rep t n : Int) (h : CkB w c false rep t) : Calls Tryd.prog 33 #[.pointer (some ⟨c, 0, none⟩), .int .i64 n] w fun e w' => e = .returned (.bool false) ∧ w = w' := by
  have C := Lib.hid (runs_any w c false rep t h)
  clear h
  go_enter Tryd.func33, Tryd.ntmps33
  go_wp2_with fail
  refine C.out.mono ?_
  rintro e w1 ⟨rfl, rfl⟩
  go_wp2
  go_returns
  exact ⟨rfl, rfl⟩
/-- Behind a look at another one's time. -/
def seen (t n : Int) : Int := if rT n = true ∧ t < n then n else t
set_option maxRecDepth 100000 in
set_option maxHeartbeats 400000 in
theorem see_yes (w : World) (c : Nat) (rep t n : Int) (h : CkB w c true rep t) (h1 : rT n = true) (h2 : t < n) :
    Calls Tryd.prog 33 #[.pointer (some ⟨c, 0, none⟩), .int .i64 n] w fun e w' => e = .returned (.bool true) ∧ w.setCell ⟨c, 2, none⟩ (.int .i64 n) = w' := by
  have C := Lib.hid (runs_any w c true rep t h)
  have D := Lib.hid (rtime_any w n)
  rw [h1] at D
  obtain ⟨⟨c0, c1, c2⟩, f0, f1, f2⟩ := h.cells
  clear h h1
  go_enter Tryd.func33, Tryd.ntmps33
  go_wp2_with fail
  refine C.out.mono ?_
  rintro e w1 ⟨rfl, rfl⟩
  go_wp2_with fail
  refine D.out.mono ?_
  rintro e w1 ⟨rfl, rfl⟩
  go_wp2
  go_returns
  exact ⟨rfl, rfl⟩
set_option maxRecDepth 100000 in
set_option maxHeartbeats 400000 in
theorem see_no (w : World) (c : Nat) (rep t n : Int) (h : CkB w c true rep t) (h1 : rT n = false ∨ n ≤ t) :
    Calls Tryd.prog 33 #[.pointer (some ⟨c, 0, none⟩), .int .i64 n] w fun e w' => e = .returned (.bool false) ∧ w = w' := by
  have C := Lib.hid (runs_any w c true rep t h)
  have D := Lib.hid (rtime_any w n)
  obtain ⟨⟨c0, c1, c2⟩, f0, f1, f2⟩ := h.cells
  clear h
  by_cases k : rT n = true
  · have h2 : n ≤ t := by
      rcases h1 with h | h
      · rw [k] at h; cases h
      · exact h
    rw [k] at D
    clear h1 k
    go_enter Tryd.func33, Tryd.ntmps33
    go_wp2_with fail
    refine C.out.mono ?_
    rintro e w1 ⟨rfl, rfl⟩
    go_wp2_with fail
    refine D.out.mono ?_
    rintro e w1 ⟨rfl, rfl⟩
    go_wp2
    go_returns
    exact ⟨rfl, rfl⟩
  · have k' : rT n = false := by simpa using k
    rw [k'] at D
    clear h1 k k'
    go_enter Tryd.func33, Tryd.ntmps33
    go_wp2_with fail
    refine C.out.mono ?_
    rintro e w1 ⟨rfl, rfl⟩
    go_wp2_with fail
    refine D.out.mono ?_
    rintro e w1 ⟨rfl, rfl⟩
    go_wp2
    go_returns
    exact ⟨rfl, rfl⟩

set_option maxRecDepth 100000 in
set_option maxHeartbeats 400000 in
theorem tick_nil (w : World) : Calls Tryd.prog 32 #[.pointer none] w fun e w' => e = .returned (.tuple #[.agg #[.int .i64 0, .int .i64 0], .int .i64 1]) ∧ Below w.heap.size w w' := by
  go_enter Tryd.func32, Tryd.ntmps32
  go_wp2_with fail
  refine (runs_nil _).mono ?_
  rintro e w1 ⟨rfl, rfl⟩
  go_wp2
  refine bodyPost_ret (v := .tuple #[.agg #[.int .i64 0, .int .i64 0], .int .i64 1]) (by simp [results, Tryd.results32, go_sem]) rfl ⟨rfl, ?_⟩
  exact (Below.refl _ _).alloc (Nat.le_refl _) _
set_option maxRecDepth 100000 in
set_option maxHeartbeats 400000 in
theorem tick_zero (w : World) (c : Nat) (rep t : Int) (h : CkB w c false rep t) : Calls Tryd.prog 32 #[.pointer (some ⟨c, 0, none⟩)] w fun e w' => e = .returned (.tuple #[.agg #[.int .i64 0, .int .i64 0], .int .i64 1]) ∧ Below w.heap.size w w' := by
  have C := Lib.hid (fun W (h : CkB W c false rep t) => runs_any W c false rep t h)
  have H := Lib.hid (h.old ((Below.refl w.heap.size w).alloc (Nat.le_refl _) (.cells #[.int .i64 0, .int .i64 0] 23)))
  clear h
  go_enter Tryd.func32, Tryd.ntmps32
  go_wp2_with fail
  refine (C.out _ H.out).mono ?_
  rintro e w1 ⟨rfl, rfl⟩
  go_wp2
  refine bodyPost_ret (v := .tuple #[.agg #[.int .i64 0, .int .i64 0], .int .i64 1]) (by simp [results, Tryd.results32, go_sem]) rfl ⟨rfl, ?_⟩
  exact (Below.refl _ _).alloc (Nat.le_refl _) _
set_option maxRecDepth 100000 in
set_option maxHeartbeats 400000 in
theorem tick_full (w : World) (c : Nat) (rep t : Int) (h : CkB w c true rep t) (ht : 281474976710656 ≤ t) : Calls Tryd.prog 32 #[.pointer (some ⟨c, 0, none⟩)] w fun e w' => e = .returned (.tuple #[.agg #[.int .i64 0, .int .i64 0], .int .i64 7]) ∧ Below w.heap.size w w' := by
  have C := Lib.hid (fun W (h : CkB W c true rep t) => runs_any W c true rep t h)
  have h' := h.old ((Below.refl w.heap.size w).alloc (Nat.le_refl _) (.cells #[.int .i64 0, .int .i64 0] 23))
  obtain ⟨⟨c0, c1, c2⟩, f0, f1, f2⟩ := h'.cells
  have H := Lib.hid h'
  clear h h'
  go_enter Tryd.func32, Tryd.ntmps32
  go_wp2_with fail
  refine (C.out _ H.out).mono ?_
  rintro e w1 ⟨rfl, rfl⟩
  go_wp2
  refine bodyPost_ret (v := .tuple #[.agg #[.int .i64 0, .int .i64 0], .int .i64 7]) (by simp [results, Tryd.results32, go_sem]) rfl ⟨rfl, ?_⟩
  exact (Below.refl _ _).alloc (Nat.le_refl _) _
/-- Nothing has turned but block c. -/
structure Kr (w w' : World) (r : Nat) : Prop where
  os : w'.os = w.os
  tape : w'.tape = w.tape
  output : w'.output = w.output
  size : w.heap.size ≤ w'.heap.size
  block : ∀ k, k < w.heap.size → k ≠ r → w'.heap[k]? = w.heap[k]?
theorem Kr.below {w w' : World} {r B : Nat} (h : Kr w w' r) (hr : B ≤ r) (hB : B ≤ w.heap.size) : Below B w w' := ⟨h.os, h.tape, h.output, h.size, fun k hk => h.block k (by omega) (by omega)⟩
theorem Kr.setNew {w w' : World} {r : Nat} (h : Kr w w' r) {p : Addr} (hp : w.heap.size ≤ p.block) (u : Value) : Kr w (w'.setCell p u) r :=
  ⟨h.os, h.tape, h.output, by have := h.size; simpa [World.setCell] using this, fun k hk hr => (Below.heap_setCell _ _ _ _ (by omega)).trans (h.block k hk hr)⟩
theorem CkB.far {w : World} {c : Nat} {made : Bool} {rep t : Int} (h : CkB w c made rep t) {p : Addr} (hp : p.block ≠ c) (u : Value) : CkB (w.setCell p u) c made rep t :=
  (Below.heap_setCell _ _ _ _ (by omega)).trans h
set_option maxRecDepth 100000 in
set_option maxHeartbeats 400000 in
theorem tick_yes (w : World) (c : Nat) (rep t : Int) (h : CkB w c true rep t) (ht : t < 281474976710656) (ht0 : 0 ≤ t) : Calls Tryd.prog 32 #[.pointer (some ⟨c, 0, none⟩)] w fun e w' =>
    e = .returned (.tuple #[.agg #[.int .i64 (t + 1), .int .i64 rep], .int .i64 0]) ∧ CkB w' c true rep (t + 1) ∧ Kr w w' c := by
  have C := Lib.hid (fun W (h : CkB W c true rep t) => runs_any W c true rep t h)
  have h' := h.old ((Below.refl w.heap.size w).alloc (Nat.le_refl _) (.cells #[.int .i64 0, .int .i64 0] 23))
  obtain ⟨⟨c0, c1, c2⟩, f0, f1, f2⟩ := h'.cells
  have hcl := lt_of_block h
  have hne : w.heap.size ≠ c := by omega
  have H := Lib.hid h'
  have HW := Lib.hid h
  clear h h'
  go_enter Tryd.func32, Tryd.ntmps32
  go_wp2_with fail
  refine (C.out _ H.out).mono ?_
  rintro e w1 ⟨rfl, rfl⟩
  go_wp2
  have hc1 : CkB (w.setCell ⟨c, 2, none⟩ (.int .i64 (t + 1))) c true rep (t + 1) := row_setC HW.out
  have hc2 := hc1.old ((Below.refl _ _).alloc (Nat.le_refl _) (.cells #[.int .i64 0, .int .i64 0] 23))
  have hq : ((w.setCell ⟨c, 2, none⟩ (.int .i64 (t + 1))).alloc (.cells #[.int .i64 0, .int .i64 0] 23)).heap[w.heap.size]? = some (.cells #[.int .i64 0, .int .i64 0] 23 (0, 0)) := by
    have := heap_alloc_new (w.setCell ⟨c, 2, none⟩ (.int .i64 (t + 1))) (.cells #[.int .i64 0, .int .i64 0] 23)
    simpa [World.setCell] using this
  have hk : Kr w ((w.setCell ⟨c, 2, none⟩ (.int .i64 (t + 1))).alloc (.cells #[.int .i64 0, .int .i64 0] 23)) c :=
    ⟨rfl, rfl, rfl, by simp [World.setCell], fun k hk hr => (Below.heap_alloc _ _ _ (by simpa [World.setCell] using hk)).trans (Below.heap_setCell _ _ _ _ hr)⟩
  generalize hWW : (w.setCell ⟨c, 2, none⟩ (.int .i64 (t + 1))).alloc (.cells #[.int .i64 0, .int .i64 0] 23) = W at *
  clear hWW hc1 c0 c1 c2 f0 f1 f2
  obtain ⟨⟨c0, c1, c2⟩, f0, f1, f2⟩ := hc2.cells
  have q0 : W.cell? ⟨w.heap.size, 0, none⟩ = some (.int .i64 0) := by rw [cell_of_row _ _ _ _ _ _ hq]; rfl
  have q1 : W.cell? ⟨w.heap.size, 1, none⟩ = some (.int .i64 0) := by rw [cell_of_row _ _ _ _ _ _ hq]; rfl
  have g0 : W.frozen? ⟨w.heap.size, 0, none⟩ = false := frozen_of_row _ _ _ _ _ hq
  have g1 : W.frozen? ⟨w.heap.size, 1, none⟩ = false := frozen_of_row _ _ _ _ _ hq
  have HQ := Lib.hid (And.intro hc2 (And.intro hq hk))
  clear hc2 hq hk
  go_region
  all_goals
    go_wp2
    refine bodyPost_ret (v := .tuple #[.agg #[.int .i64 (t + 1), .int .i64 rep], .int .i64 0]) (by simp [results, Tryd.results32, go_sem, q0, q1]) rfl ⟨rfl, ?_⟩
    exact ⟨(CkB.far (CkB.far (w := W.drew) HQ.out.1 (by simpa using hne) _) (by simpa using hne) _), (Kr.setNew (Kr.setNew (w' := W.drew) ⟨HQ.out.2.2.os, HQ.out.2.2.tape, HQ.out.2.2.output, HQ.out.2.2.size, HQ.out.2.2.block⟩ (by simp) _) (by simp) _)⟩
end Go.Proofs.YthpolhlhpdhomaaDoor
