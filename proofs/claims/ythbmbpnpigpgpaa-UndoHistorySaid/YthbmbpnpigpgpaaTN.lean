/- The reference's Get, Set of rows, walked. -/
import Derived.Test.YthbmbpnpigpgpaaTM
set_option linter.unusedVariables false
set_option maxRecDepth 100000
namespace Go.Proofs.Ythbmbpnpigpgpaa
open Go.RowKit Go.WideMaps Go.Maps

def EnB (T : TypeId) (w : World) (g : Nat) (pt pr : Int) (nm : ByteArray) (d : Bool) : Prop := w.heap[g]? = some (.cells #[.int .i64 pt, .int .i64 pr, .string nm, .bool d] T (0, 0))
theorem EnB.step {T : TypeId} {w w' : World} {g : Nat} {pt pr : Int} {nm : ByteArray} {d : Bool} (h : EnB T w g pt pr nm d) (hb : Below w.heap.size w w') : EnB T w' g pt pr nm d := (hb.block g (lt_of_block h)).trans h
theorem EnB.cells {T : TypeId} {w : World} {g : Nat} {pt pr : Int} {nm : ByteArray} {d : Bool} (h : EnB T w g pt pr nm d) : w.cell? ⟨g, 0, none⟩ = some (.int .i64 pt) ∧ w.cell? ⟨g, 1, none⟩ = some (.int .i64 pr) ∧ w.cell? ⟨g, 2, none⟩ = some (.string nm) ∧ w.cell? ⟨g, 3, none⟩ = some (.bool d) := by
  refine ⟨?_, ?_, ?_, ?_⟩ <;> (rw [cell_of_row _ _ _ _ _ _ h]; rfl)
theorem EnB.free {T : TypeId} {w : World} {g : Nat} {pt pr : Int} {nm : ByteArray} {d : Bool} (h : EnB T w g pt pr nm d) : w.frozen? ⟨g, 0, none⟩ = false ∧ w.frozen? ⟨g, 1, none⟩ = false ∧ w.frozen? ⟨g, 2, none⟩ = false ∧ w.frozen? ⟨g, 3, none⟩ = false :=
  ⟨frozen_of_row _ _ _ _ _ h, frozen_of_row _ _ _ _ _ h, frozen_of_row _ _ _ _ _ h, frozen_of_row _ _ _ _ _ h⟩
theorem EnB.sets {T : TypeId} {w : World} {b : Nat} {pt pr : Int} {nm : ByteArray} {d : Bool} (h : EnB T w b pt pr nm d) (pt' pr' : Int) (nm' : ByteArray) (d' : Bool) : EnB T (sets4 w b (.int .i64 pt') (.int .i64 pr') (.string nm') (.bool d')) b pt' pr' nm' d' := by
  unfold sets4
  exact row_setC (j := 3) (u := .bool d') (row_setC (j := 2) (u := .string nm') (row_setC (j := 1) (u := .int .i64 pr') (row_setC (j := 0) (u := .int .i64 pt') h)))
set_option maxHeartbeats 3200000 in
theorem rget_any (w : World) (v : Value) (l : List Rw) (h : LiesR w v l) (t r : Int) :
    Calls Try.prog 36 #[v, .agg #[.int .i64 t, .int .i64 r]] w fun e w' => e = .returned (.tuple #[gv l t r, .bool (getF l t r).isSome]) ∧ Below w.heap.size w w' := by
  have hlm := h.len
  have B1 := vstep w (.cells #[.int .i64 t, .int .i64 r] 61)
  have B2 := vstep (w.alloc (.cells #[.int .i64 t, .int .i64 r] 61)) (.cells #[.int .i64 0, .int .i64 0, .string ⟨#[]⟩, .bool false] 66)
  have B := Lib.hid (B1.trans (B2.mono B1.size))
  have L := Lib.hid (h.step B.out)
  have S2 := Lib.hid ((StAt.new w t r).step B2)
  obtain ⟨W0, hW0⟩ : ∃ y, (w.alloc (.cells #[.int .i64 t, .int .i64 r] 61)).alloc (.cells #[.int .i64 0, .int .i64 0, .string ⟨#[]⟩, .bool false] 66) = y := ⟨_, rfl⟩
  rw [hW0] at B L S2
  have E2 := Lib.hid (show EnB 66 W0 (w.heap.size + 1) 0 0 ⟨#[]⟩ false from by
    rw [← hW0]
    have := heap_alloc_new (w.alloc (.cells #[.int .i64 t, .int .i64 r] 61)) (.cells #[.int .i64 0, .int .i64 0, .string ⟨#[]⟩, .bool false] 66)
    rwa [World.size_alloc] at this)
  have HW := Lib.hid hW0
  have CL := Lib.hid (fun m x1 x2 x3 x4 => (show EnB 66 (sets4 (W0.drewN m) (w.heap.size + 1) (.int .i64 x1) (.int .i64 x2) (.string x3) (.bool x4)) (w.heap.size + 1) x1 x2 x3 x4 ∧ Below w.heap.size w (sets4 (W0.drewN m) (w.heap.size + 1) (.int .i64 x1) (.int .i64 x2) (.string x3) (.bool x4)) from ⟨(E2.out.step (below_drewN W0 m)).sets _ _ _ _, sets4_below (B.out.trans ((below_drewN W0 m).mono B.out.size)) (Nat.le_succ _)⟩))
  obtain ⟨ao, cap, rfl⟩ := h.shape
  clear B1 B2 hW0 h
  go_enter Try.func36, Try.ntmps36
  go_upto_region 1 with (fail)
  rw [HW.out]
  go_wp2_with fail
  go_loopw [6] (fun kv wr => ∃ i : Nat, kv = .int .i64 i ∧ i ≤ l.length ∧ Hid (∀ (j : Nat) y, j < i → l[j]? = some y → ¬ (y.t = t ∧ y.r = r)) ∧ ∃ n, wr = W0.drewN n) (fun kv _ => l.length - (intOf kv).toNat)
  case atStart => exact ⟨0, rfl, Nat.zero_le _, Lib.hid (fun j y h => absurd h (Nat.not_lt_zero _)), 0, rfl⟩
  case round =>
    obtain ⟨i, rfl, hi, hJ, n, rfl⟩ := hrel
    by_cases hlt : i < l.length
    · obtain ⟨g, o, x, rfl, hx, hg, a0, a1, a2, a3, a4, a5⟩ := L.out.row hlt
      obtain ⟨c1, c2⟩ := S2.out.cells
      clear hg
      by_cases hq : x.t = t ∧ x.r = r
      · have EQ := Lib.hid (fit_at hx hq hJ.out)
        have t1 := beqb_ _ _ hq.1
        have t2 := beqb_ _ _ hq.2
        obtain ⟨d0, d1, d2, d3⟩ := E2.out.cells
        obtain ⟨f0, f1, f2, f3⟩ := E2.out.free
        clear hJ hq hx
        go_wp2
        go_quiet (fail)
        go_wp2
        have K5 := CL.out (n + nq) x.pt x.pr x.nm x.d
        obtain ⟨w5, hW5⟩ : ∃ w5, sets4 (W0.drewN (n + nq)) (w.heap.size + 1) (.int .i64 x.pt) (.int .i64 x.pr) (.string x.nm) (.bool x.d) = w5 := ⟨_, rfl⟩
        rw [hW5] at K5
        unfold sets4 at hW5
        rw [hW5]
        clear hW5 d0 d1 d2 d3 f0 f1 f2 f3
        obtain ⟨d0, d1, d2, d3⟩ := K5.1.cells
        have HB5 := Lib.hid K5.2
        clear K5
        refine bodyPost_ret (by simp [results, Try.results36, go_sem, d0, d1, d2, d3]; try rfl) rfl ?_
        refine ⟨?_, HB5.out⟩
        unfold gv
        rw [EQ.out]
        rfl
      · have HJ2 := Lib.hid (show ∀ (j : Nat) y, j < i + 1 → l[j]? = some y → ¬ (y.t = t ∧ y.r = r) from fun j y hj hy => by
          by_cases e : j = i
          · subst e; rw [hx] at hy; injection hy with hy; subst hy; exact hq
          · exact hJ.out j y (by omega) hy)
        rcases no2 hq with x0 | ⟨x0, x1⟩
        all_goals
          clear hq hJ hx
          go_wp2
          go_quiet (fail)
          go_wp2
          go_roundw
          case rel => exact ⟨i + 1, by go_num, by omega, HJ2, _, rfl⟩
          case measure => simp [intOf]; omega
    · have EQ := Lib.hid (fit_none (t := t) (r := r) (fun j y hj => hJ.out j y (by omega)))
      obtain ⟨d0, d1, d2, d3⟩ := E2.out.cells
      obtain ⟨f0, f1, f2, f3⟩ := E2.out.free
      clear hJ
      go_wp2
      have K5 := CL.out (n) 0 0 ⟨#[]⟩ false
      obtain ⟨w5, hW5⟩ : ∃ w5, sets4 (W0.drewN (n)) (w.heap.size + 1) (.int .i64 0) (.int .i64 0) (.string ⟨#[]⟩) (.bool false) = w5 := ⟨_, rfl⟩
      rw [hW5] at K5
      unfold sets4 at hW5
      rw [hW5]
      clear hW5 d0 d1 d2 d3 f0 f1 f2 f3
      obtain ⟨d0, d1, d2, d3⟩ := K5.1.cells
      have HB5 := Lib.hid K5.2
      clear K5
      refine bodyPost_ret (by simp [results, Try.results36, go_sem, d0, d1, d2, d3]; try rfl) rfl ?_
      refine ⟨?_, HB5.out⟩
      unfold gv
      rw [EQ.out]
      rfl
end Go.Proofs.Ythbmbpnpigpgpaa

