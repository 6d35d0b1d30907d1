/- FrameSame's walk. -/
import Derived.Test.YtodlgbbfgfjfdaaFrI
import Derived.Test.YtodlgbbfgfjfdaaLater
import Derived.Laws.MakeOwn
set_option linter.unusedVariables false
namespace Go.Proofs.Ytodlgbbfgfjfdaa
open Go.RowKit

set_option maxRecDepth 100000 in
set_option maxHeartbeats 1600000 in
theorem law_big (w : World) (k f t k' f' t' : Int) (a a' : Option Addr) (n n' c c' : Nat) (x : Nat) (h : 500 < n ∨ 500 < n') :
    Calls Try.prog 6 #[.agg #[.int .i64 k, .int .i64 f, .int .i64 t, .slice a n c], .agg #[.int .i64 k', .int .i64 f', .int .i64 t', .slice a' n' c'], .int .u8 (x : Int)] w fun e w' => e = .returned (.bool true) ∧ Below w.heap.size w w' := by
  have HX := Lib.hid (box2 w #[.int .i64 k, .int .i64 f, .int .i64 t, .slice a n c] #[.int .i64 k', .int .i64 f', .int .i64 t', .slice a' n' c'] 24 24)
  have A := Lib.hid awake_any
  by_cases h1 : 500 < n
  · go_enter Try.func6, Try.ntmps6
    go_wp2_with fail
    refine (A.out _).mono ?_
    rintro e w1 ⟨rfl, hb⟩
    have HB := Lib.hid (HX.out.trans (hb.mono HX.out.size))
    clear hb
    go_wp2
    go_returns
    exact ⟨rfl, HB.out⟩
  · have h2 : 500 < n' := by omega
    clear h
    go_enter Try.func6, Try.ntmps6
    go_wp2_with fail
    refine (A.out _).mono ?_
    rintro e w1 ⟨rfl, hb⟩
    have HB := Lib.hid (HX.out.trans (hb.mono HX.out.size))
    clear hb
    go_wp2
    go_returns
    exact ⟨rfl, HB.out⟩

theorem boxc {w : World} {b : Nat} {x y z v : Value} (h : w.heap[b]? = some (.cells #[x, y, z, v] 24 (0, 0))) :
    w.cell? ⟨b, 0, none⟩ = some x ∧ w.cell? ⟨b, 1, none⟩ = some y ∧ w.cell? ⟨b, 2, none⟩ = some z ∧ w.cell? ⟨b, 3, none⟩ = some v := by
  refine ⟨?_, ?_, ?_, ?_⟩ <;> (rw [cell_of_row _ _ _ _ _ _ h]; rfl)

set_option maxRecDepth 100000 in
set_option maxHeartbeats 500000 in
theorem law_small (w : World) (k f t k' f' t' : Int) (v v' : Value) (l m : List Nat) (h1 : Lies w v l) (h2 : Lies w v' m) (hl : Byt l) (hm : Byt m) (x : Nat) (hx : x < 256) (hn : l.length ≤ 500) (hn' : m.length ≤ 500) :
    Calls Try.prog 6 #[.agg #[.int .i64 k, .int .i64 f, .int .i64 t, v], .agg #[.int .i64 k', .int .i64 f', .int .i64 t', v'], .int .u8 (x : Int)] w fun e w' => e = .returned (.bool true) ∧ Below w.heap.size w w' := by
  obtain ⟨b, hb⟩ : ∃ b : Bool, b = true ↔ (k = k' ∧ f = f' ∧ t = t' ∧ l = m) := ⟨decide (k = k' ∧ f = f' ∧ t = t' ∧ l = m), by simp⟩
  have A := Lib.hid awake_any
  have S := Lib.hid (fun W (hW : Below w.heap.size w W) => fsame_any W k f t k' f' t' v v' l m (h1.later hW) (h2.later hW) hl hm b hb)
  have R := Lib.hid (fun W (hW : Below w.heap.size w W) => are_any W k f t k' f' t' v v' l m (h1.later hW) (h2.later hW) b hb)
  have S2 := Lib.hid (fun W (hW : Below w.heap.size w W) => fsame_any W k f t k f t v v l l (h1.later hW) (h1.later hW) hl hl true (by simp))
  obtain ⟨a1, p1, rfl, _⟩ := h1
  obtain ⟨a2, p2, rfl, _⟩ := h2
  have T := Lib.hid (fun W k f t ao len cap => to_any W k f t ao len cap)
  have HX := Lib.hid (box2 w #[.int .i64 k, .int .i64 f, .int .i64 t, .slice a1 l.length p1] #[.int .i64 k', .int .i64 f', .int .i64 t', .slice a2 m.length p2] 24 24)
  clear hb hl hm
  go_enter Try.func6, Try.ntmps6
  go_wp2
  have g1 := heap_alloc_new (w.alloc (.cells #[.int .i64 k, .int .i64 f, .int .i64 t, .slice a1 l.length p1] 24)) (.cells #[.int .i64 k', .int .i64 f', .int .i64 t', .slice a2 m.length p2] 24)
  rw [show (w.alloc (.cells #[.int .i64 k, .int .i64 f, .int .i64 t, .slice a1 l.length p1] 24)).heap.size = w.heap.size + 1 by simp] at g1
  have g0 := (((Below.refl _ (w.alloc (.cells #[.int .i64 k, .int .i64 f, .int .i64 t, .slice a1 l.length p1] 24))).alloc (Nat.le_refl _) (.cells #[.int .i64 k', .int .i64 f', .int .i64 t', .slice a2 m.length p2] 24)).block w.heap.size (by simp)).trans (heap_alloc_new w (.cells #[.int .i64 k, .int .i64 f, .int .i64 t, .slice a1 l.length p1] 24))
  generalize ((w.alloc (.cells #[.int .i64 k, .int .i64 f, .int .i64 t, .slice a1 l.length p1] 24)).alloc (.cells #[.int .i64 k', .int .i64 f', .int .i64 t', .slice a2 m.length p2] 24)) = W0 at *
  have L0 := Lib.hid (fun x : Later W0 => HX.out.trans (x.below.mono HX.out.size))
  have c0 : ∀ x : Later W0, x.w.cell? ⟨w.heap.size, 0, none⟩ = some (.int .i64 k) := fun x => (boxc ((x.below.block _ (Array.getElem?_eq_some_iff.1 g0).1).trans g0)).1
  have c1 : ∀ x : Later W0, x.w.cell? ⟨w.heap.size, 1, none⟩ = some (.int .i64 f) := fun x => (boxc ((x.below.block _ (Array.getElem?_eq_some_iff.1 g0).1).trans g0)).2.1
  have c2 : ∀ x : Later W0, x.w.cell? ⟨w.heap.size, 2, none⟩ = some (.int .i64 t) := fun x => (boxc ((x.below.block _ (Array.getElem?_eq_some_iff.1 g0).1).trans g0)).2.2.1
  have c3 : ∀ x : Later W0, x.w.cell? ⟨w.heap.size, 3, none⟩ = some (.slice a1 l.length p1) := fun x => (boxc ((x.below.block _ (Array.getElem?_eq_some_iff.1 g0).1).trans g0)).2.2.2
  have d0 : ∀ x : Later W0, x.w.cell? ⟨w.heap.size + 1, 0, none⟩ = some (.int .i64 k') := fun x => (boxc ((x.below.block _ (Array.getElem?_eq_some_iff.1 g1).1).trans g1)).1
  have d1 : ∀ x : Later W0, x.w.cell? ⟨w.heap.size + 1, 1, none⟩ = some (.int .i64 f') := fun x => (boxc ((x.below.block _ (Array.getElem?_eq_some_iff.1 g1).1).trans g1)).2.1
  have d2 : ∀ x : Later W0, x.w.cell? ⟨w.heap.size + 1, 2, none⟩ = some (.int .i64 t') := fun x => (boxc ((x.below.block _ (Array.getElem?_eq_some_iff.1 g1).1).trans g1)).2.2.1
  have d3 : ∀ x : Later W0, x.w.cell? ⟨w.heap.size + 1, 3, none⟩ = some (.slice a2 m.length p2) := fun x => (boxc ((x.below.block _ (Array.getElem?_eq_some_iff.1 g1).1).trans g1)).2.2.2
  clear g0 g1
  have D9a := Lib.hid (fun x : Later W0 => T.out x.w k f t a1 l.length p1)
  have D9b := Lib.hid (fun x : Later W0 => T.out x.w k' f' t' a2 m.length p2)
  have D18 := Lib.hid (fun x : Later W0 => S.out x.w (L0.out x))
  have D18b := Lib.hid (fun x : Later W0 => S2.out x.w (L0.out x))
  have D15 := Lib.hid (fun x : Later W0 => R.out x.w (L0.out x))
  refine wp_region_later (by kernel_rfl) (by kernel_rfl) ?_
  repeat (go_big_quiet_step (first
      | (go_at_call 9; with_reducible exact later_call (D9a.out _))
      | (go_at_call 9; with_reducible exact later_call (D9b.out _))
      | (go_at_call 18; with_reducible exact later_call (D18.out _))
      | (go_at_call 18; with_reducible exact later_call (D18b.out _))
      | (go_at_call 15; with_reducible exact later_call (D15.out _))))
  refine wpQuiet_nil ?_
  intro _ hw'
  obtain ⟨xl, hw''⟩ := hw'
  subst hw''
  have B1 := Lib.hid (L0.out xl)
  generalize xl.w = w1 at *
  clear c0 c1 c2 c3 d0 d1 d2 d3 D9a D9b D18 D18b D15 S S2 R T L0 HX
  obtain ⟨N, hN, hN1, hN2⟩ : ∃ N : Nat, N = 65535 + x % 3 ∧ 65535 ≤ N ∧ N ≤ 65537 := ⟨_, rfl, by omega, by omega⟩
  have k1 : IntKind.i64.wrap (x : Int) = (x : Int) := by rw [IntKind.wrap_i64]; omega
  have k4 : (65535 : Int) + (x : Int) % 3 = (N : Int) := by omega
  have k5 : wrap64 (N : Int) = (N : Int) := by unfold wrap64; omega
  have k6 : IntKind.i64.wrap (N : Int) = (N : Int) := by rw [IntKind.wrap_i64]; omega
  clear hN
  obtain ⟨i0, hi, hz0, hz1, hz2⟩ := info_parts Try.info5
  have hmk := run_make (P := Try.prog) w1 22 5 i0 (.int .u8 0) Try.underlying22 hi hz0 .i64 .i64 (N : Int) (N : Int) (by omega) (by omega) (by rw [hz2]; omega) (by omega)
  have e4 : ((N : Int)).toNat * i0.size = N := by rw [hz1]; omega
  rw [e4] at hmk
  rw [show (Value.int IntKind.u8 0).cells = #[Value.int IntKind.u8 0] from rfl] at hmk
  generalize hz : madeCells #[Value.int IntKind.u8 0] N = Z at *
  have HZ := Lib.hid hz
  clear hz e4 hN1 hn hn' k1
  go_wp2_with fail
  have hZL : Lies (w1.alloc (.cells Z 5)) (.slice (some ⟨w1.heap.size, 0, none⟩) N N) (List.replicate N 0) := by
    refine ⟨_, _, by rw [List.length_replicate], by rw [List.length_replicate]; exact Nat.le_refl _, by unfold maxLen; omega, (fun e => by cases e), fun b hb hne => ?_⟩
    cases hb
    refine ⟨w1.heap.size, 0, rfl, by simp, fun j x hj => ?_⟩
    have hj2 := (List.getElem?_eq_some_iff.1 hj).1
    rw [List.length_replicate] at hj2
    rw [List.getElem?_replicate, if_pos hj2] at hj
    injection hj with hj
    rw [cell_of_row _ _ _ _ _ _ (heap_alloc_new w1 (.cells Z 5)), ← HZ.out, ← hj, Nat.zero_add]
    simp [madeCells, hj2, Nat.mod_one]
  have BA := B1.out.alloc B1.out.size (.cells Z 5)
  have BZ := (Below.refl _ (w1.alloc (.cells Z 5))).alloc (Nat.le_refl _) (.cells #[.int .i64 3, .int .i64 1, .int .i64 0, .slice (some ⟨w1.heap.size, 0, none⟩) N N] 29)
  have hZM := hZL.later BZ
  have BB := Lib.hid (BA.trans (BZ.mono BA.size))
  have HM := Lib.hid hZM
  have hrl : (List.replicate N 0).length = N := List.length_replicate
  by_cases hb : N ≤ 65536
  · have P := put_any _ 3 1 0 _ (List.replicate N 0) HM.out (fun y hy => by have := List.eq_of_mem_replicate hy; omega) (by omega) (by omega) (by omega) (by rw [hrl]; exact hb) (by rw [hrl]; unfold chk; rw [if_neg (by unfold isRepB; decide), if_neg (by omega)])
    generalize List.replicate N 0 = rr at *
    clear hZL hZM BA BZ
    refine P.mono ?_
    rintro e w2 ⟨r, rfl, hr⟩
    obtain ⟨ra, rc, rfl⟩ := own_shape hr.1
    have B2 := Lib.hid (BB.out.trans (hr.2.mono BB.out.size))
    have hd : (N : Int) ≤ 65536 := by omega
    clear hr P hb k4 k5 k6 hN2
    go_wp2_with fail
    refine (A.out _).mono ?_
    rintro e w3 ⟨rfl, hb3⟩
    have B3 := Lib.hid (B2.out.trans (hb3.mono B2.out.size))
    clear hb3
    go_wp2
    go_returns
    exact ⟨rfl, B3.out⟩
  · have hc6 : chk 3 1 0 N = 6 := by unfold chk; rw [if_neg (by unfold isRepB; decide), if_pos (by omega)]
    have P := put_err ((w1.alloc (.cells Z 5)).alloc (.cells #[.int .i64 3, .int .i64 1, .int .i64 0, .slice (some ⟨w1.heap.size, 0, none⟩) N N] 29)) 3 1 0 (some ⟨w1.heap.size, 0, none⟩) N N (by rw [hc6]; decide)
    rw [hc6] at P
    clear hZL hZM BA BZ HM hrl
    refine P.mono ?_
    rintro e w2 ⟨rfl, hb2⟩
    have B2 := Lib.hid (BB.out.trans (hb2.mono BB.out.size))
    have hd : ¬ ((N : Int) ≤ 65536) := by omega
    clear hb2 P hb k4 k5 k6 hN2
    go_wp2_with fail
    refine (A.out _).mono ?_
    rintro e w3 ⟨rfl, hb3⟩
    have B3 := Lib.hid (B2.out.trans (hb3.mono B2.out.size))
    clear hb3
    go_wp2
    go_returns
    exact ⟨by first | (simp; done) | (simp [hd]; done) | (simp; omega), B3.out⟩
end Go.Proofs.Ytodlgbbfgfjfdaa
