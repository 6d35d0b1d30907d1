/- The reference's Meet. -/
import Derived.Test.YtiljmkglmanddaaDoorVF
set_option linter.unusedVariables false
namespace Go.Proofs.YtiljmkglmanddaaDoor
open Go.RowKit

theorem MI.stay {a b cur : List Int} {i : Nat} (h : MI a b cur i) {x y : Int} (hx : a[i]? = some x) (hy : b[i]? = some y) (hxy : x ≤ y) : MI a b cur (i + 1) := by
  refine ⟨h.1, fun j x' y' hx' hy' => ?_⟩
  rw [h.2 j x' y' hx' hy']
  by_cases e : j = i
  · subst e
    rw [hx] at hx'; rw [hy] at hy'
    injection hx' with hx'; injection hy' with hy'
    subst hx' hy'
    rw [if_neg (Nat.lt_irrefl _), if_pos (Nat.lt_succ_self _), Int.min_eq_left hxy]
  · by_cases hj : j < i
    · rw [if_pos hj, if_pos (by omega)]
    · rw [if_neg hj, if_neg (by omega)]

theorem boxes4 (w : World) (A B C D : Array Value) (ty : TypeId) :
    Below w.heap.size w ((((w.alloc (.cells A ty)).alloc (.cells B ty)).alloc (.cells C ty)).alloc (.cells D ty)) ∧ ((((w.alloc (.cells A ty)).alloc (.cells B ty)).alloc (.cells C ty)).alloc (.cells D ty)).heap[w.heap.size]? = some (.cells A ty (0, 0)) ∧ ((((w.alloc (.cells A ty)).alloc (.cells B ty)).alloc (.cells C ty)).alloc (.cells D ty)).heap[w.heap.size + 1]? = some (.cells B ty (0, 0)) ∧ ((((w.alloc (.cells A ty)).alloc (.cells B ty)).alloc (.cells C ty)).alloc (.cells D ty)).heap[w.heap.size + 1 + 1]? = some (.cells C ty (0, 0)) ∧ ((((w.alloc (.cells A ty)).alloc (.cells B ty)).alloc (.cells C ty)).alloc (.cells D ty)).heap[w.heap.size + 1 + 1 + 1]? = some (.cells D ty (0, 0)) := by
  obtain ⟨h1, h2, h3, h4⟩ := boxes3 w A B C ty
  have hL := (Below.refl _ (((w.alloc (.cells A ty)).alloc (.cells B ty)).alloc (.cells C ty))).alloc (Nat.le_refl _) (.cells D ty)
  refine ⟨h1.alloc h1.size _, (hL.block _ (by simp <;> omega)).trans h2, (hL.block _ (by simp <;> omega)).trans h3, (hL.block _ (by simp)).trans h4, ?_⟩
  have := heap_alloc_new (((w.alloc (.cells A ty)).alloc (.cells B ty)).alloc (.cells C ty)) (.cells D ty)
  rw [World.size_alloc, World.size_alloc, World.size_alloc] at this
  exact this

set_option maxRecDepth 100000 in
set_option maxHeartbeats 1600000 in
theorem rmeet_any (w : World) (a b : List Int) (ha : a.length = 64) (hb : b.length = 64) :
    Calls Tryd.prog 11 #[vw a, vw b] w fun e w' => e = .returned (vw (meetF a b)) ∧ Below w.heap.size w w' := by
  have X3 := Lib.hid (boxes3 w (va a) (va b) (va zs) 23)
  have X := Lib.hid (boxes4 w (va a) (va b) (va zs) (va zs) 23)
  have AZ := Lib.hid (alloc_va z23 ((w.alloc (.cells (va a) 23)).alloc (.cells (va b) 23)))
  have AY := Lib.hid (alloc_va z23 (((w.alloc (.cells (va a) 23)).alloc (.cells (va b) 23)).alloc (.cells (va zs) 23)))
  rw [World.size_alloc, World.size_alloc] at AZ
  rw [World.size_alloc, World.size_alloc, World.size_alloc] at AY
  have HA := Lib.hid ha
  have HB := Lib.hid hb
  have LA := Lib.hid (load_va v23 _ w.heap.size a ha X3.out.2.1)
  have SA := Lib.hid (store_va v23 _ (w.heap.size + 1 + 1 + 1) (va zs) (by rw [va_size, zs_len]) a ha X.out.2.2.2.2)
  have LD := Lib.hid (fun W (l' : List Int) (h1 : l'.length = 64) (h : W.heap[w.heap.size + 1 + 1 + 1]? = some (.cells (va l') 23 (0, 0))) => load_va v23 W (w.heap.size + 1 + 1 + 1) l' h1 h)
  have ST := Lib.hid (fun W (l' : List Int) (h1 : l'.length = 64) (h : W.heap[w.heap.size + 1 + 1]? = some (.cells (va zs) 23 (0, 0))) => store_va v23 W (w.heap.size + 1 + 1) (va zs) (by rw [va_size, zs_len]) l' h1 h)
  have HU := Lib.hid (show vw a = .agg (va a) from rfl)
  have HV := Lib.hid (show vw b = .agg (va b) from rfl)
  generalize hW3 : ((w.alloc (.cells (va a) 23)).alloc (.cells (va b) 23)).alloc (.cells (va zs) 23) = W3 at *
  generalize hW : W3.alloc (.cells (va zs) 23) = W at *
  have P0 := Lib.hid (show (W.setRow (w.heap.size + 1 + 1 + 1) (va a)).heap[w.heap.size]? = some (.cells (va a) 23 (0, 0)) from (setRow_other _ _ _ _ (by omega)).trans X.out.2.1)
  have P1 := Lib.hid (show (W.setRow (w.heap.size + 1 + 1 + 1) (va a)).heap[w.heap.size + 1]? = some (.cells (va b) 23 (0, 0)) from (setRow_other _ _ _ _ (by omega)).trans X.out.2.2.1)
  have P2 := Lib.hid (show (W.setRow (w.heap.size + 1 + 1 + 1) (va a)).heap[w.heap.size + 1 + 1]? = some (.cells (va zs) 23 (0, 0)) from (setRow_other _ _ _ _ (by omega)).trans X.out.2.2.2.1)
  have P3 := Lib.hid (setRow_heap _ _ _ (va a) _ _ X.out.2.2.2.2)
  have PB := Lib.hid (below_setRow X.out.1 (g := w.heap.size + 1 + 1 + 1) (by omega) (va a))
  clear hW hW3 ha hb
  rw [HU.out, HV.out]
  go_enter Tryd.func11, Tryd.ntmps11
  go_wp2_with (first | refine wpList_alloc_arr rfl 23 rfl _ _ AZ.out ?_ | refine wpList_alloc_arr rfl 23 rfl _ _ AY.out ?_ | refine wpList_load_arr rfl (.tmp 2) 23 rfl _ _ rfl LA.out ?_ | refine wpList_store_arr rfl (.tmp 5) (.tmp 7) 23 rfl _ _ rfl rfl _ SA.out ?_)
  go_loopw [6] (fun iv wr => ∃ (i : Nat) (cur : List Int), iv = .int .i64 i ∧ i ≤ 64 ∧ Hid (MI a b cur i ∧ wr.heap[w.heap.size]? = some (.cells (va a) 23 (0, 0)) ∧ wr.heap[w.heap.size + 1]? = some (.cells (va b) 23 (0, 0)) ∧ wr.heap[w.heap.size + 1 + 1]? = some (.cells (va zs) 23 (0, 0)) ∧ wr.heap[w.heap.size + 1 + 1 + 1]? = some (.cells (va cur) 23 (0, 0)) ∧ Below w.heap.size w wr)) (fun iv _ => 64 - (intOf iv).toNat)
  case atStart => exact ⟨0, a, rfl, Nat.zero_le _, Lib.hid ⟨MI.start b HA.out, P0.out, P1.out, P2.out, P3.out, PB.out⟩⟩
  case round =>
    obtain ⟨i, cur, rfl, hi, hI⟩ := hrel
    by_cases hlt : i < 64
    · obtain ⟨y, hy⟩ := va_len b HB.out i hlt
      obtain ⟨x, hx⟩ := va_len a HA.out i hlt
      have g0 := cell_va hI.out.2.1 hx
      have g1 := cell_va hI.out.2.2.1 hy
      have hc : cur[i]? = some x := by rw [hI.out.1.2 i x y hx hy, if_neg (Nat.lt_irrefl _)]
      have g := cell_va hI.out.2.2.2.2.1 hc
      have f := frozen_of_row _ _ i _ _ hI.out.2.2.2.2.1
      have HN1 := Lib.hid (hI.out.1.step hx hy)
      have HN2 := Lib.hid (fun h => hI.out.1.stay hx hy h)
      clear hx hy hc
      by_cases hxy : y < x
      · have hm : min x y = y := Int.min_eq_right (by omega)
        rw [hm] at HN1
        clear hm
        go_wp2
        go_quiet (fail)
        have BX := Lib.hid (((hI.out.2.2.2.2.2.trans ((below_drewN wr nq).mono hI.out.2.2.2.2.2.size))).setCell (p := ⟨w.heap.size + 1 + 1 + 1, i, none⟩) (by show w.heap.size ≤ w.heap.size + 1 + 1 + 1; omega) (.int .i64 y))
        have R0 := Lib.hid (show ((wr.drewN nq).setCell ⟨w.heap.size + 1 + 1 + 1, i, none⟩ (.int .i64 y)).heap[w.heap.size]? = some (.cells (va a) 23 (0, 0)) from (Below.heap_setCell _ _ _ _ (by show w.heap.size ≠ w.heap.size + 1 + 1 + 1; omega)).trans hI.out.2.1)
        have R1 := Lib.hid (show ((wr.drewN nq).setCell ⟨w.heap.size + 1 + 1 + 1, i, none⟩ (.int .i64 y)).heap[w.heap.size + 1]? = some (.cells (va b) 23 (0, 0)) from (Below.heap_setCell _ _ _ _ (by show w.heap.size + 1 ≠ w.heap.size + 1 + 1 + 1; omega)).trans hI.out.2.2.1)
        have R2 := Lib.hid (show ((wr.drewN nq).setCell ⟨w.heap.size + 1 + 1 + 1, i, none⟩ (.int .i64 y)).heap[w.heap.size + 1 + 1]? = some (.cells (va zs) 23 (0, 0)) from (Below.heap_setCell _ _ _ _ (by show w.heap.size + 1 + 1 ≠ w.heap.size + 1 + 1 + 1; omega)).trans hI.out.2.2.2.1)
        have R3 := Lib.hid (set_va (W := wr.drewN nq) (b := w.heap.size + 1 + 1 + 1) hI.out.2.2.2.2.1 i y)
        go_wp2
        go_roundw
        case rel => exact ⟨i + 1, cur.set i y, by go_num, by omega, Lib.hid ⟨HN1.out, R0.out, R1.out, R2.out, R3.out, BX.out⟩⟩
        case measure => simp [intOf]; omega
      · go_wp2
        go_quiet (fail)
        have BX := Lib.hid ((hI.out.2.2.2.2.2.trans ((below_drewN wr nq).mono hI.out.2.2.2.2.2.size)))
        go_wp2
        go_roundw
        case rel => exact ⟨i + 1, cur, by go_num, by omega, Lib.hid ⟨HN2.out (by omega), hI.out.2.1, hI.out.2.2.1, hI.out.2.2.2.1, hI.out.2.2.2.2.1, BX.out⟩⟩
        case measure => simp [intOf]; omega
    · have hi64 : i = 64 := by omega
      subst hi64
      have HE := Lib.hid (hI.out.1.done HA.out HB.out)
      go_wp2_with (first | refine wpList_load_arr rfl (.tmp 5) 23 rfl _ _ rfl (LD.out _ _ hI.out.1.1 hI.out.2.2.2.2.1) ?_ | refine wpList_store_arr rfl (.tmp 4) (.tmp 24) 23 rfl _ _ rfl rfl _ (ST.out _ _ hI.out.1.1 hI.out.2.2.2.1) ?_)
      refine bodyPost_ret (ret_va (b := w.heap.size + 1 + 1) rfl v23 hI.out.1.1 rfl (setRow_heap _ _ _ _ _ _ hI.out.2.2.2.1)) rfl ⟨by rw [HE.out], below_setRow hI.out.2.2.2.2.2 (by omega) _⟩
end Go.Proofs.YtiljmkglmanddaaDoor
