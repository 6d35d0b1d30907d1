/- Meet, of the program and of the reference. -/
import Derived.Test.YtiljmkglmanddaaDoorVE
set_option linter.unusedVariables false
namespace Go.Proofs.YtiljmkglmanddaaDoor
open Go.RowKit

theorem boxes3 (w : World) (A B C : Array Value) (ty : TypeId) :
    Below w.heap.size w (((w.alloc (.cells A ty)).alloc (.cells B ty)).alloc (.cells C ty)) ∧ (((w.alloc (.cells A ty)).alloc (.cells B ty)).alloc (.cells C ty)).heap[w.heap.size]? = some (.cells A ty (0, 0)) ∧ (((w.alloc (.cells A ty)).alloc (.cells B ty)).alloc (.cells C ty)).heap[w.heap.size + 1]? = some (.cells B ty (0, 0)) ∧ (((w.alloc (.cells A ty)).alloc (.cells B ty)).alloc (.cells C ty)).heap[w.heap.size + 1 + 1]? = some (.cells C ty (0, 0)) := by
  obtain ⟨h1, h2, h3⟩ := boxes w A B ty
  have hL := (Below.refl _ ((w.alloc (.cells A ty)).alloc (.cells B ty))).alloc (Nat.le_refl _) (.cells C ty)
  refine ⟨h1.alloc h1.size _, (hL.block _ (by simp; omega)).trans h2, (hL.block _ (by simp)).trans h3, ?_⟩
  have := heap_alloc_new ((w.alloc (.cells A ty)).alloc (.cells B ty)) (.cells C ty)
  rw [World.size_alloc, World.size_alloc] at this
  exact this
def meetF (a b : List Int) : List Int := List.zipWith min a b
theorem meetF_len {a b : List Int} (ha : a.length = 64) (hb : b.length = 64) : (meetF a b).length = 64 := by unfold meetF; rw [List.length_zipWith, ha, hb]; rfl
def MI (a b cur : List Int) (i : Nat) : Prop := cur.length = 64 ∧ ∀ (j : Nat) x y, a[j]? = some x → b[j]? = some y → cur[j]? = some (if j < i then min x y else x)
theorem MI.start {a : List Int} (b : List Int) (ha : a.length = 64) : MI a b a 0 := ⟨ha, fun j x y hx hy => by rw [if_neg (Nat.not_lt_zero _)]; exact hx⟩
theorem MI.step {a b cur : List Int} {i : Nat} (h : MI a b cur i) {x y : Int} (hx : a[i]? = some x) (hy : b[i]? = some y) : MI a b (cur.set i (min x y)) (i + 1) := by
  have hi : i < cur.length := (List.getElem?_eq_some_iff.1 (h.2 i x y hx hy)).1
  refine ⟨by rw [List.length_set]; exact h.1, fun j x' y' hx' hy' => ?_⟩
  rw [List.getElem?_set]
  by_cases e : i = j
  · subst e
    rw [if_pos rfl, if_pos hi, if_pos (by omega)]
    rw [hx] at hx'; rw [hy] at hy'
    injection hx' with hx'; injection hy' with hy'
    rw [hx', hy']
  · rw [if_neg e, h.2 j x' y' hx' hy']
    by_cases hj : j < i
    · rw [if_pos hj, if_pos (by omega)]
    · rw [if_neg hj, if_neg (by omega)]
theorem MI.done {a b cur : List Int} (ha : a.length = 64) (hb : b.length = 64) (h : MI a b cur 64) : cur = meetF a b := by
  apply List.ext_getElem?
  intro j
  by_cases hj : j < 64
  · obtain ⟨x, hx⟩ := va_len a ha j hj
    obtain ⟨y, hy⟩ := va_len b hb j hj
    rw [h.2 j x y hx hy, if_pos hj]
    unfold meetF
    rw [List.getElem?_zipWith, hx, hy]
  · rw [List.getElem?_eq_none (by rw [h.1]; omega), List.getElem?_eq_none (by rw [meetF_len ha hb]; omega)]

set_option maxRecDepth 100000 in
set_option maxHeartbeats 1600000 in
theorem meet_any (w : World) (a b : List Int) (ha : a.length = 64) (hb : b.length = 64) :
    Calls Tryd.prog 10 #[vw a, vw b] w fun e w' => e = .returned (vw (meetF a b)) ∧ Below w.heap.size w w' := by
  have X := Lib.hid (boxes3 w (va a) (va b) (va zs) 24)
  have AZ := Lib.hid (alloc_va z24 ((w.alloc (.cells (va a) 24)).alloc (.cells (va b) 24)))
  rw [World.size_alloc, World.size_alloc] at AZ
  have G := Lib.hid (va_get b)
  have hsz : (va b).size = 64 := by rw [va_size, hb]
  have HA := Lib.hid ha
  have HB := Lib.hid hb
  have LB := Lib.hid (load_va v24 _ (w.heap.size + 1) b hb X.out.2.2.1)
  have LD := Lib.hid (fun W (l' : List Int) (h1 : l'.length = 64) (h : W.heap[w.heap.size]? = some (.cells (va l') 24 (0, 0))) => load_va v24 W w.heap.size l' h1 h)
  have ST := Lib.hid (fun W (l' : List Int) (h1 : l'.length = 64) (h : W.heap[w.heap.size + 1 + 1]? = some (.cells (va zs) 24 (0, 0))) => store_va v24 W (w.heap.size + 1 + 1) (va zs) (by rw [va_size, zs_len]) l' h1 h)
  have HU := Lib.hid (show vw a = .agg (va a) from rfl)
  have HV := Lib.hid (show vw b = .agg (va b) from rfl)
  generalize hW : ((w.alloc (.cells (va a) 24)).alloc (.cells (va b) 24)).alloc (.cells (va zs) 24) = W at *
  clear hW ha hb
  rw [HU.out, HV.out]
  generalize va b = B at *
  go_enter Tryd.func10, Tryd.ntmps10
  go_wp2_with (first | refine wpList_alloc_arr rfl 24 rfl _ _ AZ.out ?_ | refine wpList_load_arr rfl (.tmp 3) 24 rfl _ _ rfl LB.out ?_)
  go_loopw [8] (fun iv wr => ∃ (i : Nat) (cur : List Int), iv = .int .i64 i ∧ i ≤ 64 ∧ Hid (MI a b cur i ∧ wr.heap[w.heap.size]? = some (.cells (va cur) 24 (0, 0)) ∧ wr.heap[w.heap.size + 1 + 1]? = some (.cells (va zs) 24 (0, 0)) ∧ Below w.heap.size w wr)) (fun iv _ => 64 - (intOf iv).toNat)
  case atStart => exact ⟨0, a, rfl, Nat.zero_le _, Lib.hid ⟨MI.start b HA.out, X.out.2.1, X.out.2.2.2, X.out.1⟩⟩
  case round =>
    obtain ⟨i, cur, rfl, hi, hI⟩ := hrel
    by_cases hlt : i < 64
    · obtain ⟨y, hy⟩ := va_len b HB.out i hlt
      obtain ⟨x, hx⟩ := va_len a HA.out i hlt
      have IX := fun W => index_va W B hsz i hlt y (G.out i y hy)
      have hc : cur[i]? = some x := by rw [hI.out.1.2 i x y hx hy, if_neg (Nat.lt_irrefl _)]
      have g := cell_va hI.out.2.1 hc
      have f := frozen_of_row _ _ i _ _ hI.out.2.1
      have HN := Lib.hid (hI.out.1.step hx hy)
      have R1 := Lib.hid (set_va hI.out.2.1 i (min x y))
      have R2 := Lib.hid (show (wr.setCell ⟨w.heap.size, i, none⟩ (.int .i64 (min x y))).heap[w.heap.size + 1 + 1]? = some (.cells (va zs) 24 (0, 0)) from (Below.heap_setCell _ _ _ _ (by show w.heap.size + 1 + 1 ≠ w.heap.size; omega)).trans hI.out.2.2.1)
      have BX := Lib.hid (hI.out.2.2.2.setCell (p := ⟨w.heap.size, i, none⟩) (Nat.le_refl _) (.int .i64 (min x y)))
      clear hx hy hc
      go_wp2
      go_roundw
      case rel => exact ⟨i + 1, cur.set i (min x y), by go_num, by omega, Lib.hid ⟨HN.out, R1.out, R2.out, BX.out⟩⟩
      case measure => simp [intOf]; omega
    · have hi64 : i = 64 := by omega
      subst hi64
      have HE := Lib.hid (hI.out.1.done HA.out HB.out)
      go_wp2_with (first | refine wpList_load_arr rfl (.tmp 2) 24 rfl _ _ rfl (LD.out _ _ hI.out.1.1 hI.out.2.1) ?_ | refine wpList_store_arr rfl (.tmp 4) (.tmp 20) 24 rfl _ _ rfl rfl _ (ST.out _ _ hI.out.1.1 hI.out.2.2.1) ?_)
      refine bodyPost_ret (ret_va (b := w.heap.size + 1 + 1) rfl v24 hI.out.1.1 rfl (setRow_heap _ _ _ _ _ _ hI.out.2.2.1)) rfl ⟨by rw [HE.out], below_setRow hI.out.2.2.2 (by omega) _⟩
end Go.Proofs.YtiljmkglmanddaaDoor
