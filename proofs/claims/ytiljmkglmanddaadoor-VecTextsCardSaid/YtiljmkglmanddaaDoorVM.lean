/- The law's made: numbers that may not be are turned. -/
import Derived.Test.YtiljmkglmanddaaDoorVL
set_option linter.unusedVariables false
namespace Go.Proofs.YtiljmkglmanddaaDoor
open Go.RowKit

def clampI (x : Int) : Int := if x < 0 ∨ 4294967296 < x then 7 else x
def clampF (l : List Int) : List Int := l.map clampI
theorem clamp_right (l : List Int) : RightP (clampF l) := fun j x h => by
  unfold clampF at h
  rw [List.getElem?_map] at h
  cases hl : l[j]? with
  | none => rw [hl] at h; cases h
  | some y =>
    rw [hl] at h
    injection h with h
    subst h
    unfold clampI
    split <;> omega
def CI (l cur : List Int) (i : Nat) : Prop := cur.length = 64 ∧ ∀ (j : Nat) x, l[j]? = some x → cur[j]? = some (if j < i then clampI x else x)
theorem CI.start {l : List Int} (h : l.length = 64) : CI l l 0 := ⟨h, fun j x hx => by rw [if_neg (Nat.not_lt_zero _)]; exact hx⟩
theorem CI.step {l cur : List Int} {i : Nat} (h : CI l cur i) {x z : Int} (hx : l[i]? = some x) (hz : z = clampI x) : CI l (cur.set i z) (i + 1) := by
  have hi : i < cur.length := (List.getElem?_eq_some_iff.1 (h.2 i x hx)).1
  refine ⟨by rw [List.length_set]; exact h.1, fun j x' hx' => ?_⟩
  rw [List.getElem?_set]
  by_cases e : i = j
  · subst e
    rw [if_pos rfl, if_pos hi, if_pos (by omega)]
    rw [hx] at hx'
    injection hx' with hx'
    rw [hz, hx']
  · rw [if_neg e, h.2 j x' hx']
    by_cases hj : j < i
    · rw [if_pos hj, if_pos (by omega)]
    · rw [if_neg hj, if_neg (by omega)]
theorem CI.stay {l cur : List Int} {i : Nat} (h : CI l cur i) {x : Int} (hx : l[i]? = some x) (hz : x = clampI x) : CI l cur (i + 1) := by
  refine ⟨h.1, fun j x' hx' => ?_⟩
  rw [h.2 j x' hx']
  by_cases e : j = i
  · subst e
    rw [hx] at hx'
    injection hx' with hx'
    subst hx'
    rw [if_neg (Nat.lt_irrefl _), if_pos (Nat.lt_succ_self _), ← hz]
  · by_cases hj : j < i
    · rw [if_pos hj, if_pos (by omega)]
    · rw [if_neg hj, if_neg (by omega)]
theorem CI.done {l cur : List Int} (hl : l.length = 64) (h : CI l cur 64) : cur = clampF l := by
  apply List.ext_getElem?
  intro j
  by_cases hj : j < 64
  · obtain ⟨x, hx⟩ := va_len l hl j hj
    rw [h.2 j x hx, if_pos hj]
    unfold clampF
    rw [List.getElem?_map, hx]; rfl
  · rw [List.getElem?_eq_none (by rw [h.1]; omega), List.getElem?_eq_none (by unfold clampF; rw [List.length_map]; omega)]

set_option maxRecDepth 100000 in
set_option maxHeartbeats 1600000 in
theorem made_any (w : World) (v : Value) (l : List (Nat × Int)) (h : LiesO w v l) :
    Calls Tryd.prog 21 #[v] w fun e w' => e = .returned (vw (clampF (madeF l))) ∧ Below w.heap.size w w' := by
  have X0 := Lib.hid ((Below.refl w.heap.size w).alloc (Nat.le_refl _) (.cells (va zs) 24))
  have N0 := Lib.hid (heap_alloc_new w (.cells (va zs) 24))
  have AZ := Lib.hid (alloc_va z24 w)
  have M := Lib.hid (Made_any _ v l (h.later X0.out))
  have ST := Lib.hid (fun W (l' : List Int) (h1 : l'.length = 64) (h : W.heap[w.heap.size]? = some (.cells (va zs) 24 (0, 0))) => store_va v24 W w.heap.size (va zs) (by rw [va_size, zs_len]) l' h1 h)
  have HM := madeF_len l
  obtain ⟨ao, cap, rfl⟩ := h.shape
  generalize madeF l = m at *
  generalize hW1 : w.alloc (.cells (va zs) 24) = W1 at *
  rw [show vw m = .agg (va m) from rfl] at M
  clear hW1 h
  go_enter Tryd.func21, Tryd.ntmps21
  go_wp2_with (refine wpList_alloc_arr rfl 24 rfl _ _ AZ.out ?_)
  refine M.out.mono ?_
  rintro e w1 ⟨rfl, hb1⟩
  have AX := Lib.hid (alloc_va z24 w1)
  have SX := Lib.hid (store_va v24 (w1.alloc (.cells (va zs) 24)) w1.heap.size (va zs) (by rw [va_size, zs_len]) m HM (heap_alloc_new w1 _))
  rw [World.setRow_alloc_new] at SX
  have hsz1 : w.heap.size < w1.heap.size := by
    have h1 := hb1.size
    have h2 := (Array.getElem?_eq_some_iff.1 N0.out).1
    omega
  have BX := (Below.refl w1.heap.size w1).alloc (Nat.le_refl _) (.cells (va m) 24)
  have N1 := (hb1.block _ (Array.getElem?_eq_some_iff.1 N0.out).1).trans N0.out
  have Q0 := Lib.hid ((BX.block _ hsz1).trans N1)
  have Q1 := Lib.hid (heap_alloc_new w1 (.cells (va m) 24))
  have QB := Lib.hid ((X0.out.trans (hb1.mono X0.out.size)).trans (BX.mono (Nat.le_of_lt hsz1)))
  have LD := Lib.hid (fun W (l' : List Int) (h1 : l'.length = 64) (h : W.heap[w1.heap.size]? = some (.cells (va l') 24 (0, 0))) => load_va v24 W w1.heap.size l' h1 h)
  obtain ⟨g, hg⟩ : ∃ g, w1.heap.size = g := ⟨_, rfl⟩
  rw [hg] at AX SX hsz1 Q1 LD
  have HM2 := Lib.hid HM
  obtain ⟨WX, hWX⟩ : ∃ WX, w1.alloc (.cells (va m) 24) = WX := ⟨_, rfl⟩
  rw [hWX] at SX Q0 Q1 QB
  clear hb1 BX N1 hWX hg HM
  go_wp2_with (first | refine wpList_alloc_arr rfl 24 rfl _ _ AX.out ?_ | refine wpList_store_arr rfl (.tmp 3) (.tmp 6) 24 rfl _ _ rfl rfl _ SX.out ?_)
  go_loopw [4] (fun iv wr => ∃ (i : Nat) (cur : List Int), iv = .int .i64 i ∧ i ≤ 64 ∧ Hid (CI m cur i ∧ wr.heap[w.heap.size]? = some (.cells (va zs) 24 (0, 0)) ∧ wr.heap[g]? = some (.cells (va cur) 24 (0, 0)) ∧ Below w.heap.size w wr)) (fun iv _ => 64 - (intOf iv).toNat)
  case atStart => exact ⟨0, m, rfl, Nat.zero_le _, Lib.hid ⟨CI.start HM2.out, Q0.out, Q1.out, QB.out⟩⟩
  case round =>
    obtain ⟨i, cur, rfl, hi, hI⟩ := hrel
    by_cases hlt : i < 64
    · obtain ⟨x, hx⟩ := va_len m HM2.out i hlt
      have hc : cur[i]? = some x := by rw [hI.out.1.2 i x hx, if_neg (Nat.lt_irrefl _)]
      have g0 := cell_va hI.out.2.2.1 hc
      have f := frozen_of_row _ _ i _ _ hI.out.2.2.1
      have HS := Lib.hid (fun z hz => hI.out.1.step hx (z := z) hz)
      have HT := Lib.hid (fun hz => hI.out.1.stay hx hz)
      have R1 := Lib.hid (set_va hI.out.2.2.1 i 7)
      have R2 := Lib.hid (show (wr.setCell ⟨g, i, none⟩ (.int .i64 7)).heap[w.heap.size]? = some (.cells (va zs) 24 (0, 0)) from (Below.heap_setCell _ _ _ _ (by show w.heap.size ≠ g; omega)).trans hI.out.2.1)
      have BY := Lib.hid (hI.out.2.2.2.setCell (p := ⟨g, i, none⟩) (by show w.heap.size ≤ g; omega) (.int .i64 7))
      clear hx hc
      by_cases h1 : x < 0
      · have HZ := Lib.hid (HS.out 7 (by unfold clampI; rw [if_pos (.inl h1)]))
        go_wp2
        go_roundw
        case rel => exact ⟨i + 1, cur.set i 7, by go_num, by omega, Lib.hid ⟨HZ.out, R2.out, R1.out, BY.out⟩⟩
        case measure => simp [intOf]; omega
      · by_cases h2 : 4294967296 < x
        · have HZ := Lib.hid (HS.out 7 (by unfold clampI; rw [if_pos (.inr h2)]))
          go_wp2
          go_roundw
          case rel => exact ⟨i + 1, cur.set i 7, by go_num, by omega, Lib.hid ⟨HZ.out, R2.out, R1.out, BY.out⟩⟩
          case measure => simp [intOf]; omega
        · have HZ := Lib.hid (HT.out (by unfold clampI; rw [if_neg (fun h => h.elim h1 h2)]))
          go_wp2
          go_roundw
          case rel => exact ⟨i + 1, cur, by go_num, by omega, Lib.hid ⟨HZ.out, hI.out.2.1, hI.out.2.2.1, hI.out.2.2.2⟩⟩
          case measure => simp [intOf]; omega
    · have hi64 : i = 64 := by omega
      subst hi64
      have HE := Lib.hid (hI.out.1.done HM2.out)
      go_wp2_with (first | refine wpList_load_arr rfl (.tmp 3) 24 rfl _ _ rfl (LD.out _ _ hI.out.1.1 hI.out.2.2.1) ?_ | refine wpList_store_arr rfl (.tmp 2) (.tmp 23) 24 rfl _ _ rfl rfl _ (ST.out _ _ hI.out.1.1 hI.out.2.1) ?_)
      refine bodyPost_ret (ret_va (b := w.heap.size) rfl v24 hI.out.1.1 rfl (setRow_heap _ _ _ _ _ _ hI.out.2.1)) rfl ⟨by rw [HE.out], below_setRow hI.out.2.2.2 (Nat.le_refl _) _⟩
end Go.Proofs.YtiljmkglmanddaaDoor
