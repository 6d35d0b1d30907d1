/- The reference's Join. -/
import Derived.Test.YtiljmkglmanddaaDoorVG
set_option linter.unusedVariables false
namespace Go.Proofs.YtiljmkglmanddaaDoor
open Go.RowKit

def jF (acc v : List Int) : List Int := List.zipWith max acc v
def joinF (l : List (List Int)) : List Int := l.foldl jF zs
theorem jF_len {a b : List Int} (ha : a.length = 64) (hb : b.length = 64) : (jF a b).length = 64 := by unfold jF; rw [List.length_zipWith, ha, hb]; rfl
theorem zs_get (j : Nat) (hj : j < 64) : zs[j]? = some 0 := by unfold zs; rw [List.getElem?_replicate, if_pos hj]
theorem zs_lt {j : Nat} {x : Int} (h : zs[j]? = some x) : x = 0 := by
  unfold zs at h
  rw [List.getElem?_replicate] at h
  split at h
  · injection h with h; exact h.symm
  · cases h
def JI (a b cur : List Int) (i : Nat) : Prop := cur.length = 64 ∧ ∀ (j : Nat) x y, a[j]? = some x → b[j]? = some y → cur[j]? = some (if j < i then max (max 0 x) y else 0)
theorem JI.start {a : List Int} (b : List Int) (ha : a.length = 64) : JI a b zs 0 := ⟨zs_len, fun j x y hx hy => by rw [if_neg (Nat.not_lt_zero _)]; exact zs_get j (some_lt ha hx)⟩
theorem JI.step {a b cur : List Int} {i : Nat} (h : JI a b cur i) {x y z : Int} (hx : a[i]? = some x) (hy : b[i]? = some y) (hz : z = max (max 0 x) y) : JI a b (cur.set i z) (i + 1) := by
  have hi : i < cur.length := (List.getElem?_eq_some_iff.1 (h.2 i x y hx hy)).1
  refine ⟨by rw [List.length_set]; exact h.1, fun j x' y' hx' hy' => ?_⟩
  rw [List.getElem?_set]
  by_cases e : i = j
  · subst e
    rw [if_pos rfl, if_pos hi, if_pos (by omega)]
    rw [hx] at hx'; rw [hy] at hy'
    injection hx' with hx'; injection hy' with hy'
    rw [hz, hx', hy']
  · rw [if_neg e, h.2 j x' y' hx' hy']
    by_cases hj : j < i
    · rw [if_pos hj, if_pos (by omega)]
    · rw [if_neg hj, if_neg (by omega)]
theorem JI.stay {a b cur : List Int} {i : Nat} (h : JI a b cur i) {x y : Int} (hx : a[i]? = some x) (hy : b[i]? = some y) (hz : 0 = max (max 0 x) y) : JI a b cur (i + 1) := by
  have hc := h.2 i x y hx hy
  rw [if_neg (Nat.lt_irrefl _)] at hc
  have := h.step hx hy hz
  rwa [show cur.set i 0 = cur from by
    apply List.ext_getElem?
    intro j
    rw [List.getElem?_set]
    by_cases e : i = j
    · subst e; rw [if_pos rfl, if_pos (List.getElem?_eq_some_iff.1 hc).1, hc]
    · rw [if_neg e]] at this
theorem JI.done {a b cur : List Int} (ha : a.length = 64) (hb : b.length = 64) (h : JI a b cur 64) : cur = joinF [a, b] := by
  apply List.ext_getElem?
  intro j
  by_cases hj : j < 64
  · obtain ⟨x, hx⟩ := va_len a ha j hj
    obtain ⟨y, hy⟩ := va_len b hb j hj
    rw [h.2 j x y hx hy, if_pos hj]
    show _ = (jF (jF zs a) b)[j]?
    unfold jF
    rw [List.getElem?_zipWith, List.getElem?_zipWith, zs_get j hj, hx, hy]
  · rw [List.getElem?_eq_none (by rw [h.1]; omega), List.getElem?_eq_none (by show (jF (jF zs a) b).length ≤ j; rw [jF_len (jF_len zs_len ha) hb]; omega)]

/-- One cell of the fourth box turned. -/
theorem four_step {w W : World} {A B C c : List Int} {ty : TypeId} (h0 : W.heap[w.heap.size]? = some (.cells (va A) ty (0, 0))) (h1 : W.heap[w.heap.size + 1]? = some (.cells (va B) ty (0, 0))) (h2 : W.heap[w.heap.size + 1 + 1]? = some (.cells (va C) ty (0, 0))) (h3 : W.heap[w.heap.size + 1 + 1 + 1]? = some (.cells (va c) ty (0, 0))) (hb : Below w.heap.size w W) (i : Nat) (z : Int) :
    (W.setCell ⟨w.heap.size + 1 + 1 + 1, i, none⟩ (.int .i64 z)).heap[w.heap.size]? = some (.cells (va A) ty (0, 0)) ∧ (W.setCell ⟨w.heap.size + 1 + 1 + 1, i, none⟩ (.int .i64 z)).heap[w.heap.size + 1]? = some (.cells (va B) ty (0, 0)) ∧ (W.setCell ⟨w.heap.size + 1 + 1 + 1, i, none⟩ (.int .i64 z)).heap[w.heap.size + 1 + 1]? = some (.cells (va C) ty (0, 0)) ∧ (W.setCell ⟨w.heap.size + 1 + 1 + 1, i, none⟩ (.int .i64 z)).heap[w.heap.size + 1 + 1 + 1]? = some (.cells (va (c.set i z)) ty (0, 0)) ∧ Below w.heap.size w (W.setCell ⟨w.heap.size + 1 + 1 + 1, i, none⟩ (.int .i64 z)) :=
  ⟨(Below.heap_setCell _ _ _ _ (by show w.heap.size ≠ w.heap.size + 1 + 1 + 1; omega)).trans h0, (Below.heap_setCell _ _ _ _ (by show w.heap.size + 1 ≠ w.heap.size + 1 + 1 + 1; omega)).trans h1, (Below.heap_setCell _ _ _ _ (by show w.heap.size + 1 + 1 ≠ w.heap.size + 1 + 1 + 1; omega)).trans h2, set_va h3 i z, hb.setCell (p := ⟨w.heap.size + 1 + 1 + 1, i, none⟩) (by show w.heap.size ≤ w.heap.size + 1 + 1 + 1; omega) _⟩

set_option maxRecDepth 100000 in
set_option maxHeartbeats 3200000 in
theorem rjoin_any (w : World) (a b : List Int) (ha : a.length = 64) (hb : b.length = 64) :
    Calls Tryd.prog 9 #[vw a, vw b] w fun e w' => e = .returned (vw (joinF [a, b])) ∧ Below w.heap.size w w' := by
  have X := Lib.hid (boxes4 w (va a) (va b) (va zs) (va zs) 23)
  have AZ := Lib.hid (alloc_va z23 ((w.alloc (.cells (va a) 23)).alloc (.cells (va b) 23)))
  have AY := Lib.hid (alloc_va z23 (((w.alloc (.cells (va a) 23)).alloc (.cells (va b) 23)).alloc (.cells (va zs) 23)))
  rw [World.size_alloc, World.size_alloc] at AZ
  rw [World.size_alloc, World.size_alloc, World.size_alloc] at AY
  have HA := Lib.hid ha
  have HB := Lib.hid hb
  have LD := Lib.hid (fun W (l' : List Int) (h1 : l'.length = 64) (h : W.heap[w.heap.size + 1 + 1 + 1]? = some (.cells (va l') 23 (0, 0))) => load_va v23 W (w.heap.size + 1 + 1 + 1) l' h1 h)
  have ST := Lib.hid (fun W (l' : List Int) (h1 : l'.length = 64) (h : W.heap[w.heap.size + 1 + 1]? = some (.cells (va zs) 23 (0, 0))) => store_va v23 W (w.heap.size + 1 + 1) (va zs) (by rw [va_size, zs_len]) l' h1 h)
  have HU := Lib.hid (show vw a = .agg (va a) from rfl)
  have HV := Lib.hid (show vw b = .agg (va b) from rfl)
  generalize hW3 : ((w.alloc (.cells (va a) 23)).alloc (.cells (va b) 23)).alloc (.cells (va zs) 23) = W3 at *
  generalize hW : W3.alloc (.cells (va zs) 23) = W at *
  clear hW hW3 ha hb
  rw [HU.out, HV.out]
  go_enter Tryd.func9, Tryd.ntmps9
  go_wp2_with (first | refine wpList_alloc_arr rfl 23 rfl _ _ AZ.out ?_ | refine wpList_alloc_arr rfl 23 rfl _ _ AY.out ?_)
  go_loopw [6] (fun iv wr => ∃ (i : Nat) (cur : List Int), iv = .int .i64 i ∧ i ≤ 64 ∧ Hid (JI a b cur i ∧ wr.heap[w.heap.size]? = some (.cells (va a) 23 (0, 0)) ∧ wr.heap[w.heap.size + 1]? = some (.cells (va b) 23 (0, 0)) ∧ wr.heap[w.heap.size + 1 + 1]? = some (.cells (va zs) 23 (0, 0)) ∧ wr.heap[w.heap.size + 1 + 1 + 1]? = some (.cells (va cur) 23 (0, 0)) ∧ Below w.heap.size w wr)) (fun iv _ => 64 - (intOf iv).toNat)
  case atStart => exact ⟨0, zs, rfl, Nat.zero_le _, Lib.hid ⟨JI.start b HA.out, X.out.2.1, X.out.2.2.1, X.out.2.2.2.1, X.out.2.2.2.2, X.out.1⟩⟩
  case round =>
    obtain ⟨i, cur, rfl, hi, hI⟩ := hrel
    by_cases hlt : i < 64
    · obtain ⟨y, hy⟩ := va_len b HB.out i hlt
      obtain ⟨x, hx⟩ := va_len a HA.out i hlt
      have HN1 := Lib.hid (fun z (hz : z = max (max 0 x) y) => hI.out.1.step hx hy hz)
      have HN2 := Lib.hid (fun hz => hI.out.1.stay hx hy hz)
      have hc : cur[i]? = some 0 := by rw [hI.out.1.2 i x y hx hy, if_neg (Nat.lt_irrefl _)]
      have g0 := cell_va hI.out.2.1 hx
      have HY := Lib.hid hy
      by_cases hxp : 0 < x
      · have g := cell_va hI.out.2.2.2.2.1 hc
        have f := frozen_of_row _ _ i _ _ hI.out.2.2.2.2.1
        have S := Lib.hid (four_step hI.out.2.1 hI.out.2.2.1 hI.out.2.2.2.1 hI.out.2.2.2.2.1 hI.out.2.2.2.2.2 i x)
        have hci : i < cur.length := (List.getElem?_eq_some_iff.1 hc).1
        have HC2 := Lib.hid (show (cur.set i x)[i]? = some x by rw [List.getElem?_set, if_pos rfl, if_pos hci])
        have HSS := Lib.hid (fun z => show (cur.set i x).set i z = cur.set i z from List.set_set ..)
        clear hx hy hc
        go_upto_region 7 with (fail)
        clear g g0 f
        obtain ⟨W1, hW1⟩ : ∃ W1, wr.setCell ⟨w.heap.size + 1 + 1 + 1, i, none⟩ (.int .i64 x) = W1 := ⟨_, rfl⟩
        rw [hW1] at S ⊢
        clear hW1
        have g1 := cell_va S.out.2.1 HY.out
        have g2 := cell_va S.out.2.2.2.1 HC2.out
        have f2 := frozen_of_row _ _ i _ _ S.out.2.2.2.1
        by_cases hyo : x < y
        · go_wp2
          go_quiet (fail)
          have S2 := Lib.hid (four_step (W := W1.drewN nq) S.out.1 S.out.2.1 S.out.2.2.1 S.out.2.2.2.1 (S.out.2.2.2.2.trans ((below_drewN W1 nq).mono S.out.2.2.2.2.size)) i y)
          rw [HSS.out] at S2
          have HN := Lib.hid (HN1.out y (by omega))
          go_wp2
          go_roundw
          case rel => exact ⟨i + 1, cur.set i y, by go_num, by omega, Lib.hid ⟨HN.out, S2.out.1, S2.out.2.1, S2.out.2.2.1, S2.out.2.2.2.1, S2.out.2.2.2.2⟩⟩
          case measure => simp [intOf]; omega
        · go_wp2
          go_quiet (fail)
          have BX := Lib.hid (S.out.2.2.2.2.trans ((below_drewN W1 nq).mono S.out.2.2.2.2.size))
          have HN := Lib.hid (HN1.out x (by omega))
          go_wp2
          go_roundw
          case rel => exact ⟨i + 1, cur.set i x, by go_num, by omega, Lib.hid ⟨HN.out, S.out.1, S.out.2.1, S.out.2.2.1, S.out.2.2.2.1, BX.out⟩⟩
          case measure => simp [intOf]; omega
      · have HC0 := Lib.hid hc
        have S := Lib.hid (And.intro hI.out.2.1 (And.intro hI.out.2.2.1 (And.intro hI.out.2.2.2.1 (And.intro hI.out.2.2.2.2.1 hI.out.2.2.2.2.2))))
        clear hx hy hc
        go_upto_region 7 with (fail)
        clear g0
        have g1 := cell_va S.out.2.1 HY.out
        have g2 := cell_va S.out.2.2.2.1 HC0.out
        have f2 := frozen_of_row _ _ i _ _ S.out.2.2.2.1
        by_cases hyo : (0 : Int) < y
        · go_wp2
          go_quiet (fail)
          have S2 := Lib.hid (four_step (W := wr.drewN nq) S.out.1 S.out.2.1 S.out.2.2.1 S.out.2.2.2.1 (S.out.2.2.2.2.trans ((below_drewN wr nq).mono S.out.2.2.2.2.size)) i y)
          skip
          have HN := Lib.hid (HN1.out y (by omega))
          go_wp2
          go_roundw
          case rel => exact ⟨i + 1, cur.set i y, by go_num, by omega, Lib.hid ⟨HN.out, S2.out.1, S2.out.2.1, S2.out.2.2.1, S2.out.2.2.2.1, S2.out.2.2.2.2⟩⟩
          case measure => simp [intOf]; omega
        · go_wp2
          go_quiet (fail)
          have BX := Lib.hid (S.out.2.2.2.2.trans ((below_drewN wr nq).mono S.out.2.2.2.2.size))
          have HN := Lib.hid (HN2.out (by omega))
          go_wp2
          go_roundw
          case rel => exact ⟨i + 1, cur, by go_num, by omega, Lib.hid ⟨HN.out, S.out.1, S.out.2.1, S.out.2.2.1, S.out.2.2.2.1, BX.out⟩⟩
          case measure => simp [intOf]; omega
    · have hi64 : i = 64 := by omega
      subst hi64
      have HE := Lib.hid (hI.out.1.done HA.out HB.out)
      go_wp2_with (first | refine wpList_load_arr rfl (.tmp 5) 23 rfl _ _ rfl (LD.out _ _ hI.out.1.1 hI.out.2.2.2.2.1) ?_ | refine wpList_store_arr rfl (.tmp 4) (.tmp 32) 23 rfl _ _ rfl rfl _ (ST.out _ _ hI.out.1.1 hI.out.2.2.2.1) ?_)
      refine bodyPost_ret (ret_va (b := w.heap.size + 1 + 1) rfl v23 hI.out.1.1 rfl (setRow_heap _ _ _ _ _ _ hI.out.2.2.2.1)) rfl ⟨by rw [HE.out], below_setRow hI.out.2.2.2.2.2 (by omega) _⟩
end Go.Proofs.YtiljmkglmanddaaDoor
