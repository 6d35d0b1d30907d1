/- Join of the program. -/
import Derived.Test.YtiljmkglmanddaaDoorVH
set_option linter.unusedVariables false
namespace Go.Proofs.YtiljmkglmanddaaDoor
open Go.RowKit

theorem Tryd.u60 : Tryd.prog.underlying 60 = some (.slice 24) := by kernel_rfl
theorem va_list (l : List Int) : va l = (l.map (Value.int .i64)).toArray := rfl
/-- Vectors that a slice holds. -/
def VecsAt (w : World) (v : Value) (Ls : List (List Int)) : Prop := ∃ k o cap, v = .slice (some ⟨k, o, none⟩) Ls.length cap ∧ k < w.heap.size ∧
  ∀ (j : Nat) l, Ls[j]? = some l → l.length = 64 ∧ w.rangeAt k (o + j * 64) (l.map (Value.int .i64))
theorem load_mid {W : World} {k o : Nat} {l : List Int} (hl : l.length = 64) (h : W.rangeAt k o (l.map (Value.int .i64))) :
    (Instr.loadAt 24 (.pointer (some ⟨k, o, none⟩))).run Tryd.prog W = .ok (.agg (va l)) W := by
  obtain ⟨⟨t, ht⟩, hs⟩ := v24
  exact run_loadAt_mid W k o 24 (l.map (Value.int .i64)) (.array 64 t) h ht rfl (by rw [hs, List.length_map, hl])
theorem range_later {w w' : World} {k o : Nat} {cs : List Value} (hk : k < w.heap.size) (h : w.rangeAt k o cs) (hb : Below w.heap.size w w') : w'.rangeAt k o cs := fun j v hv => (hb.cell (p := ⟨k, o + j, none⟩) hk).trans (h j v hv)
def KI (a b cur : List Int) (i : Nat) : Prop := cur.length = 64 ∧ ∀ (j : Nat) x y, a[j]? = some x → b[j]? = some y → cur[j]? = some (if j < i then max x y else x)
theorem KI.start {a : List Int} (b : List Int) (ha : a.length = 64) : KI a b a 0 := ⟨ha, fun j x y hx hy => by rw [if_neg (Nat.not_lt_zero _)]; exact hx⟩
theorem KI.step {a b cur : List Int} {i : Nat} (h : KI a b cur i) {x y : Int} (hx : a[i]? = some x) (hy : b[i]? = some y) : KI a b (cur.set i (max x y)) (i + 1) := by
  have hi : i < cur.length := (List.getElem?_eq_some_iff.1 (h.2 i x y hx hy)).1
  refine ⟨by rw [List.length_set]; exact h.1, fun j x' y' hx' hy' => ?_⟩
  rw [List.getElem?_set]
  by_cases e : i = j
  · subst e
    rw [if_pos rfl, if_pos hi, if_pos (by omega)]
    rw [hx] at hx'; rw [hy] at hy'
    injection hx' with hx'; injection hy' with hy'
    rw [hx', hy']
  · rw [if_neg e, h.2 j x' y' hx' hy']
    by_cases hj : j < i
    · rw [if_pos hj, if_pos (by omega)]
    · rw [if_neg hj, if_neg (by omega)]
theorem KI.done {a b cur : List Int} (ha : a.length = 64) (hb : b.length = 64) (h : KI a b cur 64) : cur = jF a b := by
  apply List.ext_getElem?
  intro j
  by_cases hj : j < 64
  · obtain ⟨x, hx⟩ := va_len a ha j hj
    obtain ⟨y, hy⟩ := va_len b hb j hj
    rw [h.2 j x y hx hy, if_pos hj]
    unfold jF
    rw [List.getElem?_zipWith, hx, hy]
  · rw [List.getElem?_eq_none (by rw [h.1]; omega), List.getElem?_eq_none (by rw [jF_len ha hb]; omega)]
theorem joinF_snoc (l : List (List Int)) (x : List Int) : joinF (l ++ [x]) = jF (joinF l) x := by unfold joinF; rw [List.foldl_append]; rfl
theorem joinF_len : ∀ (l : List (List Int)) (acc : List Int), acc.length = 64 → (∀ x ∈ l, x.length = 64) → (l.foldl jF acc).length = 64
  | [], acc, h, _ => h
  | x :: r, acc, h, hx => joinF_len r _ (jF_len h (hx x (List.mem_cons_self ..))) (fun y hy => hx y (List.mem_cons_of_mem _ hy))

set_option maxRecDepth 100000 in
set_option maxHeartbeats 3200000 in
theorem join_any (w : World) (v : Value) (Ls : List (List Int)) (h : VecsAt w v Ls) (hn : Ls.length ≤ 1000) :
    Calls Tryd.prog 8 #[v] w fun e w' => e = .returned (vw (joinF Ls)) ∧ Below w.heap.size w w' := by
  obtain ⟨k, o, cap, rfl, hk, hLs⟩ := h
  have HL := Lib.hid hLs
  have HK := Lib.hid hk
  have X := Lib.hid (boxes w (va zs) (va zs) 24)
  have AZ := Lib.hid (alloc_va z24 w)
  have AY := Lib.hid (alloc_va z24 (w.alloc (.cells (va zs) 24)))
  rw [World.size_alloc] at AY
  have LD := Lib.hid (fun W (l' : List Int) (h1 : l'.length = 64) (h : W.heap[w.heap.size + 1]? = some (.cells (va l') 24 (0, 0))) => load_va v24 W (w.heap.size + 1) l' h1 h)
  have ST := Lib.hid (fun W (l' : List Int) (h1 : l'.length = 64) (h : W.heap[w.heap.size]? = some (.cells (va zs) 24 (0, 0))) => store_va v24 W w.heap.size (va zs) (by rw [va_size, zs_len]) l' h1 h)
  generalize hW1 : w.alloc (.cells (va zs) 24) = W1 at *
  generalize hW : W1.alloc (.cells (va zs) 24) = W at *
  clear hW hW1 hk hLs
  go_enter Tryd.func8, Tryd.ntmps8
  go_wp2_with (first | refine wpList_alloc_arr rfl 24 rfl _ _ AZ.out ?_ | refine wpList_alloc_arr rfl 24 rfl _ _ AY.out ?_)
  go_loopw [10] (fun iv wr => ∃ (i : Nat) (acc : List Int), iv = .int .i64 i ∧ i ≤ Ls.length ∧ Hid (acc = joinF (Ls.take i) ∧ acc.length = 64 ∧ wr.heap[w.heap.size]? = some (.cells (va zs) 24 (0, 0)) ∧ wr.heap[w.heap.size + 1]? = some (.cells (va acc) 24 (0, 0)) ∧ Below w.heap.size w wr)) (fun iv _ => Ls.length - (intOf iv).toNat)
  case atStart => exact ⟨0, zs, rfl, Nat.zero_le _, Lib.hid ⟨rfl, zs_len, X.out.2.1, X.out.2.2, X.out.1⟩⟩
  case round =>
    obtain ⟨i, acc, rfl, hi, hI⟩ := hrel
    by_cases hlt : i < Ls.length
    · obtain ⟨b, hb⟩ : ∃ b, Ls[i]? = some b := ⟨_, List.getElem?_eq_getElem hlt⟩
      obtain ⟨hbl, hbr⟩ := HL.out i b hb
      have LM := Lib.hid (load_mid hbl (range_later HK.out hbr hI.out.2.2.2.2))
      have AX := Lib.hid (alloc_va z24 wr)
      have SX := Lib.hid (store_va v24 (wr.alloc (.cells (va zs) 24)) wr.heap.size (va zs) (by rw [va_size, zs_len]) b hbl (heap_alloc_new wr _))
      rw [World.setRow_alloc_new] at SX
      have LX := Lib.hid (load_va v24 (wr.alloc (.cells (va b) 24)) wr.heap.size b hbl (heap_alloc_new wr _))
      have BX := (Below.refl wr.heap.size wr).alloc (Nat.le_refl _) (.cells (va b) 24)
      have Q0 := Lib.hid ((BX.block _ (Array.getElem?_eq_some_iff.1 hI.out.2.2.1).1).trans hI.out.2.2.1)
      have Q1 := Lib.hid ((BX.block _ (Array.getElem?_eq_some_iff.1 hI.out.2.2.2.1).1).trans hI.out.2.2.2.1)
      have QB := Lib.hid (hI.out.2.2.2.2.trans (BX.mono hI.out.2.2.2.2.size))
      have G := Lib.hid (va_get b)
      have hsz : (va b).size = 64 := by rw [va_size, hbl]
      have HN := Lib.hid (show joinF (Ls.take (i + 1)) = jF acc b by rw [take_snoc' Ls i b hb, joinF_snoc, ← hI.out.1])
      have HBL := Lib.hid hbl
      have HAC := Lib.hid hI.out.2.1
      clear hb hbl hbr BX hI
      generalize va b = B at *
      generalize hX : wr.alloc (.cells B 24) = WX at *
      clear hX
      go_wp2_with (first | refine wpList_alloc_arr rfl 24 rfl _ _ AX.out ?_ | refine wpList_load_arr rfl (.tmp 12) 24 rfl _ _ rfl LM.out ?_ | refine wpList_load_arr rfl (.tmp 5) 24 rfl _ _ rfl LX.out ?_ | refine wpList_store_arr rfl (.tmp 5) (.tmp 13) 24 rfl _ _ rfl rfl _ SX.out ?_)
      go_loopw [15] (fun jv wq => ∃ (j : Nat) (cur : List Int), jv = .int .i64 j ∧ j ≤ 64 ∧ Hid (KI acc b cur j ∧ wq.heap[w.heap.size]? = some (.cells (va zs) 24 (0, 0)) ∧ wq.heap[w.heap.size + 1]? = some (.cells (va cur) 24 (0, 0)) ∧ Below w.heap.size w wq)) (fun jv _ => 64 - (intOf jv).toNat)
      case atStart => exact ⟨0, acc, rfl, Nat.zero_le _, Lib.hid ⟨KI.start b HAC.out, Q0.out, Q1.out, QB.out⟩⟩
      case round =>
        obtain ⟨j, cur, rfl, hj, hJ⟩ := hrel
        by_cases hjlt : j < 64
        · obtain ⟨y, hy⟩ := va_len b HBL.out j hjlt
          obtain ⟨x, hx⟩ := va_len acc HAC.out j hjlt
          have IX := fun W => index_va W B hsz j hjlt y (G.out j y hy)
          have hc : cur[j]? = some x := by rw [hJ.out.1.2 j x y hx hy, if_neg (Nat.lt_irrefl _)]
          have g := cell_va hJ.out.2.2.1 hc
          have f := frozen_of_row _ _ j _ _ hJ.out.2.2.1
          have HS := Lib.hid (hJ.out.1.step hx hy)
          have R1 := Lib.hid (set_va hJ.out.2.2.1 j (max x y))
          have R2 := Lib.hid (show (wr.setCell ⟨w.heap.size + 1, j, none⟩ (.int .i64 (max x y))).heap[w.heap.size]? = some (.cells (va zs) 24 (0, 0)) from (Below.heap_setCell _ _ _ _ (by show w.heap.size ≠ w.heap.size + 1; omega)).trans hJ.out.2.1)
          have BY := Lib.hid (hJ.out.2.2.2.setCell (p := ⟨w.heap.size + 1, j, none⟩) (by show w.heap.size ≤ w.heap.size + 1; omega) (.int .i64 (max x y)))
          clear hx hy hc
          go_wp2
          go_roundw
          case rel => exact ⟨j + 1, cur.set j (max x y), by go_num, by omega, Lib.hid ⟨HS.out, R2.out, R1.out, BY.out⟩⟩
          case measure => simp [intOf]; omega
        · have hj64 : j = 64 := by omega
          subst hj64
          have HE := Lib.hid (hJ.out.1.done HAC.out HBL.out)
          go_wp2
          go_roundw
          case rel => exact ⟨i + 1, cur, by go_num, by omega, Lib.hid ⟨by rw [HE.out, HN.out], hJ.out.1.1, hJ.out.2.1, hJ.out.2.2.1, hJ.out.2.2.2⟩⟩
          case measure => simp [intOf]; omega
    · have HE : Hid (acc = joinF Ls) := Lib.hid (by rw [hI.out.1, List.take_of_length_le (by omega)])
      go_wp2_with (first | refine wpList_load_arr rfl (.tmp 3) 24 rfl _ _ rfl (LD.out _ _ hI.out.2.1 hI.out.2.2.2.1) ?_ | refine wpList_store_arr rfl (.tmp 2) (.tmp 28) 24 rfl _ _ rfl rfl _ (ST.out _ _ hI.out.2.1 hI.out.2.2.1) ?_)
      refine bodyPost_ret (ret_va (b := w.heap.size) rfl v24 hI.out.2.1 rfl (setRow_heap _ _ _ _ _ _ hI.out.2.2.1)) rfl ⟨by rw [HE.out], below_setRow hI.out.2.2.2.2 (Nat.le_refl _) _⟩
end Go.Proofs.YtiljmkglmanddaaDoor
