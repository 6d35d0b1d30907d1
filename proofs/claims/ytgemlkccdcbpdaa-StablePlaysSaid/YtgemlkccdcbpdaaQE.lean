/- The reference's Floor, Meet. Made by genqe.py. -/
import Derived.Test.YtgemlkccdcbpdaaQB
import Derived.Test.YtgemlkccdcbpdaaSK
set_option linter.unusedVariables false
namespace Go.Proofs.Ytgemlkccdcbpdaa
open Go.RowKit

theorem memF_at0 {ms : List Mb} {m : Mb} (h : ms[0]? = some m) : memF ms 0 = m := by
  cases ms with
  | nil => simp at h
  | cons k r =>
    simp at h
    subst h
    unfold memF
    rw [show isM (k :: r).length 0 = true from decide_eq_true ⟨Int.le_refl _, by rw [List.length_cons]; omega⟩, if_pos rfl]
    rfl
theorem take_one {ms : List Mb} {m : Mb} (h : ms[0]? = some m) : ms.take 1 = [m] := by
  rw [take_snoc' ms 0 m h]; rfl
set_option maxRecDepth 100000 in
set_option maxHeartbeats 3200000 in
theorem rfloor_any (w : World) (sf : Int) (q cap : Nat) (ms : List Mb) (h : RAt w q ms) (h0 : 0 < ms.length) :
    Calls Try.prog 15 #[rv sf q ms.length cap] w fun e w' => e = .returned (.int .i64 (floorF ms)) ∧ Below w.heap.size w w' := by
  have X := Lib.hid (vstep w (.cells #[.int .i64 sf, .slice (some ⟨q, 0, none⟩) ms.length cap] 29))
  have XB := Lib.hid (heap_alloc_new w (.cells #[.int .i64 sf, .slice (some ⟨q, 0, none⟩) ms.length cap] 29))
  have R1 := Lib.hid (h.step X.out)
  obtain ⟨m0, hm0⟩ : ∃ m, ms[0]? = some m := ⟨_, List.getElem?_eq_getElem h0⟩
  have HF := Lib.hid (show floorF ms = ms.foldl (fun a m => min a m.2) m0.2 by unfold floorF; rw [memF_at0 hm0])
  have HT := Lib.hid (show m0.2 = (ms.take 1).foldl (fun a m => min a m.2) m0.2 by rw [take_one hm0]; show m0.2 = min m0.2 m0.2; omega)
  have hlen := h.len
  have HM := Lib.hid h.m64
  obtain ⟨W, hW⟩ : ∃ y, w.alloc (.cells #[.int .i64 sf, .slice (some ⟨q, 0, none⟩) ms.length cap] 29) = y := ⟨_, rfl⟩
  rw [hW] at X XB R1
  have HW := Lib.hid hW
  obtain ⟨b0, hb0⟩ : ∃ b, w.heap.size = b := ⟨_, rfl⟩
  rw [hb0] at XB
  have HB := Lib.hid hb0
  have d01 : W.cell? ⟨b0, 1, none⟩ = some (.slice (some ⟨q, 0, none⟩) ms.length cap) := by rw [cell_of_row _ _ _ _ _ _ XB.out]; rfl
  have dT : W.cell? ⟨q, 64, none⟩ = some (.int .i64 m0.2) := by have := (range_parts (h.m64 0 m0 hm0) (R1.out.row 0 m0 hm0)).2; simpa using this
  unfold rv at *
  clear h hm0 hW
  have h0' : (0 : Int) < (ms.length : Int) := by omega
  go_enter Try.func15, Try.ntmps15
  go_upto_region 1 with (fail)
  rw [HW.out]
  go_wp2_with fail
  go_loopw [3, 4] (fun lv iv wr => ∃ (i : Nat) (x : Int), iv = .int .i64 i ∧ lv = .int .i64 x ∧ 1 ≤ i ∧ i ≤ ms.length ∧ Hid (x = (ms.take i).foldl (fun a m => min a m.2) m0.2) ∧ wr = W) (fun _ iv _ => ms.length - (intOf iv).toNat)
  case atStart => exact ⟨1, _, rfl, rfl, by omega, by omega, HT, rfl⟩
  case round =>
    obtain ⟨i, x, rfl, rfl, hi1, hi, hI, rfl⟩ := hrel
    clear dT h0'
    by_cases hlt : i < ms.length
    · obtain ⟨m, hm⟩ : ∃ m, ms[i]? = some m := ⟨_, List.getElem?_eq_getElem hlt⟩
      have dT := (range_parts (HM.out i m hm) (R1.out.row i m hm)).2
      have HN := Lib.hid (show min x m.2 = (ms.take (i + 1)).foldl (fun a m => min a m.2) m0.2 by rw [take_snoc' ms i m hm, List.foldl_append, ← hI.out]; rfl)
      clear hm
      by_cases hmx : m.2 < x
      · have HE := Lib.hid (show m.2 = (ms.take (i + 1)).foldl (fun a m => min a m.2) m0.2 by rw [← HN.out]; omega)
        go_wp2_with fail
        go_roundw
        case rel => exact ⟨i + 1, m.2, by go_num, rfl, by omega, by omega, HE, trivial⟩
        case measure => simp [intOf]; omega
      · have HE := Lib.hid (show x = (ms.take (i + 1)).foldl (fun a m => min a m.2) m0.2 by rw [← HN.out]; omega)
        go_wp2_with fail
        go_roundw
        case rel => exact ⟨i + 1, x, by go_num, rfl, by omega, by omega, HE, trivial⟩
        case measure => simp [intOf]; omega
    · have HE := Lib.hid (show x = floorF ms by rw [hI.out, HF.out, List.take_of_length_le (by omega)])
      go_wp2
      go_returns
      exact ⟨by rw [← HE.out]; rfl, by first | exact X.out | (rw [HB.out] at X; exact X.out)⟩

set_option maxRecDepth 100000 in
set_option maxHeartbeats 6400000 in
theorem rmeetm_any (w : World) (sf : Int) (q cap : Nat) (ms : List Mb) (h : RAt w q ms) (h0 : 0 < ms.length) :
    Calls Try.prog 18 #[rv sf q ms.length cap] w fun e w' => e = .returned (vw (meetAll ms)) ∧ Below w.heap.size w w' := by
  have X := Lib.hid (vstep w (.cells #[.int .i64 sf, .slice (some ⟨q, 0, none⟩) ms.length cap] 29))
  have XB := Lib.hid (heap_alloc_new w (.cells #[.int .i64 sf, .slice (some ⟨q, 0, none⟩) ms.length cap] 29))
  obtain ⟨W1, hW1⟩ : ∃ y, w.alloc (.cells #[.int .i64 sf, .slice (some ⟨q, 0, none⟩) ms.length cap] 29) = y := ⟨_, rfl⟩
  rw [hW1] at X XB
  obtain ⟨W2, e2, b2, v2, s2⟩ := boxed z33 W1
  have B2 := Lib.hid (X.out.trans (b2.mono X.out.size))
  have R2 := Lib.hid (h.step B2.out)
  obtain ⟨m0, hm0⟩ : ∃ m, ms[0]? = some m := ⟨_, List.getElem?_eq_getElem h0⟩
  have hk0 := h.m64 0 m0 hm0
  have HF := Lib.hid (show meetAll ms = ms.foldl (fun a m => meetF a m.1) m0.1 by unfold meetAll; rw [memF_at0 hm0])
  have HT := Lib.hid (show m0.1 = (ms.take 1).foldl (fun a m => meetF a m.1) m0.1 by rw [take_one hm0]; show m0.1 = meetF m0.1 m0.1; rw [meet_self])
  have HML := Lib.hid (meetAll_len h.m64)
  have hlen := h.len
  have HM := Lib.hid h.m64
  have LK := Lib.hid (show (Instr.loadAt 33 (.pointer (some ⟨q, 0, none⟩))).run Try.prog W2 = .ok (.agg (va m0.1)) W2 from load_m53 hk0 (by have := (range_parts hk0 (R2.out.row 0 m0 hm0)).1; rwa [Nat.zero_mul] at this))
  obtain ⟨W3, W4, e3, e4, b4, v4⟩ := one_box z33 v33 W2 m0.1 hk0
  have B4 := Lib.hid (B2.out.trans (b4.mono B2.out.size))
  obtain ⟨b0, hb0⟩ : ∃ b, w.heap.size = b := ⟨_, rfl⟩
  obtain ⟨b1, hb1⟩ : ∃ b, W1.heap.size = b := ⟨_, rfl⟩
  obtain ⟨b2', hb2⟩ : ∃ b, W2.heap.size = b := ⟨_, rfl⟩
  have hs1 : W1.heap.size = w.heap.size + 1 := by rw [← hW1]; simp
  have HS := Lib.hid (show b0 < b1 ∧ b1 < b2' ∧ w.heap.size = b0 ∧ q < b0 from ⟨by omega, by omega, hb0, by have := h.qlt; omega⟩)
  rw [hb0] at XB
  rw [hb1] at e2 v2
  rw [hb2] at e3 e4 v4
  have E2 := Lib.hid e2
  have E3 := Lib.hid e3
  have E4 := Lib.hid e4
  have HW1 := Lib.hid hW1
  have d01 : W2.cell? ⟨b0, 1, none⟩ = some (.slice (some ⟨q, 0, none⟩) ms.length cap) := by
    have n := (b2.block _ (lt_of_block XB.out)).trans XB.out
    rw [cell_of_row _ _ _ _ _ _ n]; rfl
  have N0 := Lib.hid ((b4.block _ (by have := (b2.block _ (lt_of_block XB.out)).trans XB.out; exact lt_of_block this)).trans ((b2.block _ (lt_of_block XB.out)).trans XB.out))
  have N1 := Lib.hid (v2.step b4)
  have N2 := Lib.hid v4
  have R4 := Lib.hid (R2.out.step b4)
  have hz := zs_len
  have SZ := Lib.hid (fun W (l : List Int) (hl : l.length = 64) (h : VAt 33 W b1 zs) => store_va v33 W b1 (va zs) (by rw [va_size, zs_len]) l hl h)
  have LV := Lib.hid (fun (W : World) (l : List Int) (hl : l.length = 64) (h : VAt 33 W b2' l) => load_va v33 W b2' l hl h)
  have HK0 := Lib.hid hk0
  unfold rv vw at *
  have h0' : (0 : Int) < (ms.length : Int) := by omega
  generalize zs = z at *
  clear h hm0 hW1 e2 e3 e4 b2 b4 v2 v4 s2 hb1 hb2 hs1 hk0 hz
  go_enter Try.func18, Try.ntmps18
  go_wp2_with (first | (rw [HW1.out]; refine wpList_alloc_arr rfl 33 rfl _ _ E2.out ?_) | refine wpList_load_arrG rfl (.tmp 8) 33 rfl (.pointer (some ⟨q, 0, none⟩)) (.agg (va m0.1)) rfl LK.out ?_ | refine wpList_alloc_arr rfl 33 rfl _ _ E3.out ?_ | refine wpList_store_arr rfl (.tmp 3) (.tmp 9) 33 rfl (.pointer (some ⟨b2', 0, none⟩)) (.agg (va m0.1)) rfl rfl _ E4.out ?_)
  clear d01 LK E2 E3 E4
  go_loopw [4] (fun iv wr => ∃ (i : Nat) (cur : List Int), iv = .int .i64 i ∧ 1 ≤ i ∧ i ≤ ms.length ∧ Hid (cur = (ms.take i).foldl (fun a m => meetF a m.1) m0.1 ∧ cur.length = 64 ∧ VAt 33 wr b2' cur ∧ wr.heap[b0]? = some (.cells #[.int .i64 sf, .slice (some ⟨q, 0, none⟩) ms.length cap] 29 (0, 0)) ∧ VAt 33 wr b1 z ∧ RAt wr q ms ∧ Below w.heap.size w wr)) (fun iv _ => ms.length - (intOf iv).toNat)
  case atStart => exact ⟨1, m0.1, rfl, by omega, by omega, Lib.hid ⟨HT.out, HK0.out, N2.out, N0.out, N1.out, R4.out, B4.out⟩⟩
  case round =>
    obtain ⟨i, cur, rfl, hi1, hi, hI⟩ := hrel
    clear N0 N1 N2 R4 B4 h0'
    have d01 : wr.cell? ⟨b0, 1, none⟩ = some (.slice (some ⟨q, 0, none⟩) ms.length cap) := by rw [cell_of_row _ _ _ _ _ _ hI.out.2.2.2.1]; rfl
    by_cases hlt : i < ms.length
    · obtain ⟨m, hm⟩ : ∃ m, ms[i]? = some m := ⟨_, List.getElem?_eq_getElem hlt⟩
      have hml := HM.out i m hm
      have MT := Lib.hid (fun W => rmeet_any W cur m.1 hI.out.2.1 hml)
      have HN := Lib.hid (show meetF cur m.1 = (ms.take (i + 1)).foldl (fun a m => meetF a m.1) m0.1 by rw [take_snoc' ms i m hm, List.foldl_append, ← hI.out.1]; rfl)
      have HNL := Lib.hid (meetF_len hI.out.2.1 hml)
      have IX := Lib.hid (fun W => index_row W q ms.length cap i hlt hlen)
      have HR := Lib.hid (range_parts hml (hI.out.2.2.2.2.2.1.row i m hm)).1
      have HMM := Lib.hid hml
      unfold vw at *
      clear hm hml
      go_upto_region 5 with (fail)
      obtain ⟨wq, hwq⟩ : ∃ y, wr = y := ⟨_, rfl⟩
      rw [hwq] at hI HR ⊢
      refine wp_region_held_drew (S := fun w' => w'.heap[b0]? = some (.cells #[.int .i64 sf, .slice (some ⟨q, 0, none⟩) ms.length cap] 29 (0, 0)) ∧ w'.rangeAt q (i * 65) (m.1.map (Value.int .i64))) (by kernel_rfl) ⟨hI.out.2.2.2.1, fun j v hv => HR.out j v hv⟩ (fun hHeld => ?_)
      have LC := Lib.hid (fun (W : World) (h : W.heap[b0]? = some (.cells #[.int .i64 sf, .slice (some ⟨q, 0, none⟩) ms.length cap] 29 (0, 0)) ∧ W.rangeAt q (i * 65) (m.1.map (Value.int .i64))) => load27 W ⟨b0, 1, none⟩ _ (show W.cell? ⟨b0, 1, none⟩ = some (.slice (some ⟨q, 0, none⟩) ms.length cap) by rw [cell_of_row _ _ _ _ _ _ h.1]; rfl))
      have LM := Lib.hid (fun (W : World) (h : W.heap[b0]? = some (.cells #[.int .i64 sf, .slice (some ⟨q, 0, none⟩) ms.length cap] 29 (0, 0)) ∧ W.rangeAt q (i * 65) (m.1.map (Value.int .i64))) => load_m53 HMM.out h.2)
      have LV0 := Lib.hid (LV.out wq.drew cur hI.out.2.1 hI.out.2.2.1)
      refine take_at (i := 1) 18 ?_ rfl rfl (by kernel_rfl) (by kernel_rfl) (by kernel_rfl) (fun _ _ _ h => h) (.inl ⟨rfl, ?_⟩) hHeld ?_
      rotate_left 1
      · intro w hSw; go_simp; try with_reducible rfl
      simp only [Act.put, List.setIfInBounds_toArray, List.set_cons_zero, List.set_cons_succ]
      refine take_at (i := 2) 19 (.slice (some ⟨q, 0, none⟩) ms.length cap) rfl rfl (by kernel_rfl) (by kernel_rfl) (by kernel_rfl) (fun _ _ _ h => h) (yields_ld (.tmp 18) 27 (.pointer (some ⟨b0, 1, none⟩)) _ LC.out rfl rfl rfl) hHeld ?_
      simp only [Act.put, List.setIfInBounds_toArray, List.set_cons_zero, List.set_cons_succ]
      refine take_at (i := 3) 20 ?_ rfl rfl (by kernel_rfl) (by kernel_rfl) (by kernel_rfl) (fun _ _ _ h => h) (.inl ⟨rfl, ?_⟩) hHeld ?_
      rotate_left 1
      · intro w hSw; go_simp; try with_reducible rfl
      simp only [Act.put, List.setIfInBounds_toArray, List.set_cons_zero, List.set_cons_succ]
      refine take_at (i := 4) 21 (.pointer (some ⟨q, i * 65, none⟩)) rfl rfl (by kernel_rfl) (by kernel_rfl) (by kernel_rfl) (fun _ _ _ h => h) (yields_ix (.tmp 19) (.tmp 20) 27 (.slice (some ⟨q, 0, none⟩) ms.length cap) (.int .i64 (i : Int)) _ IX.out rfl rfl rfl rfl) hHeld ?_
      simp only [Act.put, List.setIfInBounds_toArray, List.set_cons_zero, List.set_cons_succ]
      refine take_at (i := 5) 22 ?_ rfl rfl (by kernel_rfl) (by kernel_rfl) (by kernel_rfl) (fun _ _ _ h => h) (.inl ⟨rfl, ?_⟩) hHeld ?_
      rotate_left 1
      · intro w hSw; go_simp; try with_reducible rfl
      simp only [Act.put, List.setIfInBounds_toArray, List.set_cons_zero, List.set_cons_succ]
      refine take_at (i := 6) 23 (.agg (va m.1)) rfl rfl (by kernel_rfl) (by kernel_rfl) (by kernel_rfl) (fun _ _ _ h => h) (yields_ld (.tmp 22) 33 (.pointer (some ⟨q, i * 65, none⟩)) _ LM.out rfl rfl rfl) hHeld ?_
      simp only [Act.put, List.setIfInBounds_toArray, List.set_cons_zero, List.set_cons_succ]
      refine wpAnyH_ready (rs := [0]) (by kernel_rfl) (by simp) (br_load (i := 0) 17 33 (.tmp 3) (.pointer (some ⟨b2', 0, none⟩)) (.agg (va cur)) rfl rfl rfl rfl rfl LV0.out hHeld (fun _ => ?_) AllReadyH.nil)
      simp only [Act.put, List.setIfInBounds_toArray, List.set_cons_zero, List.set_cons_succ]
      refine one_call (i := 7) 24 31 #[.agg (va cur), .agg (va m.1)] rfl rfl (by kernel_rfl) rfl (by go_simp) ?_
      refine (MT.out _).mono ?_
      rintro e w7 ⟨rfl, b7⟩
      refine ⟨_, rfl, ⟨(b7.block _ (lt_of_block hHeld.1)).trans hHeld.1, range_later (w := wq.drew) hI.out.2.2.2.2.2.1.qlt hHeld.2 b7⟩, fun hH => ?_⟩
      have B7 := Lib.hid (show Below wq.heap.size wq w7 from (Below.refl wq.heap.size wq).drew.trans b7)
      clear b7
      simp only [Act.put, List.setIfInBounds_toArray, List.set_cons_zero, List.set_cons_succ]
      obtain ⟨w8, s8, v8, o8, z8, k8⟩ := filled v33 hI.out.2.1 (VAt.step hI.out.2.2.1 B7.out) (meetF cur m.1) HNL.out
      have S8 := Lib.hid s8
      have HZ := Lib.hid (show VAt 33 w8 b2' (meetF cur m.1) ∧ w8.heap[b0]? = some (.cells #[.int .i64 sf, .slice (some ⟨q, 0, none⟩) ms.length cap] 29 (0, 0)) ∧ VAt 33 w8 b1 z ∧ RAt w8 q ms ∧ Below w.heap.size w w8 from
        ⟨v8, o8 _ _ (by have := HS.out; omega) hH.1, o8 _ _ (by have := HS.out; omega) (VAt.step hI.out.2.2.2.2.1 B7.out), by
          have r7 := hI.out.2.2.2.2.2.1.step B7.out
          obtain ⟨x, hx⟩ : ∃ x, w7.heap[q]? = some x := ⟨_, Array.getElem?_eq_getElem r7.qlt⟩
          exact r7.blocks (by rw [o8 q x (by have := HS.out; omega) hx, hx]) (by rw [z8]; exact Nat.le_refl _), k8 w (by have := HS.out; omega) (hI.out.2.2.2.2.2.2.trans (B7.out.mono hI.out.2.2.2.2.2.2.size))⟩)
      have HS8 := Lib.hid (show w8.rangeAt q (i * 65) (m.1.map (Value.int .i64)) from fun j v hv => by
        have e : w8.heap[q]? = w7.heap[q]? := by
          have r7 := hI.out.2.2.2.2.2.1.step B7.out
          obtain ⟨x, hx⟩ : ∃ x, w7.heap[q]? = some x := ⟨_, Array.getElem?_eq_getElem r7.qlt⟩
          rw [o8 q x (by have := HS.out; omega) hx, hx]
        exact (World.cell?_of_block (a := ⟨q, _, none⟩) e).trans (hH.2 j v hv))
      clear s8 v8 o8 z8 k8
      refine wpAnyH_ready (rs := [8]) (by kernel_rfl) (by simp) (br_store 33 (.tmp 3) (.tmp 24) (.pointer (some ⟨b2', 0, none⟩)) (.agg (va (meetF cur m.1))) w8 rfl rfl rfl rfl rfl rfl S8.out ⟨HZ.out.2.1, HS8.out⟩ (fun _ => ?_) AllReadyH.nil)
      simp only [Act.put]
      refine wpAnyH_done (by kernel_rfl) ?_ _
      have HC := HZ
      go_wp2_with fail
      go_roundw
      case rel => exact ⟨i + 1, meetF cur m.1, by go_num, by omega, by omega, Lib.hid ⟨HN.out, HNL.out, HC.out.1, HC.out.2.1, HC.out.2.2.1, HC.out.2.2.2.1, HC.out.2.2.2.2⟩⟩
      case measure => simp [intOf]; omega
    · have HE := Lib.hid (show cur = meetAll ms by rw [hI.out.1, HF.out, List.take_of_length_le (by omega)])
      have LD := Lib.hid (LV.out wr cur hI.out.2.1 hI.out.2.2.1)
      have ST := Lib.hid (SZ.out wr cur hI.out.2.1 hI.out.2.2.2.2.1)
      go_wp2_with (first | refine wpList_load_arrG rfl (.tmp 3) 33 rfl (.pointer (some ⟨b2', 0, none⟩)) (.agg (va cur)) rfl LD.out ?_ | refine wpList_store_arr rfl (.tmp 2) (.tmp 25) 33 rfl (.pointer (some ⟨b1, 0, none⟩)) (.agg (va cur)) rfl rfl _ ST.out ?_)
      exact bodyPost_ret (ret_va (b := b1) rfl v33 hI.out.2.1 rfl (setRow_heap _ _ _ _ _ _ hI.out.2.2.2.2.1)) rfl ⟨by rw [← HE.out]; rfl, below_setRow hI.out.2.2.2.2.2.2 (by have := HS.out; omega) _⟩
end Go.Proofs.Ytgemlkccdcbpdaa
