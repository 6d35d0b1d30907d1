/- Meet. -/
import Derived.Test.YtgemlkccdcbpdaaSD
set_option linter.unusedVariables false
namespace Go.Proofs.Ytgemlkccdcbpdaa
open Go.RowKit

set_option maxRecDepth 100000 in
set_option maxHeartbeats 1600000 in
theorem meetm_any (w : World) (v : Value) (sf : Int) (ms : List Mb) (h : Rec w v sf ms) (hM : ∀ (i : Nat) m, ms[i]? = some m → m.1.length = 64) : Calls Try.prog 17 #[v] w fun e w' => e = .returned (vw (meetAll ms)) ∧ Below w.heap.size w w' := by
  have X := Lib.hid (vstep w (.cells (va zs) 34))
  have XB := Lib.hid (heap_alloc_new w (.cells (va zs) 34))
  have AZ := Lib.hid (alloc_va z34 w)
  have KN := Lib.hid (knows_any _ v sf ms (h.step X.out) hM 0)
  have HL := Lib.hid (memF_len hM 0)
  have HM := Lib.hid hM
  have HF := Lib.hid (show meetAll ms = ms.foldl (fun a m => meetF a m.1) (memF ms 0).1 from rfl)
  have HML := Lib.hid (meetAll_len hM)
  have HR := Lib.hid (h.step X.out)
  have ST := Lib.hid (fun W (l : List Int) (hl : l.length = 64) (h : W.heap[w.heap.size]? = some (.cells (va zs) 34 (0, 0))) => store_va v34 W w.heap.size (va zs) (by rw [va_size, zs_len]) l hl h)
  generalize (memF ms 0).1 = k0 at *
  generalize hW : w.alloc (.cells (va zs) 34) = W at *
  clear hW h hM
  unfold vw at *
  have hcase := HR.out
  rcases hcase with ⟨rfl, rfl⟩ | ⟨p, ao, rfl, hRd⟩
  · go_enter Try.func17, Try.ntmps17
    go_wp2_with (refine wpList_alloc_arr rfl 34 rfl _ _ AZ.out ?_)
    refine KN.out.mono ?_
    rintro e w1 ⟨rfl, hb1⟩
    have N1 := Lib.hid ((hb1.block _ (lt_of_block XB.out)).trans XB.out)
    have B1 := Lib.hid (X.out.trans (hb1.mono X.out.size))
    obtain ⟨W1, W2, e1, e2, b2, n2⟩ := one_box z34 v34 w1 k0 HL.out
    have E1 := Lib.hid e1
    have E2 := Lib.hid e2
    have N2 := Lib.hid ((b2.block _ (lt_of_block N1.out)).trans N1.out)
    have B2 := Lib.hid (B1.out.trans (b2.mono B1.out.size))
    have LD := Lib.hid (load_va v34 W2 w1.heap.size k0 HL.out n2)
    clear hb1 e1 e2 b2 n2
    go_wp2_with (first | refine wpList_alloc_arr rfl 34 rfl _ _ E1.out ?_ | refine wpList_store_arr rfl (.tmp 3) (.tmp 7) 34 rfl (.pointer (some ⟨w1.heap.size, 0, none⟩)) (.agg (va k0)) rfl rfl _ E2.out ?_ | refine wpList_load_arr rfl (.tmp 3) 34 rfl (.pointer (some ⟨w1.heap.size, 0, none⟩)) _ rfl LD.out ?_ | refine wpList_store_arr rfl (.tmp 2) (.tmp 24) 34 rfl (.pointer (some ⟨w.heap.size, 0, none⟩)) (.agg (va k0)) rfl rfl _ (ST.out _ _ HL.out N2.out) ?_)
    exact bodyPost_ret (ret_va (b := w.heap.size) rfl v34 HL.out rfl (setRow_heap _ _ _ _ _ _ N2.out)) rfl ⟨by rw [HF.out]; rfl, below_setRow B2.out (Nat.le_refl _) _⟩
  · have hlen := hRd.len
    have HD := Lib.hid hRd
    clear hRd HR
    go_enter Try.func17, Try.ntmps17
    go_wp2_with (refine wpList_alloc_arr rfl 34 rfl _ _ AZ.out ?_)
    refine KN.out.mono ?_
    rintro e w1 ⟨rfl, hb1⟩
    have N1 := Lib.hid ((hb1.block _ (lt_of_block XB.out)).trans XB.out)
    have B1 := Lib.hid (X.out.trans (hb1.mono X.out.size))
    obtain ⟨W1, W2, e1, e2, b2, n2⟩ := one_box z34 v34 w1 k0 HL.out
    have E1 := Lib.hid e1
    have E2 := Lib.hid e2
    have N2 := Lib.hid ((b2.block _ (lt_of_block N1.out)).trans N1.out)
    have B2 := Lib.hid (B1.out.trans (b2.mono B1.out.size))
    have HD2 := Lib.hid ((HD.out.step hb1).step b2)
    have NK := Lib.hid n2
    have hgn : w.heap.size ≠ w1.heap.size := Nat.ne_of_lt (lt_of_block N1.out)
    have hgw : w.heap.size ≤ w1.heap.size := B1.out.size
    have hrow : Hid (∀ (i : Nat) m, ms[i]? = some m → ∃ q, ao = some ⟨q, 0, none⟩ ∧ q < w1.heap.size ∧ w1.rangeAt q (i * 65) (mc m)) := Lib.hid ((HD.out.step hb1).row)
    obtain ⟨g3, hg3⟩ : ∃ g, w1.heap.size = g := ⟨_, rfl⟩
    rw [hg3] at E1 E2 NK hgn hgw
    have HG := Lib.hid hg3
    have c1 := HD2.out.c1
    have BW := Lib.hid b2
    clear hb1 e1 e2 b2 n2 HD hg3
    go_wp2_with (first | refine wpList_alloc_arr rfl 34 rfl _ _ E1.out ?_ | refine wpList_store_arr rfl (.tmp 3) (.tmp 7) 34 rfl (.pointer (some ⟨g3, 0, none⟩)) (.agg (va k0)) rfl rfl _ E2.out ?_)
    go_loopw [15] (fun iv wr => ∃ (i : Nat) (cur : List Int), iv = .int .i64 i ∧ i ≤ ms.length ∧ Hid (cur = (ms.take i).foldl (fun a m => meetF a m.1) k0 ∧ cur.length = 64 ∧ VAt 34 wr g3 cur ∧ wr.heap[w.heap.size]? = some (.cells (va zs) 34 (0, 0)) ∧ Below w1.heap.size w1 wr)) (fun iv _ => ms.length - (intOf iv).toNat)
    case atStart => exact ⟨0, k0, rfl, Nat.zero_le _, Lib.hid ⟨rfl, HL.out, NK.out, N2.out, BW.out⟩⟩
    case round =>
      obtain ⟨i, cur, rfl, hi, hI⟩ := hrel
      by_cases hlt : i < ms.length
      · obtain ⟨m, hm⟩ : ∃ m, ms[i]? = some m := ⟨_, List.getElem?_eq_getElem hlt⟩
        obtain ⟨q, rfl, hq, hr⟩ := hrow.out i m hm
        have L5 := Lib.hid (mc_len m (HM.out i m hm))
        have M5 := Lib.hid (HM.out i m hm)
        have LD := Lib.hid (load_m wr q (i * 65) (mc m) L5.out (range_later hq hr hI.out.2.2.2.2))
        obtain ⟨W1', W2', e1, e2, b2, n2⟩ := one_box_m wr (mc m) L5.out (mc_one m)
        have E1' := Lib.hid e1
        have E2' := Lib.hid e2
        have LK := Lib.hid (load_va v34 W2' g3 cur hI.out.2.1 (VAt.step hI.out.2.2.1 b2))
        have LM := Lib.hid (load_mid M5.out (know_range n2))
        have MT := Lib.hid (meet_any W2' cur m.1 hI.out.2.1 M5.out)
        have BB := Lib.hid b2
        have HN := Lib.hid (show meetF cur m.1 = (ms.take (i + 1)).foldl (fun a m => meetF a m.1) k0 by rw [take_snoc' ms i m hm, List.foldl_append, ← hI.out.1]; rfl)
        have HNL := Lib.hid (meetF_len hI.out.2.1 M5.out)
        have VW2 := Lib.hid (VAt.step hI.out.2.2.1 BB.out)
        have ZW2 := Lib.hid ((BB.out.block _ (lt_of_block hI.out.2.2.2.1)).trans hI.out.2.2.2.1)
        have BX := Lib.hid (hI.out.2.2.2.2.trans (BB.out.mono hI.out.2.2.2.2.size))
        unfold vw at *
        have HCL := Lib.hid hI.out.2.1
        clear hm hr e1 e2 b2 n2 hI
        go_wp2_with (first | refine wpList_load_arr rfl (.tmp 17) 69 rfl (.pointer (some ⟨q, i * 65, none⟩)) _ rfl LD.out ?_ | refine wpList_alloc_arr rfl 69 rfl _ _ E1'.out ?_ | refine wpList_store_arr rfl (.tmp 5) (.tmp 18) 69 rfl (.pointer (some ⟨wr.heap.size, 0, none⟩)) (.agg (mc m).toArray) rfl rfl _ E2'.out ?_ | refine wpList_load_arr rfl (.tmp 3) 34 rfl (.pointer (some ⟨g3, 0, none⟩)) _ rfl LK.out ?_ | refine wpList_load_arr rfl (.tmp 20) 34 rfl (.pointer (some ⟨wr.heap.size, 0, none⟩)) _ rfl LM.out ?_)
        refine MT.out.mono ?_
        rintro e w5 ⟨rfl, hb5⟩
        obtain ⟨W6, s6, v6, o6, z6, b6⟩ := filled v34 HCL.out (VW2.out.step hb5) (meetF cur m.1) HNL.out
        have S6 := Lib.hid s6
        have V6 := Lib.hid v6
        have Z6 := Lib.hid (o6 _ _ hgn ((hb5.block _ (lt_of_block ZW2.out)).trans ZW2.out))
        have B6 := Lib.hid (b6 w1 (by rw [HG.out]; exact Nat.le_refl _) (BX.out.trans (hb5.mono BX.out.size)))
        clear hb5 s6 v6 o6 z6 b6
        go_wp2_with (refine wpList_store_arr rfl (.tmp 3) (.tmp 22) 34 rfl (.pointer (some ⟨g3, 0, none⟩)) (.agg (va (meetF cur m.1))) rfl rfl _ S6.out ?_)
        go_roundw
        case rel => exact ⟨i + 1, meetF cur m.1, by go_num, by omega, Lib.hid ⟨HN.out, HNL.out, V6.out, Z6.out, B6.out⟩⟩
        case measure => simp [intOf]; omega
      · have HE := Lib.hid (show cur = meetAll ms by rw [hI.out.1, HF.out, List.take_of_length_le (by omega)])
        have LD := Lib.hid (load_va v34 wr g3 cur hI.out.2.1 hI.out.2.2.1)
        have B9 := Lib.hid (B1.out.trans (hI.out.2.2.2.2.mono B1.out.size))
        go_wp2_with (first | refine wpList_load_arr rfl (.tmp 3) 34 rfl (.pointer (some ⟨g3, 0, none⟩)) _ rfl LD.out ?_ | refine wpList_store_arr rfl (.tmp 2) (.tmp 24) 34 rfl (.pointer (some ⟨w.heap.size, 0, none⟩)) (.agg (va cur)) rfl rfl _ (ST.out _ _ hI.out.2.1 hI.out.2.2.2.1) ?_)
        exact bodyPost_ret (ret_va (b := w.heap.size) rfl v34 hI.out.2.1 rfl (setRow_heap _ _ _ _ _ _ hI.out.2.2.2.1)) rfl ⟨by rw [← HE.out]; rfl, below_setRow B9.out (Nat.le_refl _) _⟩
end Go.Proofs.Ytgemlkccdcbpdaa
