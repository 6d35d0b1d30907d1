/- Knows, Time, right, Floor, Cut. -/
import Derived.Test.YtgemlkccdcbpdaaSB
set_option linter.unusedVariables false
namespace Go.Proofs.Ytgemlkccdcbpdaa
open Go.RowKit

theorem one_box_m (W : World) (cs : List Value) (hl : cs.length = 65) (h1 : ∀ v ∈ cs, v.oneCell' = true) : ∃ W1 W2, (Instr.alloc 69 true (.tuple #[])).run Try.prog W = .ok (.pointer (some ⟨W.heap.size, 0, none⟩)) W1 ∧
    (Instr.storeAt 69 (.pointer (some ⟨W.heap.size, 0, none⟩)) (.agg cs.toArray)).run Try.prog W1 = .ok () W2 ∧ Below W.heap.size W W2 ∧ W2.heap[W.heap.size]? = some (.cells cs.toArray 69 (0, 0)) :=
  ⟨_, _, alloc_m W, store_m _ _ _ (by rw [List.size_toArray, mc_len mz mz_len]) cs hl h1 (heap_alloc_new W _), below_setRow (vstep W _) (Nat.le_refl _) _, setRow_heap _ _ _ _ _ _ (heap_alloc_new W _)⟩
theorem time_cell {W : World} {g : Nat} {m : Mb} (hl : m.1.length = 64) (h : W.heap[g]? = some (.cells (mc m).toArray 69 (0, 0))) : W.cell? ⟨g, 64, none⟩ = some (.int .i64 m.2) := by
  rw [cell_of_row _ _ _ _ _ _ h, List.getElem?_toArray]
  unfold mc
  rw [List.getElem?_append_right (by rw [List.length_map, hl]; omega), List.length_map, hl]
  rfl
theorem know_range {W : World} {g : Nat} {m : Mb} (h : W.heap[g]? = some (.cells (mc m).toArray 69 (0, 0))) : W.rangeAt g 0 (m.1.map (Value.int .i64)) := by
  intro j v hj
  rw [cell_of_row _ _ _ _ _ _ h, List.getElem?_toArray, Nat.zero_add]
  unfold mc
  rw [List.getElem?_append_left (List.getElem?_eq_some_iff.1 hj).1]
  exact hj

set_option maxRecDepth 100000 in
set_option maxHeartbeats 800000 in
theorem knows_any (w : World) (v : Value) (sf : Int) (ms : List Mb) (h : Rec w v sf ms) (hM : ∀ (i : Nat) m, ms[i]? = some m → m.1.length = 64) (rep : Int) : Calls Try.prog 20 #[v, .int .i64 rep] w fun e w' => e = .returned (vw (memF ms rep).1) ∧ Below w.heap.size w w' := by
  have X := Lib.hid (vstep w (.cells (va zs) 34))
  have XB := Lib.hid (heap_alloc_new w (.cells (va zs) 34))
  have AZ := Lib.hid (alloc_va z34 w)
  have OF := Lib.hid (of_any _ v sf ms (h.step X.out) rep)
  have HL := Lib.hid (memF_len hM rep)
  generalize memF ms rep = m at *
  have F0 := Lib.hid (fun W => field_m0 W m HL.out)
  have ST := Lib.hid (fun W (h : W.heap[w.heap.size]? = some (.cells (va zs) 34 (0, 0))) => store_va v34 W w.heap.size (va zs) (by rw [va_size, zs_len]) m.1 HL.out h)
  generalize hW : w.alloc (.cells (va zs) 34) = W at *
  clear hW h hM
  go_enter Try.func20, Try.ntmps20
  go_wp2_with (refine wpList_alloc_arr rfl 34 rfl _ _ AZ.out ?_)
  refine OF.out.mono ?_
  rintro e w1 ⟨rfl, hb1⟩
  have N1 := Lib.hid ((hb1.block _ (lt_of_block XB.out)).trans XB.out)
  have B1 := Lib.hid (X.out.trans (hb1.mono X.out.size))
  clear hb1
  go_wp2_with (first | refine wpList_field rfl (.tmp 7) 69 0 rfl (.agg (mc m).toArray) _ rfl (F0.out _) ?_ | refine wpList_store_arr rfl (.tmp 4) (.tmp 8) 34 rfl (.pointer (some ⟨w.heap.size, 0, none⟩)) (.agg (va m.1)) rfl rfl _ (ST.out _ N1.out) ?_)
  exact bodyPost_ret (ret_va (b := w.heap.size) rfl v34 HL.out rfl (setRow_heap _ _ _ _ _ _ N1.out)) rfl ⟨rfl, below_setRow B1.out (Nat.le_refl _) _⟩

set_option maxRecDepth 100000 in
set_option maxHeartbeats 800000 in
theorem time_any (w : World) (v : Value) (sf : Int) (ms : List Mb) (h : Rec w v sf ms) (hM : ∀ (i : Nat) m, ms[i]? = some m → m.1.length = 64) (rep : Int) : Calls Try.prog 21 #[v, .int .i64 rep] w fun e w' => e = .returned (.int .i64 (memF ms rep).2) ∧ Below w.heap.size w w' := by
  have OF := Lib.hid (of_any _ v sf ms h rep)
  have HL := Lib.hid (memF_len hM rep)
  generalize memF ms rep = m at *
  have F1 := Lib.hid (fun W => field_m1 W m HL.out)
  clear h hM
  go_enter Try.func21, Try.ntmps21
  go_wp2_with fail
  refine OF.out.mono ?_
  rintro e w1 ⟨rfl, hb1⟩
  have B1 := Lib.hid hb1
  clear hb1
  go_wp2_with (refine wpList_field rfl (.tmp 7) 69 1 rfl (.agg (mc m).toArray) _ rfl (F1.out _) ?_)
  go_returns
  exact ⟨rfl, B1.out⟩

def rightM (c : Bool) (t : Int) : Bool := c && decide (0 ≤ t) && decide (t ≤ 281474976710656)
set_option maxRecDepth 100000 in
set_option maxHeartbeats 800000 in
theorem rightm_any (w : World) (l : List Int) (hl : l.length = 64) (c : Bool) (hc : c = true ↔ RightP l) (t : Int) : Calls Try.prog 27 #[vw l, .int .i64 t] w fun e w' => e = .returned (.bool (rightM c t)) ∧ Below w.heap.size w w' := by
  have X := Lib.hid (vstep w (.cells (va l) 34))
  have LD := Lib.hid (load_va v34 (w.alloc (.cells (va l) 34)) w.heap.size l hl (heap_alloc_new w _))
  have R := Lib.hid (fun W => right_any W l hl c hc)
  unfold vw at *
  generalize va l = A at *
  clear hc hl
  cases c with
  | false =>
    have HE := Lib.hid (show rightM false t = false from rfl)
    go_enter Try.func27, Try.ntmps27
    go_wp2_with (refine wpList_load_arr rfl (.tmp 2) 34 rfl _ _ rfl LD.out ?_)
    refine (R.out _).mono ?_
    rintro e w1 ⟨rfl, hb1⟩
    have B1 := Lib.hid (X.out.trans (hb1.mono X.out.size))
    clear hb1
    go_wp2
    go_returns
    exact ⟨by rw [HE.out]; rfl, B1.out⟩
  | true =>
    by_cases h1 : 0 ≤ t
    · by_cases h2 : t ≤ 281474976710656
      · have HE := Lib.hid (show rightM true t = true by unfold rightM; rw [decide_eq_true h1, decide_eq_true h2]; rfl)
        go_enter Try.func27, Try.ntmps27
        go_wp2_with (refine wpList_load_arr rfl (.tmp 2) 34 rfl _ _ rfl LD.out ?_)
        refine (R.out _).mono ?_
        rintro e w1 ⟨rfl, hb1⟩
        have B1 := Lib.hid (X.out.trans (hb1.mono X.out.size))
        clear hb1
        go_wp2
        go_returns
        exact ⟨by rw [HE.out]; rfl, B1.out⟩
      · have HE := Lib.hid (show rightM true t = false by unfold rightM; rw [decide_eq_false h2, Bool.and_false])
        have hd2 : decide (t ≤ 281474976710656) = false := decide_eq_false h2
        go_enter Try.func27, Try.ntmps27
        go_wp2_with (refine wpList_load_arr rfl (.tmp 2) 34 rfl _ _ rfl LD.out ?_)
        refine (R.out _).mono ?_
        rintro e w1 ⟨rfl, hb1⟩
        have B1 := Lib.hid (X.out.trans (hb1.mono X.out.size))
        clear hb1
        go_wp2
        go_returns
        exact ⟨by rw [HE.out]; rfl, B1.out⟩
    · have HE := Lib.hid (show rightM true t = false by unfold rightM; rw [decide_eq_false h1]; rfl)
      go_enter Try.func27, Try.ntmps27
      go_wp2_with (refine wpList_load_arr rfl (.tmp 2) 34 rfl _ _ rfl LD.out ?_)
      refine (R.out _).mono ?_
      rintro e w1 ⟨rfl, hb1⟩
      have B1 := Lib.hid (X.out.trans (hb1.mono X.out.size))
      clear hb1
      go_wp2
      go_returns
      exact ⟨by rw [HE.out]; rfl, B1.out⟩

def floorF (ms : List Mb) : Int := ms.foldl (fun a m => min a m.2) (memF ms 0).2
set_option maxRecDepth 100000 in
set_option maxHeartbeats 1600000 in
theorem floor_any (w : World) (v : Value) (sf : Int) (ms : List Mb) (h : Rec w v sf ms) (hM : ∀ (i : Nat) m, ms[i]? = some m → m.1.length = 64) : Calls Try.prog 16 #[v] w fun e w' => e = .returned (.int .i64 (floorF ms)) ∧ Below w.heap.size w w' := by
  have OF := Lib.hid (of_any _ v sf ms h 0)
  have HL := Lib.hid (memF_len hM 0)
  have F1 := Lib.hid (fun W => field_m1 W (memF ms 0) HL.out)
  have HM := Lib.hid hM
  have HR := Lib.hid h
  have HF := Lib.hid (show floorF ms = ms.foldl (fun a m => min a m.2) (memF ms 0).2 from rfl)
  generalize memF ms 0 = m0 at *
  rcases h with ⟨rfl, rfl⟩ | ⟨p, ao, rfl, h⟩
  · clear hM HR
    go_enter Try.func16, Try.ntmps16
    go_wp2_with fail
    refine OF.out.mono ?_
    rintro e w1 ⟨rfl, hb1⟩
    have B1 := Lib.hid hb1
    clear hb1
    go_wp2_with (refine wpList_field rfl (.tmp 7) 69 1 rfl (.agg (mc m0).toArray) _ rfl (F1.out _) ?_)
    go_returns
    exact ⟨by rw [HF.out]; rfl, B1.out⟩
  · have HD := Lib.hid h
    have hlen := h.len
    clear h hM HR
    go_enter Try.func16, Try.ntmps16
    go_wp2_with fail
    refine OF.out.mono ?_
    rintro e w1 ⟨rfl, hb1⟩
    have B1 := Lib.hid hb1
    have HD1 := Lib.hid (HD.out.step hb1)
    have c1 := HD1.out.c1
    clear hb1 HD
    go_wp2_with (refine wpList_field rfl (.tmp 7) 69 1 rfl (.agg (mc m0).toArray) _ rfl (F1.out _) ?_)
    go_loopw [3, 16] (fun lv iv wr => ∃ (i : Nat) (x : Int), iv = .int .i64 i ∧ i ≤ ms.length ∧ lv = .int .i64 x ∧ Hid (x = (ms.take i).foldl (fun a m => min a m.2) m0.2 ∧ Below w1.heap.size w1 wr)) (fun _ iv _ => ms.length - (intOf iv).toNat)
    case atStart => exact ⟨0, _, rfl, Nat.zero_le _, rfl, Lib.hid ⟨rfl, Below.refl _ _⟩⟩
    case round =>
      obtain ⟨i, x, rfl, hi, rfl, hI⟩ := hrel
      by_cases hlt : i < ms.length
      · obtain ⟨m, hm⟩ : ∃ m, ms[i]? = some m := ⟨_, List.getElem?_eq_getElem hlt⟩
        have hr := HD1.out.step hI.out.2
        obtain ⟨q, rfl, hq, hrow⟩ := hr.row i m hm
        have L5 := Lib.hid (mc_len m (HM.out i m hm))
        have M5 := Lib.hid (HM.out i m hm)
        have LD := Lib.hid (load_m wr q (i * 65) (mc m) L5.out hrow)
        obtain ⟨W1, W2, e1, e2, b2, n2⟩ := one_box_m wr (mc m) L5.out (mc_one m)
        have E1 := Lib.hid e1
        have E2 := Lib.hid e2
        have d0 := time_cell M5.out n2
        have BB := Lib.hid (hI.out.2.trans (b2.mono hI.out.2.size))
        have HN := Lib.hid (show min x m.2 = (ms.take (i + 1)).foldl (fun a m => min a m.2) m0.2 by rw [take_snoc' ms i m hm, List.foldl_append, ← hI.out.1]; rfl)
        clear hm hr hrow e1 e2 b2 n2
        go_wp2_with (first | refine wpList_load_arr rfl (.tmp 18) 69 rfl (.pointer (some ⟨q, i * 65, none⟩)) _ rfl LD.out ?_ | refine wpList_alloc_arr rfl 69 rfl _ _ E1.out ?_ | refine wpList_store_arr rfl (.tmp 5) (.tmp 19) 69 rfl (.pointer (some ⟨wr.heap.size, 0, none⟩)) (.agg (mc m).toArray) rfl rfl _ E2.out ?_)
        go_roundw
        case rel => exact ⟨i + 1, min x m.2, by go_num, by omega, rfl, Lib.hid ⟨HN.out, BB.out⟩⟩
        case measure => simp [intOf]; omega
      · have HE := Lib.hid (show x = floorF ms by rw [hI.out.1, HF.out, List.take_of_length_le (by omega)])
        go_wp2
        go_returns
        exact ⟨by rw [← HE.out]; rfl, B1.out.trans (hI.out.2.mono B1.out.size)⟩
end Go.Proofs.Ytgemlkccdcbpdaa
