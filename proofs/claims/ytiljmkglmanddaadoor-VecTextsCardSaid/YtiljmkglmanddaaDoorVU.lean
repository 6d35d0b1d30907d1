/- Parse, walked. -/
import Derived.Test.YtiljmkglmanddaaDoorVT
set_option linter.unusedVariables false
namespace Go.Proofs.YtiljmkglmanddaaDoor
open Go.RowKit

def parseW (s : ByteArray) : List Int × Int := match parseR s with | some v => (v, 0) | none => (zs, 4)
theorem empty_list (s : ByteArray) : s.toList.isEmpty = decide (s.size = 0) := by
  rw [ByteArray.toList_eq]
  have : s.data.toList.length = s.size := by rw [Array.length_toList]; rfl
  cases h : s.data.toList with
  | nil => rw [h] at this; simp at this; simp [← this]
  | cons a b =>
    have e : s.size = b.length + 1 := by rw [← this, h]; rfl
    rw [e]; simp
set_option maxRecDepth 100000 in
set_option maxHeartbeats 20000000 in
theorem parse_any (w : World) (s : ByteArray) (m : Int) (hs : s.size ≤ 100000) (hm : w.cell? ⟨0, 0, none⟩ = some (.int .i64 m)) :
    Calls Tryd.prog 27 #[.string s] w fun e w' => e = .returned (.tuple #[vw (parseW s).1, .int .i64 (parseW s).2]) ∧ Below w.heap.size w w' := by
  have X := Lib.hid (boxes w (va zs) (va zs) 24)
  have AZ := Lib.hid (alloc_va z24 w)
  have AY := Lib.hid (alloc_va z24 (w.alloc (.cells (va zs) 24)))
  rw [World.size_alloc] at AY
  have LD := Lib.hid (fun W (l' : List Int) (h1 : l'.length = 64) (h : W.heap[w.heap.size + 1]? = some (.cells (va l') 24 (0, 0))) => load_va v24 W (w.heap.size + 1) l' h1 h)
  have ST := Lib.hid (fun W (l' : List Int) (h1 : l'.length = 64) (h : W.heap[w.heap.size]? = some (.cells (va zs) 24 (0, 0))) => store_va v24 W w.heap.size (va zs) (by rw [va_size, zs_len]) l' h1 h)
  have BZ := Lib.hid (fun W => build_va W)
  have HZL := Lib.hid zs_len
  have HZW := Lib.hid (show ((w.alloc (.cells (va zs) 24)).alloc (.cells (va zs) 24)).heap.size = w.heap.size + 1 + 1 by simp)
  generalize hW1 : w.alloc (.cells (va zs) 24) = W1 at *
  generalize hW : W1.alloc (.cells (va zs) 24) = W at *
  clear hW hW1
  by_cases h0 : s.size = 0
  · have HR := Lib.hid (show parseW s = (zs, 0) by unfold parseW parseR; rw [if_pos h0])
    have t1 : s.toList.isEmpty = true := by rw [empty_list]; exact decide_eq_true h0
    clear h0 hs hm
    go_enter Tryd.func27, Tryd.ntmps27
    go_wp2_with (first | refine wpList_alloc_arr rfl 24 rfl _ _ AZ.out ?_ | refine wpList_alloc_arr rfl 24 rfl _ _ AY.out ?_ | refine wpList_load_arr rfl (.tmp 4) 24 rfl (.pointer (some ⟨w.heap.size + 1, 0, none⟩)) _ rfl (LD.out _ _ HZL.out X.out.2.2) ?_ | refine wpList_store_arr rfl (.tmp 2) (.tmp 13) 24 rfl (.pointer (some ⟨w.heap.size, 0, none⟩)) (.agg (va zs)) rfl rfl _ (ST.out _ _ HZL.out X.out.2.1) ?_)
    refine bodyPost_ret (ret_va2 (b := w.heap.size) rfl v24 HZL.out rfl rfl (setRow_heap _ _ _ _ _ _ X.out.2.1)) rfl ⟨by rw [HR.out]; rfl, below_setRow X.out.1 (Nat.le_refl _) _⟩
  · have t1 : s.toList.isEmpty = false := by rw [empty_list]; exact decide_eq_false h0
    have hbm : 0 < w.heap.size := World.block_lt_of_cell? w _ hm
    have SP := Lib.hid (Tryd.strings_Split s ⟨#[32]⟩ m W (by omega) ((X.out.1.cell (p := ⟨0, 0, none⟩) hbm).trans hm) (by decide))
    have hN := Lib.splitB_all ⟨#[32]⟩ (by decide) 0 _ s rfl
    have hcnt : Lib.countB s ⟨#[32]⟩ ≤ s.size := by
      have := Lib.countB_mul_le ⟨#[32]⟩ (by decide) s.size s (Nat.le_refl _)
      have e : (ByteArray.mk #[32]).size = 1 := rfl
      rw [e] at this
      omega
    have HPS := Lib.hid (fun x (h : x ∈ vparts s) => parts_size ⟨#[32]⟩ _ s x h)
    have HR := Lib.hid (show parseR s = parseF (vparts s) 0 zs by unfold parseR; rw [if_neg h0])
    unfold vparts at HPS HR
    obtain ⟨ps, hps⟩ : ∃ ps, Lib.splitB ⟨#[32]⟩ 0 (Lib.countB s ⟨#[32]⟩) s = ps := ⟨_, rfl⟩
    rw [hps] at SP hN HPS HR
    rw [← hN] at SP
    have hpl : ps.length ≤ 100001 := by omega
    clear hps hN hcnt hm h0
    go_enter Tryd.func27, Tryd.ntmps27
    go_wp2_with (first | refine wpList_alloc_arr rfl 24 rfl _ _ AZ.out ?_ | refine wpList_alloc_arr rfl 24 rfl _ _ AY.out ?_)
    refine SP.out.mono ?_
    rintro e w1 ⟨rfl, hw1⟩
    have BS := (Below.refl W.heap.size W).alloc (Nat.le_refl _) (.cells (ps.map Value.string).toArray 9)
    have Q0 := Lib.hid ((BS.block _ (Array.getElem?_eq_some_iff.1 X.out.2.1).1).trans X.out.2.1)
    have Q1 := Lib.hid ((BS.block _ (Array.getElem?_eq_some_iff.1 X.out.2.2).1).trans X.out.2.2)
    have QP := Lib.hid (heap_alloc_new W (.cells (ps.map Value.string).toArray 9))
    have QB := Lib.hid (X.out.1.trans (BS.mono X.out.1.size))
    rw [← hw1] at Q0 Q1 QP QB
    obtain ⟨g, hg⟩ : ∃ g, W.heap.size = g := ⟨_, rfl⟩
    rw [hg] at QP ⊢
    have hgn : g = w.heap.size + 1 + 1 := by rw [← hg]; exact HZW.out
    clear hw1 BS hg
    subst hgn
    go_wp2
    go_loopw [5, 17] (fun lv iv wr => ∃ (i lst : Nat) (v : List Int), iv = .int .i64 i ∧ i ≤ ps.length ∧ lv = .int .i64 lst ∧ lst ≤ 64 ∧ Hid (parseF ps 0 zs = parseF (ps.drop i) lst v ∧ v.length = 64 ∧ wr.heap[w.heap.size]? = some (.cells (va zs) 24 (0, 0)) ∧ wr.heap[w.heap.size + 1]? = some (.cells (va v) 24 (0, 0)) ∧ wr.heap[w.heap.size + 1 + 1]? = some (.cells (ps.map Value.string).toArray 9 (0, 0)) ∧ Below w.heap.size w wr)) (fun _ iv _ => ps.length - (intOf iv).toNat)
    case atStart => exact ⟨0, 0, zs, rfl, Nat.zero_le _, rfl, Nat.zero_le _, Lib.hid ⟨rfl, zs_len, Q0.out, Q1.out, QP.out, QB.out⟩⟩
    case round =>
      obtain ⟨i, lst, v, rfl, hi, rfl, hlst, hI⟩ := hrel
      by_cases hlt : i < ps.length
      · obtain ⟨p, hp⟩ : ∃ p, ps[i]? = some p := ⟨_, List.getElem?_eq_getElem hlt⟩
        have hpe : ps.drop i = p :: ps.drop (i + 1) := by rw [← (List.getElem?_eq_some_iff.1 hp).2]; exact List.drop_eq_getElem_cons hlt
        have d : wr.cell? ⟨w.heap.size + 1 + 1, i, none⟩ = some (.string p) := by
          rw [cell_of_row _ _ _ _ _ _ hI.out.2.2.2.2.1, List.getElem?_toArray, List.getElem?_map, hp]; rfl
        have KN := Lib.hid (known_any wr p (by have := HPS.out p (List.mem_of_getElem? hp); omega))
        have HS := Lib.hid (show parseF ps 0 zs = (match knownP p with | some q => if q.1 < lst ∨ 64 ≤ q.1 ∨ q.2 < 1 ∨ 4294967296 < q.2 then none else parseF (ps.drop (i + 1)) (q.1 + 1) (v.set q.1 (q.2 : Int)) | none => none) by
          rw [hI.out.1, hpe]; rfl)
        unfold knownV at KN
        clear hp hpe
        cases hk : knownP p with
        | none =>
          rw [hk] at KN HS
          have I := Lib.hid (fun W => is_any W 0)
          clear hk
          have HE := Lib.hid (show parseW s = (zs, 4) by unfold parseW; rw [HR.out, HS.out])
          go_wp2_with fail
          refine KN.out.mono ?_
          rintro e w2 ⟨rfl, hb2⟩
          have H0 := Lib.hid ((hb2.block _ (Array.getElem?_eq_some_iff.1 hI.out.2.2.1).1).trans hI.out.2.2.1)
          have H1 := Lib.hid ((hb2.block _ (Array.getElem?_eq_some_iff.1 hI.out.2.2.2.1).1).trans hI.out.2.2.2.1)
          have H2 := Lib.hid ((hb2.block _ (Array.getElem?_eq_some_iff.1 hI.out.2.2.2.2.1).1).trans hI.out.2.2.2.2.1)
          have B2 := Lib.hid (hI.out.2.2.2.2.2.trans (hb2.mono hI.out.2.2.2.2.2.size))
          clear hb2
          go_wp2_with (first | refine wpList_build_arr rfl 24 rfl _ (BZ.out _) ?_ | refine wpList_store_arr rfl (.tmp 2) (.tmp 47) 24 rfl (.pointer (some ⟨w.heap.size, 0, none⟩)) (.agg (va zs)) rfl rfl _ (ST.out _ _ HZL.out H0.out) ?_ | (go_at_call 31; refine (I.out _).mono ?_; rintro e w3 ⟨rfl, rfl⟩))
          refine bodyPost_ret (ret_va2 (b := w.heap.size) rfl v24 HZL.out rfl rfl (setRow_heap _ _ _ _ _ _ H0.out)) rfl ⟨by rw [HE.out]; rfl, below_setRow B2.out (Nat.le_refl _) _⟩
        | some q =>
          obtain ⟨r, n⟩ := q
          rw [hk] at KN HS
          clear hk
          dsimp only at KN HS
          have HVL := Lib.hid hI.out.2.1
          have I := Lib.hid (fun W => is_any W (r : Int))
          by_cases c1 : r < lst
          · have HE := Lib.hid (show parseW s = (zs, 4) by unfold parseW; rw [HR.out, HS.out, if_pos (.inl c1)])
            go_wp2_with fail
            refine KN.out.mono ?_
            rintro e w2 ⟨rfl, hb2⟩
            have H0 := Lib.hid ((hb2.block _ (Array.getElem?_eq_some_iff.1 hI.out.2.2.1).1).trans hI.out.2.2.1)
            have H1 := Lib.hid ((hb2.block _ (Array.getElem?_eq_some_iff.1 hI.out.2.2.2.1).1).trans hI.out.2.2.2.1)
            have H2 := Lib.hid ((hb2.block _ (Array.getElem?_eq_some_iff.1 hI.out.2.2.2.2.1).1).trans hI.out.2.2.2.2.1)
            have B2 := Lib.hid (hI.out.2.2.2.2.2.trans (hb2.mono hI.out.2.2.2.2.2.size))
            clear hb2
            go_wp2_with (first | refine wpList_build_arr rfl 24 rfl _ (BZ.out _) ?_ | refine wpList_store_arr rfl (.tmp 2) (.tmp 47) 24 rfl (.pointer (some ⟨w.heap.size, 0, none⟩)) (.agg (va zs)) rfl rfl _ (ST.out _ _ HZL.out H0.out) ?_ | (go_at_call 31; refine (I.out _).mono ?_; rintro e w3 ⟨rfl, rfl⟩))
            refine bodyPost_ret (ret_va2 (b := w.heap.size) rfl v24 HZL.out rfl rfl (setRow_heap _ _ _ _ _ _ H0.out)) rfl ⟨by rw [HE.out]; rfl, below_setRow B2.out (Nat.le_refl _) _⟩
          · by_cases c2 : r < 64
            · rw [show isB (r : Int) = true from decide_eq_true (by omega)] at I
              by_cases c3 : n < 1
              · have HE := Lib.hid (show parseW s = (zs, 4) by unfold parseW; rw [HR.out, HS.out, if_pos (.inr (.inr (.inl c3)))])
                go_wp2_with fail
                refine KN.out.mono ?_
                rintro e w2 ⟨rfl, hb2⟩
                have H0 := Lib.hid ((hb2.block _ (Array.getElem?_eq_some_iff.1 hI.out.2.2.1).1).trans hI.out.2.2.1)
                have H1 := Lib.hid ((hb2.block _ (Array.getElem?_eq_some_iff.1 hI.out.2.2.2.1).1).trans hI.out.2.2.2.1)
                have H2 := Lib.hid ((hb2.block _ (Array.getElem?_eq_some_iff.1 hI.out.2.2.2.2.1).1).trans hI.out.2.2.2.2.1)
                have B2 := Lib.hid (hI.out.2.2.2.2.2.trans (hb2.mono hI.out.2.2.2.2.2.size))
                clear hb2
                go_wp2_with (first | refine wpList_build_arr rfl 24 rfl _ (BZ.out _) ?_ | refine wpList_store_arr rfl (.tmp 2) (.tmp 47) 24 rfl (.pointer (some ⟨w.heap.size, 0, none⟩)) (.agg (va zs)) rfl rfl _ (ST.out _ _ HZL.out H0.out) ?_ | (go_at_call 31; refine (I.out _).mono ?_; rintro e w3 ⟨rfl, rfl⟩))
                refine bodyPost_ret (ret_va2 (b := w.heap.size) rfl v24 HZL.out rfl rfl (setRow_heap _ _ _ _ _ _ H0.out)) rfl ⟨by rw [HE.out]; rfl, below_setRow B2.out (Nat.le_refl _) _⟩
              · by_cases c4 : 4294967296 < n
                · have HE := Lib.hid (show parseW s = (zs, 4) by unfold parseW; rw [HR.out, HS.out, if_pos (.inr (.inr (.inr c4)))])
                  go_wp2_with fail
                  refine KN.out.mono ?_
                  rintro e w2 ⟨rfl, hb2⟩
                  have H0 := Lib.hid ((hb2.block _ (Array.getElem?_eq_some_iff.1 hI.out.2.2.1).1).trans hI.out.2.2.1)
                  have H1 := Lib.hid ((hb2.block _ (Array.getElem?_eq_some_iff.1 hI.out.2.2.2.1).1).trans hI.out.2.2.2.1)
                  have H2 := Lib.hid ((hb2.block _ (Array.getElem?_eq_some_iff.1 hI.out.2.2.2.2.1).1).trans hI.out.2.2.2.2.1)
                  have B2 := Lib.hid (hI.out.2.2.2.2.2.trans (hb2.mono hI.out.2.2.2.2.2.size))
                  clear hb2
                  go_wp2_with (first | refine wpList_build_arr rfl 24 rfl _ (BZ.out _) ?_ | refine wpList_store_arr rfl (.tmp 2) (.tmp 47) 24 rfl (.pointer (some ⟨w.heap.size, 0, none⟩)) (.agg (va zs)) rfl rfl _ (ST.out _ _ HZL.out H0.out) ?_ | (go_at_call 31; refine (I.out _).mono ?_; rintro e w3 ⟨rfl, rfl⟩))
                  refine bodyPost_ret (ret_va2 (b := w.heap.size) rfl v24 HZL.out rfl rfl (setRow_heap _ _ _ _ _ _ H0.out)) rfl ⟨by rw [HE.out]; rfl, below_setRow B2.out (Nat.le_refl _) _⟩
                · have HE := Lib.hid (show parseF ps 0 zs = parseF (ps.drop (i + 1)) (r + 1) (v.set r (n : Int)) by rw [HS.out, if_neg (by omega)])
                  go_wp2_with fail
                  refine KN.out.mono ?_
                  rintro e w2 ⟨rfl, hb2⟩
                  have H0 := Lib.hid ((hb2.block _ (Array.getElem?_eq_some_iff.1 hI.out.2.2.1).1).trans hI.out.2.2.1)
                  have H1 := Lib.hid ((hb2.block _ (Array.getElem?_eq_some_iff.1 hI.out.2.2.2.1).1).trans hI.out.2.2.2.1)
                  have H2 := Lib.hid ((hb2.block _ (Array.getElem?_eq_some_iff.1 hI.out.2.2.2.2.1).1).trans hI.out.2.2.2.2.1)
                  have B2 := Lib.hid (hI.out.2.2.2.2.2.trans (hb2.mono hI.out.2.2.2.2.2.size))
                  clear hb2
                  obtain ⟨x, hx⟩ := va_len v HVL.out r c2
                  have g0 := cell_va H1.out hx
                  have f0 := frozen_of_row _ _ r _ _ H1.out
                  have R0 := Lib.hid (show (w2.setCell ⟨w.heap.size + 1, r, none⟩ (.int .i64 (n : Int))).heap[w.heap.size]? = some (.cells (va zs) 24 (0, 0)) from (Below.heap_setCell _ _ _ _ (by show w.heap.size ≠ w.heap.size + 1; omega)).trans H0.out)
                  have R1 := Lib.hid (set_va H1.out r (n : Int))
                  have R2 := Lib.hid (show (w2.setCell ⟨w.heap.size + 1, r, none⟩ (.int .i64 (n : Int))).heap[w.heap.size + 1 + 1]? = some (.cells (ps.map Value.string).toArray 9 (0, 0)) from (Below.heap_setCell _ _ _ _ (by show w.heap.size + 1 + 1 ≠ w.heap.size + 1; omega)).trans H2.out)
                  have BY := Lib.hid (B2.out.setCell (p := ⟨w.heap.size + 1, r, none⟩) (by show w.heap.size ≤ w.heap.size + 1; omega) (.int .i64 (n : Int)))
                  have HVS := Lib.hid (show (v.set r (n : Int)).length = 64 by rw [List.length_set]; exact HVL.out)
                  clear hx
                  go_wp2_with (go_at_call 31; refine (I.out _).mono ?_; rintro e w3 ⟨rfl, rfl⟩)
                  go_roundw
                  case rel => exact ⟨i + 1, r + 1, v.set r (n : Int), by go_num, by omega, by go_num, by omega, Lib.hid ⟨HE.out, HVS.out, R0.out, R1.out, R2.out, BY.out⟩⟩
                  case measure => simp [intOf]; omega
            · rw [show isB (r : Int) = false from decide_eq_false (by omega)] at I
              have HE := Lib.hid (show parseW s = (zs, 4) by unfold parseW; rw [HR.out, HS.out, if_pos (.inr (.inl (by omega)))])
              go_wp2_with fail
              refine KN.out.mono ?_
              rintro e w2 ⟨rfl, hb2⟩
              have H0 := Lib.hid ((hb2.block _ (Array.getElem?_eq_some_iff.1 hI.out.2.2.1).1).trans hI.out.2.2.1)
              have H1 := Lib.hid ((hb2.block _ (Array.getElem?_eq_some_iff.1 hI.out.2.2.2.1).1).trans hI.out.2.2.2.1)
              have H2 := Lib.hid ((hb2.block _ (Array.getElem?_eq_some_iff.1 hI.out.2.2.2.2.1).1).trans hI.out.2.2.2.2.1)
              have B2 := Lib.hid (hI.out.2.2.2.2.2.trans (hb2.mono hI.out.2.2.2.2.2.size))
              clear hb2
              go_wp2_with (first | refine wpList_build_arr rfl 24 rfl _ (BZ.out _) ?_ | refine wpList_store_arr rfl (.tmp 2) (.tmp 47) 24 rfl (.pointer (some ⟨w.heap.size, 0, none⟩)) (.agg (va zs)) rfl rfl _ (ST.out _ _ HZL.out H0.out) ?_ | (go_at_call 31; refine (I.out _).mono ?_; rintro e w3 ⟨rfl, rfl⟩))
              refine bodyPost_ret (ret_va2 (b := w.heap.size) rfl v24 HZL.out rfl rfl (setRow_heap _ _ _ _ _ _ H0.out)) rfl ⟨by rw [HE.out]; rfl, below_setRow B2.out (Nat.le_refl _) _⟩
      · have HE := Lib.hid (show parseW s = (v, 0) by
          unfold parseW
          rw [HR.out, hI.out.1, List.drop_of_length_le (by omega)]; rfl)
        go_wp2_with (first | refine wpList_load_arr rfl (.tmp 4) 24 rfl (.pointer (some ⟨w.heap.size + 1, 0, none⟩)) _ rfl (LD.out _ _ hI.out.2.1 hI.out.2.2.2.1) ?_ | refine wpList_store_arr rfl (.tmp 2) (.tmp 54) 24 rfl (.pointer (some ⟨w.heap.size, 0, none⟩)) (.agg (va v)) rfl rfl _ (ST.out _ _ hI.out.2.1 hI.out.2.2.1) ?_)
        refine bodyPost_ret (ret_va2 (b := w.heap.size) rfl v24 hI.out.2.1 rfl rfl (setRow_heap _ _ _ _ _ _ hI.out.2.2.1)) rfl ⟨by rw [HE.out]; rfl, below_setRow hI.out.2.2.2.2.2 (Nat.le_refl _) _⟩
end Go.Proofs.YtiljmkglmanddaaDoor
