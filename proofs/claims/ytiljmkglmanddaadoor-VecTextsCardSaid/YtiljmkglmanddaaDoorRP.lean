/- The reference's Parse, walked. Made by genrp.py. -/
import Derived.Test.YtiljmkglmanddaaDoorVRs
import Derived.Test.YtiljmkglmanddaaDoorVZ
import Derived.Deep.CutRange
import Derived.Deep.CutBlock
set_option linter.unusedVariables false
namespace Go.Proofs.YtiljmkglmanddaaDoor
open Go.RowKit

def rparseV (s : ByteArray) : Value := match parseR s with | some l => .tuple #[vw l, .bool true] | none => .tuple #[vw zs, .bool false]
theorem build_va23 (W : World) : (Instr.build 23 #[]).run Tryd.prog W = .ok (.agg (va zs)) W := by
  have h := (zero_of_info z23).1 W
  have ht : Tryd.prog.underlying 23 = some (.array 64 3) := by kernel_rfl
  unfold Instr.build
  rw [Sem.run_bind, h]
  simp [run_underlying ht, Instr.fill, vw, Value.cells, Sem.run_bind]
theorem RFn_len : ∀ (k i : Nat) (rest : List (List UInt8)) (out l : List Int), out.length = 64 → RFn k i rest out = some l → l.length = 64
  | 0, i, rest, out, l, ho, h => by
    unfold RFn at h
    split at h
    · injection h with h; rw [← h]; exact ho
    · cases h
  | k + 1, i, [], out, l, ho, h => by injection h with h; rw [← h]; exact ho
  | k + 1, i, x :: r, out, l, ho, h => by
    unfold RFn at h
    split at h
    · exact RFn_len k _ _ _ _ ho h
    · split at h
      · split at h
        · cases h
        · exact RFn_len k _ _ _ _ (by rw [List.length_set]; exact ho) h
      · cases h
theorem hB_small (p i : Nat) (hi : i < 64) : (hB p i).size ≤ 30 := by
  have h1 := decS_size (i : Int) (by omega)
  unfold hB
  split
  · rw [ByteArray.size_append]; have : (ByteArray.mk #[58]).size = 1 := rfl; omega
  · rw [ByteArray.size_append, ByteArray.size_append]; have : (ByteArray.mk #[58]).size = 1 := rfl; have : (ByteArray.mk #[32]).size = 1 := rfl; omega
theorem get_list (s : ByteArray) (k : Nat) (hk : k < s.size) (c : UInt8) (h : s.data.toList[k]? = some c) : s[k]'hk = c := by
  have h2 : s.data.toList[k]? = some (s.data[k]'hk) := by rw [Array.getElem?_toList]; exact Array.getElem?_eq_getElem hk
  rw [h2] at h
  injection h

set_option maxRecDepth 100000 in
set_option maxHeartbeats 8000000 in
theorem rparse_any (w : World) (s : ByteArray) (hs : s.size ≤ 100000) :
    Calls Tryd.prog 28 #[.string s] w fun e w' => e = .returned (rparseV s) ∧ Below w.heap.size w w' := by
  obtain ⟨W1, W2, e1, e2, v1, v2, bl⟩ : ∃ W1 W2, (Instr.alloc 23 true (.tuple #[])).run Tryd.prog w = .ok (.pointer (some ⟨w.heap.size, 0, none⟩)) W1 ∧ (Instr.alloc 23 true (.tuple #[])).run Tryd.prog W1 = .ok (.pointer (some ⟨w.heap.size + 1, 0, none⟩)) W2 ∧
      VAt 23 W2 w.heap.size zs ∧ VAt 23 W2 (w.heap.size + 1) zs ∧ Below w.heap.size w W2 := by
    obtain ⟨W1, e1, b1, v1, s1⟩ := boxed z23 w
    obtain ⟨W2, e2, b2, v2, s2⟩ := boxed z23 W1
    rw [s1] at e2 v2
    exact ⟨W1, W2, e1, e2, v1.step b2, v2, b1.trans (b2.mono b1.size)⟩
  have E1 := Lib.hid e1
  have E2 := Lib.hid e2
  have V1 := Lib.hid v1
  have V2 := Lib.hid v2
  have BL := Lib.hid bl
  obtain ⟨b0, hb0⟩ : ∃ b, w.heap.size = b := ⟨_, rfl⟩
  obtain ⟨b1, hb1⟩ : ∃ b, b0 + 1 = b := ⟨_, rfl⟩
  rw [hb0] at E1 E2 V1 V2
  rw [hb1] at E2 V2
  have HB := Lib.hid (show w.heap.size = b0 ∧ b0 ≠ b1 ∧ b0 ≤ b1 from ⟨hb0, by omega, by omega⟩)
  have BZ := Lib.hid (fun W => build_va23 W)
  have ST0 := Lib.hid (fun W l (hl : l.length = 64) (h : VAt 23 W b0 zs) => store_va v23 W b0 (va zs) (by rw [va_size, zs_len]) l hl h)
  have LD1 := Lib.hid (fun W l (hl : l.length = 64) (h : VAt 23 W b1 l) => load_va v23 W b1 l hl h)
  have HZL := Lib.hid zs_len
  clear e1 e2 v1 v2 bl hb0 hb1
  obtain ⟨rest0, hr0, hm0, hst0⟩ : ∃ rest, RFn 64 0 rest zs = parseR s ∧ (0 < s.size ↔ rest ≠ []) ∧ (rest ≠ [] → ST s 0 rest) := by
    by_cases h0 : s.size = 0
    · exact ⟨[], by unfold parseR; rw [if_pos h0]; rfl, ⟨fun h => by omega, fun h => absurd rfl h⟩, fun h => absurd rfl h⟩
    · exact ⟨_, (parseR_RFn s h0).symm, (ST.start s).more h0, fun _ => ST.start s⟩
  have H0 := Lib.hid (And.intro hr0 (And.intro hm0 hst0))
  clear hr0 hm0 hst0
  have HS := Lib.hid hs
  have hs63 : (s.size : Int) ≤ 9223372036854775807 := by omega
  unfold vw at *
  generalize hz : zs = z at *
  have HZE := Lib.hid hz
  clear hz
  go_enter Tryd.func28, Tryd.ntmps28
  go_wp2_with (first | refine wpList_alloc_arr rfl 23 rfl _ _ E1.out ?_ | refine wpList_alloc_arr rfl 23 rfl _ _ E2.out ?_)
  clear E1 E2
  go_loopw [5, 6] (fun pv iv wr => ∃ (i p : Nat) (rest : List (List UInt8)) (cur : List Int), pv = .int .i64 p ∧ iv = .int .i64 i ∧ i ≤ 64 ∧ p ≤ s.size ∧ Hid (cur.length = 64 ∧ VAt 23 wr b0 z ∧ VAt 23 wr b1 cur ∧ Below w.heap.size w wr ∧ (p < s.size ↔ rest ≠ []) ∧ (rest ≠ [] → ST s p rest) ∧ RFn (64 - i) i rest cur = parseR s)) (fun _ iv _ => 64 - (intOf iv).toNat)
  case atStart => exact ⟨0, 0, rest0, z, rfl, rfl, by omega, by omega, Lib.hid ⟨HZL.out, V1.out, V2.out, BL.out, H0.out.2.1, H0.out.2.2, H0.out.1⟩⟩
  case round =>
    obtain ⟨i, p, rest, cur, rfl, rfl, hi, hp, hI⟩ := hrel
    clear V1 V2 BL H0
    by_cases hlt : i < 64 ∧ p < s.size
    · obtain ⟨hi64, hps⟩ := hlt
      cases rest with
      | nil => exact absurd rfl (hI.out.2.2.2.2.1.1 hps)
      | cons x r =>
        have hST := hI.out.2.2.2.2.2.1 (by simp)
        have hRF := hI.out.2.2.2.2.2.2
        have DG := Lib.hid (fun W => rdig_any W (i : Int) (by omega))
        obtain ⟨k, hk⟩ : ∃ k, 64 - i = k + 1 := ⟨63 - i, by omega⟩
        have hk2 : 64 - (i + 1) = k := by omega
        rw [hk] at hRF
        obtain ⟨h, hh⟩ : ∃ h, hB p i = h := ⟨_, rfl⟩
        have hhs := hB_small p i hi64
        have hd1 := decS_size (i : Int) (by omega)
        rw [hh] at hhs
        have HH := Lib.hid hh
        have H30 := Lib.hid hhs
        have c1 : (ByteArray.mk #[58]).size = 1 := rfl
        have c2 : (ByteArray.mk #[32]).size = 1 := rfl
        go_upto_region 6 with (fail)
        go_cut [7] from 11 to 87 (fun hv wx => hv = .string (decS (i : Int) ++ ⟨#[58]⟩) ∧ Below wr.heap.size wr wx)
        case first =>
          generalize decS (i : Int) = di at *
          clear hST hRF hI
          go_wp2_with fail
          refine (DG.out _).mono ?_
          rintro e w3 ⟨rfl, hb3⟩
          go_wp2_with fail
          go_meet
          exact ⟨rfl, hb3⟩
        case rest =>
          obtain ⟨rfl, hbw⟩ := hcut
          have HI := Lib.hid (show cur.length = 64 ∧ VAt 23 wc b0 z ∧ VAt 23 wc b1 cur ∧ Below w.heap.size w wc from ⟨hI.out.1, hI.out.2.1.step hbw, hI.out.2.2.1.step hbw, hI.out.2.2.2.1.trans (hbw.mono hI.out.2.2.2.1.size)⟩)
          have HST := Lib.hid hST
          have HRF := Lib.hid hRF
          clear hbw hI DG hST hRF
          obtain ⟨wd, hwd⟩ : ∃ y, wc = y := ⟨_, rfl⟩
          rw [hwd] at HI ⊢
          clear hwd wc
          go_upto_region 7 with (fail)
          go_upto_if 25 with (fail)
          go_cut [7] from 11 to 87 (fun hv wx => hv = .string h ∧ wx = wd)
          case first =>
            have hhe := HH.out
            unfold hB at hhe
            generalize decS (i : Int) = di at *
            clear HST HRF
            by_cases hp0 : p = 0
            · rw [if_pos hp0] at hhe
              have hpz : ¬ (0 : Int) < (p : Int) := by omega
              clear hps hp0
              go_wp2_with fail
              go_meet
              first | exact ⟨rfl, rfl⟩ | exact ⟨by rw [hhe], rfl⟩
            · rw [if_neg hp0] at hhe
              have hpz : (0 : Int) < (p : Int) := by omega
              go_wp2_with fail
              go_meet
              first | exact ⟨rfl, rfl⟩ | exact ⟨by rw [hhe], rfl⟩
          case rest =>
            obtain ⟨rfl, hwx⟩ := hcut
            have hwx := hwx.symm
            subst hwx
            cases hst : strip (hd i) x with
            | none =>
              have hmi := HST.out.miss hst
              rw [HH.out] at hmi
              have HN := Lib.hid (show RFn (64 - (i + 1)) (i + 1) (x :: r) cur = parseR s by
                rw [hk2, ← HRF.out]
                show _ = RFn (k + 1) i (x :: r) cur
                conv => rhs; unfold RFn
                rw [hst])
              clear hst
              by_cases hz : (s.size : Int) - (p : Int) < (h.size : Int)
              · clear hmi
                go_wp2_with fail
                go_roundw
                case rel => exact ⟨i + 1, p, x :: r, cur, rfl, by go_num, by omega, hp, Lib.hid ⟨HI.out.1, HI.out.2.1, HI.out.2.2.1, HI.out.2.2.2, ⟨fun _ => by simp, fun _ => hps⟩, fun _ => HST.out, HN.out⟩⟩
                case measure => simp [intOf]; omega
              · have hle : p + h.size ≤ s.size := by omega
                have t1 := tln_ne (hmi hle)
                have t2 := tl_ne (hmi hle)
                have hle1 : (p : Int) + (h.size : Int) ≤ (s.size : Int) := by omega
                clear hmi
                go_wp2_with fail
                go_roundw
                case rel => exact ⟨i + 1, p, x :: r, cur, rfl, by go_num, by omega, hp, Lib.hid ⟨HI.out.1, HI.out.2.1, HI.out.2.2.1, HI.out.2.2.2, ⟨fun _ => by simp, fun _ => hps⟩, fun _ => HST.out, HN.out⟩⟩
                case measure => simp [intOf]; omega
            | some y =>
              obtain ⟨ht1, ht2, ht3, ht4, ht5, ht6⟩ := HST.out.hit hst
              rw [HH.out] at ht1 ht2 ht3 ht4 ht5 ht6
              obtain ⟨m, hm⟩ : ∃ m, p + h.size = m := ⟨_, rfl⟩
              rw [hm] at ht1 ht2 ht3 ht4 ht5 ht6
              have hmi : (p : Int) + (h.size : Int) = (m : Int) := by omega
              have t1 := tln_eq ht2
              have t2 := tl_eq ht2
              have hz : ¬ (s.size : Int) - (p : Int) < (h.size : Int) := by omega
              have hms : p + h.size ≤ s.size := by omega
              have HRN := Lib.hid (show ∀ n, numOf y = some n → ¬ (n < 1 ∨ 4294967296 < n) → RFn (64 - (i + 1)) (i + 1) r (cur.set i (n : Int)) = parseR s from fun n hn hb => by
                rw [hk2, ← HRF.out]
                show _ = RFn (k + 1) i (x :: r) cur
                conv => rhs; unfold RFn
                rw [hst]
                simp only
                rw [hn]
                simp only
                rw [if_neg hb])
              have HRB := Lib.hid (show ∀ n, numOf y = some n → (n < 1 ∨ 4294967296 < n) → parseR s = none from fun n hn hb => by
                rw [← HRF.out]
                show RFn (k + 1) i (x :: r) cur = none
                unfold RFn
                rw [hst]
                simp only
                rw [hn]
                simp only
                rw [if_pos hb])
              have HRZ := Lib.hid (show numOf y = none → parseR s = none from fun hn => by
                rw [← HRF.out]
                show RFn (k + 1) i (x :: r) cur = none
                unfold RFn
                rw [hst]
                simp only
                rw [hn])
              have HT := Lib.hid (And.intro ht3 (And.intro ht4 (And.intro ht5 ht6)))
              have hm1 : m + y.length ≤ s.size := ht1
              have HMM := Lib.hid hm
              clear ht2 ht3 ht4 ht5 ht6 hst ht1
              have hin : i < 64 := hi64
              go_upto_region 10 with (fail)
              clear t1 t2 hz hm
              go_upto_block 2 with (fail)
              go_cut [8] from 11 to 87 (fun ev wx => ev = .int .i64 ((m + y.length : Nat) : Int) ∧ wx = wd)
              case first =>
                clear HRN HRB HRZ HST HRF HI
                go_wp2_with fail
                go_loopw [8] (fun ev wq => ∃ e : Nat, ev = .int .i64 e ∧ m ≤ e ∧ e ≤ m + y.length ∧ wq = wd) (fun ev _ => s.size - (intOf ev).toNat)
                case atStart => exact ⟨m, rfl, Nat.le_refl _, by omega, rfl⟩
                case round =>
                  obtain ⟨e, rfl, he1, he2, rfl⟩ := hrel
                  by_cases hel : e < m + y.length
                  · obtain ⟨c, hc, hcn⟩ := HT.out.2.1 (e - m) (by omega)
                    rw [show m + (e - m) = e by omega] at hc
                    have hes : e < s.size := by omega
                    have hg := get_list s e hes c hc
                    have t3 : (((s[e]'hes).toNat : Int) != 32) = true := neb_ _ _ (fun h => hcn (by rw [hg] at h; exact UInt8.toNat_inj.1 (by have : (32 : UInt8).toNat = 32 := rfl; omega)))
                    clear hc hg hcn
                    go_wp2_with fail
                    go_roundw
                    case rel => exact ⟨e + 1, by go_num, by omega, by omega, by first | rfl | trivial⟩
                    case measure => simp [intOf]; omega
                  · have hee : e = m + y.length := by omega
                    have HEE := Lib.hid hee
                    rcases HT.out.2.2.1 with h5 | h5
                    · have hes : ¬ (e : Int) < (s.size : Int) := by omega
                      clear hee hel h5
                      go_wp2_with fail
                      go_meet
                      exact ⟨by rw [HEE.out], rfl⟩
                    · rw [← hee] at h5
                      have hes : e < s.size := by rw [← size_list]; exact (List.getElem?_eq_some_iff.1 h5).1
                      have hg := get_list s e hes 32 h5
                      have t3 : (((s[e]'hes).toNat : Int) != 32) = false := eqb_ _ _ (by rw [hg]; rfl)
                      clear hee hel h5 hg
                      go_wp2_with fail
                      go_meet
                      exact ⟨by rw [HEE.out], rfl⟩
              case rest =>
                obtain ⟨rfl, hwx⟩ := hcut
                have hwx := hwx.symm
                subst hwx
                obtain ⟨ee, hee⟩ : ∃ e, m + y.length = e := ⟨_, rfl⟩
                have HT2 := Lib.hid (show (s.extract m ee).data.toList = y ∧ ST s ee r from ⟨by rw [← hee]; exact HT.out.1, by rw [← hee]; exact HT.out.2.2.2⟩)
                rw [hee] at hm1 ⊢
                have hme : m ≤ ee := by omega
                have RN := Lib.hid (fun W => rnumber_any W (s.extract m ee) (by rw [ByteArray.size_extract]; omega))
                rw [HT2.out.1] at RN
                clear HT hee
                unfold numV at RN
                have hmh : (p : Int) + (h.size : Int) = (m : Int) := by have := HMM.out; omega
                cases hn : numOf y with
                | none =>
                  have HE := Lib.hid (show rparseV s = .tuple #[.agg (va z), .bool false] by unfold rparseV; rw [HRZ.out hn, ← HZE.out]; rfl)
                  rw [hn] at RN
                  clear hn
                  go_wp2_with fail
                  refine (RN.out _).mono ?_
                  rintro e w5 ⟨rfl, hb5⟩
                  have HI5 := Lib.hid (show cur.length = 64 ∧ VAt 23 w5 b0 z ∧ VAt 23 w5 b1 cur ∧ Below w.heap.size w w5 from ⟨HI.out.1, HI.out.2.1.step hb5, HI.out.2.2.1.step hb5, HI.out.2.2.2.trans (hb5.mono HI.out.2.2.2.size)⟩)
                  clear hb5
                  go_wp2_with (first | refine wpList_build_arr rfl 23 rfl (.agg (va z)) (BZ.out _) ?_ | refine wpList_store_arr rfl (.tmp 2) (.tmp 83) 23 rfl (.pointer (some ⟨b0, 0, none⟩)) (.agg (va z)) rfl rfl _ (ST0.out _ _ HZL.out HI5.out.2.1) ?_)
                  exact bodyPost_ret (ret_va2 (b := b0) rfl v23 HZL.out rfl rfl (setRow_heap _ _ _ _ _ _ HI5.out.2.1)) rfl ⟨by rw [HE.out]; rfl, below_setRow HI5.out.2.2.2 (by have := HB.out; omega) _⟩
                | some n =>
                  rw [hn] at RN
                  by_cases hbad : n < 1 ∨ 4294967296 < n
                  · have HE := Lib.hid (show rparseV s = .tuple #[.agg (va z), .bool false] by unfold rparseV; rw [HRB.out n hn hbad, ← HZE.out]; rfl)
                    clear hn
                    have hb2 : (n : Int) < 1 ∨ (¬ (n : Int) < 1 ∧ 4294967296 < (n : Int)) := by omega
                    clear hbad
                    rcases hb2 with hb2 | ⟨hb2, hb3⟩
                    all_goals
                      go_wp2_with fail
                      refine (RN.out _).mono ?_
                      rintro e w5 ⟨rfl, hb5⟩
                      have HI5 := Lib.hid (show cur.length = 64 ∧ VAt 23 w5 b0 z ∧ VAt 23 w5 b1 cur ∧ Below w.heap.size w w5 from ⟨HI.out.1, HI.out.2.1.step hb5, HI.out.2.2.1.step hb5, HI.out.2.2.2.trans (hb5.mono HI.out.2.2.2.size)⟩)
                      clear hb5
                      go_wp2_with (first | refine wpList_build_arr rfl 23 rfl (.agg (va z)) (BZ.out _) ?_ | refine wpList_store_arr rfl (.tmp 2) (.tmp 83) 23 rfl (.pointer (some ⟨b0, 0, none⟩)) (.agg (va z)) rfl rfl _ (ST0.out _ _ HZL.out HI5.out.2.1) ?_)
                      exact bodyPost_ret (ret_va2 (b := b0) rfl v23 HZL.out rfl rfl (setRow_heap _ _ _ _ _ _ HI5.out.2.1)) rfl ⟨by rw [HE.out]; rfl, below_setRow HI5.out.2.2.2 (by have := HB.out; omega) _⟩
                  · have HG := Lib.hid (HRN.out n hn hbad)
                    have hb2 : ¬ (n : Int) < 1 := by omega
                    have hb3 : ¬ 4294967296 < (n : Int) := by omega
                    clear hn hbad
                    go_wp2_with fail
                    refine (RN.out _).mono ?_
                    rintro e w5 ⟨rfl, hb5⟩
                    have HI5 := Lib.hid (show cur.length = 64 ∧ VAt 23 w5 b0 z ∧ VAt 23 w5 b1 cur ∧ Below w.heap.size w w5 from ⟨HI.out.1, HI.out.2.1.step hb5, HI.out.2.2.1.step hb5, HI.out.2.2.2.trans (hb5.mono HI.out.2.2.2.size)⟩)
                    clear hb5
                    obtain ⟨xo, hxo⟩ := va_len cur HI.out.1 i hin
                    have dd := cell_va HI5.out.2.2.1 hxo
                    have df := frozen_of_row _ b1 i _ _ HI5.out.2.2.1
                    have HZ := Lib.hid (show VAt 23 (w5.setCell ⟨b1, i, none⟩ (.int .i64 (n : Int))) b0 z ∧ VAt 23 (w5.setCell ⟨b1, i, none⟩ (.int .i64 (n : Int))) b1 (cur.set i (n : Int)) ∧ Below w.heap.size w (w5.setCell ⟨b1, i, none⟩ (.int .i64 (n : Int))) from
                      ⟨(Below.heap_setCell _ _ _ _ HB.out.2.1).trans HI5.out.2.1, set_va HI5.out.2.2.1 i _, HI5.out.2.2.2.setCell (p := ⟨b1, i, none⟩) (by have := HB.out; show w.heap.size ≤ b1; omega) _⟩)
                    have HMO := Lib.hid (HT2.out.2.more (by omega))
                    clear hxo
                    go_wp2_with fail
                    go_roundw
                    case rel => exact ⟨i + 1, ee, r, cur.set i (n : Int), rfl, by go_num, by omega, hm1, Lib.hid ⟨by rw [List.length_set]; exact HI.out.1, HZ.out.1, HZ.out.2.1, HZ.out.2.2, HMO.out, fun _ => HT2.out.2, HG.out⟩⟩
                    case measure => simp [intOf]; omega
    · have HI := Lib.hid hI.out
      by_cases hps : p < s.size
      · have hi64 : i = 64 := by omega
        subst hi64
        have HE := Lib.hid (show rparseV s = .tuple #[.agg (va z), .bool false] by
          unfold rparseV
          rw [← HI.out.2.2.2.2.2.2]
          have hr : rest ≠ [] := HI.out.2.2.2.2.1.1 hps
          show (match (if rest = [] then some cur else none) with | some l => _ | none => _) = _
          rw [if_neg hr, ← HZE.out]; rfl)
        have hps2 : (p : Int) < (s.size : Int) := by omega
        have HI5 := Lib.hid (show cur.length = 64 ∧ VAt 23 wr b0 z ∧ VAt 23 wr b1 cur ∧ Below w.heap.size w wr from ⟨HI.out.1, HI.out.2.1, HI.out.2.2.1, HI.out.2.2.2.1⟩)
        clear hI HI hlt
        go_wp2_with (first | refine wpList_build_arr rfl 23 rfl (.agg (va z)) (BZ.out _) ?_ | refine wpList_store_arr rfl (.tmp 2) (.tmp 92) 23 rfl (.pointer (some ⟨b0, 0, none⟩)) (.agg (va z)) rfl rfl _ (ST0.out _ _ HZL.out HI5.out.2.1) ?_)
        exact bodyPost_ret (ret_va2 (b := b0) rfl v23 HZL.out rfl rfl (setRow_heap _ _ _ _ _ _ HI5.out.2.1)) rfl ⟨by rw [HE.out]; rfl, below_setRow HI5.out.2.2.2 (by have := HB.out; omega) _⟩
      · have HE := Lib.hid (show rparseV s = .tuple #[.agg (va cur), .bool true] by
          unfold rparseV
          rw [← HI.out.2.2.2.2.2.2]
          have hr : rest = [] := by
            cases rest with
            | nil => rfl
            | cons a b => exact absurd (HI.out.2.2.2.2.1.2 (by simp)) hps
          rw [hr, RFn_nil]; rfl)
        have hps2 : ¬ (p : Int) < (s.size : Int) := by omega
        have HI5 := Lib.hid (show cur.length = 64 ∧ VAt 23 wr b0 z ∧ VAt 23 wr b1 cur ∧ Below w.heap.size w wr from ⟨HI.out.1, HI.out.2.1, HI.out.2.2.1, HI.out.2.2.2.1⟩)
        clear hI HI hlt
        by_cases hi64 : i < 64
        all_goals
          go_upto_region 20 with (fail)
          go_wp2_with (first | refine wpList_load_arrG rfl (.tmp 4) 23 rfl (.pointer (some ⟨b1, 0, none⟩)) (.agg (va cur)) rfl (LD1.out _ _ HI5.out.1 HI5.out.2.2.1) ?_ | refine wpList_store_arr rfl (.tmp 2) (.tmp 93) 23 rfl (.pointer (some ⟨b0, 0, none⟩)) (.agg (va cur)) rfl rfl _ (ST0.out _ _ HI5.out.1 HI5.out.2.1) ?_)
          exact bodyPost_ret (ret_va2 (b := b0) rfl v23 HI5.out.1 rfl rfl (setRow_heap _ _ _ _ _ _ HI5.out.2.1)) rfl ⟨by rw [HE.out]; rfl, below_setRow HI5.out.2.2.2 (by have := HB.out; omega) _⟩
end Go.Proofs.YtiljmkglmanddaaDoor
