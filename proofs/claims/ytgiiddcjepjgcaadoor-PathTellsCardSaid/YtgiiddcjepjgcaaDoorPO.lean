/- PathTells' law. -/
import Derived.Test.YtgiiddcjepjgcaaDoorPM
set_option linter.unusedVariables false
namespace Go.Proofs.YtgiiddcjepjgcaaDoor
open Go.RowKit

set_option maxRecDepth 100000 in
set_option maxHeartbeats 6400000 in
theorem tells_law (W : World) (m0 : Int) (hm : W.cell? ⟨0, 0, none⟩ = some (.int .i64 m0)) (v0 v1 : Value) (l m : List ByteArray) (h0 : SLies W v0 l) (h1 : SLies W v1 m) :
    Calls Tryd.prog 3 #[v0, v1] W fun e w' => e = .returned (.bool true) ∧ Below W.heap.size W w' := by
  have AW := Lib.hid (awake_any W m0 hm)
  have L0 : Calls Tryd.prog 5 #[v0, .int .i64 300] W fun e w' => e = .returned (.bool (longB l 300)) ∧ W = w' := long_any W v0 l 300 (by omega) h0
  have L1 : Calls Tryd.prog 5 #[v1, .int .i64 300] W fun e w' => e = .returned (.bool (longB m 300)) ∧ W = w' := long_any W v1 m 300 (by omega) h1
  cases hq0 : longB l 300 with
  | true =>
    rw [hq0] at L0
    have LL := Lib.hid L0
    clear L0 L1 hm
    go_enter Tryd.func3, Tryd.ntmps3
    go_wp2_with fail
    refine LL.out.mono ?_
    rintro e w1 ⟨rfl, rfl⟩
    go_wp2_with fail
    refine AW.out.mono ?_
    rintro e w1 ⟨rfl, hb⟩
    have HB := Lib.hid hb
    clear hb
    go_wp2
    go_returns
    exact ⟨rfl, HB.out⟩
  | false =>
    rw [hq0] at L0
    cases hq1 : longB m 300 with
    | true =>
      rw [hq1] at L1
      have LL := Lib.hid L0
      have LM := Lib.hid L1
      clear L0 L1 hm
      go_enter Tryd.func3, Tryd.ntmps3
      go_wp2_with fail
      refine LL.out.mono ?_
      rintro e w1 ⟨rfl, rfl⟩
      go_wp2_with fail
      refine LM.out.mono ?_
      rintro e w1 ⟨rfl, rfl⟩
      go_wp2_with fail
      refine AW.out.mono ?_
      rintro e w1 ⟨rfl, hb⟩
      have HB := Lib.hid hb
      clear hb
      go_wp2
      go_returns
      exact ⟨rfl, HB.out⟩
    | false =>
      rw [hq1] at L1
      have LL := Lib.hid L0
      have LM := Lib.hid L1
      have F0 := Lib.hid (longB_false hq0)
      have F1 := Lib.hid (longB_false hq1)
      have HM := Lib.hid hm
      have H0 := Lib.hid h0
      have H1 := Lib.hid h1
      have hLT : 0 < W.heap.size := by
        rcases Nat.eq_zero_or_pos W.heap.size with q | q
        · rw [World.cell?, Array.getElem?_eq_none (by show W.heap.size ≤ 0; omega)] at hm
          simp at hm
        · exact q
      have AX := Lib.hid (fun w1 (hb : Below W.heap.size W w1) => awake_any w1 m0 ((hb.cell (p := ⟨0, 0, none⟩) hLT).trans HM.out))
      have T1 := Lib.hid (text_any W v0 l h0 F0.out.1 F0.out.2)
      have T2 := Lib.hid (fun w1 (hb : Below W.heap.size W w1) => rtext_any w1 v0 l (H0.out.step hb) F0.out.1 F0.out.2)
      have I1 := Lib.hid (fun w1 (hb : Below W.heap.size W w1) => within_any w1 v0 v1 l m (H0.out.step hb) (H1.out.step hb))
      have I2 := Lib.hid (fun w1 (hb : Below W.heap.size W w1) => rwithin_any w1 v0 v1 l m (H0.out.step hb) (H1.out.step hb))
      have S1 := Lib.hid (fun w1 (hb : Below W.heap.size W w1) => same_any w1 v0 v1 l m (H0.out.step hb) (H1.out.step hb))
      have S2 := Lib.hid (fun w1 (hb : Below W.heap.size W w1) => rsame_gen w1 v0 v1 l m (H0.out.step hb) (H1.out.step hb) (eqB l m) (eqB_iff l m))
      have PT := Lib.hid (fun w1 (hb : Below W.heap.size W w1) (hne : l ≠ []) (hn : ∀ p ∈ l, ckI p = 0) (hz : (tx l).size ≤ 4096) => parse_tx w1 l m0 ((hb.cell (p := ⟨0, 0, none⟩) hLT).trans HM.out) F0.out.1 F0.out.2 hne hn hz)
      have hsz := tx_size l F0.out.1 F0.out.2
      have hl := h0.len
      clear L0 L1 hq0 hq1 hm hLT
      obtain ⟨a0, c0, rfl, hcl, -⟩ := h0
      obtain ⟨a1, c1, rfl, -⟩ := h1
      generalize tx l = s at *
      have ts := tl_eq (rfl : s = s)
      have tb1 : ∀ b : Bool, (b == b) = true := fun b => by cases b <;> rfl
      have tb2 : ∀ b : Bool, (b != b) = false := fun b => by cases b <;> rfl
      generalize wiB l m = bi at *
      generalize eqB l m = be at *
      go_enter Tryd.func3, Tryd.ntmps3
      go_wp2_with fail
      refine LL.out.mono ?_
      rintro e w1 ⟨rfl, rfl⟩
      go_wp2_with fail
      refine LM.out.mono ?_
      rintro e w1 ⟨rfl, rfl⟩
      clear LL LM
      go_wp2_with fail
      refine T1.out.mono ?_
      rintro e w1 ⟨rfl, hb⟩
      have B1 := Lib.hid hb
      clear hb T1
      go_wp2_with fail
      refine (T2.out _ B1.out).mono ?_
      rintro e w2 ⟨rfl, rfl⟩
      clear T2
      go_wp2_with fail
      refine (I1.out _ B1.out).mono ?_
      rintro e w2 ⟨rfl, hb⟩
      have B2 := Lib.hid (B1.out.trans (hb.mono B1.out.size))
      clear hb I1 B1
      go_wp2_with fail
      refine (I2.out _ B2.out).mono ?_
      rintro e w3 ⟨rfl, hb⟩
      have B3 := Lib.hid (B2.out.trans (hb.mono B2.out.size))
      clear hb I2 B2
      go_wp2_with fail
      refine (S1.out _ B3.out).mono ?_
      rintro e w4 ⟨rfl, hb⟩
      have B4 := Lib.hid (B3.out.trans (hb.mono B3.out.size))
      clear hb S1 B3
      go_wp2_with fail
      refine (S2.out _ B4.out).mono ?_
      rintro e w5 ⟨rfl, hb⟩
      have B5 := Lib.hid (B4.out.trans (hb.mono B4.out.size))
      clear hb S2 B4
      by_cases hl0 : l.length = 0
      · have e : l = [] := List.eq_nil_of_length_eq_zero hl0
        subst e
        have U := Lib.hid (up_none w5 _ (H0.out.step B5.out))
        clear hl0
        go_wp2_with fail
        refine U.out.mono ?_
        rintro e w6 ⟨rfl, rfl⟩
        clear U
        go_wp2_with fail
        refine (AX.out _ B5.out).mono ?_
        rintro e w7 ⟨rfl, hb⟩
        have B7 := Lib.hid (B5.out.trans (hb.mono B5.out.size))
        clear hb
        go_wp2
        go_returns
        exact ⟨rfl, B7.out⟩
      · obtain ⟨k, hk⟩ : ∃ k, l.length = k + 1 := ⟨l.length - 1, by omega⟩
        have hk1 : k < l.length := by omega
        obtain ⟨g, o, x, rfl, hx, hg, hc⟩ := H0.out.at' hk1
        have U := Lib.hid (up_any w5 _ l (H0.out.step B5.out) (by have := F0.out.1; omega) k hk x hx)
        have t0 := bneb_ (l.length : Int) 0 (by omega)
        have HC := Lib.hid (fun w1 (hb : Below W.heap.size W w1) => show w1.cell? ⟨g, o + k, none⟩ = some (.string x) from (hb.cell (p := ⟨g, o + k, none⟩) hg).trans hc)
        have HNE := Lib.hid (show l ≠ [] from fun e => hl0 (by rw [e]; rfl))
        have WU := Lib.hid (wi_up l k hk)
        have hn0 : (l.length : Int) ≠ 0 := by omega
        have HK := Lib.hid hk
        clear hx hg hc hl0 hk
        go_wp2_with fail
        refine U.out.mono ?_
        rintro e w6 ⟨vu, rfl, hu, hb⟩
        have B6 := Lib.hid (B5.out.trans (hb.mono B5.out.size))
        have HU := Lib.hid hu
        clear hb U hu B5
        have SU := Lib.hid (rsame_gen w6 vu _ (l.take k) (l.take k) HU.out ((H0.out.step B6.out).take k (by omega)) true ⟨fun _ => rfl, fun _ => rfl⟩)
        have sl := slice_pre (some ⟨g, o, none⟩) l.length c0 k (by omega)
        have e2 : IntKind.i64.wrap ((l.length : Int) - 1) = (k : Int) := by rw [IntKind.wrap_i64]; have := HK.out; omega
        have e3 : wrap64 ((l.length : Int) - 1) = (k : Int) := by unfold wrap64; have := HK.out; omega
        have h0 : (0 : Int) ≤ (k : Int) := by omega
        have h1 : (k : Int) < (l.length : Int) := by omega
        go_wp2_with fail
        refine SU.out.mono ?_
        rintro e w7 ⟨rfl, hb⟩
        have B7 := Lib.hid (B6.out.trans (hb.mono B6.out.size))
        have WI := Lib.hid (within_any w7 vu _ (l.take k) l (HU.out.step hb) (H0.out.step B7.out))
        rw [WU.out] at WI
        have hcx := HC.out _ B7.out
        have tx1 := tl_eq (rfl : x = x)
        clear hb SU B6
        go_wp2_with fail
        refine WI.out.mono ?_
        rintro e w8 ⟨rfl, hb⟩
        have B8 := Lib.hid (B7.out.trans (hb.mono B7.out.size))
        clear hb WI B7 hcx tx1 e2 e3 sl t0 hn0 h0 h1 tb1 tb2 ts HU WU
        have DZ := Lib.hid (show decide ((s.size : Int) ≤ 4096) = rtB l s.size 0 from by
          unfold rtB
          simp
          omega)
        have LOOPD := Lib.hid (fun (W' : World) => (trivial : True))
        clear LOOPD
        go_upto_region 12 with (fail)
        rw [DZ.out]
        go_wp2_with fail
        go_loop [8, 9] (fun rv iv => ∃ i : Nat, iv = .int .i64 i ∧ i ≤ l.length ∧ rv = .bool (rtB l s.size i)) (fun _ iv => l.length - (intOf iv).toNat)
        case atStart => exact ⟨0, rfl, Nat.zero_le _, rfl⟩
        case round =>
          obtain ⟨i, rfl, hi, rfl⟩ := hrel
          by_cases hlt : i < l.length
          · obtain ⟨g', o', y, hgo, hy, hg', hc'⟩ := H0.out.at' hlt
            injection hgo with hgo
            injection hgo with hg1 ho1
            subst hg1 ho1
            have hcy : w8.cell? ⟨g, o + i, none⟩ = some (.string y) := (B8.out.cell (p := ⟨g, o + i, none⟩) hg').trans hc'
            have RC := Lib.hid (rcheck_any w8 y (by have := F0.out.2 y (List.mem_of_getElem? hy); omega) (ckI y) (ckI_is y))
            have ST := Lib.hid (rtB_step (z := s.size) hy)
            clear hy hg' hc'
            cases hr : rtB l s.size i with
            | false =>
              have E := Lib.hid (show rtB l s.size (i + 1) = false from by rw [ST.out, hr]; rfl)
              clear hr hcy
              go_wp2_with fail
              go_round
              case rel => exact ⟨i + 1, by go_num, by omega, by rw [E.out]⟩
              case measure => simp [intOf]; omega
            | true =>
              by_cases hq : ckI y = 0
              · have E := Lib.hid (show rtB l s.size (i + 1) = true from by rw [ST.out, hr, hq]; rfl)
                rw [hq] at RC
                clear hr hq
                go_wp2_with fail
                refine RC.out.mono ?_
                rintro e w9 ⟨rfl, rfl⟩
                go_wp2_with fail
                go_round
                case rel => exact ⟨i + 1, by go_num, by omega, by rw [E.out]⟩
                case measure => simp [intOf]; omega
              · have E := Lib.hid (show rtB l s.size (i + 1) = false from by
                  rw [ST.out, hr]
                  simpa using hq)
                have t1 := bneb_ (ckI y) 0 hq
                clear hr
                go_wp2_with fail
                refine RC.out.mono ?_
                rintro e w9 ⟨rfl, rfl⟩
                go_wp2_with fail
                go_round
                case rel => exact ⟨i + 1, by go_num, by omega, by rw [E.out]⟩
                case measure => simp [intOf]; omega
          · have hie : i = l.length := by omega
            cases hr : rtB l s.size i with
            | false =>
              clear hr hie
              go_wp2_with fail
              refine (AX.out _ B8.out).mono ?_
              rintro e w9 ⟨rfl, hb⟩
              have B9 := Lib.hid (B8.out.trans (hb.mono B8.out.size))
              clear hb
              go_wp2
              go_returns
              exact ⟨rfl, B9.out⟩
            | true =>
              rw [hie] at hr
              have ALL := rtB_all hr
              have PP := Lib.hid (PT.out _ B8.out HNE.out ALL.2 ALL.1)
              clear hr ALL hie
              go_wp2_with fail
              refine PP.out.mono ?_
              rintro e w9 ⟨vp, rfl, hv, hb⟩
              have B9 := Lib.hid (B8.out.trans (hb.mono B8.out.size))
              have SP := Lib.hid (rsame_any w9 vp _ l hv (H0.out.step B9.out))
              clear hb hv PP
              go_wp2_with fail
              refine SP.out.mono ?_
              rintro e w10 ⟨rfl, hb⟩
              have B10 := Lib.hid (B9.out.trans (hb.mono B9.out.size))
              clear hb SP
              go_wp2_with fail
              refine (AX.out _ B10.out).mono ?_
              rintro e w11 ⟨rfl, hb⟩
              have B11 := Lib.hid (B10.out.trans (hb.mono B10.out.size))
              clear hb
              go_wp2
              go_returns
              exact ⟨rfl, B11.out⟩
end Go.Proofs.YtgiiddcjepjgcaaDoor
