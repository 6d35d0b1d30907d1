/- UniqueStays' law. Made by genuz.py. -/
import Derived.Test.YtkkeemhbokpngaaDoorUV
import Derived.Test.YtkkeemhbokpngaaDoorUX
import Derived.Deep.CutBlock
set_option linter.unusedVariables false
namespace Go.Proofs.YtkkeemhbokpngaaDoor
open Go.RowKit

set_option maxRecDepth 100000 in
set_option maxHeartbeats 12800000 in
theorem stays_law (w : World) (ht : Tab w) (v t : Value) (raw taken : List ByteArray) (h : SLies w v raw) (hm : SLies w t taken) (s : ByteArray) (at_ : Int) (hat : 0 ≤ at_ ∧ at_ < 256) :
    Calls Tryd.prog 5 #[v, t, .string s, .int .u8 at_] w fun e w' => e = .returned (.bool true) ∧ Below w.heap.size w w' := by
  have H := Lib.hid h
  have HM := Lib.hid hm
  have L1 := Lib.hid (long_any w v raw h)
  have L2 := Lib.hid (long_any w t taken hm)
  have AW := Lib.hid (fun W (hb : Below w.heap.size w W) => awake_any W (tab_step ht hb))
  cases h1 : longB raw with
  | true =>
    rw [h1] at L1
    clear h1 h hm ht
    go_enter Tryd.func5, Tryd.ntmps5
    go_wp2_with fail
    refine L1.out.mono ?_
    rintro e w1 ⟨rfl, rfl⟩
    go_wp2_with fail
    refine (AW.out _ (Below.refl _ _)).mono ?_
    rintro e w1 ⟨rfl, hb⟩
    have B := Lib.hid hb
    clear hb
    go_wp2
    go_returns
    exact ⟨rfl, B.out⟩
  | false =>
    rw [h1] at L1
    cases h2 : longB taken with
    | true =>
      rw [h2] at L2
      clear h1 h2 h hm ht
      go_enter Tryd.func5, Tryd.ntmps5
      go_wp2_with fail
      refine L1.out.mono ?_
      rintro e w1 ⟨rfl, rfl⟩
      go_wp2_with fail
      refine L2.out.mono ?_
      rintro e w1 ⟨rfl, rfl⟩
      go_wp2_with fail
      refine (AW.out _ (Below.refl _ _)).mono ?_
      rintro e w1 ⟨rfl, hb⟩
      have B := Lib.hid hb
      clear hb
      go_wp2
      go_returns
      exact ⟨rfl, B.out⟩
    | false =>
      rw [h2] at L2
      by_cases h300 : 300 < s.size
      · have h300' : (300 : Int) < (s.size : Int) := by omega
        clear h1 h2 h hm ht
        go_enter Tryd.func5, Tryd.ntmps5
        go_wp2_with fail
        refine L1.out.mono ?_
        rintro e w1 ⟨rfl, rfl⟩
        go_wp2_with fail
        refine L2.out.mono ?_
        rintro e w1 ⟨rfl, rfl⟩
        go_wp2_with fail
        refine (AW.out _ (Below.refl _ _)).mono ?_
        rintro e w1 ⟨rfl, hb⟩
        have B := Lib.hid hb
        clear hb
        go_wp2
        go_returns
        exact ⟨rfl, B.out⟩
      · have h300' : ¬ (300 : Int) < (s.size : Int) := by omega
        obtain ⟨q1, q2⟩ := longB_false h1
        obtain ⟨q3, q4⟩ := longB_false h2
        have NM := Lib.hid (names_any w v t raw taken ht h hm (by omega) q3 q2 q4)
        have TL := Lib.hid (tell_len raw taken raw.length (Nat.le_refl _))
        have QQ := Lib.hid (And.intro q2 q4)
        have HTB := Lib.hid ht
        obtain ⟨ao, cap, rfl, -⟩ := h
        obtain ⟨ta, tc, rfl, -⟩ := hm
        have hcap : raw.length ≤ cap := by
          obtain ⟨a, c, e, c1, _⟩ := H.out
          injection e with e1 e2 e3
          omega
        clear h1 h2 ht q2 q4
        go_enter Tryd.func5, Tryd.ntmps5
        go_wp2_with fail
        refine L1.out.mono ?_
        rintro e w1 ⟨rfl, rfl⟩
        go_wp2_with fail
        refine L2.out.mono ?_
        rintro e w1 ⟨rfl, rfl⟩
        go_wp2_with fail
        refine NM.out.mono ?_
        rintro e w1 ⟨r1, rfl, ho1, hb1⟩
        obtain ⟨oa, oc, rfl⟩ := own_shape ho1
        have S1 := Lib.hid (show SLies w1 (.slice oa raw.length oc) (tell raw taken raw.length) from own_slies (by rw [TL.out]; exact ho1))
        have B1 := Lib.hid hb1
        have HM1 := Lib.hid (HM.out.step hb1)
        have H1 := Lib.hid (H.out.step hb1)
        have hoc : raw.length ≤ oc := by
          obtain ⟨a, c, e, c1, _⟩ := S1.out
          injection e with e1 e2 e3
          subst e1 e3
          rw [TL.out] at c1
          omega
        clear ho1 hb1 NM L1 L2
        have R1 := Lib.hid (rhas_any w1 _ (tell raw taken raw.length) s S1.out)
        have R2 := Lib.hid (rhas_any w1 _ taken s HM1.out)
        by_cases hs1 : s ∈ tell raw taken raw.length
        · rw [memB_true hs1] at R1
          go_wp2_with fail
          refine R1.out.mono ?_
          rintro e w2 ⟨rfl, rfl⟩
          go_wp2_with fail
          refine (AW.out _ B1.out).mono ?_
          rintro e w3 ⟨rfl, hb⟩
          have B := Lib.hid (B1.out.trans (hb.mono B1.out.size))
          clear hb
          go_wp2
          go_returns
          exact ⟨rfl, B.out⟩
        · rw [memB_false hs1] at R1
          by_cases hs2 : s ∈ taken
          · rw [memB_true hs2] at R2
            go_wp2_with fail
            refine R1.out.mono ?_
            rintro e w2 ⟨rfl, rfl⟩
            go_wp2_with fail
            refine R2.out.mono ?_
            rintro e w2 ⟨rfl, rfl⟩
            go_wp2_with fail
            refine (AW.out _ B1.out).mono ?_
            rintro e w3 ⟨rfl, hb⟩
            have B := Lib.hid (B1.out.trans (hb.mono B1.out.size))
            clear hb
            go_wp2
            go_returns
            exact ⟨rfl, B.out⟩
          · rw [memB_false hs2] at R2
            obtain ⟨k, hk⟩ : ∃ k : Nat, at_ % ((raw.length : Int) + 1) = (k : Int) := ⟨(at_ % ((raw.length : Int) + 1)).toNat, by
              have := Int.emod_nonneg at_ (show ((raw.length : Int) + 1) ≠ 0 by omega)
              omega⟩
            have hkn : k ≤ raw.length := by
              have := Int.emod_lt_of_pos at_ (show (0 : Int) < (raw.length : Int) + 1 by omega)
              omega
            have HS := Lib.hid (And.intro hs1 hs2)
            have hwr : IntKind.i64.wrap ((raw.length : Int) + 1) = (raw.length : Int) + 1 := by rw [IntKind.wrap_i64]; omega
            have hwa : IntKind.i64.wrap at_ = at_ := by rw [IntKind.wrap_i64]; omega
            have hwk : IntKind.i64.wrap (k : Int) = (k : Int) := by rw [IntKind.wrap_i64]; omega
            have hnz : ((raw.length : Int) + 1 == 0) = false := bneb_ _ _ (by omega)
            have hnz2 : ¬ ((raw.length : Int) + 1 = 0) := by omega
            clear hs1 hs2
            go_wp2_with fail
            refine R1.out.mono ?_
            rintro e w2 ⟨rfl, rfl⟩
            go_wp2_with fail
            refine R2.out.mono ?_
            rintro e w2 ⟨rfl, rfl⟩
            go_upto_region 8 with (fail)
            rw [hk]
            clear hk hwr hwa hwk hnz hnz2 R1 R2
            have PR := Lib.hid (slice_pre ao raw.length cap k (by omega))
            have PL := Lib.hid (slice_pre oa raw.length oc k (by omega))
            obtain ⟨A1, tr, TR⟩ := slice_tail H1.out hkn
            have TRR := Lib.hid tr
            have TRL := Lib.hid TR
            clear tr TR
            have LN := Lib.hid (show (raw.take k).length ≤ 300 ∧ (raw.drop k).length ≤ 300 from ⟨by rw [List.length_take]; omega, by rw [List.length_drop]; omega⟩)
            go_cut [11] from 57 to 68 (fun mv wx => ∃ am cm, mv = .slice am (raw.length + 1) cm ∧ Hid (SLies wx (.slice am (raw.length + 1) cm) (ins raw k s) ∧ Below w1.heap.size w1 wx))
            case first =>
              have D := Lib.hid (show Below w1.heap.size w1 w1.drew from ⟨rfl, rfl, rfl, Nat.le_refl _, fun _ _ => rfl⟩)
              have FIN := Lib.hid (fun (W4 : World) (v3 : Value) (ho : W4.ownsRow w1.drew.heap.size 9 1 v3 (raw.take k ++ s :: raw.drop k).length (strs (raw.take k ++ s :: raw.drop k)) ∧ Below w1.drew.heap.size w1.drew W4) => show ∃ am cm, v3 = .slice am (raw.length + 1) cm ∧ Hid (SLies W4 (.slice am (raw.length + 1) cm) (ins raw k s) ∧ Below w1.heap.size w1 W4) from by
                have e : (raw.take k ++ s :: raw.drop k).length = raw.length + 1 := ins_len raw k s
                obtain ⟨am, cm, rfl⟩ := own_shape ho.1
                rw [e] at ho ⊢
                exact ⟨am, cm, rfl, Lib.hid ⟨own_slies (l := ins raw k s) (by rw [ins_len]; exact ho.1), D.out.trans (ho.2.mono D.out.size)⟩⟩)
              refine wp_region_held_drew (S := fun w' => True) (by kernel_rfl) trivial (fun hHeld => ?_)
              refine take_at (i := 0) 57 ?_ rfl rfl (by kernel_rfl) (by kernel_rfl) (by kernel_rfl) (fun _ _ _ h => h) (.inl ⟨rfl, ?_⟩) trivial ?_
              rotate_left 1
              · intro w hSw; go_simp; try with_reducible rfl
              simp only [Act.put, List.setIfInBounds_toArray, List.set_cons_zero, List.set_cons_succ]
              refine take_at (i := 1) 58 ?_ rfl rfl (by kernel_rfl) (by kernel_rfl) (by kernel_rfl) (fun _ _ _ h => h) (.inl ⟨rfl, ?_⟩) trivial ?_
              rotate_left 1
              · intro w hSw; go_simp; try with_reducible rfl
              simp only [Act.put, List.setIfInBounds_toArray, List.set_cons_zero, List.set_cons_succ]
              refine take_at (i := 2) 59 ?_ rfl rfl (by kernel_rfl) (by kernel_rfl) (by kernel_rfl) (fun _ _ _ h => h) (.inl ⟨rfl, ?_⟩) trivial ?_
              rotate_left 1
              · intro w hSw; go_simp; try with_reducible rfl
              simp only [Act.put, List.setIfInBounds_toArray, List.set_cons_zero, List.set_cons_succ]
              refine take_at (i := 3) 60 (.slice ao k cap) rfl rfl (by kernel_rfl) (by kernel_rfl) (by kernel_rfl) (fun _ _ _ h => h) (yields_slh (.tmp 58) (.tmp 59) 22 (.slice ao raw.length cap) (.int .i64 (k : Int)) _ PR.out rfl rfl rfl rfl) trivial ?_
              simp only [Act.put, List.setIfInBounds_toArray, List.set_cons_zero, List.set_cons_succ]
              refine take_at (i := 5) 62 ?_ rfl rfl (by kernel_rfl) (by kernel_rfl) (by kernel_rfl) (fun _ _ _ h => h) (.inl ⟨rfl, ?_⟩) trivial ?_
              rotate_left 1
              · intro w hSw; go_simp; try with_reducible rfl
              simp only [Act.put, List.setIfInBounds_toArray, List.set_cons_zero, List.set_cons_succ]
              refine take_at (i := 8) 65 ?_ rfl rfl (by kernel_rfl) (by kernel_rfl) (by kernel_rfl) (fun _ _ _ h => h) (.inl ⟨rfl, ?_⟩) trivial ?_
              rotate_left 1
              · intro w hSw; go_simp; try with_reducible rfl
              simp only [Act.put, List.setIfInBounds_toArray, List.set_cons_zero, List.set_cons_succ]
              refine take_at (i := 9) 66 ?_ rfl rfl (by kernel_rfl) (by kernel_rfl) (by kernel_rfl) (fun _ _ _ h => h) (.inl ⟨rfl, ?_⟩) trivial ?_
              rotate_left 1
              · intro w hSw; go_simp; try with_reducible rfl
              simp only [Act.put, List.setIfInBounds_toArray, List.set_cons_zero, List.set_cons_succ]
              refine take_at (i := 10) 67 (.slice A1 (raw.length - k) (cap - k)) rfl rfl (by kernel_rfl) (by kernel_rfl) (by kernel_rfl) (fun _ _ _ h => h) (yields_sll (.tmp 65) (.tmp 66) 22 (.slice ao raw.length cap) (.int .i64 (k : Int)) _ TRR.out rfl rfl rfl rfl) trivial ?_
              simp only [Act.put, List.setIfInBounds_toArray, List.set_cons_zero, List.set_cons_succ]
              obtain ⟨v1, x1, v2, x3, v3, x4, ra1, ra2, ra3, ra4, ra5⟩ := join_a w1.drew (.slice ao k cap) (.slice A1 (raw.length - k) (cap - k)) ((raw).take k) ((raw).drop k) s ((H1.out.step D.out).take k hkn) (TRL.out.step D.out) LN.out.1 LN.out.2
              obtain ⟨u1, y2, u2, y3, u3, y4, rb1, rb2, rb3, rb4, rb5⟩ := join_b w1.drew (.slice ao k cap) (.slice A1 (raw.length - k) (cap - k)) ((raw).take k) ((raw).drop k) s ((H1.out.step D.out).take k hkn) (TRL.out.step D.out) LN.out.1 LN.out.2
              have FA := Lib.hid (And.intro ra4 ra5)
              have FB := Lib.hid (And.intro rb4 rb5)
              have RA1 := Lib.hid ra1
              have RA2 := Lib.hid ra2
              have RA3 := Lib.hid ra3
              have RB1 := Lib.hid rb1
              have RB2 := Lib.hid rb2
              have RB3 := Lib.hid rb3
              clear ra1 ra2 ra3 ra4 ra5 rb1 rb2 rb3 rb4 rb5
              refine wpAnyH_ready (rs := [4, 6]) (by kernel_rfl) (by simp) (br_append (i := 4) 61 (.tmp 57) (.tmp 60) 22 22 rfl rfl rfl rfl (.slice none 0 0) (.slice ao k cap) v1 x1 rfl rfl RA1.out trivial (fun _ => ?_) (br_bslice (i := 6) 63 22 1 _ #[(0, .string s)] _ _ rfl rfl rfl rfl rfl (bs9 w1.drew s) trivial (fun _ => ?_) AllReadyH.nil))
              · simp only [Act.put, List.setIfInBounds_toArray, List.set_cons_zero, List.set_cons_succ]
                refine wpAnyH_ready (rs := [6]) (by kernel_rfl) (by simp) (br_bslice (i := 6) 63 22 1 _ #[(0, .string s)] _ _ rfl rfl rfl rfl rfl (bs9 x1 s) trivial (fun _ => ?_) AllReadyH.nil)
                simp only [Act.put, List.setIfInBounds_toArray, List.set_cons_zero, List.set_cons_succ]
                refine one_append (i := 7) 64 (.tmp 61) (.tmp 63) 22 22 rfl rfl (by kernel_rfl) rfl rfl v1 (.slice (some ⟨x1.heap.size, 0, none⟩) 1 1) v2 x3 rfl rfl RA2.out trivial (fun _ => ?_)
                simp only [Act.put, List.setIfInBounds_toArray, List.set_cons_zero, List.set_cons_succ]
                refine one_append (i := 11) 68 (.tmp 64) (.tmp 67) 22 22 rfl rfl (by kernel_rfl) rfl rfl v2 (.slice A1 (raw.length - k) (cap - k)) v3 x4 rfl rfl RA3.out trivial (fun _ => ?_)
                simp only [Act.put, List.setIfInBounds_toArray, List.set_cons_zero, List.set_cons_succ]
                refine take_at (i := 12) 11 ?_ rfl rfl (by kernel_rfl) (by kernel_rfl) (by kernel_rfl) (fun _ _ _ h => h) (.inl ⟨rfl, ?_⟩) trivial ?_
                rotate_left 1
                · intro w hSw; go_simp; try with_reducible rfl
                simp only [Act.put, List.setIfInBounds_toArray, List.set_cons_zero, List.set_cons_succ]
                refine wpAnyH_done (by kernel_rfl) ?_ _
                go_wp2_with fail
                go_meet
                exact FIN.out _ _ FA.out
              · simp only [Act.put, List.setIfInBounds_toArray, List.set_cons_zero, List.set_cons_succ]
                refine wpAnyH_ready (rs := [4]) (by kernel_rfl) (by simp) (br_append (i := 4) 61 (.tmp 57) (.tmp 60) 22 22 rfl rfl rfl rfl (.slice none 0 0) (.slice ao k cap) u1 y2 rfl rfl RB1.out trivial (fun _ => ?_) AllReadyH.nil)
                simp only [Act.put, List.setIfInBounds_toArray, List.set_cons_zero, List.set_cons_succ]
                refine one_append (i := 7) 64 (.tmp 61) (.tmp 63) 22 22 rfl rfl (by kernel_rfl) rfl rfl u1 (.slice (some ⟨w1.drew.heap.size, 0, none⟩) 1 1) u2 y3 rfl rfl RB2.out trivial (fun _ => ?_)
                simp only [Act.put, List.setIfInBounds_toArray, List.set_cons_zero, List.set_cons_succ]
                refine one_append (i := 11) 68 (.tmp 64) (.tmp 67) 22 22 rfl rfl (by kernel_rfl) rfl rfl u2 (.slice A1 (raw.length - k) (cap - k)) u3 y4 rfl rfl RB3.out trivial (fun _ => ?_)
                simp only [Act.put, List.setIfInBounds_toArray, List.set_cons_zero, List.set_cons_succ]
                refine take_at (i := 12) 11 ?_ rfl rfl (by kernel_rfl) (by kernel_rfl) (by kernel_rfl) (fun _ _ _ h => h) (.inl ⟨rfl, ?_⟩) trivial ?_
                rotate_left 1
                · intro w hSw; go_simp; try with_reducible rfl
                simp only [Act.put, List.setIfInBounds_toArray, List.set_cons_zero, List.set_cons_succ]
                refine wpAnyH_done (by kernel_rfl) ?_ _
                go_wp2_with fail
                go_meet
                exact FIN.out _ _ FB.out
            case rest =>
              obtain ⟨am, cm, rfl, hX⟩ := hcut
              obtain ⟨w5, hw5⟩ : ∃ y, y = wc := ⟨_, rfl⟩
              rw [← hw5] at hX ⊢
              have MX := Lib.hid hX.out.1
              have B5 := Lib.hid hX.out.2
              clear hX hw5
              have S5 := Lib.hid (S1.out.step B5.out)
              obtain ⟨A2, tr, TR⟩ := slice_tail S5.out hkn
              have TLR := Lib.hid tr
              have TLL := Lib.hid TR
              clear tr TR
              go_upto_region 9 with (fail)
              have LN := Lib.hid (show ((tell raw taken raw.length).take k).length ≤ 300 ∧ ((tell raw taken raw.length).drop k).length ≤ 300 from ⟨by rw [List.length_take]; omega, by rw [List.length_drop, TL.out]; omega⟩)
              go_cut [12] from 69 to 80 (fun mv wx => ∃ an cn, mv = .slice an (raw.length + 1) cn ∧ Hid (SLies wx (.slice an (raw.length + 1) cn) (ins (tell raw taken raw.length) k s) ∧ Below w5.heap.size w5 wx))
              case first =>
                have D := Lib.hid (show Below w5.heap.size w5 w5.drew from ⟨rfl, rfl, rfl, Nat.le_refl _, fun _ _ => rfl⟩)
                have FIN := Lib.hid (fun (W4 : World) (v3 : Value) (ho : W4.ownsRow w5.drew.heap.size 9 1 v3 ((tell raw taken raw.length).take k ++ s :: (tell raw taken raw.length).drop k).length (strs ((tell raw taken raw.length).take k ++ s :: (tell raw taken raw.length).drop k)) ∧ Below w5.drew.heap.size w5.drew W4) => show ∃ am cm, v3 = .slice am (raw.length + 1) cm ∧ Hid (SLies W4 (.slice am (raw.length + 1) cm) (ins (tell raw taken raw.length) k s) ∧ Below w5.heap.size w5 W4) from by
                  have e : ((tell raw taken raw.length).take k ++ s :: (tell raw taken raw.length).drop k).length = raw.length + 1 := by
                    have := ins_len (tell raw taken raw.length) k s
                    rw [TL.out] at this
                    exact this
                  obtain ⟨am, cm, rfl⟩ := own_shape ho.1
                  rw [e] at ho ⊢
                  exact ⟨am, cm, rfl, Lib.hid ⟨own_slies (l := ins (tell raw taken raw.length) k s) (by rw [ins_len, TL.out]; exact ho.1), D.out.trans (ho.2.mono D.out.size)⟩⟩)
                refine wp_region_held_drew (S := fun w' => True) (by kernel_rfl) trivial (fun hHeld => ?_)
                refine take_at (i := 0) 69 ?_ rfl rfl (by kernel_rfl) (by kernel_rfl) (by kernel_rfl) (fun _ _ _ h => h) (.inl ⟨rfl, ?_⟩) trivial ?_
                rotate_left 1
                · intro w hSw; go_simp; try with_reducible rfl
                simp only [Act.put, List.setIfInBounds_toArray, List.set_cons_zero, List.set_cons_succ]
                refine take_at (i := 1) 70 ?_ rfl rfl (by kernel_rfl) (by kernel_rfl) (by kernel_rfl) (fun _ _ _ h => h) (.inl ⟨rfl, ?_⟩) trivial ?_
                rotate_left 1
                · intro w hSw; go_simp; try with_reducible rfl
                simp only [Act.put, List.setIfInBounds_toArray, List.set_cons_zero, List.set_cons_succ]
                refine take_at (i := 2) 71 ?_ rfl rfl (by kernel_rfl) (by kernel_rfl) (by kernel_rfl) (fun _ _ _ h => h) (.inl ⟨rfl, ?_⟩) trivial ?_
                rotate_left 1
                · intro w hSw; go_simp; try with_reducible rfl
                simp only [Act.put, List.setIfInBounds_toArray, List.set_cons_zero, List.set_cons_succ]
                refine take_at (i := 3) 72 (.slice oa k oc) rfl rfl (by kernel_rfl) (by kernel_rfl) (by kernel_rfl) (fun _ _ _ h => h) (yields_slh (.tmp 70) (.tmp 71) 22 (.slice oa raw.length oc) (.int .i64 (k : Int)) _ PL.out rfl rfl rfl rfl) trivial ?_
                simp only [Act.put, List.setIfInBounds_toArray, List.set_cons_zero, List.set_cons_succ]
                refine take_at (i := 5) 74 ?_ rfl rfl (by kernel_rfl) (by kernel_rfl) (by kernel_rfl) (fun _ _ _ h => h) (.inl ⟨rfl, ?_⟩) trivial ?_
                rotate_left 1
                · intro w hSw; go_simp; try with_reducible rfl
                simp only [Act.put, List.setIfInBounds_toArray, List.set_cons_zero, List.set_cons_succ]
                refine take_at (i := 8) 77 ?_ rfl rfl (by kernel_rfl) (by kernel_rfl) (by kernel_rfl) (fun _ _ _ h => h) (.inl ⟨rfl, ?_⟩) trivial ?_
                rotate_left 1
                · intro w hSw; go_simp; try with_reducible rfl
                simp only [Act.put, List.setIfInBounds_toArray, List.set_cons_zero, List.set_cons_succ]
                refine take_at (i := 9) 78 ?_ rfl rfl (by kernel_rfl) (by kernel_rfl) (by kernel_rfl) (fun _ _ _ h => h) (.inl ⟨rfl, ?_⟩) trivial ?_
                rotate_left 1
                · intro w hSw; go_simp; try with_reducible rfl
                simp only [Act.put, List.setIfInBounds_toArray, List.set_cons_zero, List.set_cons_succ]
                refine take_at (i := 10) 79 (.slice A2 (raw.length - k) (oc - k)) rfl rfl (by kernel_rfl) (by kernel_rfl) (by kernel_rfl) (fun _ _ _ h => h) (yields_sll (.tmp 77) (.tmp 78) 22 (.slice oa raw.length oc) (.int .i64 (k : Int)) _ TLR.out rfl rfl rfl rfl) trivial ?_
                simp only [Act.put, List.setIfInBounds_toArray, List.set_cons_zero, List.set_cons_succ]
                obtain ⟨v1, x1, v2, x3, v3, x4, ra1, ra2, ra3, ra4, ra5⟩ := join_a w5.drew (.slice oa k oc) (.slice A2 (raw.length - k) (oc - k)) ((tell raw taken raw.length).take k) ((tell raw taken raw.length).drop k) s ((S5.out.step D.out).take k hkn) (TLL.out.step D.out) LN.out.1 LN.out.2
                obtain ⟨u1, y2, u2, y3, u3, y4, rb1, rb2, rb3, rb4, rb5⟩ := join_b w5.drew (.slice oa k oc) (.slice A2 (raw.length - k) (oc - k)) ((tell raw taken raw.length).take k) ((tell raw taken raw.length).drop k) s ((S5.out.step D.out).take k hkn) (TLL.out.step D.out) LN.out.1 LN.out.2
                have FA := Lib.hid (And.intro ra4 ra5)
                have FB := Lib.hid (And.intro rb4 rb5)
                have RA1 := Lib.hid ra1
                have RA2 := Lib.hid ra2
                have RA3 := Lib.hid ra3
                have RB1 := Lib.hid rb1
                have RB2 := Lib.hid rb2
                have RB3 := Lib.hid rb3
                clear ra1 ra2 ra3 ra4 ra5 rb1 rb2 rb3 rb4 rb5
                refine wpAnyH_ready (rs := [4, 6]) (by kernel_rfl) (by simp) (br_append (i := 4) 73 (.tmp 69) (.tmp 72) 22 22 rfl rfl rfl rfl (.slice none 0 0) (.slice oa k oc) v1 x1 rfl rfl RA1.out trivial (fun _ => ?_) (br_bslice (i := 6) 75 22 1 _ #[(0, .string s)] _ _ rfl rfl rfl rfl rfl (bs9 w5.drew s) trivial (fun _ => ?_) AllReadyH.nil))
                · simp only [Act.put, List.setIfInBounds_toArray, List.set_cons_zero, List.set_cons_succ]
                  refine wpAnyH_ready (rs := [6]) (by kernel_rfl) (by simp) (br_bslice (i := 6) 75 22 1 _ #[(0, .string s)] _ _ rfl rfl rfl rfl rfl (bs9 x1 s) trivial (fun _ => ?_) AllReadyH.nil)
                  simp only [Act.put, List.setIfInBounds_toArray, List.set_cons_zero, List.set_cons_succ]
                  refine one_append (i := 7) 76 (.tmp 73) (.tmp 75) 22 22 rfl rfl (by kernel_rfl) rfl rfl v1 (.slice (some ⟨x1.heap.size, 0, none⟩) 1 1) v2 x3 rfl rfl RA2.out trivial (fun _ => ?_)
                  simp only [Act.put, List.setIfInBounds_toArray, List.set_cons_zero, List.set_cons_succ]
                  refine one_append (i := 11) 80 (.tmp 76) (.tmp 79) 22 22 rfl rfl (by kernel_rfl) rfl rfl v2 (.slice A2 (raw.length - k) (oc - k)) v3 x4 rfl rfl RA3.out trivial (fun _ => ?_)
                  simp only [Act.put, List.setIfInBounds_toArray, List.set_cons_zero, List.set_cons_succ]
                  refine take_at (i := 12) 12 ?_ rfl rfl (by kernel_rfl) (by kernel_rfl) (by kernel_rfl) (fun _ _ _ h => h) (.inl ⟨rfl, ?_⟩) trivial ?_
                  rotate_left 1
                  · intro w hSw; go_simp; try with_reducible rfl
                  simp only [Act.put, List.setIfInBounds_toArray, List.set_cons_zero, List.set_cons_succ]
                  refine wpAnyH_done (by kernel_rfl) ?_ _
                  go_wp2_with fail
                  go_meet
                  exact FIN.out _ _ FA.out
                · simp only [Act.put, List.setIfInBounds_toArray, List.set_cons_zero, List.set_cons_succ]
                  refine wpAnyH_ready (rs := [4]) (by kernel_rfl) (by simp) (br_append (i := 4) 73 (.tmp 69) (.tmp 72) 22 22 rfl rfl rfl rfl (.slice none 0 0) (.slice oa k oc) u1 y2 rfl rfl RB1.out trivial (fun _ => ?_) AllReadyH.nil)
                  simp only [Act.put, List.setIfInBounds_toArray, List.set_cons_zero, List.set_cons_succ]
                  refine one_append (i := 7) 76 (.tmp 73) (.tmp 75) 22 22 rfl rfl (by kernel_rfl) rfl rfl u1 (.slice (some ⟨w5.drew.heap.size, 0, none⟩) 1 1) u2 y3 rfl rfl RB2.out trivial (fun _ => ?_)
                  simp only [Act.put, List.setIfInBounds_toArray, List.set_cons_zero, List.set_cons_succ]
                  refine one_append (i := 11) 80 (.tmp 76) (.tmp 79) 22 22 rfl rfl (by kernel_rfl) rfl rfl u2 (.slice A2 (raw.length - k) (oc - k)) u3 y4 rfl rfl RB3.out trivial (fun _ => ?_)
                  simp only [Act.put, List.setIfInBounds_toArray, List.set_cons_zero, List.set_cons_succ]
                  refine take_at (i := 12) 12 ?_ rfl rfl (by kernel_rfl) (by kernel_rfl) (by kernel_rfl) (fun _ _ _ h => h) (.inl ⟨rfl, ?_⟩) trivial ?_
                  rotate_left 1
                  · intro w hSw; go_simp; try with_reducible rfl
                  simp only [Act.put, List.setIfInBounds_toArray, List.set_cons_zero, List.set_cons_succ]
                  refine wpAnyH_done (by kernel_rfl) ?_ _
                  go_wp2_with fail
                  go_meet
                  exact FIN.out _ _ FB.out
              case rest =>
                obtain ⟨an, cn, rfl, hY⟩ := hcut
                obtain ⟨w6, hw6⟩ : ∃ y, y = wc := ⟨_, rfl⟩
                rw [← hw6] at hY ⊢
                have NX := Lib.hid hY.out.1
                have B6 := Lib.hid hY.out.2
                clear hY hw6
                have BB := Lib.hid (B1.out.trans ((B5.out.trans (B6.out.mono B5.out.size)).mono B1.out.size))
                have M6 := Lib.hid (MX.out.step B6.out)
                have T6 := Lib.hid (HM.out.step BB.out)
                have N2 := Lib.hid (names_any w6 _ _ (ins raw k s) taken (tab_step HTB.out BB.out) M6.out T6.out (by rw [ins_len]; omega) q3 (fun y hy => by
                  rcases (ins_mem raw k s y).1 hy with q | q
                  · exact QQ.out.1 y q
                  · rw [q]; omega) QQ.out.2)
                have TI := Lib.hid (show tell (ins raw k s) taken (ins raw k s).length = ins (tell raw taken raw.length) k s from by
                  rw [ins_len]
                  exact tell_ins hkn q1 q3 HS.out.1 HS.out.2)
                have KP := Lib.hid (keptB_true (kept_new hkn q1 q3 HS.out.1 HS.out.2))
                have IA := Lib.hid (ins_at raw s hkn)
                have IL := Lib.hid (show (ins (tell raw taken raw.length) k s).length = (ins raw k s).length from by rw [ins_len, ins_len, TL.out])
                clear hcap hoc
                go_wp2_with fail
                refine N2.out.mono ?_
                rintro e w7 ⟨r7, rfl, ho, hb⟩
                have S7 := Lib.hid (show SLies w7 r7 (ins (tell raw taken raw.length) k s) from own_slies (by rw [IL.out, ← TI.out]; exact ho))
                have B7 := Lib.hid hb
                clear ho hb
                go_wp2_with fail
                refine (rsame_any w7 _ _ _ S7.out (NX.out.step B7.out)).mono ?_
                rintro e w8 ⟨rfl, hb⟩
                have B8 := Lib.hid (B7.out.trans (hb.mono B7.out.size))
                clear hb
                have KK := Lib.hid (kept_at w8 _ _ (ins raw k s) taken (M6.out.step B8.out) (T6.out.step B8.out) k s IA.out)
                rw [KP.out] at KK
                go_wp2_with fail
                refine KK.out.mono ?_
                rintro e w9 ⟨rfl, hb⟩
                have B9 := Lib.hid (BB.out.trans ((B8.out.trans (hb.mono B8.out.size)).mono BB.out.size))
                clear hb
                go_wp2_with fail
                refine (AW.out _ B9.out).mono ?_
                rintro e w10 ⟨rfl, hb⟩
                have BF := Lib.hid (B9.out.trans (hb.mono B9.out.size))
                clear hb
                go_wp2
                go_returns
                exact ⟨rfl, BF.out⟩
end Go.Proofs.YtkkeemhbokpngaaDoor
