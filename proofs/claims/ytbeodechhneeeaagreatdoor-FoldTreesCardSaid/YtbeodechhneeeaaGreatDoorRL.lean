/- Whether an op may be, however long its name. -/
import Derived.Test.YtbeodechhneeeaaGreatDoorOZ
set_option linter.unusedVariables false
namespace Go.Proofs.YtbeodechhneeeaaGreatDoor
open Go.RowKit

set_option maxRecDepth 100000 in
set_option maxHeartbeats 800000 in
theorem check_big (w : World) (s : ByteArray) (hs : s.size ≤ 9223372036854775807) (c : Int) (hc : CheckIs s c) : Calls Tryz.prog 57 #[.string s] w fun e w' => e = .returned (.int .i64 c) ∧ Below w.heap.size w w' := by
  by_cases hl : Lits s
  · obtain rfl : c = 25 := by rcases hc with h | h | h <;> first | exact h.2 | exact absurd hl h.1
    clear hc
    rcases hl with rfl | rfl | rfl
    all_goals
      go_enter Tryz.func57, Tryz.ntmps57
      go_wp2
      go_returns
      exact ⟨rfl, Below.refl _ _⟩
  · have n1 := ne_one (fun h => hl (.inr (.inl h)))
    have n2 := ne_two (fun h => hl (.inr (.inr h)))
    have hne : s.toList.isEmpty = false := by
      rw [ByteArray.toList_eq]
      cases hd : s.data.toList with
      | nil => exact absurd (.inl (ba_ext hd)) hl
      | cons a t => rfl
    by_cases hb : BadFrom s 0
    · obtain rfl : c = 25 := by rcases hc with h | h | h <;> first | exact h.2 | exact absurd hb h.2.1
      have C := Lib.hid (fun W => contains_any W s true ⟨fun _ => hb, fun _ => rfl⟩)
      clear hc hl hb
      go_enter Tryz.func57, Tryz.ntmps57
      go_wp2_with fail
      refine (C.out _).mono ?_
      rintro e w1 ⟨rfl, hb⟩
      have HB := Lib.hid hb
      clear hb
      go_wp2
      go_returns
      exact ⟨rfl, HB.out⟩
    · have C := Lib.hid (fun W => contains_any W s false ⟨fun h => absurd h (by decide), fun h => absurd h hb⟩)
      rcases hc with h | ⟨_, _, h2, rfl⟩ | ⟨_, _, h2, rfl⟩
      · exact absurd h.1 (fun h => h.elim hl hb)
      all_goals
        clear hl hb
        go_enter Tryz.func57, Tryz.ntmps57
        go_wp2_with fail
        refine (C.out _).mono ?_
        rintro e w1 ⟨rfl, hb⟩
        have HB := Lib.hid hb
        clear hb
        go_wp2
        go_returns
        exact ⟨rfl, HB.out⟩

set_option maxRecDepth 100000 in
set_option maxHeartbeats 6400000 in
theorem right_big (w : World) (t r q nt nr pt pr : Int) (nm : ByteArray) (d : Bool) (hz : nm.size ≤ 9223372036854775807) :
    Calls Tryz.prog 31 #[.agg #[.int .i64 t, .int .i64 r, .int .i64 q, .int .i64 nt, .int .i64 nr, .int .i64 pt, .int .i64 pr, .string nm, .bool d]] w fun e w' => e = .returned (.bool (rB t r q nt nr pt pr nm)) ∧ Below w.heap.size w w' := by
  have T0 := Lib.hid (BX.start w t r q nt nr pt pr nm d)
  have CK := Lib.hid (fun W => check_big W nm hz (ckI nm) (ckI_is nm))
  clear hz
  go_enter Tryz.func31, Tryz.ntmps31
  go_wp2_with fail
  refine (St.right_any _ t r).mono ?_
  rintro e w1 ⟨rfl, hb⟩
  have T1 := Lib.hid (T0.out.step hb)
  clear hb
  cases h1 : St.rightB t r with
  | false =>
    have E := Lib.hid (show rB t r q nt nr pt pr nm = false from by unfold rB; simp [h1])
    clear h1
    go_wp2_with fail
    go_returns
    exact ⟨ret_b' E.out, T1.out.1⟩
  | true =>
    obtain ⟨c0, c1, c2, c3, c4, c5, c6, c7, c8⟩ := T1.out.2.cells
    by_cases h2 : 1 ≤ q
    · by_cases h3 : q ≤ 4294967296
      · have H123 := Lib.hid (And.intro h1 (And.intro h2 h3))
        clear h1
        go_wp2_with fail
        refine (St.right_any _ nt nr).mono ?_
        rintro e w2 ⟨rfl, hb⟩
        have T2 := Lib.hid (T1.out.step hb)
        clear hb
        clear c0 c1 c2 c3 c4 c5 c6 c7 c8 h2 h3
        cases h4 : St.rightB nt nr with
        | false =>
          have E := Lib.hid (show rB t r q nt nr pt pr nm = false from by unfold rB; simp [h4])
          clear h4
          go_wp2_with fail
          go_returns
          exact ⟨ret_b' E.out, T2.out.1⟩
        | true =>
          have H4 := Lib.hid h4
          clear h4
          obtain ⟨c0, c1, c2, c3, c4, c5, c6, c7, c8⟩ := T2.out.2.cells
          go_wp2_with fail
          refine (St.compare_any _ nt nr t r).mono ?_
          rintro e w3 ⟨rfl, hb⟩
          have T3 := Lib.hid (T2.out.step hb)
          clear hb
          clear c0 c1 c2 c3 c4 c5 c6 c7 c8
          by_cases h5 : St.cmpS nt nr t r ≤ 0
          · have H5 := Lib.hid h5
            have h5' := h5
            clear h5
            generalize hz : St.cmpS nt nr t r = z at h5' ⊢
            have HZ := Lib.hid hz
            clear hz
            obtain ⟨c0, c1, c2, c3, c4, c5, c6, c7, c8⟩ := T3.out.2.cells
            go_wp2_with fail
            refine (rightParent_any _ t r q nt nr pt pr nm d).mono ?_
            rintro e w4 ⟨rfl, hb⟩
            have T4 := Lib.hid (T3.out.step hb)
            clear hb
            clear c0 c1 c2 c3 c4 c5 c6 c7 c8 h5'
            cases h6 : rpB t r nt nr pt pr with
            | false =>
              have E := Lib.hid (show rB t r q nt nr pt pr nm = false from by unfold rB; simp [h6])
              clear h6
              go_wp2_with fail
              go_returns
              exact ⟨ret_b' E.out, T4.out.1⟩
            | true =>
              have H6 := Lib.hid h6
              clear h6
              obtain ⟨c0, c1, c2, c3, c4, c5, c6, c7, c8⟩ := T4.out.2.cells
              go_wp2_with fail
              refine (CK.out _).mono ?_
              rintro e w5 ⟨rfl, hb⟩
              have T5 := Lib.hid (T4.out.step hb)
              clear hb
              clear c0 c1 c2 c3 c4 c5 c6 c7 c8
              by_cases h7 : ckI nm = 0
              · have E := Lib.hid (show rB t r q nt nr pt pr nm = true from by unfold rB; simp [H123.out, H4.out, H5.out, H6.out, h7])
                rw [h7]
                clear h7
                go_wp2_with fail
                go_returns
                exact ⟨ret_b' E.out, T5.out.1⟩
              · have E := Lib.hid (show rB t r q nt nr pt pr nm = false from by unfold rB; simp [h7])
                have v1 := bneb_ (ckI nm) 0 h7
                generalize ckI nm = z at *
                go_wp2_with fail
                go_returns
                exact ⟨ret_b' E.out, T5.out.1⟩
          · have E := Lib.hid (show rB t r q nt nr pt pr nm = false from by unfold rB; simp [h5])
            generalize St.cmpS nt nr t r = z at *
            go_wp2_with fail
            go_returns
            exact ⟨ret_b' E.out, T3.out.1⟩
      · have E := Lib.hid (show rB t r q nt nr pt pr nm = false from by unfold rB; simp [h3])
        clear h1
        go_wp2_with fail
        go_returns
        exact ⟨ret_b' E.out, T1.out.1⟩
    · have E := Lib.hid (show rB t r q nt nr pt pr nm = false from by unfold rB; simp [h2])
      clear h1
      go_wp2_with fail
      go_returns
      exact ⟨ret_b' E.out, T1.out.1⟩
set_option maxRecDepth 100000 in
set_option maxHeartbeats 6400000 in
theorem rright_big (w : World) (t r q nt nr pt pr : Int) (nm : ByteArray) (d : Bool) (hz : nm.size ≤ 9223372036854775807) :
    Calls Tryz.prog 47 #[.agg #[.int .i64 t, .int .i64 r, .int .i64 q, .int .i64 nt, .int .i64 nr, .int .i64 pt, .int .i64 pr, .string nm, .bool d]] w fun e w' => e = .returned (.bool (rB t r q nt nr pt pr nm)) ∧ Below w.heap.size w w' := by
  have T0 := Lib.hid (BX.start w t r q nt nr pt pr nm d)
  have CK := Lib.hid (fun W => rcheck_any W nm (by omega) (ckI nm) (ckI_is nm))
  clear hz
  go_enter Tryz.func47, Tryz.ntmps47
  go_wp2_with fail
  refine (St.rright_any _ t r).mono ?_
  rintro e w1 ⟨rfl, hb⟩
  have T1 := Lib.hid (T0.out.step hb)
  clear hb
  cases h1 : St.rightB t r with
  | false =>
    have E := Lib.hid (show rB t r q nt nr pt pr nm = false from by unfold rB; simp [h1])
    clear h1
    go_wp2_with fail
    go_returns
    exact ⟨ret_b' E.out, T1.out.1⟩
  | true =>
    obtain ⟨c0, c1, c2, c3, c4, c5, c6, c7, c8⟩ := T1.out.2.cells
    by_cases h2 : 1 ≤ q
    · have h2' : ¬ q < 1 := by omega
      by_cases h3 : q ≤ 4294967296
      · have h3' : ¬ 4294967296 < q := by omega
        have H123 := Lib.hid (And.intro h1 (And.intro h2 h3))
        clear h1
        go_wp2_with fail
        refine (St.rright_any _ nt nr).mono ?_
        rintro e w2 ⟨rfl, hb⟩
        have T2 := Lib.hid (T1.out.step hb)
        clear hb
        clear c0 c1 c2 c3 c4 c5 c6 c7 c8 h2 h3
        cases h4 : St.rightB nt nr with
        | false =>
          have E := Lib.hid (show rB t r q nt nr pt pr nm = false from by unfold rB; simp [h4])
          clear h4
          go_wp2_with fail
          go_returns
          exact ⟨ret_b' E.out, T2.out.1⟩
        | true =>
          have H4 := Lib.hid h4
          clear h4
          obtain ⟨c0, c1, c2, c3, c4, c5, c6, c7, c8⟩ := T2.out.2.cells
          go_wp2_with fail
          refine (St.less_any _ t r nt nr).mono ?_
          rintro e w3 ⟨rfl, hb⟩
          have T3 := Lib.hid (T2.out.step hb)
          clear hb
          clear c0 c1 c2 c3 c4 c5 c6 c7 c8
          rw [less_cmp]
          by_cases h5 : St.cmpS nt nr t r ≤ 0
          · have H5 := Lib.hid h5
            rw [decide_eq_true h5]
            clear h5
            obtain ⟨c0, c1, c2, c3, c4, c5, c6, c7, c8⟩ := T3.out.2.cells
            go_wp2_with fail
            refine (CK.out _).mono ?_
            rintro e w4 ⟨rfl, hw⟩
            have T4 := T3
            subst hw
            by_cases h7 : ckI nm = 0
            · have H7 := Lib.hid h7
              rw [h7]
              clear h7
              by_cases g0 : pt = 0 ∧ pr = 0
              · have E := Lib.hid (show rB t r q nt nr pt pr nm = true from by unfold rB rpB; simp [H123.out, H4.out, H5.out, H7.out, g0])
                obtain ⟨u1, u2⟩ := yes2 g0
                clear g0
                go_wp2_with fail
                go_returns
                exact ⟨ret_b' E.out, T4.out.1⟩
              · have g0' := no2 g0
                have k0 := later_cell T4.out.2 (j := 0) rfl
                have k1 := later_cell T4.out.2 (j := 1) rfl
                have k3 := later_cell T4.out.2 (j := 3) rfl
                have k4 := later_cell T4.out.2 (j := 4) rfl
                have k5 := later_cell T4.out.2 (j := 5) rfl
                have k6 := later_cell T4.out.2 (j := 6) rfl
                have D40 := Lib.hid (fun x : Later w3 => rtrash_any x.w)
                by_cases g1 : pt = 0 ∧ pr = 1
                · obtain ⟨u1, u2⟩ := yes2 g1
                  have u3 : (pr == 0) = false := bneb_ pr 0 (by omega)
                  by_cases g2 : t = nt ∧ r = nr
                  · have E := Lib.hid (show rB t r q nt nr pt pr nm = false from by unfold rB rpB; rw [if_neg g0, if_pos g1]; simp [g2])
                    obtain ⟨v1, v2⟩ := yes2 g2
                    clear g0 g0' g1 g2
                    go_upto_region 5 with (fail)
                    refine wp_region_later (by kernel_rfl) (by kernel_rfl) ?_
                    repeat (go_big_quiet_step (first
                      | (go_at_call 80; with_reducible exact later_call (D40.out _))))
                    refine wpQuiet_nil ?_
                    rintro _ ⟨xl, rfl⟩
                    have T5 := Lib.hid (T4.out.step xl.below)
                    generalize xl.w = w5 at *
                    clear k0 k1 k3 k4 k5 k6 D40
                    clear c0 c1 c2 c3 c4 c5 c6 c7 c8
                    obtain ⟨c0, c1, c2, c3, c4, c5, c6, c7, c8⟩ := T5.out.2.cells
                    go_wp2_with fail
                    go_returns
                    exact ⟨ret_b' E.out, T5.out.1⟩
                  · have E := Lib.hid (show rB t r q nt nr pt pr nm = true from by unfold rB rpB; rw [if_neg g0, if_pos g1]; simp [H123.out, H4.out, H5.out, H7.out]; exact Classical.not_and_iff_not_or_not.1 g2)
                    have g2' := no2 g2
                    clear g0 g0' g1 g2
                    rcases g2' with v1 | ⟨v1, v2⟩
                    all_goals
                      go_upto_region 5 with (fail)
                      refine wp_region_later (by kernel_rfl) (by kernel_rfl) ?_
                      repeat (go_big_quiet_step (first
                        | (go_at_call 80; with_reducible exact later_call (D40.out _))))
                      refine wpQuiet_nil ?_
                      rintro _ ⟨xl, rfl⟩
                      have T5 := Lib.hid (T4.out.step xl.below)
                      generalize xl.w = w5 at *
                      clear k0 k1 k3 k4 k5 k6 D40
                      clear c0 c1 c2 c3 c4 c5 c6 c7 c8
                      obtain ⟨c0, c1, c2, c3, c4, c5, c6, c7, c8⟩ := T5.out.2.cells
                      go_wp2_with fail
                      go_returns
                      exact ⟨ret_b' E.out, T5.out.1⟩
                · have E1 := Lib.hid (show rB t r q nt nr pt pr nm = (St.rightB pt pr && (decide (St.cmpS pt pr t r < 0) && !decide (pt = nt ∧ pr = nr))) from by unfold rB rpB; rw [if_neg g0, if_neg g1]; simp [H123.out, H4.out, H5.out, H7.out])
                  have g1' := no2 g1
                  have hcase : ((pt == 0) = false) ∨ ((pt == 0) = true ∧ (pr == 0) = false ∧ (pr == 1) = false) := by
                    rcases g0' with a | ⟨a, b⟩
                    · exact .inl a
                    · rcases g1' with a' | ⟨_, b'⟩
                      · rw [a] at a'; cases a'
                      · exact .inr ⟨a, b, b'⟩
                  clear g0 g0' g1 g1'
                  rcases hcase with u1 | ⟨u1, u2, u3⟩
                  all_goals
                    go_upto_region 5 with (fail)
                    refine wp_region_later (by kernel_rfl) (by kernel_rfl) ?_
                    repeat (go_big_quiet_step (first
                      | (go_at_call 80; with_reducible exact later_call (D40.out _))))
                    refine wpQuiet_nil ?_
                    rintro _ ⟨xl, rfl⟩
                    have T5 := Lib.hid (T4.out.step xl.below)
                    generalize xl.w = w5 at *
                    clear k0 k1 k3 k4 k5 k6 D40
                    clear c0 c1 c2 c3 c4 c5 c6 c7 c8
                    obtain ⟨c0, c1, c2, c3, c4, c5, c6, c7, c8⟩ := T5.out.2.cells
                    go_wp2_with fail
                    refine (St.rright_any _ pt pr).mono ?_
                    rintro e w6 ⟨rfl, hb⟩
                    have T6 := Lib.hid (T5.out.step hb)
                    clear hb
                    clear c0 c1 c2 c3 c4 c5 c6 c7 c8
                    cases hr : St.rightB pt pr with
                    | false =>
                      have E := Lib.hid (show rB t r q nt nr pt pr nm = false from by rw [E1.out, hr]; rfl)
                      clear hr
                      go_wp2_with fail
                      go_returns
                      exact ⟨ret_b' E.out, T6.out.1⟩
                    | true =>
                      rw [hr] at E1
                      clear hr
                      obtain ⟨c0, c1, c2, c3, c4, c5, c6, c7, c8⟩ := T6.out.2.cells
                      go_wp2_with fail
                      refine (St.less_any _ pt pr t r).mono ?_
                      rintro e w7 ⟨rfl, hb⟩
                      have T7 := Lib.hid (T6.out.step hb)
                      clear hb
                      clear c0 c1 c2 c3 c4 c5 c6 c7 c8
                      rw [less_cmp2]
                      cases hz : decide (St.cmpS pt pr t r < 0) with
                      | true =>
                        rw [hz] at E1
                        clear hz
                        obtain ⟨c0, c1, c2, c3, c4, c5, c6, c7, c8⟩ := T7.out.2.cells
                        by_cases h2 : pt = nt ∧ pr = nr
                        · have E := Lib.hid (show rB t r q nt nr pt pr nm = false from by rw [E1.out, decide_eq_true h2]; rfl)
                          obtain ⟨v1, v2⟩ := yes2 h2
                          clear h2
                          go_wp2_with fail
                          go_returns
                          exact ⟨ret_b' E.out, T7.out.1⟩
                        · have E := Lib.hid (show rB t r q nt nr pt pr nm = true from by rw [E1.out, decide_eq_false h2]; rfl)
                          have h2' := no2 h2
                          clear h2
                          rcases h2' with v1 | ⟨v1, v2⟩
                          all_goals
                            go_wp2_with fail
                            go_returns
                            exact ⟨ret_b' E.out, T7.out.1⟩
                      | false =>
                        have E := Lib.hid (show rB t r q nt nr pt pr nm = false from by rw [E1.out, hz]; rfl)
                        clear hz
                        go_wp2_with fail
                        go_returns
                        exact ⟨ret_b' E.out, T7.out.1⟩
            · have E := Lib.hid (show rB t r q nt nr pt pr nm = false from by unfold rB; simp [h7])
              have v1 := neb_ (ckI nm) 0 h7
              generalize ckI nm = z at *
              go_wp2_with fail
              go_returns
              exact ⟨ret_b' E.out, T4.out.1⟩
          · have E := Lib.hid (show rB t r q nt nr pt pr nm = false from by unfold rB; simp [h5])
            rw [decide_eq_false h5]
            clear h5
            go_wp2_with fail
            go_returns
            exact ⟨ret_b' E.out, T3.out.1⟩
      · have h3' : 4294967296 < q := by omega
        have E := Lib.hid (show rB t r q nt nr pt pr nm = false from by unfold rB; simp [h3])
        clear h1
        go_wp2_with fail
        go_returns
        exact ⟨ret_b' E.out, T1.out.1⟩
    · have h2' : q < 1 := by omega
      have E := Lib.hid (show rB t r q nt nr pt pr nm = false from by unfold rB; simp [h2])
      clear h1
      go_wp2_with fail
      go_returns
      exact ⟨ret_b' E.out, T1.out.1⟩
end Go.Proofs.YtbeodechhneeeaaGreatDoor


