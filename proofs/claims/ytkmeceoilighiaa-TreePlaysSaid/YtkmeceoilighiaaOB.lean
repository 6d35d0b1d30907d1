/- Whether an op may be: op.Right and the reference's. Made by genob7.py. -/
import Derived.Test.YtkmeceoilighiaaOA
set_option linter.unusedVariables false
namespace Go.Proofs.Ytkmeceoilighiaa
open Go.RowKit

theorem check_is (s : ByteArray) : ∃ c, CheckIs s c := by
  by_cases h1 : Lits s ∨ BadFrom s 0
  · exact ⟨25, .inl ⟨h1, rfl⟩⟩
  · by_cases h2 : 255 < s.size
    · exact ⟨26, .inr (.inl ⟨fun h => h1 (.inl h), fun h => h1 (.inr h), h2, rfl⟩)⟩
    · exact ⟨0, .inr (.inr ⟨fun h => h1 (.inl h), fun h => h1 (.inr h), by omega, rfl⟩)⟩
noncomputable def ckI (s : ByteArray) : Int := (check_is s).choose
theorem ckI_is (s : ByteArray) : CheckIs s (ckI s) := (check_is s).choose_spec
def rpB (t r nt nr pt pr : Int) : Bool := if pt = 0 ∧ pr = 0 then true else if pt = 0 ∧ pr = 1 then !decide (t = nt ∧ r = nr) else St.rightB pt pr && (decide (St.cmpS pt pr t r < 0) && !decide (pt = nt ∧ pr = nr))
noncomputable def rB (t r q nt nr pt pr : Int) (nm : ByteArray) : Bool := St.rightB t r && (decide (1 ≤ q) && (decide (q ≤ 4294967296) && (St.rightB nt nr && (decide (St.cmpS nt nr t r ≤ 0) && (rpB t r nt nr pt pr && decide (ckI nm = 0))))))
theorem no2 {a b : Int} {x y : Int} (h : ¬ (a = x ∧ b = y)) : (a == x) = false ∨ ((a == x) = true ∧ (b == y) = false) := by
  by_cases e : a = x
  · exact .inr ⟨beqb_ a x e, bneb_ b y (fun e2 => h ⟨e, e2⟩)⟩
  · exact .inl (bneb_ a x e)
theorem yes2 {a b : Int} {x y : Int} (h : a = x ∧ b = y) : (a == x) = true ∧ (b == y) = true := ⟨beqb_ a x h.1, beqb_ b y h.2⟩
theorem ret_b' {a b : Bool} (h : b = a) : (Ending.returned (.bool a)) = .returned (.bool b) := by rw [h]
set_option maxRecDepth 100000 in
set_option maxHeartbeats 6400000 in
theorem rightParent_any (w : World) (t r q nt nr pt pr : Int) (nm : ByteArray) (d : Bool) :
    Calls Try.prog 62 #[.agg #[.int .i64 t, .int .i64 r, .int .i64 q, .int .i64 nt, .int .i64 nr, .int .i64 pt, .int .i64 pr, .string nm, .bool d]] w fun e w' => e = .returned (.bool (rpB t r nt nr pt pr)) ∧ Below w.heap.size w w' := by
  have T0 := Lib.hid (BX.start w t r q nt nr pt pr nm d)
  by_cases h0 : pt = 0 ∧ pr = 0
  · have E := Lib.hid (show rpB t r nt nr pt pr = true from by unfold rpB; rw [if_pos h0])
    obtain ⟨u1, u2⟩ := yes2 h0
    clear h0
    go_enter Try.func62, Try.ntmps62
    go_wp2_with fail
    refine (St.root_any _).mono ?_
    rintro e w1 ⟨rfl, hb⟩
    have T1 := Lib.hid (T0.out.step hb)
    clear hb
    go_wp2_with fail
    go_returns
    exact ⟨ret_b' E.out, T1.out.1⟩
  · have h0' := no2 h0
    by_cases h1 : pt = 0 ∧ pr = 1
    · have E1 := Lib.hid (show rpB t r nt nr pt pr = !decide (t = nt ∧ r = nr) from by unfold rpB; rw [if_neg h0, if_pos h1])
      obtain ⟨u1, u2⟩ := yes2 h1
      have u3 : (pr == 0) = false := bneb_ pr 0 (by omega)
      have KD := Lib.hid (show kindI t r nt nr pt pr = if t = nt ∧ r = nr then 1 else 3 from by unfold kindI; rw [if_pos h1])
      clear h0 h0' h1
      go_enter Try.func62, Try.ntmps62
      go_wp2_with fail
      refine (St.root_any _).mono ?_
      rintro e w1 ⟨rfl, hb⟩
      have T1 := Lib.hid (T0.out.step hb)
      clear hb
      go_wp2_with fail
      refine (St.trash_any _).mono ?_
      rintro e w2 ⟨rfl, hb⟩
      have T2 := Lib.hid (T1.out.step hb)
      clear hb
      obtain ⟨c0, c1, c2, c3, c4, c5, c6, c7, c8⟩ := T2.out.2.cells
      go_wp2_with fail
      refine (kind_any _ t r q nt nr pt pr nm d).mono ?_
      rintro e w3 ⟨rfl, hb⟩
      have T3 := Lib.hid (T2.out.step hb)
      clear hb
      by_cases h2 : t = nt ∧ r = nr
      · have E := Lib.hid (show rpB t r nt nr pt pr = false from by rw [E1.out, decide_eq_true h2]; rfl)
        have kk := KD.out
        rw [if_pos h2] at kk
        rw [kk]
        clear h2 kk c0 c1 c2 c3 c4 c5 c6 c7 c8
        go_wp2_with fail
        go_returns
        exact ⟨ret_b' E.out, T3.out.1⟩
      · have E := Lib.hid (show rpB t r nt nr pt pr = true from by rw [E1.out, decide_eq_false h2]; rfl)
        have kk := KD.out
        rw [if_neg h2] at kk
        rw [kk]
        clear h2 kk c0 c1 c2 c3 c4 c5 c6 c7 c8
        go_wp2_with fail
        go_returns
        exact ⟨ret_b' E.out, T3.out.1⟩
    · have E1 := Lib.hid (show rpB t r nt nr pt pr = (St.rightB pt pr && (decide (St.cmpS pt pr t r < 0) && !decide (pt = nt ∧ pr = nr))) from by unfold rpB; rw [if_neg h0, if_neg h1])
      have h1' := no2 h1
      have hcase : ((pt == 0) = false) ∨ ((pt == 0) = true ∧ (pr == 0) = false ∧ (pr == 1) = false) := by
        rcases h0' with a | ⟨a, b⟩
        · exact .inl a
        · rcases h1' with a' | ⟨_, b'⟩
          · rw [a] at a'; cases a'
          · exact .inr ⟨a, b, b'⟩
      clear h0 h0' h1 h1'
      rcases hcase with u1 | ⟨u1, u2, u3⟩
      all_goals
        go_enter Try.func62, Try.ntmps62
        go_wp2_with fail
        refine (St.root_any _).mono ?_
        rintro e w1 ⟨rfl, hb⟩
        have T1 := Lib.hid (T0.out.step hb)
        clear hb
        go_wp2_with fail
        refine (St.trash_any _).mono ?_
        rintro e w2 ⟨rfl, hb⟩
        have T2 := Lib.hid (T1.out.step hb)
        clear hb
        obtain ⟨c0, c1, c2, c3, c4, c5, c6, c7, c8⟩ := T2.out.2.cells
        go_wp2_with fail
        refine (St.right_any _ pt pr).mono ?_
        rintro e w3 ⟨rfl, hb⟩
        have T3 := Lib.hid (T2.out.step hb)
        clear hb
        clear c0 c1 c2 c3 c4 c5 c6 c7 c8
        cases hr : St.rightB pt pr with
        | false =>
          have E := Lib.hid (show rpB t r nt nr pt pr = false from by rw [E1.out, hr]; rfl)
          clear hr
          go_wp2_with fail
          go_returns
          exact ⟨ret_b' E.out, T3.out.1⟩
        | true =>
          rw [hr] at E1
          clear hr
          obtain ⟨c0, c1, c2, c3, c4, c5, c6, c7, c8⟩ := T3.out.2.cells
          go_wp2_with fail
          refine (St.compare_any _ pt pr t r).mono ?_
          rintro e w4 ⟨rfl, hb⟩
          have T4 := Lib.hid (T3.out.step hb)
          clear hb
          clear c0 c1 c2 c3 c4 c5 c6 c7 c8
          by_cases hz : St.cmpS pt pr t r < 0
          · rw [decide_eq_true hz] at E1
            generalize St.cmpS pt pr t r = z at *
            obtain ⟨c0, c1, c2, c3, c4, c5, c6, c7, c8⟩ := T4.out.2.cells
            by_cases h2 : pt = nt ∧ pr = nr
            · have E := Lib.hid (show rpB t r nt nr pt pr = false from by rw [E1.out, decide_eq_true h2]; rfl)
              obtain ⟨v1, v2⟩ := yes2 h2
              clear h2
              go_wp2_with fail
              go_returns
              exact ⟨ret_b' E.out, T4.out.1⟩
            · have E := Lib.hid (show rpB t r nt nr pt pr = true from by rw [E1.out, decide_eq_false h2]; rfl)
              have h2' := no2 h2
              clear h2
              rcases h2' with v1 | ⟨v1, v2⟩
              all_goals
                go_wp2_with fail
                go_returns
                exact ⟨ret_b' E.out, T4.out.1⟩
          · have E := Lib.hid (show rpB t r nt nr pt pr = false from by rw [E1.out, decide_eq_false hz]; rfl)
            generalize St.cmpS pt pr t r = z at *
            go_wp2_with fail
            go_returns
            exact ⟨ret_b' E.out, T4.out.1⟩
set_option maxRecDepth 100000 in
set_option maxHeartbeats 6400000 in
theorem right_any (w : World) (t r q nt nr pt pr : Int) (nm : ByteArray) (d : Bool) (hz : nm.size ≤ 1000000) :
    Calls Try.prog 42 #[.agg #[.int .i64 t, .int .i64 r, .int .i64 q, .int .i64 nt, .int .i64 nr, .int .i64 pt, .int .i64 pr, .string nm, .bool d]] w fun e w' => e = .returned (.bool (rB t r q nt nr pt pr nm)) ∧ Below w.heap.size w w' := by
  have T0 := Lib.hid (BX.start w t r q nt nr pt pr nm d)
  have CK := Lib.hid (fun W => check_any W nm hz (ckI nm) (ckI_is nm))
  clear hz
  go_enter Try.func42, Try.ntmps42
  go_wp2_with fail
  refine (St.right_any _ t r).mono ?_
  rintro e w1 ⟨rfl, hb⟩
  have T1 := Lib.hid (T0.out.step hb)
  clear hb
  cases h1 : St.rightB t r with
  | false =>
    have E := Lib.hid (show rB t r q nt nr pt pr nm = false from by unfold rB; simp [h1])
    clear h1
    go_wp2_with fail
    go_returns
    exact ⟨ret_b' E.out, T1.out.1⟩
  | true =>
    obtain ⟨c0, c1, c2, c3, c4, c5, c6, c7, c8⟩ := T1.out.2.cells
    by_cases h2 : 1 ≤ q
    · by_cases h3 : q ≤ 4294967296
      · have H123 := Lib.hid (And.intro h1 (And.intro h2 h3))
        clear h1
        go_wp2_with fail
        refine (St.right_any _ nt nr).mono ?_
        rintro e w2 ⟨rfl, hb⟩
        have T2 := Lib.hid (T1.out.step hb)
        clear hb
        clear c0 c1 c2 c3 c4 c5 c6 c7 c8 h2 h3
        cases h4 : St.rightB nt nr with
        | false =>
          have E := Lib.hid (show rB t r q nt nr pt pr nm = false from by unfold rB; simp [h4])
          clear h4
          go_wp2_with fail
          go_returns
          exact ⟨ret_b' E.out, T2.out.1⟩
        | true =>
          have H4 := Lib.hid h4
          clear h4
          obtain ⟨c0, c1, c2, c3, c4, c5, c6, c7, c8⟩ := T2.out.2.cells
          go_wp2_with fail
          refine (St.compare_any _ nt nr t r).mono ?_
          rintro e w3 ⟨rfl, hb⟩
          have T3 := Lib.hid (T2.out.step hb)
          clear hb
          clear c0 c1 c2 c3 c4 c5 c6 c7 c8
          by_cases h5 : St.cmpS nt nr t r ≤ 0
          · have H5 := Lib.hid h5
            have h5' := h5
            clear h5
            generalize hz : St.cmpS nt nr t r = z at h5' ⊢
            have HZ := Lib.hid hz
            clear hz
            obtain ⟨c0, c1, c2, c3, c4, c5, c6, c7, c8⟩ := T3.out.2.cells
            go_wp2_with fail
            refine (rightParent_any _ t r q nt nr pt pr nm d).mono ?_
            rintro e w4 ⟨rfl, hb⟩
            have T4 := Lib.hid (T3.out.step hb)
            clear hb
            clear c0 c1 c2 c3 c4 c5 c6 c7 c8 h5'
            cases h6 : rpB t r nt nr pt pr with
            | false =>
              have E := Lib.hid (show rB t r q nt nr pt pr nm = false from by unfold rB; simp [h6])
              clear h6
              go_wp2_with fail
              go_returns
              exact ⟨ret_b' E.out, T4.out.1⟩
            | true =>
              have H6 := Lib.hid h6
              clear h6
              obtain ⟨c0, c1, c2, c3, c4, c5, c6, c7, c8⟩ := T4.out.2.cells
              go_wp2_with fail
              refine (CK.out _).mono ?_
              rintro e w5 ⟨rfl, hb⟩
              have T5 := Lib.hid (T4.out.step hb)
              clear hb
              clear c0 c1 c2 c3 c4 c5 c6 c7 c8
              by_cases h7 : ckI nm = 0
              · have E := Lib.hid (show rB t r q nt nr pt pr nm = true from by unfold rB; simp [H123.out, H4.out, H5.out, H6.out, h7])
                rw [h7]
                clear h7
                go_wp2_with fail
                go_returns
                exact ⟨ret_b' E.out, T5.out.1⟩
              · have E := Lib.hid (show rB t r q nt nr pt pr nm = false from by unfold rB; simp [h7])
                have v1 := bneb_ (ckI nm) 0 h7
                generalize ckI nm = z at *
                go_wp2_with fail
                go_returns
                exact ⟨ret_b' E.out, T5.out.1⟩
          · have E := Lib.hid (show rB t r q nt nr pt pr nm = false from by unfold rB; simp [h5])
            generalize St.cmpS nt nr t r = z at *
            go_wp2_with fail
            go_returns
            exact ⟨ret_b' E.out, T3.out.1⟩
      · have E := Lib.hid (show rB t r q nt nr pt pr nm = false from by unfold rB; simp [h3])
        clear h1
        go_wp2_with fail
        go_returns
        exact ⟨ret_b' E.out, T1.out.1⟩
    · have E := Lib.hid (show rB t r q nt nr pt pr nm = false from by unfold rB; simp [h2])
      clear h1
      go_wp2_with fail
      go_returns
      exact ⟨ret_b' E.out, T1.out.1⟩
end Go.Proofs.Ytkmeceoilighiaa



