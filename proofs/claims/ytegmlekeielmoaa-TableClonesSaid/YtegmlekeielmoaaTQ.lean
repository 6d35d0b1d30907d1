/- The reference's Above. -/
import Derived.Test.YtegmlekeielmoaaTP
set_option linter.unusedVariables false
set_option maxRecDepth 100000
namespace Go.Proofs.Ytegmlekeielmoaa
open Go.RowKit Go.WideMaps Go.Maps

structure UpR (w W : World) (nt nr t r : Int) : Prop where
  bel : Below w.heap.size w W
  one : StAt W w.heap.size nt nr
  two : StAt W (w.heap.size + 2) t r
theorem UpR.step {w W W' : World} {nt nr t r : Int} (h : UpR w W nt nr t r) (hb : Below W.heap.size W W') : UpR w W' nt nr t r := ⟨h.bel.trans (hb.mono h.bel.size), h.one.step hb, h.two.step hb⟩
theorem UpR.set {w W : World} {nt nr t r : Int} (h : UpR w W nt nr t r) (t' r' : Int) : UpR w (sets2 W (w.heap.size + 2) (.int .i64 t') (.int .i64 r')) nt nr t' r' := by
  have k : Below (w.heap.size + 2) W (sets2 W (w.heap.size + 2) (.int .i64 t') (.int .i64 r')) := ((Below.refl _ W).setCell (p := ⟨w.heap.size + 2, 0, none⟩) (Nat.le_refl _) _).setCell (p := ⟨w.heap.size + 2, 1, none⟩) (Nat.le_refl _) _
  refine ⟨h.bel.trans (k.mono (by omega)), (k.block _ (by omega)).trans h.one, ?_⟩
  exact row_setC (j := 1) (u := .int .i64 r') (row_setC (j := 0) (u := .int .i64 t') h.two)
set_option maxHeartbeats 3200000 in
theorem rabove_any (w : World) (v : Value) (l : List Rw) (h : LiesR w v l) (nt nr t r : Int) :
    Calls Try.prog 28 #[v, .agg #[.int .i64 nt, .int .i64 nr], .agg #[.int .i64 t, .int .i64 r]] w fun e w' => e = .returned (.bool (aboveF l nt nr l.length t r)) ∧ Below w.heap.size w w' := by
  have hlm := h.len
  have B1 := vstep w (.cells #[.int .i64 nt, .int .i64 nr] 24)
  have B2 := vstep (w.alloc (.cells #[.int .i64 nt, .int .i64 nr] 24)) (.cells #[.int .i64 t, .int .i64 r] 24)
  have B3 := vstep ((w.alloc (.cells #[.int .i64 nt, .int .i64 nr] 24)).alloc (.cells #[.int .i64 t, .int .i64 r] 24)) (.cells #[.int .i64 t, .int .i64 r] 24)
  have E1 : ((w.alloc (.cells #[.int .i64 nt, .int .i64 nr] 24)).alloc (.cells #[.int .i64 t, .int .i64 r] 24)).heap.size = w.heap.size + 2 := by simp
  have U0 := Lib.hid (show UpR w (((w.alloc (.cells #[.int .i64 nt, .int .i64 nr] 24)).alloc (.cells #[.int .i64 t, .int .i64 r] 24)).alloc (.cells #[.int .i64 t, .int .i64 r] 24)) nt nr t r from ⟨(B1.trans (B2.mono B1.size)).trans (B3.mono (by simp; omega)), ((StAt.new w nt nr).step B2).step B3, by have := StAt.new ((w.alloc (.cells #[.int .i64 nt, .int .i64 nr] 24)).alloc (.cells #[.int .i64 t, .int .i64 r] 24)) t r; rwa [E1] at this⟩)
  have B12 := Lib.hid (show Below w.heap.size w ((w.alloc (.cells #[.int .i64 nt, .int .i64 nr] 24)).alloc (.cells #[.int .i64 t, .int .i64 r] 24)) from B1.trans (B2.mono B1.size))
  have S12 := Lib.hid (show StAt ((w.alloc (.cells #[.int .i64 nt, .int .i64 nr] 24)).alloc (.cells #[.int .i64 t, .int .i64 r] 24)) (w.heap.size + 1) t r from by have := StAt.new (w.alloc (.cells #[.int .i64 nt, .int .i64 nr] 24)) t r; rwa [World.size_alloc] at this)
  have Z12 := Lib.hid E1
  obtain ⟨W1, hW1⟩ : ∃ y, (w.alloc (.cells #[.int .i64 nt, .int .i64 nr] 24)).alloc (.cells #[.int .i64 t, .int .i64 r] 24) = y := ⟨_, rfl⟩
  rw [hW1] at U0 S12 B12 Z12
  have HW := Lib.hid hW1
  obtain ⟨W0, hW0⟩ : ∃ y, W1.alloc (.cells #[.int .i64 t, .int .i64 r] 24) = y := ⟨_, rfl⟩
  rw [hW0] at U0
  have HW2 := Lib.hid hW0
  have L := Lib.hid h
  obtain ⟨ao, cap, rfl⟩ := h.shape
  clear B1 B2 B3 hW0 hW1 h E1
  obtain ⟨res, hres⟩ : ∃ x, aboveF l nt nr l.length t r = x := ⟨_, rfl⟩
  rw [hres]
  have HR := Lib.hid hres
  clear hres
  go_enter Try.func28, Try.ntmps28
  go_upto_region 1 with (fail)
  rw [HW.out]
  obtain ⟨c1, c2⟩ := S12.out.cells
  go_upto_region 2 with (fail)
  rw [Z12.out, HW2.out]
  clear c1 c2
  go_wp2_with fail
  go_loopw [8] (fun kv wr => ∃ (i : Nat) (t' r' : Int), kv = .int .i64 i ∧ i ≤ l.length ∧ Hid (UpR w wr nt nr t' r' ∧ aboveF l nt nr (l.length - i) t' r' = res)) (fun kv _ => l.length - (intOf kv).toNat)
  case atStart => exact ⟨0, t, r, rfl, Nat.zero_le _, Lib.hid ⟨U0.out, HR.out⟩⟩
  case round =>
    obtain ⟨i, t', r', rfl, hi, hJ⟩ := hrel
    have UJ := Lib.hid hJ.out.1
    have EJ := Lib.hid hJ.out.2
    clear hJ
    by_cases hlt : i < l.length
    · have GT := Lib.hid (rget_any wr _ l (L.out.step UJ.out.bel) t' r')
      obtain ⟨x1, x2, x3, x4, hx⟩ := gv_form l t' r'
      rw [hx] at GT
      have HX := Lib.hid hx
      clear hx
      have EJ := Lib.hid (show (match getF l t' r' with | none => false | some x => if x.pt = nt ∧ x.pr = nr then true else aboveF l nt nr (l.length - (i + 1)) x.pt x.pr) = res from by have := EJ.out; rw [show l.length - i = (l.length - (i + 1)) + 1 by omega] at this; exact this)
      cases hg : getF l t' r' with
      | none =>
        rw [hg] at GT EJ
        have EJ := Lib.hid (show false = res from EJ.out)
        clear hg HX
        obtain ⟨c1, c2⟩ := UJ.out.two.cells
        go_wp2_with fail
        refine GT.out.mono ?_
        rintro e w2 ⟨rfl, hb⟩
        have U2 := Lib.hid (UJ.out.step hb)
        clear hb c1 c2
        go_wp2
        go_returns
        exact ⟨ret_b' EJ.out.symm, (U2.out.step (vstep w2 _)).bel⟩
      | some x =>
        have hgv : gv l t' r' = .agg #[.int .i64 x.pt, .int .i64 x.pr, .string x.nm, .bool x.d] := by unfold gv; rw [hg]
        rw [HX.out] at hgv
        injection hgv with hgv
        simp only [Array.mk.injEq, List.cons.injEq, Value.int.injEq, Value.string.injEq, Value.bool.injEq, true_and, and_true] at hgv
        obtain ⟨rfl, rfl, rfl, rfl⟩ := hgv
        rw [hg] at GT EJ
        have EJ := Lib.hid (show (if x.pt = nt ∧ x.pr = nr then true else aboveF l nt nr (l.length - (i + 1)) x.pt x.pr) = res from EJ.out)
        clear hg HX
        have hc : (∃ q1 : (x.pt == nt) = true, (x.pr == nr) = true ∧ res = true) ∨ (((x.pt == nt) = false ∨ ((x.pt == nt) = true ∧ (x.pr == nr) = false)) ∧ aboveF l nt nr (l.length - (i + 1)) x.pt x.pr = res) := by
          by_cases q : x.pt = nt ∧ x.pr = nr
          · have e := EJ.out
            rw [if_pos q] at e
            exact .inl ⟨beqb_ _ _ q.1, beqb_ _ _ q.2, e.symm⟩
          · have e := EJ.out
            rw [if_neg q] at e
            exact .inr ⟨no2 q, e⟩
        have HC := Lib.hid hc
        clear hc EJ
        obtain ⟨c1, c2⟩ := UJ.out.two.cells
        go_wp2_with fail
        refine GT.out.mono ?_
        rintro e w2 ⟨rfl, hb⟩
        have U2 := Lib.hid ((UJ.out.step hb).step (vstep w2 (.cells #[.int .i64 x.pt, .int .i64 x.pr, .string x.nm, .bool x.d] 29)))
        have N2 := Lib.hid (show EnB 29 (w2.alloc (.cells #[.int .i64 x.pt, .int .i64 x.pr, .string x.nm, .bool x.d] 29)) w2.heap.size x.pt x.pr x.nm x.d from heap_alloc_new w2 _)
        have NE := Lib.hid (show w2.heap.size ≠ w.heap.size + 2 from by have := (UJ.out.step hb).two; have := lt_of_block this; omega)
        clear hb c1 c2
        go_upto_region 8 with (fail)
        obtain ⟨w3, hw3⟩ : ∃ y, w2.alloc (.cells #[.int .i64 x.pt, .int .i64 x.pr, .string x.nm, .bool x.d] 29) = y := ⟨_, rfl⟩
        rw [hw3] at U2 N2 ⊢
        clear hw3
        obtain ⟨d0, d1, d2, d3⟩ := N2.out.cells
        obtain ⟨c1, c2⟩ := U2.out.two.cells
        obtain ⟨f1, f2⟩ := U2.out.two.free
        go_upto_region 9 with (fail)
        obtain ⟨w4, hw4⟩ : ∃ y, sets2 w3 (w.heap.size + 2) (.int .i64 x.pt) (.int .i64 x.pr) = y := ⟨_, rfl⟩
        have U4 := Lib.hid (show UpR w w4 nt nr x.pt x.pr from by rw [← hw4]; exact U2.out.set _ _)
        unfold sets2 at hw4
        rw [hw4]
        clear hw4 d0 d1 d2 d3 c1 c2 f1 f2
        obtain ⟨c1, c2⟩ := U4.out.two.cells
        obtain ⟨g1, g2⟩ := U4.out.one.cells
        rcases HC.out with ⟨q1, q2, q3⟩ | ⟨q1 | ⟨q1, q2⟩, q3⟩
        · have Q3 := Lib.hid q3
          clear q3 HC HR
          go_wp2
          go_returns
          exact ⟨ret_b' Q3.out, U4.out.bel⟩
        all_goals
          have Q3 := Lib.hid q3
          clear q3 HC
          go_wp2
          go_roundw
          case rel => exact ⟨i + 1, x.pt, x.pr, by go_num, by omega, Lib.hid ⟨U4.out, Q3.out⟩⟩
          case measure => simp [intOf]; omega
    · have EJ := Lib.hid (show false = res from by have := EJ.out; rw [show l.length - i = 0 by omega] at this; exact this)
      go_wp2
      go_returns
      exact ⟨ret_b' EJ.out.symm, UJ.out.bel⟩
end Go.Proofs.Ytegmlekeielmoaa
