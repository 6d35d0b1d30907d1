/- A table: Drop, Above; the ways of no table. -/
import Derived.Test.YtegmlekeielmoaaTD
set_option linter.unusedVariables false
set_option maxRecDepth 100000
namespace Go.Proofs.Ytegmlekeielmoaa
open Go.RowKit Go.WideMaps Go.Maps

theorem drop_none {l : List Rw} {t r : Int} (h : getF l t r = none) : dropF l t r = l := by
  unfold dropF
  rw [List.filter_eq_self]
  intro x hx
  have := get_none.1 h x hx
  show (!decide (x.t = t ∧ x.r = r)) = true
  rw [decide_eq_false this]
  rfl
theorem below_grown {w w' : World} (h : Below w.heap.size w w') (row : Option Nat) : w.grownBy w' row := ⟨h.os, h.tape, h.output, h.size, fun k hk _ => h.block k hk⟩
theorem gv_form (l : List Rw) (t r : Int) : ∃ x1 x2 x3 x4, gv l t r = .agg #[.int .i64 x1, .int .i64 x2, .string x3, .bool x4] := by
  unfold gv
  split
  · exact ⟨_, _, _, _, rfl⟩
  · exact ⟨_, _, _, _, rfl⟩
set_option maxHeartbeats 1600000 in
theorem drop_any (w : World) (p b : Nat) (l : List Rw) (h : TabI w p b l) (t r : Int) (ht : I64 t) (hr : I64 r) :
    Calls Try.prog 15 #[.pointer (some ⟨p, 0, none⟩), .agg #[.int .i64 t, .int .i64 r]] w fun e w' => e = .returned (.bool (getF l t r).isSome) ∧ TOut w w' p b (dropF l t r) := by
  have B1 := Lib.hid (vstep w (.cells #[.int .i64 t, .int .i64 r] 24))
  have T1 := Lib.hid (h.step B1.out)
  have S1 := Lib.hid (StAt.new w t r)
  obtain ⟨W0, hW0⟩ : ∃ y, w.alloc (.cells #[.int .i64 t, .int .i64 r] 24) = y := ⟨_, rfl⟩
  rw [hW0] at T1 S1 B1
  have HW := Lib.hid hW0
  have G := Lib.hid (get_any W0 p b l T1.out t r ht hr)
  obtain ⟨x1, x2, x3, x4, hx⟩ := gv_form l t r
  rw [hx] at G
  have HT := Lib.hid (And.intro ht hr)
  have DN := Lib.hid (fun h => drop_none (l := l) (t := t) (r := r) h)
  clear hW0 h ht hr hx
  cases hg : getF l t r with
  | none =>
    rw [hg] at G
    have DN := Lib.hid (DN.out hg)
    clear hg
    go_enter Try.func15, Try.ntmps15
    go_upto_region 1 with (fail)
    rw [HW.out]
    obtain ⟨c1, c2⟩ := S1.out.cells
    go_wp2_with fail
    refine G.out.mono ?_
    rintro e w1 ⟨rfl, hb⟩
    have T2 := Lib.hid (T1.out.step hb)
    have B2 := Lib.hid (B1.out.trans (hb.mono B1.out.size))
    clear hb c1 c2
    go_wp2
    go_returns
    rw [DN.out]
    have B3 := vstep w1 (.cells #[.int .i64 x1, .int .i64 x2, .string x3, .bool x4] 34)
    exact ⟨rfl, T2.out.step B3, below_grown (B2.out.trans (B3.mono B2.out.size)) _⟩
  | some y =>
    rw [hg] at G
    clear hg DN
    go_enter Try.func15, Try.ntmps15
    go_upto_region 1 with (fail)
    rw [HW.out]
    obtain ⟨c1, c2⟩ := S1.out.cells
    go_wp2_with fail
    refine G.out.mono ?_
    rintro e w1 ⟨rfl, hb⟩
    have B3 := Lib.hid (vstep w1 (.cells #[.int .i64 x1, .int .i64 x2, .string x3, .bool x4] 34))
    have T2 := Lib.hid ((T1.out.step hb).step B3.out)
    have S2 := Lib.hid ((S1.out.step hb).step B3.out)
    have B2 := Lib.hid ((B1.out.trans (hb.mono B1.out.size)))
    have B2 := Lib.hid (B2.out.trans (B3.out.mono B2.out.size))
    clear hb c1 c2
    go_upto_region 4 with (fail)
    generalize (w1.alloc (.cells #[.int .i64 x1, .int .i64 x2, .string x3, .bool x4] 34)) = w2 at *
    obtain ⟨c1, c2⟩ := S2.out.cells
    have c0 := T2.out.cell
    go_still_tail 5, (by kernel_rfl)
    change wpList _ _ _ _ _ w2.drew
    have BD := Lib.hid (show Below w2.heap.size w2 w2.drew from (Below.refl _ _).drew)
    have T3 := Lib.hid (T2.out.step BD.out)
    have B3 := Lib.hid (B2.out.trans (BD.out.mono B2.out.size))
    generalize w2.drew = w3 at *
    go_wp2_with (at_delete; refine wpList_tdrop rfl _ _ rfl b l t r rfl T3.out.map HT.out.1 HT.out.2 rfl ?_; intro w4 ht hg; have T4 := Lib.hid ht; have G4 := Lib.hid hg; clear ht hg)
    go_returns
    refine ⟨rfl, ⟨(G4.out.block p T3.out.plt (fun e => T3.out.ne (by injection e))).trans T3.out.box, T4.out⟩, ?_⟩
    exact (below_grown B3.out (some b)).andThen G4.out (fun j e => Or.inr e)
theorem beqb_ (a b : Int) (h : a = b) : (a == b) = true := by simpa using h
theorem bneb_ (a b : Int) (h : a ≠ b) : (a == b) = false := by simpa using h
theorem no2 {a b x y : Int} (h : ¬ (a = x ∧ b = y)) : (a == x) = false ∨ ((a == x) = true ∧ (b == y) = false) := by
  by_cases e : a = x
  · exact .inr ⟨beqb_ a x e, bneb_ b y (fun e2 => h ⟨e, e2⟩)⟩
  · exact .inl (bneb_ a x e)
theorem ret_b' {a b : Bool} (h : b = a) : (Ending.returned (.bool a)) = .returned (.bool b) := by rw [h]
def aboveF (l : List Rw) (nt nr : Int) : Nat → Int → Int → Bool
  | 0, _, _ => false
  | k + 1, t, r => match getF l t r with
    | none => false
    | some x => if x.pt = nt ∧ x.pr = nr then true else aboveF l nt nr k x.pt x.pr
/-- The way up: two stamps' boxes, the table. -/
structure Up (w W : World) (p b : Nat) (l : List Rw) (nt nr t r : Int) : Prop where
  bel : Below w.heap.size w W
  tab : TabI W p b l
  one : StAt W w.heap.size nt nr
  two : StAt W (w.heap.size + 1) t r
theorem Up.step {w W W' : World} {p b : Nat} {l : List Rw} {nt nr t r : Int} (h : Up w W p b l nt nr t r) (hb : Below W.heap.size W W') : Up w W' p b l nt nr t r := ⟨h.bel.trans (hb.mono h.bel.size), h.tab.step hb, h.one.step hb, h.two.step hb⟩
theorem StAt.free {w : World} {g : Nat} {t r : Int} (h : StAt w g t r) : w.frozen? ⟨g, 0, none⟩ = false ∧ w.frozen? ⟨g, 1, none⟩ = false := ⟨frozen_of_row _ _ _ _ _ h, frozen_of_row _ _ _ _ _ h⟩
def sets2 (w : World) (b : Nat) (x y : Value) : World := (w.setCell ⟨b, 0, none⟩ x).setCell ⟨b, 1, none⟩ y
theorem Up.set {w W : World} {p b : Nat} {l : List Rw} {nt nr t r : Int} (h : Up w W p b l nt nr t r) (hp : p < w.heap.size) (hb : b < w.heap.size) (t' r' : Int) : Up w (sets2 W (w.heap.size + 1) (.int .i64 t') (.int .i64 r')) p b l nt nr t' r' := by
  have k : Below (w.heap.size + 1) W (sets2 W (w.heap.size + 1) (.int .i64 t') (.int .i64 r')) := ((Below.refl _ W).setCell (p := ⟨w.heap.size + 1, 0, none⟩) (Nat.le_refl _) _).setCell (p := ⟨w.heap.size + 1, 1, none⟩) (Nat.le_refl _) _
  have kg : W.grownBy (sets2 W (w.heap.size + 1) (.int .i64 t') (.int .i64 r')) (some (w.heap.size + 1)) := ⟨k.os, k.tape, k.output, k.size, fun i _ hi => by
    unfold sets2
    rw [Below.heap_setCell _ _ _ _ (fun e => hi (by rw [e])), Below.heap_setCell _ _ _ _ (fun e => hi (by rw [e]))]⟩
  refine ⟨h.bel.trans (k.mono (by omega)), h.tab.grown kg (fun e => by injection e; omega) (fun e => by injection e; omega), (k.block _ (by omega)).trans h.one, ?_⟩
  exact row_setC (j := 1) (u := .int .i64 r') (row_setC (j := 0) (u := .int .i64 t') h.two)
set_option maxHeartbeats 3200000 in
theorem above_any (w : World) (p b : Nat) (l : List Rw) (h : TabI w p b l) (hl : l.length < 1000000) (nt nr t r : Int) (ht : I64 t) (hr : I64 r) :
    Calls Try.prog 27 #[.pointer (some ⟨p, 0, none⟩), .agg #[.int .i64 nt, .int .i64 nr], .agg #[.int .i64 t, .int .i64 r]] w fun e w' => e = .returned (.bool (aboveF l nt nr l.length t r)) ∧ Below w.heap.size w w' := by
  have B1 := vstep w (.cells #[.int .i64 nt, .int .i64 nr] 24)
  have B2 := vstep (w.alloc (.cells #[.int .i64 nt, .int .i64 nr] 24)) (.cells #[.int .i64 t, .int .i64 r] 24)
  have U0 := Lib.hid (show Up w ((w.alloc (.cells #[.int .i64 nt, .int .i64 nr] 24)).alloc (.cells #[.int .i64 t, .int .i64 r] 24)) p b l nt nr t r from ⟨B1.trans (B2.mono B1.size), (h.step B1).step B2, (StAt.new w nt nr).step B2, by have := StAt.new (w.alloc (.cells #[.int .i64 nt, .int .i64 nr] 24)) t r; rwa [World.size_alloc] at this⟩)
  obtain ⟨W0, hW0⟩ : ∃ y, (w.alloc (.cells #[.int .i64 nt, .int .i64 nr] 24)).alloc (.cells #[.int .i64 t, .int .i64 r] 24) = y := ⟨_, rfl⟩
  rw [hW0] at U0
  have HW := Lib.hid hW0
  have LN := Lib.hid (len_any W0 p b l U0.out.tab)
  have HP := Lib.hid h.plt
  have HB := Lib.hid h.blt
  have OK := Lib.hid h.map.oks
  have RS := Lib.hid h.map.rise
  have HT := Lib.hid (And.intro ht hr)
  clear B1 B2 hW0 h ht hr
  obtain ⟨res, hres⟩ : ∃ x, aboveF l nt nr l.length t r = x := ⟨_, rfl⟩
  rw [hres]
  have HR := Lib.hid hres
  clear hres
  go_enter Try.func27, Try.ntmps27
  go_upto_region 1 with (fail)
  rw [HW.out]
  go_wp2_with fail
  refine LN.out.mono ?_
  rintro e w1 ⟨rfl, rfl⟩
  go_wp2_with fail
  go_loopw [11] (fun kv wr => ∃ (i : Nat) (t' r' : Int), kv = .int .i64 i ∧ i ≤ l.length ∧ Hid (Up w wr p b l nt nr t' r' ∧ I64 t' ∧ I64 r' ∧ aboveF l nt nr (l.length - i) t' r' = res)) (fun kv _ => l.length - (intOf kv).toNat)
  case atStart => exact ⟨0, t, r, rfl, Nat.zero_le _, Lib.hid ⟨U0.out, HT.out.1, HT.out.2, HR.out⟩⟩
  case round =>
    obtain ⟨i, t', r', rfl, hi, hJ⟩ := hrel
    have UJ := Lib.hid hJ.out.1
    have HT2 := Lib.hid (And.intro hJ.out.2.1 hJ.out.2.2.1)
    have EJ := Lib.hid hJ.out.2.2.2
    clear hJ
    by_cases hlt : i < l.length
    · have GT := Lib.hid (get_any wr p b l UJ.out.tab t' r' HT2.out.1 HT2.out.2)
      obtain ⟨x1, x2, x3, x4, hx⟩ := gv_form l t' r'
      rw [hx] at GT
      have HX := Lib.hid hx
      clear hx
      have EJ := Lib.hid (show (match getF l t' r' with | none => false | some x => if x.pt = nt ∧ x.pr = nr then true else aboveF l nt nr (l.length - (i + 1)) x.pt x.pr) = res from by have := EJ.out; rw [show l.length - i = (l.length - (i + 1)) + 1 by omega] at this; exact this)
      cases hg : getF l t' r' with
      | none =>
        rw [hg] at GT EJ
        have EJ := Lib.hid (show false = res from EJ.out)
        clear hg HX
        obtain ⟨c1, c2⟩ := UJ.out.two.cells
        go_wp2_with fail
        refine GT.out.mono ?_
        rintro e w2 ⟨rfl, hb⟩
        have U2 := Lib.hid (UJ.out.step hb)
        clear hb c1 c2
        go_wp2
        go_returns
        exact ⟨ret_b' EJ.out.symm, (U2.out.step (vstep w2 _)).bel⟩
      | some x =>
        have hxm := ((get_some RS.out).1 hg).1
        have hgv : gv l t' r' = .agg #[.int .i64 x.pt, .int .i64 x.pr, .string x.nm, .bool x.d] := by unfold gv; rw [hg]
        rw [HX.out] at hgv
        injection hgv with hgv
        simp only [Array.mk.injEq, List.cons.injEq, Value.int.injEq, Value.string.injEq, Value.bool.injEq, true_and, and_true] at hgv
        obtain ⟨rfl, rfl, rfl, rfl⟩ := hgv
        rw [hg] at GT EJ
        have EJ := Lib.hid (show (if x.pt = nt ∧ x.pr = nr then true else aboveF l nt nr (l.length - (i + 1)) x.pt x.pr) = res from EJ.out)
        have HO := Lib.hid (OK.out x hxm)
        clear hg hxm HX
        have hc : (∃ q1 : (x.pt == nt) = true, (x.pr == nr) = true ∧ res = true) ∨ (((x.pt == nt) = false ∨ ((x.pt == nt) = true ∧ (x.pr == nr) = false)) ∧ aboveF l nt nr (l.length - (i + 1)) x.pt x.pr = res) := by
          by_cases q : x.pt = nt ∧ x.pr = nr
          · have e := EJ.out
            rw [if_pos q] at e
            exact .inl ⟨beqb_ _ _ q.1, beqb_ _ _ q.2, e.symm⟩
          · have e := EJ.out
            rw [if_neg q] at e
            exact .inr ⟨no2 q, e⟩
        have HC := Lib.hid hc
        clear hc EJ
        obtain ⟨c1, c2⟩ := UJ.out.two.cells
        go_wp2_with fail
        refine GT.out.mono ?_
        rintro e w2 ⟨rfl, hb⟩
        have U2 := Lib.hid ((UJ.out.step hb).step (vstep w2 (.cells #[.int .i64 x.pt, .int .i64 x.pr, .string x.nm, .bool x.d] 34)))
        have N2 := Lib.hid (EnAt.new w2 x.pt x.pr x.nm x.d)
        have NE := Lib.hid (show w2.heap.size ≠ w.heap.size + 1 from by have := (UJ.out.step hb).two; have := lt_of_block this; omega)
        clear hb c1 c2
        go_upto_region 6 with (fail)
        obtain ⟨w3, hw3⟩ : ∃ y, w2.alloc (.cells #[.int .i64 x.pt, .int .i64 x.pr, .string x.nm, .bool x.d] 34) = y := ⟨_, rfl⟩
        rw [hw3] at U2 N2 ⊢
        clear hw3
        obtain ⟨d0, d1, d2, d3⟩ := N2.out.cells
        obtain ⟨c1, c2⟩ := U2.out.two.cells
        obtain ⟨f1, f2⟩ := U2.out.two.free
        go_upto_region 7 with (fail)
        obtain ⟨w4, hw4⟩ : ∃ y, sets2 w3 (w.heap.size + 1) (.int .i64 x.pt) (.int .i64 x.pr) = y := ⟨_, rfl⟩
        have U4 := Lib.hid (show Up w w4 p b l nt nr x.pt x.pr from by rw [← hw4]; exact U2.out.set HP.out HB.out _ _)
        unfold sets2 at hw4
        rw [hw4]
        clear hw4 d0 d1 d2 d3 c1 c2 f1 f2
        obtain ⟨c1, c2⟩ := U4.out.two.cells
        obtain ⟨g1, g2⟩ := U4.out.one.cells
        rcases HC.out with ⟨q1, q2, q3⟩ | ⟨q1 | ⟨q1, q2⟩, q3⟩
        · have Q3 := Lib.hid q3
          clear q3 HC HR
          go_wp2
          go_returns
          exact ⟨ret_b' Q3.out, U4.out.bel⟩
        all_goals
          have Q3 := Lib.hid q3
          clear q3 HC
          go_wp2
          go_roundw
          case rel => exact ⟨i + 1, x.pt, x.pr, by go_num, by omega, Lib.hid ⟨U4.out, HO.out.2.2.1, HO.out.2.2.2, Q3.out⟩⟩
          case measure => simp [intOf]; omega
    · have EJ := Lib.hid (show false = res from by have := EJ.out; rw [show l.length - i = 0 by omega] at this; exact this)
      go_wp2
      go_returns
      exact ⟨ret_b' EJ.out.symm, UJ.out.bel⟩
end Go.Proofs.Ytegmlekeielmoaa
