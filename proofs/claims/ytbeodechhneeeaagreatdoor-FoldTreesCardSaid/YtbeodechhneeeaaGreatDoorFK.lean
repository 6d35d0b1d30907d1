/- Merged by tools/merge.py: FK, FO. -/
import Derived.Test.YtbeodechhneeeaaGreatDoorFI

set_option linter.unusedVariables false
set_option linter.unusedSimpArgs false
set_option maxRecDepth 100000
namespace Go.Proofs.YtbeodechhneeeaaGreatDoor
open Go.RowKit Go.Shelf
open Tb (Rw setF getF aboveF Rise TabI TM LiesK LiesR ltS encS Sp)
open Vx (va vw zs zs_len va_len va_size cell_va set_va alloc_va load_va store_va v24 v26)

theorem z26 : Vx.Z64 51 := by unfold Vx.Z64; kernel_rfl
theorem ixW {b i : Nat} (hi : i < 64) (W : World) : (Instr.indexAt 51 (.pointer (some ⟨b, 0, none⟩)) (.int .i64 (i : Int))).run Tryz.prog W = .ok (.pointer (some ⟨b, i, none⟩)) W := by
  have h0 : (0 : Int) ≤ (i : Int) := by omega
  have h1 : (i : Int) < 64 := by omega
  go_simp
/-! ### number -/
structure RVI (w1 W : World) (vb : Nat) (cur : List Int) : Prop where
  bel : Below w1.heap.size w1 W
  box : W.heap[vb]? = some (.cells (va cur) 51 (0, 0))
  hv : w1.heap.size ≤ vb
  len : cur.length = 64
theorem RVI.step {w1 W W' : World} {vb : Nat} {cur : List Int} (h : RVI w1 W vb cur) (hb : Below W.heap.size W W') : RVI w1 W' vb cur := ⟨h.bel.trans (hb.mono h.bel.size), (hb.block _ (pl_lt h.box)).trans h.box, h.hv, h.len⟩
theorem RVI.set {w1 W : World} {vb : Nat} {cur : List Int} (h : RVI w1 W vb cur) (i : Nat) (x : Int) : RVI w1 (W.setCell ⟨vb, i, none⟩ (.int .i64 x)) vb (cur.set i x) :=
  ⟨h.bel.setCell (p := ⟨vb, i, none⟩) h.hv _, set_va h.box i x, h.hv, by rw [List.length_set]; exact h.len⟩
def maxF (l : List O) : Int := l.foldl (fun m o => if m < o.t then o.t else m) 0
theorem max_snoc {L : List O} {i : Nat} {x : O} (h : L[i]? = some x) : maxF (L.take (i + 1)) = if maxF (L.take i) < x.t then x.t else maxF (L.take i) := by
  obtain ⟨h1, h2⟩ := List.getElem?_eq_some_iff.1 h
  unfold maxF
  rw [List.take_succ_eq_append_getElem h1, h2, List.foldl_append]
  rfl
def keepB (V : List Int) (o : O) : Bool := decide (o.q ≤ V.getD o.r.toNat 0)
structure KNI (w w1 W : World) (V : List Int) (sv : Value) (K : List O) : Prop where
  bel : Below w1.heap.size w1 W
  box : W.heap[w.heap.size]? = some (.cells (va V) 51 (0, 0))
  row : W.ownsRow w1.heap.size 33 9 sv K.length (cs9 K)
  hw : w.heap.size < w1.heap.size
theorem KNI.step {w w1 W W' : World} {V : List Int} {sv : Value} {K : List O} (h : KNI w w1 W V sv K) (hb : Below W.heap.size W W') : KNI w w1 W' V sv K := ⟨h.bel.trans (hb.mono h.bel.size), (hb.block _ (pl_lt h.box)).trans h.box, own_below h.row hb, h.hw⟩
theorem KNI.push {w w1 W W' : World} {V : List Int} {sv sv' : Value} {K K' : List O} (h : KNI w w1 W V sv K) (ho : W'.ownsRow w1.heap.size 33 9 sv' K'.length (cs9 K')) (hb : Below w1.heap.size W W') : KNI w w1 W' V sv' K' := ⟨h.bel.trans hb, (hb.block _ h.hw).trans h.box, ho, h.hw⟩
theorem filt_snoc {p : O → Bool} {L : List O} {i : Nat} {x : O} (h : L[i]? = some x) : (L.take (i + 1)).filter p = (L.take i).filter p ++ (if p x = true then [x] else []) := by
  obtain ⟨h1, h2⟩ := List.getElem?_eq_some_iff.1 h
  rw [List.take_succ_eq_append_getElem h1, h2, List.filter_append]
  cases hp : p x <;> simp [List.filter_cons, hp]
end Go.Proofs.YtbeodechhneeeaaGreatDoor


set_option linter.unusedVariables false
set_option linter.unusedSimpArgs false
set_option maxRecDepth 100000
namespace Go.Proofs.YtbeodechhneeeaaGreatDoor
open Go.RowKit Go.Shelf
open Tb (Rw setF getF aboveF Rise TabI TM LiesK LiesR ltS encS Sp)

theorem eq4 (a b : Bool) (W : World) : (binOp .eql 4 (.bool a) (.bool b)).run Tryz.prog W = .ok (.bool (a == b)) W := by
  cases a <;> cases b <;> kernel_rfl
theorem geq4 (x y : Operand) (a b : Bool) (w : World) : (eqGuard .eql 4 x y (.bool a) (.bool b)).run Tryz.prog w = .ok () w := rfl
theorem ldB4 {W : World} {g o : Nat} {a : Bool} (h : W.cell? ⟨g, o, none⟩ = some (.bool a)) : (Instr.loadAt 4 (.pointer (some ⟨g, o, none⟩))).run Tryz.prog W = .ok (.bool a) W := by
  go_simp
/-! ### Reserved -/
theorem resB_yes {t r : Int} (h1 : t = 0) (h2 : 0 ≤ r) (h3 : r ≤ 2) : resB t r = true := by
  unfold resB
  subst h1
  have : r = 0 ∨ r = 1 ∨ r = 2 := by omega
  rcases this with rfl | rfl | rfl <;> rfl
theorem resB_no {t r : Int} (h : ¬ (t = 0 ∧ 0 ≤ r ∧ r ≤ 2)) : resB t r = false := by
  unfold resB
  simp only [Bool.or_eq_false_iff, decide_eq_false_iff_not]
  refine ⟨?_, ?_, ?_⟩ <;> omega
set_option maxHeartbeats 1600000 in
theorem rresv_any (w : World) (t r : Int) : Calls Tryz.prog 49 #[.agg #[.int .i64 t, .int .i64 r]] w fun e w' => e = .returned (.bool (resB t r)) ∧ Below w.heap.size w w' := by
  have B0 := pl_vstep w (.cells #[.int .i64 t, .int .i64 r] 31)
  have N0 := heap_alloc_new w (.cells #[.int .i64 t, .int .i64 r] 31)
  go_enter Tryz.func49, Tryz.ntmps49
  go_upto_region 1 with (fail)
  obtain ⟨w0, hw0⟩ : ∃ z, w.alloc (.cells #[.int .i64 t, .int .i64 r] 31) = z := ⟨_, rfl⟩
  rw [hw0] at B0 N0
  rw [hw0]
  have c0 : w0.cell? ⟨w.heap.size, 0, none⟩ = some (.int .i64 t) := by rw [cell_of_row _ _ _ _ _ _ N0]; rfl
  have c1 : w0.cell? ⟨w.heap.size, 1, none⟩ = some (.int .i64 r) := by rw [cell_of_row _ _ _ _ _ _ N0]; rfl
  have B0 := Lib.hid B0
  clear hw0 N0
  by_cases h1 : t = 0
  · have e1 := beqb_ t 0 h1
    by_cases h2 : 0 ≤ r
    · have d2 : decide ((0 : Int) ≤ r) = true := decide_eq_true h2
      by_cases h3 : r ≤ 2
      · have d3 : decide (r ≤ (2 : Int)) = true := decide_eq_true h3
        have RB := Lib.hid (resB_yes h1 h2 h3).symm
        clear h1 h2 h3
        go_wp2
        go_returns
        exact ⟨ret_b RB.out, B0.out⟩
      · have d3 : decide (r ≤ (2 : Int)) = false := decide_eq_false h3
        have RB := Lib.hid (resB_no (t := t) (r := r) (by omega)).symm
        clear h1 h2
        go_wp2
        go_returns
        exact ⟨ret_b RB.out, B0.out⟩
    · have d2 : decide ((0 : Int) ≤ r) = false := decide_eq_false h2
      have RB := Lib.hid (resB_no (t := t) (r := r) (by omega)).symm
      clear h1
      go_wp2
      go_returns
      exact ⟨ret_b RB.out, B0.out⟩
  · have e1 := bneb_ t 0 h1
    have RB := Lib.hid (resB_no (t := t) (r := r) (by omega)).symm
    clear h1
    go_wp2
    go_returns
    exact ⟨ret_b RB.out, B0.out⟩
/-! ### made -/
def mdB (l : List O) (t r : Int) (d : Bool) : Bool := l.any (fun o => decide (o.t = t ∧ o.r = r) && (decide (o.nt = t ∧ o.nr = r) && (o.d == d)))
set_option maxHeartbeats 6400000 in
theorem made_op (w : World) (v : Value) (l : List O) (h : OLies w v l) (t r : Int) (d : Bool) (hl : l.length ≤ 1000) :
    Calls Tryz.prog 48 #[v, .agg #[.int .i64 t, .int .i64 r], .bool d] w fun e w' => e = .returned (.bool (mdB l t r d)) ∧ Below w.heap.size w w' := by
  have B0 := pl_vstep w (.cells #[.int .i64 t, .int .i64 r] 31)
  have N0 := heap_alloc_new w (.cells #[.int .i64 t, .int .i64 r] 31)
  have H0 := h.step B0
  obtain ⟨w0, hw0⟩ : ∃ z, w.alloc (.cells #[.int .i64 t, .int .i64 r] 31) = z := ⟨_, rfl⟩
  rw [hw0] at B0 N0 H0
  have HW := Lib.hid hw0
  have BX := Lib.hid (fun W (hb : Below w0.heap.size w0 W) => ldSt ((hb.block _ (pl_lt N0)).trans N0))
  have B0 := Lib.hid B0
  have H := Lib.hid H0
  obtain ⟨ao, cap, rfl⟩ := h.shape
  clear h hw0 N0 H0
  go_enter Tryz.func48, Tryz.ntmps48
  go_upto_region 1 with (fail)
  rw [HW.out]
  go_wp2_with fail
  go_loopw [7] (fun iv wr => ∃ i : Nat, iv = .int .i64 i ∧ i ≤ l.length ∧ Hid (Below w0.heap.size w0 wr ∧ mdB (l.take i) t r d = false)) (fun iv _ => l.length - (intOf iv).toNat)
  case atStart => exact ⟨0, rfl, Nat.zero_le _, Lib.hid ⟨Below.refl _ _, rfl⟩⟩
  case round =>
    obtain ⟨i, rfl, hi, K⟩ := hrel
    by_cases hlt : i < l.length
    · have hi0 : (0 : Int) ≤ (i : Int) := by omega
      have hi1 : (i : Int) < (l.length : Int) := by omega
      have hd : decide ((i : Int) < (l.length : Int)) = true := decide_eq_true hi1
      have HL1 := Lib.hid (show i + 1 ≤ l.length from hlt)
      have HW9 := Lib.hid (wrap_nat hlt (show l.length ≤ 100000 by omega))
      have HMS := Lib.hid (meas_nat hlt)
      obtain ⟨g, k, x, e7, hx, hg, hc⟩ := (H.out.step K.out.1).atK hlt
      subst e7
      have LA := Lib.hid (fun W (hb : Below wr.heap.size wr W) => @ld24 W g (k + i * 9) x.t x.r ((hb.cell (p := ⟨g, k + i * 9 + 0, none⟩) hg).trans (hc 0 _ rfl)) ((hb.cell (p := ⟨g, k + i * 9 + 1, none⟩) hg).trans (hc 1 _ rfl)))
      have LN := Lib.hid (fun W (hb : Below wr.heap.size wr W) => @ld24 W g (k + i * 9 + 3) x.nt x.nr ((hb.cell (p := ⟨g, k + i * 9 + 3, none⟩) hg).trans (hc 3 _ rfl)) ((hb.cell (p := ⟨g, k + i * 9 + 4, none⟩) hg).trans (hc 4 _ rfl)))
      have LD := Lib.hid (fun W (hb : Below wr.heap.size wr W) => @ldB4 W g (k + i * 9 + 8) x.d ((hb.cell (p := ⟨g, k + i * 9 + 8, none⟩) hg).trans (hc 8 _ rfl)))
      have LB := Lib.hid (fun W (hb : Below wr.heap.size wr W) => BX.out W (K.out.1.trans (hb.mono K.out.1.size)))
      have IX := Lib.hid (fun W => @ix30 g k l.length cap i hlt W)
      have TS := Lib.hid (show mdB (l.take (i + 1)) t r d = (decide (x.t = t ∧ x.r = r) && (decide (x.nt = t ∧ x.nr = r) && (x.d == d))) from by
        obtain ⟨q1, q2⟩ := List.getElem?_eq_some_iff.1 hx
        rw [List.take_succ_eq_append_getElem q1, q2]
        have := K.out.2
        unfold mdB at this ⊢
        rw [List.any_append, this]
        simp)
      have MX := Lib.hid (show (decide (x.t = t ∧ x.r = r) && (decide (x.nt = t ∧ x.nr = r) && (x.d == d))) = true → mdB l t r d = true from fun q => List.any_eq_true.2 ⟨x, List.mem_of_getElem? hx, q⟩)
      have EA := Lib.hid (fun W => eq24 x.t x.r t r W)
      have EN := Lib.hid (fun W => eq24 x.nt x.nr t r W)
      have ED := Lib.hid (fun W => eq4 x.d d W)
      obtain ⟨b1, hb1⟩ : ∃ z, decide (x.t = t ∧ x.r = r) = z := ⟨_, rfl⟩
      obtain ⟨b2, hb2⟩ : ∃ z, decide (x.nt = t ∧ x.nr = r) = z := ⟨_, rfl⟩
      obtain ⟨b3, hb3⟩ : ∃ z, (x.d == d) = z := ⟨_, rfl⟩
      rw [hb1, hb2, hb3] at TS MX
      rw [hb1] at EA
      rw [hb2] at EN
      rw [hb3] at ED
      clear hx hg hc hb1 hb2 hb3
      go_upto_region 4 with (fail)
      cases b1 with
      | false =>
        refine wp_region_held_drew (S := fun w' => Below wr.heap.size wr w') (by kernel_rfl) (Below.refl _ _).drew (fun hHeld => ?_)
        have BV := Lib.hid (show Below wr.heap.size wr wr.drew from (Below.refl _ _).drew)
        clear hHeld
        refine take_at (i := 0) 14 ?_ rfl rfl (by kernel_rfl) (by kernel_rfl) (by kernel_rfl) (fun _ _ _ h => h) (.inl ⟨rfl, ?_⟩) BV.out ?_
        rotate_left 1
        · intro w hSw; go_simp; try with_reducible rfl
        simp only [Act.put, List.setIfInBounds_toArray, List.set_cons_zero, List.set_cons_succ]
        refine take_at (i := 1) 15 ?_ rfl rfl (by kernel_rfl) (by kernel_rfl) (by kernel_rfl) (fun _ _ _ h => h) (.inl ⟨rfl, ?_⟩) BV.out ?_
        rotate_left 1
        · intro w hSw; go_simp; try with_reducible rfl
        simp only [Act.put, List.setIfInBounds_toArray, List.set_cons_zero, List.set_cons_succ]
        refine take_at (i := 2) 16 (.pointer (some ⟨g, k + i * 9, none⟩)) rfl rfl (by kernel_rfl) (by kernel_rfl) (by kernel_rfl) (fun _ _ _ h => h) (yields_ix (.tmp 14) (.tmp 15) 22 (.slice (some ⟨g, k, none⟩) l.length cap) (.int .i64 (i : Int)) _ IX.out rfl rfl rfl rfl) BV.out ?_
        simp only [Act.put, List.setIfInBounds_toArray, List.set_cons_zero, List.set_cons_succ]
        refine take_at (i := 3) 17 ?_ rfl rfl (by kernel_rfl) (by kernel_rfl) (by kernel_rfl) (fun _ _ _ h => h) (.inl ⟨rfl, ?_⟩) BV.out ?_
        rotate_left 1
        · intro w hSw; go_simp; try with_reducible rfl
        simp only [Act.put, List.setIfInBounds_toArray, List.set_cons_zero, List.set_cons_succ]
        refine take_at (i := 4) 18 (.agg #[.int .i64 x.t, .int .i64 x.r]) rfl rfl (by kernel_rfl) (by kernel_rfl) (by kernel_rfl) (fun _ _ _ h => h) (yields_ld (.tmp 17) 31 (.pointer (some ⟨g, k + i * 9, none⟩)) _ LA.out rfl rfl rfl) BV.out ?_
        simp only [Act.put, List.setIfInBounds_toArray, List.set_cons_zero, List.set_cons_succ]
        refine take_at (i := 5) 19 (.agg #[.int .i64 t, .int .i64 r]) rfl rfl (by kernel_rfl) (by kernel_rfl) (by kernel_rfl) (fun _ _ _ h => h) (yields_ld (.tmp 4) 31 (.pointer (some ⟨w.heap.size, 0, none⟩)) _ LB.out rfl rfl rfl) BV.out ?_
        simp only [Act.put, List.setIfInBounds_toArray, List.set_cons_zero, List.set_cons_succ]
        refine take_at (i := 6) 20 (.bool false) rfl rfl (by kernel_rfl) (by kernel_rfl) (by kernel_rfl) (fun _ _ _ h => h) (yields_bin .eql (.tmp 18) (.tmp 19) 31 31 (.agg #[.int .i64 x.t, .int .i64 x.r]) (.agg #[.int .i64 t, .int .i64 r]) _ EA.out (g24 _ _ _ _) rfl rfl rfl rfl) BV.out ?_
        simp only [Act.put, List.setIfInBounds_toArray, List.set_cons_zero, List.set_cons_succ]
        refine take_at (i := 7) 21 ?_ rfl rfl (by kernel_rfl) (by kernel_rfl) (by kernel_rfl) (fun _ _ _ h => h) (.inl ⟨rfl, ?_⟩) BV.out ?_
        rotate_left 1
        · intro w hSw; go_simp; try with_reducible rfl
        simp only [Act.put, List.setIfInBounds_toArray, List.set_cons_zero, List.set_cons_succ]
        refine take_at (i := 8) 22 undef rfl rfl (by kernel_rfl) (by kernel_rfl) (by kernel_rfl) (fun _ _ _ h => h) (.inr ⟨rfl, rfl⟩) BV.out ?_
        simp only [Act.put, List.setIfInBounds_toArray, List.set_cons_zero, List.set_cons_succ]
        refine take_at (i := 9) 23 undef rfl rfl (by kernel_rfl) (by kernel_rfl) (by kernel_rfl) (fun _ _ _ h => h) (.inr ⟨rfl, rfl⟩) BV.out ?_
        simp only [Act.put, List.setIfInBounds_toArray, List.set_cons_zero, List.set_cons_succ]
        refine take_at (i := 10) 24 undef rfl rfl (by kernel_rfl) (by kernel_rfl) (by kernel_rfl) (fun _ _ _ h => h) (.inr ⟨rfl, rfl⟩) BV.out ?_
        simp only [Act.put, List.setIfInBounds_toArray, List.set_cons_zero, List.set_cons_succ]
        refine take_at (i := 11) 25 undef rfl rfl (by kernel_rfl) (by kernel_rfl) (by kernel_rfl) (fun _ _ _ h => h) (.inr ⟨rfl, rfl⟩) BV.out ?_
        simp only [Act.put, List.setIfInBounds_toArray, List.set_cons_zero, List.set_cons_succ]
        refine take_at (i := 12) 26 undef rfl rfl (by kernel_rfl) (by kernel_rfl) (by kernel_rfl) (fun _ _ _ h => h) (.inr ⟨rfl, rfl⟩) BV.out ?_
        simp only [Act.put, List.setIfInBounds_toArray, List.set_cons_zero, List.set_cons_succ]
        refine take_at (i := 13) 27 undef rfl rfl (by kernel_rfl) (by kernel_rfl) (by kernel_rfl) (fun _ _ _ h => h) (.inr ⟨rfl, rfl⟩) BV.out ?_
        simp only [Act.put, List.setIfInBounds_toArray, List.set_cons_zero, List.set_cons_succ]
        refine take_at (i := 14) 28 undef rfl rfl (by kernel_rfl) (by kernel_rfl) (by kernel_rfl) (fun _ _ _ h => h) (.inr ⟨rfl, rfl⟩) BV.out ?_
        simp only [Act.put, List.setIfInBounds_toArray, List.set_cons_zero, List.set_cons_succ]
        refine take_at (i := 15) 29 ?_ rfl rfl (by kernel_rfl) (by kernel_rfl) (by kernel_rfl) (fun _ _ _ h => h) (.inl ⟨rfl, ?_⟩) BV.out ?_
        rotate_left 1
        · intro w hSw; go_simp; try with_reducible rfl
        simp only [Act.put, List.setIfInBounds_toArray, List.set_cons_zero, List.set_cons_succ]
        refine take_at (i := 16) 30 ?_ rfl rfl (by kernel_rfl) (by kernel_rfl) (by kernel_rfl) (fun _ _ _ h => h) (.inl ⟨rfl, ?_⟩) BV.out ?_
        rotate_left 1
        · intro w hSw; go_simp; try with_reducible rfl
        simp only [Act.put, List.setIfInBounds_toArray, List.set_cons_zero, List.set_cons_succ]
        refine take_at (i := 17) 31 undef rfl rfl (by kernel_rfl) (by kernel_rfl) (by kernel_rfl) (fun _ _ _ h => h) (.inr ⟨rfl, rfl⟩) BV.out ?_
        simp only [Act.put, List.setIfInBounds_toArray, List.set_cons_zero, List.set_cons_succ]
        refine take_at (i := 18) 32 undef rfl rfl (by kernel_rfl) (by kernel_rfl) (by kernel_rfl) (fun _ _ _ h => h) (.inr ⟨rfl, rfl⟩) BV.out ?_
        simp only [Act.put, List.setIfInBounds_toArray, List.set_cons_zero, List.set_cons_succ]
        refine take_at (i := 19) 33 undef rfl rfl (by kernel_rfl) (by kernel_rfl) (by kernel_rfl) (fun _ _ _ h => h) (.inr ⟨rfl, rfl⟩) BV.out ?_
        simp only [Act.put, List.setIfInBounds_toArray, List.set_cons_zero, List.set_cons_succ]
        refine take_at (i := 20) 34 undef rfl rfl (by kernel_rfl) (by kernel_rfl) (by kernel_rfl) (fun _ _ _ h => h) (.inr ⟨rfl, rfl⟩) BV.out ?_
        simp only [Act.put, List.setIfInBounds_toArray, List.set_cons_zero, List.set_cons_succ]
        refine take_at (i := 21) 35 undef rfl rfl (by kernel_rfl) (by kernel_rfl) (by kernel_rfl) (fun _ _ _ h => h) (.inr ⟨rfl, rfl⟩) BV.out ?_
        simp only [Act.put, List.setIfInBounds_toArray, List.set_cons_zero, List.set_cons_succ]
        refine take_at (i := 22) 36 undef rfl rfl (by kernel_rfl) (by kernel_rfl) (by kernel_rfl) (fun _ _ _ h => h) (.inr ⟨rfl, rfl⟩) BV.out ?_
        simp only [Act.put, List.setIfInBounds_toArray, List.set_cons_zero, List.set_cons_succ]
        refine take_at (i := 23) 37 undef rfl rfl (by kernel_rfl) (by kernel_rfl) (by kernel_rfl) (fun _ _ _ h => h) (.inr ⟨rfl, rfl⟩) BV.out ?_
        simp only [Act.put, List.setIfInBounds_toArray, List.set_cons_zero, List.set_cons_succ]
        refine take_at (i := 24) 38 ?_ rfl rfl (by kernel_rfl) (by kernel_rfl) (by kernel_rfl) (fun _ _ _ h => h) (.inl ⟨rfl, ?_⟩) BV.out ?_
        rotate_left 1
        · intro w hSw; go_simp; try with_reducible rfl
        simp only [Act.put, List.setIfInBounds_toArray, List.set_cons_zero, List.set_cons_succ]
        refine wpAnyH_done (by kernel_rfl) ?_ _
        have KF := Lib.hid (show Below w0.heap.size w0 wr.drew ∧ mdB (l.take (i + 1)) t r d = false from ⟨K.out.1.trans (BV.out.mono K.out.1.size), TS.out⟩)
        clear BV LA LN LD LB K
        generalize wr.drew = w6 at *
        go_wp2
        go_roundw
        case rel => exact ⟨i + 1, by first | (rw [HW9.out]; rfl) | go_num, HL1.out, KF⟩
        case measure => first | (rw [HW9.out]; exact HMS.out) | exact HMS.out
      | true =>
        cases b2 with
        | false =>
          refine wp_region_held_drew (S := fun w' => Below wr.heap.size wr w') (by kernel_rfl) (Below.refl _ _).drew (fun hHeld => ?_)
          have BV := Lib.hid (show Below wr.heap.size wr wr.drew from (Below.refl _ _).drew)
          clear hHeld
          refine take_at (i := 0) 14 ?_ rfl rfl (by kernel_rfl) (by kernel_rfl) (by kernel_rfl) (fun _ _ _ h => h) (.inl ⟨rfl, ?_⟩) BV.out ?_
          rotate_left 1
          · intro w hSw; go_simp; try with_reducible rfl
          simp only [Act.put, List.setIfInBounds_toArray, List.set_cons_zero, List.set_cons_succ]
          refine take_at (i := 1) 15 ?_ rfl rfl (by kernel_rfl) (by kernel_rfl) (by kernel_rfl) (fun _ _ _ h => h) (.inl ⟨rfl, ?_⟩) BV.out ?_
          rotate_left 1
          · intro w hSw; go_simp; try with_reducible rfl
          simp only [Act.put, List.setIfInBounds_toArray, List.set_cons_zero, List.set_cons_succ]
          refine take_at (i := 2) 16 (.pointer (some ⟨g, k + i * 9, none⟩)) rfl rfl (by kernel_rfl) (by kernel_rfl) (by kernel_rfl) (fun _ _ _ h => h) (yields_ix (.tmp 14) (.tmp 15) 22 (.slice (some ⟨g, k, none⟩) l.length cap) (.int .i64 (i : Int)) _ IX.out rfl rfl rfl rfl) BV.out ?_
          simp only [Act.put, List.setIfInBounds_toArray, List.set_cons_zero, List.set_cons_succ]
          refine take_at (i := 3) 17 ?_ rfl rfl (by kernel_rfl) (by kernel_rfl) (by kernel_rfl) (fun _ _ _ h => h) (.inl ⟨rfl, ?_⟩) BV.out ?_
          rotate_left 1
          · intro w hSw; go_simp; try with_reducible rfl
          simp only [Act.put, List.setIfInBounds_toArray, List.set_cons_zero, List.set_cons_succ]
          refine take_at (i := 4) 18 (.agg #[.int .i64 x.t, .int .i64 x.r]) rfl rfl (by kernel_rfl) (by kernel_rfl) (by kernel_rfl) (fun _ _ _ h => h) (yields_ld (.tmp 17) 31 (.pointer (some ⟨g, k + i * 9, none⟩)) _ LA.out rfl rfl rfl) BV.out ?_
          simp only [Act.put, List.setIfInBounds_toArray, List.set_cons_zero, List.set_cons_succ]
          refine take_at (i := 5) 19 (.agg #[.int .i64 t, .int .i64 r]) rfl rfl (by kernel_rfl) (by kernel_rfl) (by kernel_rfl) (fun _ _ _ h => h) (yields_ld (.tmp 4) 31 (.pointer (some ⟨w.heap.size, 0, none⟩)) _ LB.out rfl rfl rfl) BV.out ?_
          simp only [Act.put, List.setIfInBounds_toArray, List.set_cons_zero, List.set_cons_succ]
          refine take_at (i := 6) 20 (.bool true) rfl rfl (by kernel_rfl) (by kernel_rfl) (by kernel_rfl) (fun _ _ _ h => h) (yields_bin .eql (.tmp 18) (.tmp 19) 31 31 (.agg #[.int .i64 x.t, .int .i64 x.r]) (.agg #[.int .i64 t, .int .i64 r]) _ EA.out (g24 _ _ _ _) rfl rfl rfl rfl) BV.out ?_
          simp only [Act.put, List.setIfInBounds_toArray, List.set_cons_zero, List.set_cons_succ]
          refine take_at (i := 7) 21 ?_ rfl rfl (by kernel_rfl) (by kernel_rfl) (by kernel_rfl) (fun _ _ _ h => h) (.inl ⟨rfl, ?_⟩) BV.out ?_
          rotate_left 1
          · intro w hSw; go_simp; try with_reducible rfl
          simp only [Act.put, List.setIfInBounds_toArray, List.set_cons_zero, List.set_cons_succ]
          refine take_at (i := 8) 22 ?_ rfl rfl (by kernel_rfl) (by kernel_rfl) (by kernel_rfl) (fun _ _ _ h => h) (.inl ⟨rfl, ?_⟩) BV.out ?_
          rotate_left 1
          · intro w hSw; go_simp; try with_reducible rfl
          simp only [Act.put, List.setIfInBounds_toArray, List.set_cons_zero, List.set_cons_succ]
          refine take_at (i := 9) 23 ?_ rfl rfl (by kernel_rfl) (by kernel_rfl) (by kernel_rfl) (fun _ _ _ h => h) (.inl ⟨rfl, ?_⟩) BV.out ?_
          rotate_left 1
          · intro w hSw; go_simp; try with_reducible rfl
          simp only [Act.put, List.setIfInBounds_toArray, List.set_cons_zero, List.set_cons_succ]
          refine take_at (i := 10) 24 (.pointer (some ⟨g, k + i * 9, none⟩)) rfl rfl (by kernel_rfl) (by kernel_rfl) (by kernel_rfl) (fun _ _ _ h => h) (yields_ix (.tmp 22) (.tmp 23) 22 (.slice (some ⟨g, k, none⟩) l.length cap) (.int .i64 (i : Int)) _ IX.out rfl rfl rfl rfl) BV.out ?_
          simp only [Act.put, List.setIfInBounds_toArray, List.set_cons_zero, List.set_cons_succ]
          refine take_at (i := 11) 25 ?_ rfl rfl (by kernel_rfl) (by kernel_rfl) (by kernel_rfl) (fun _ _ _ h => h) (.inl ⟨rfl, ?_⟩) BV.out ?_
          rotate_left 1
          · intro w hSw; go_simp; try with_reducible rfl
          simp only [Act.put, List.setIfInBounds_toArray, List.set_cons_zero, List.set_cons_succ]
          refine take_at (i := 12) 26 (.agg #[.int .i64 x.nt, .int .i64 x.nr]) rfl rfl (by kernel_rfl) (by kernel_rfl) (by kernel_rfl) (fun _ _ _ h => h) (yields_ld (.tmp 25) 31 (.pointer (some ⟨g, k + i * 9 + 3, none⟩)) _ LN.out rfl rfl rfl) BV.out ?_
          simp only [Act.put, List.setIfInBounds_toArray, List.set_cons_zero, List.set_cons_succ]
          refine take_at (i := 13) 27 (.agg #[.int .i64 t, .int .i64 r]) rfl rfl (by kernel_rfl) (by kernel_rfl) (by kernel_rfl) (fun _ _ _ h => h) (yields_ld (.tmp 4) 31 (.pointer (some ⟨w.heap.size, 0, none⟩)) _ LB.out rfl rfl rfl) BV.out ?_
          simp only [Act.put, List.setIfInBounds_toArray, List.set_cons_zero, List.set_cons_succ]
          refine take_at (i := 14) 28 (.bool false) rfl rfl (by kernel_rfl) (by kernel_rfl) (by kernel_rfl) (fun _ _ _ h => h) (yields_bin .eql (.tmp 26) (.tmp 27) 31 31 (.agg #[.int .i64 x.nt, .int .i64 x.nr]) (.agg #[.int .i64 t, .int .i64 r]) _ EN.out (g24 _ _ _ _) rfl rfl rfl rfl) BV.out ?_
          simp only [Act.put, List.setIfInBounds_toArray, List.set_cons_zero, List.set_cons_succ]
          refine take_at (i := 15) 29 ?_ rfl rfl (by kernel_rfl) (by kernel_rfl) (by kernel_rfl) (fun _ _ _ h => h) (.inl ⟨rfl, ?_⟩) BV.out ?_
          rotate_left 1
          · intro w hSw; go_simp; try with_reducible rfl
          simp only [Act.put, List.setIfInBounds_toArray, List.set_cons_zero, List.set_cons_succ]
          refine take_at (i := 16) 30 ?_ rfl rfl (by kernel_rfl) (by kernel_rfl) (by kernel_rfl) (fun _ _ _ h => h) (.inl ⟨rfl, ?_⟩) BV.out ?_
          rotate_left 1
          · intro w hSw; go_simp; try with_reducible rfl
          simp only [Act.put, List.setIfInBounds_toArray, List.set_cons_zero, List.set_cons_succ]
          refine take_at (i := 17) 31 undef rfl rfl (by kernel_rfl) (by kernel_rfl) (by kernel_rfl) (fun _ _ _ h => h) (.inr ⟨rfl, rfl⟩) BV.out ?_
          simp only [Act.put, List.setIfInBounds_toArray, List.set_cons_zero, List.set_cons_succ]
          refine take_at (i := 18) 32 undef rfl rfl (by kernel_rfl) (by kernel_rfl) (by kernel_rfl) (fun _ _ _ h => h) (.inr ⟨rfl, rfl⟩) BV.out ?_
          simp only [Act.put, List.setIfInBounds_toArray, List.set_cons_zero, List.set_cons_succ]
          refine take_at (i := 19) 33 undef rfl rfl (by kernel_rfl) (by kernel_rfl) (by kernel_rfl) (fun _ _ _ h => h) (.inr ⟨rfl, rfl⟩) BV.out ?_
          simp only [Act.put, List.setIfInBounds_toArray, List.set_cons_zero, List.set_cons_succ]
          refine take_at (i := 20) 34 undef rfl rfl (by kernel_rfl) (by kernel_rfl) (by kernel_rfl) (fun _ _ _ h => h) (.inr ⟨rfl, rfl⟩) BV.out ?_
          simp only [Act.put, List.setIfInBounds_toArray, List.set_cons_zero, List.set_cons_succ]
          refine take_at (i := 21) 35 undef rfl rfl (by kernel_rfl) (by kernel_rfl) (by kernel_rfl) (fun _ _ _ h => h) (.inr ⟨rfl, rfl⟩) BV.out ?_
          simp only [Act.put, List.setIfInBounds_toArray, List.set_cons_zero, List.set_cons_succ]
          refine take_at (i := 22) 36 undef rfl rfl (by kernel_rfl) (by kernel_rfl) (by kernel_rfl) (fun _ _ _ h => h) (.inr ⟨rfl, rfl⟩) BV.out ?_
          simp only [Act.put, List.setIfInBounds_toArray, List.set_cons_zero, List.set_cons_succ]
          refine take_at (i := 23) 37 undef rfl rfl (by kernel_rfl) (by kernel_rfl) (by kernel_rfl) (fun _ _ _ h => h) (.inr ⟨rfl, rfl⟩) BV.out ?_
          simp only [Act.put, List.setIfInBounds_toArray, List.set_cons_zero, List.set_cons_succ]
          refine take_at (i := 24) 38 ?_ rfl rfl (by kernel_rfl) (by kernel_rfl) (by kernel_rfl) (fun _ _ _ h => h) (.inl ⟨rfl, ?_⟩) BV.out ?_
          rotate_left 1
          · intro w hSw; go_simp; try with_reducible rfl
          simp only [Act.put, List.setIfInBounds_toArray, List.set_cons_zero, List.set_cons_succ]
          refine wpAnyH_done (by kernel_rfl) ?_ _
          have KF := Lib.hid (show Below w0.heap.size w0 wr.drew ∧ mdB (l.take (i + 1)) t r d = false from ⟨K.out.1.trans (BV.out.mono K.out.1.size), TS.out⟩)
          clear BV LA LN LD LB K
          generalize wr.drew = w6 at *
          go_wp2
          go_roundw
          case rel => exact ⟨i + 1, by first | (rw [HW9.out]; rfl) | go_num, HL1.out, KF⟩
          case measure => first | (rw [HW9.out]; exact HMS.out) | exact HMS.out
        | true =>
          cases b3 with
          | false =>
            refine wp_region_held_drew (S := fun w' => Below wr.heap.size wr w') (by kernel_rfl) (Below.refl _ _).drew (fun hHeld => ?_)
            have BV := Lib.hid (show Below wr.heap.size wr wr.drew from (Below.refl _ _).drew)
            clear hHeld
            refine take_at (i := 0) 14 ?_ rfl rfl (by kernel_rfl) (by kernel_rfl) (by kernel_rfl) (fun _ _ _ h => h) (.inl ⟨rfl, ?_⟩) BV.out ?_
            rotate_left 1
            · intro w hSw; go_simp; try with_reducible rfl
            simp only [Act.put, List.setIfInBounds_toArray, List.set_cons_zero, List.set_cons_succ]
            refine take_at (i := 1) 15 ?_ rfl rfl (by kernel_rfl) (by kernel_rfl) (by kernel_rfl) (fun _ _ _ h => h) (.inl ⟨rfl, ?_⟩) BV.out ?_
            rotate_left 1
            · intro w hSw; go_simp; try with_reducible rfl
            simp only [Act.put, List.setIfInBounds_toArray, List.set_cons_zero, List.set_cons_succ]
            refine take_at (i := 2) 16 (.pointer (some ⟨g, k + i * 9, none⟩)) rfl rfl (by kernel_rfl) (by kernel_rfl) (by kernel_rfl) (fun _ _ _ h => h) (yields_ix (.tmp 14) (.tmp 15) 22 (.slice (some ⟨g, k, none⟩) l.length cap) (.int .i64 (i : Int)) _ IX.out rfl rfl rfl rfl) BV.out ?_
            simp only [Act.put, List.setIfInBounds_toArray, List.set_cons_zero, List.set_cons_succ]
            refine take_at (i := 3) 17 ?_ rfl rfl (by kernel_rfl) (by kernel_rfl) (by kernel_rfl) (fun _ _ _ h => h) (.inl ⟨rfl, ?_⟩) BV.out ?_
            rotate_left 1
            · intro w hSw; go_simp; try with_reducible rfl
            simp only [Act.put, List.setIfInBounds_toArray, List.set_cons_zero, List.set_cons_succ]
            refine take_at (i := 4) 18 (.agg #[.int .i64 x.t, .int .i64 x.r]) rfl rfl (by kernel_rfl) (by kernel_rfl) (by kernel_rfl) (fun _ _ _ h => h) (yields_ld (.tmp 17) 31 (.pointer (some ⟨g, k + i * 9, none⟩)) _ LA.out rfl rfl rfl) BV.out ?_
            simp only [Act.put, List.setIfInBounds_toArray, List.set_cons_zero, List.set_cons_succ]
            refine take_at (i := 5) 19 (.agg #[.int .i64 t, .int .i64 r]) rfl rfl (by kernel_rfl) (by kernel_rfl) (by kernel_rfl) (fun _ _ _ h => h) (yields_ld (.tmp 4) 31 (.pointer (some ⟨w.heap.size, 0, none⟩)) _ LB.out rfl rfl rfl) BV.out ?_
            simp only [Act.put, List.setIfInBounds_toArray, List.set_cons_zero, List.set_cons_succ]
            refine take_at (i := 6) 20 (.bool true) rfl rfl (by kernel_rfl) (by kernel_rfl) (by kernel_rfl) (fun _ _ _ h => h) (yields_bin .eql (.tmp 18) (.tmp 19) 31 31 (.agg #[.int .i64 x.t, .int .i64 x.r]) (.agg #[.int .i64 t, .int .i64 r]) _ EA.out (g24 _ _ _ _) rfl rfl rfl rfl) BV.out ?_
            simp only [Act.put, List.setIfInBounds_toArray, List.set_cons_zero, List.set_cons_succ]
            refine take_at (i := 7) 21 ?_ rfl rfl (by kernel_rfl) (by kernel_rfl) (by kernel_rfl) (fun _ _ _ h => h) (.inl ⟨rfl, ?_⟩) BV.out ?_
            rotate_left 1
            · intro w hSw; go_simp; try with_reducible rfl
            simp only [Act.put, List.setIfInBounds_toArray, List.set_cons_zero, List.set_cons_succ]
            refine take_at (i := 8) 22 ?_ rfl rfl (by kernel_rfl) (by kernel_rfl) (by kernel_rfl) (fun _ _ _ h => h) (.inl ⟨rfl, ?_⟩) BV.out ?_
            rotate_left 1
            · intro w hSw; go_simp; try with_reducible rfl
            simp only [Act.put, List.setIfInBounds_toArray, List.set_cons_zero, List.set_cons_succ]
            refine take_at (i := 9) 23 ?_ rfl rfl (by kernel_rfl) (by kernel_rfl) (by kernel_rfl) (fun _ _ _ h => h) (.inl ⟨rfl, ?_⟩) BV.out ?_
            rotate_left 1
            · intro w hSw; go_simp; try with_reducible rfl
            simp only [Act.put, List.setIfInBounds_toArray, List.set_cons_zero, List.set_cons_succ]
            refine take_at (i := 10) 24 (.pointer (some ⟨g, k + i * 9, none⟩)) rfl rfl (by kernel_rfl) (by kernel_rfl) (by kernel_rfl) (fun _ _ _ h => h) (yields_ix (.tmp 22) (.tmp 23) 22 (.slice (some ⟨g, k, none⟩) l.length cap) (.int .i64 (i : Int)) _ IX.out rfl rfl rfl rfl) BV.out ?_
            simp only [Act.put, List.setIfInBounds_toArray, List.set_cons_zero, List.set_cons_succ]
            refine take_at (i := 11) 25 ?_ rfl rfl (by kernel_rfl) (by kernel_rfl) (by kernel_rfl) (fun _ _ _ h => h) (.inl ⟨rfl, ?_⟩) BV.out ?_
            rotate_left 1
            · intro w hSw; go_simp; try with_reducible rfl
            simp only [Act.put, List.setIfInBounds_toArray, List.set_cons_zero, List.set_cons_succ]
            refine take_at (i := 12) 26 (.agg #[.int .i64 x.nt, .int .i64 x.nr]) rfl rfl (by kernel_rfl) (by kernel_rfl) (by kernel_rfl) (fun _ _ _ h => h) (yields_ld (.tmp 25) 31 (.pointer (some ⟨g, k + i * 9 + 3, none⟩)) _ LN.out rfl rfl rfl) BV.out ?_
            simp only [Act.put, List.setIfInBounds_toArray, List.set_cons_zero, List.set_cons_succ]
            refine take_at (i := 13) 27 (.agg #[.int .i64 t, .int .i64 r]) rfl rfl (by kernel_rfl) (by kernel_rfl) (by kernel_rfl) (fun _ _ _ h => h) (yields_ld (.tmp 4) 31 (.pointer (some ⟨w.heap.size, 0, none⟩)) _ LB.out rfl rfl rfl) BV.out ?_
            simp only [Act.put, List.setIfInBounds_toArray, List.set_cons_zero, List.set_cons_succ]
            refine take_at (i := 14) 28 (.bool true) rfl rfl (by kernel_rfl) (by kernel_rfl) (by kernel_rfl) (fun _ _ _ h => h) (yields_bin .eql (.tmp 26) (.tmp 27) 31 31 (.agg #[.int .i64 x.nt, .int .i64 x.nr]) (.agg #[.int .i64 t, .int .i64 r]) _ EN.out (g24 _ _ _ _) rfl rfl rfl rfl) BV.out ?_
            simp only [Act.put, List.setIfInBounds_toArray, List.set_cons_zero, List.set_cons_succ]
            refine take_at (i := 15) 29 ?_ rfl rfl (by kernel_rfl) (by kernel_rfl) (by kernel_rfl) (fun _ _ _ h => h) (.inl ⟨rfl, ?_⟩) BV.out ?_
            rotate_left 1
            · intro w hSw; go_simp; try with_reducible rfl
            simp only [Act.put, List.setIfInBounds_toArray, List.set_cons_zero, List.set_cons_succ]
            refine take_at (i := 16) 30 ?_ rfl rfl (by kernel_rfl) (by kernel_rfl) (by kernel_rfl) (fun _ _ _ h => h) (.inl ⟨rfl, ?_⟩) BV.out ?_
            rotate_left 1
            · intro w hSw; go_simp; try with_reducible rfl
            simp only [Act.put, List.setIfInBounds_toArray, List.set_cons_zero, List.set_cons_succ]
            refine take_at (i := 17) 31 ?_ rfl rfl (by kernel_rfl) (by kernel_rfl) (by kernel_rfl) (fun _ _ _ h => h) (.inl ⟨rfl, ?_⟩) BV.out ?_
            rotate_left 1
            · intro w hSw; go_simp; try with_reducible rfl
            simp only [Act.put, List.setIfInBounds_toArray, List.set_cons_zero, List.set_cons_succ]
            refine take_at (i := 18) 32 ?_ rfl rfl (by kernel_rfl) (by kernel_rfl) (by kernel_rfl) (fun _ _ _ h => h) (.inl ⟨rfl, ?_⟩) BV.out ?_
            rotate_left 1
            · intro w hSw; go_simp; try with_reducible rfl
            simp only [Act.put, List.setIfInBounds_toArray, List.set_cons_zero, List.set_cons_succ]
            refine take_at (i := 19) 33 (.pointer (some ⟨g, k + i * 9, none⟩)) rfl rfl (by kernel_rfl) (by kernel_rfl) (by kernel_rfl) (fun _ _ _ h => h) (yields_ix (.tmp 31) (.tmp 32) 22 (.slice (some ⟨g, k, none⟩) l.length cap) (.int .i64 (i : Int)) _ IX.out rfl rfl rfl rfl) BV.out ?_
            simp only [Act.put, List.setIfInBounds_toArray, List.set_cons_zero, List.set_cons_succ]
            refine take_at (i := 20) 34 ?_ rfl rfl (by kernel_rfl) (by kernel_rfl) (by kernel_rfl) (fun _ _ _ h => h) (.inl ⟨rfl, ?_⟩) BV.out ?_
            rotate_left 1
            · intro w hSw; go_simp; try with_reducible rfl
            simp only [Act.put, List.setIfInBounds_toArray, List.set_cons_zero, List.set_cons_succ]
            refine take_at (i := 21) 35 (.bool x.d) rfl rfl (by kernel_rfl) (by kernel_rfl) (by kernel_rfl) (fun _ _ _ h => h) (yields_ld (.tmp 34) 4 (.pointer (some ⟨g, k + i * 9 + 8, none⟩)) _ LD.out rfl rfl rfl) BV.out ?_
            simp only [Act.put, List.setIfInBounds_toArray, List.set_cons_zero, List.set_cons_succ]
            refine take_at (i := 22) 36 ?_ rfl rfl (by kernel_rfl) (by kernel_rfl) (by kernel_rfl) (fun _ _ _ h => h) (.inl ⟨rfl, ?_⟩) BV.out ?_
            rotate_left 1
            · intro w hSw; go_simp; try with_reducible rfl
            simp only [Act.put, List.setIfInBounds_toArray, List.set_cons_zero, List.set_cons_succ]
            refine take_at (i := 23) 37 (.bool false) rfl rfl (by kernel_rfl) (by kernel_rfl) (by kernel_rfl) (fun _ _ _ h => h) (yields_bin .eql (.tmp 35) (.tmp 36) 4 4 (.bool x.d) (.bool d) _ ED.out (geq4 _ _ _ _) rfl rfl rfl rfl) BV.out ?_
            simp only [Act.put, List.setIfInBounds_toArray, List.set_cons_zero, List.set_cons_succ]
            refine take_at (i := 24) 38 ?_ rfl rfl (by kernel_rfl) (by kernel_rfl) (by kernel_rfl) (fun _ _ _ h => h) (.inl ⟨rfl, ?_⟩) BV.out ?_
            rotate_left 1
            · intro w hSw; go_simp; try with_reducible rfl
            simp only [Act.put, List.setIfInBounds_toArray, List.set_cons_zero, List.set_cons_succ]
            refine wpAnyH_done (by kernel_rfl) ?_ _
            have KF := Lib.hid (show Below w0.heap.size w0 wr.drew ∧ mdB (l.take (i + 1)) t r d = false from ⟨K.out.1.trans (BV.out.mono K.out.1.size), TS.out⟩)
            clear BV LA LN LD LB K
            generalize wr.drew = w6 at *
            go_wp2
            go_roundw
            case rel => exact ⟨i + 1, by first | (rw [HW9.out]; rfl) | go_num, HL1.out, KF⟩
            case measure => first | (rw [HW9.out]; exact HMS.out) | exact HMS.out
          | true =>
            refine wp_region_held_drew (S := fun w' => Below wr.heap.size wr w') (by kernel_rfl) (Below.refl _ _).drew (fun hHeld => ?_)
            have BV := Lib.hid (show Below wr.heap.size wr wr.drew from (Below.refl _ _).drew)
            clear hHeld
            refine take_at (i := 0) 14 ?_ rfl rfl (by kernel_rfl) (by kernel_rfl) (by kernel_rfl) (fun _ _ _ h => h) (.inl ⟨rfl, ?_⟩) BV.out ?_
            rotate_left 1
            · intro w hSw; go_simp; try with_reducible rfl
            simp only [Act.put, List.setIfInBounds_toArray, List.set_cons_zero, List.set_cons_succ]
            refine take_at (i := 1) 15 ?_ rfl rfl (by kernel_rfl) (by kernel_rfl) (by kernel_rfl) (fun _ _ _ h => h) (.inl ⟨rfl, ?_⟩) BV.out ?_
            rotate_left 1
            · intro w hSw; go_simp; try with_reducible rfl
            simp only [Act.put, List.setIfInBounds_toArray, List.set_cons_zero, List.set_cons_succ]
            refine take_at (i := 2) 16 (.pointer (some ⟨g, k + i * 9, none⟩)) rfl rfl (by kernel_rfl) (by kernel_rfl) (by kernel_rfl) (fun _ _ _ h => h) (yields_ix (.tmp 14) (.tmp 15) 22 (.slice (some ⟨g, k, none⟩) l.length cap) (.int .i64 (i : Int)) _ IX.out rfl rfl rfl rfl) BV.out ?_
            simp only [Act.put, List.setIfInBounds_toArray, List.set_cons_zero, List.set_cons_succ]
            refine take_at (i := 3) 17 ?_ rfl rfl (by kernel_rfl) (by kernel_rfl) (by kernel_rfl) (fun _ _ _ h => h) (.inl ⟨rfl, ?_⟩) BV.out ?_
            rotate_left 1
            · intro w hSw; go_simp; try with_reducible rfl
            simp only [Act.put, List.setIfInBounds_toArray, List.set_cons_zero, List.set_cons_succ]
            refine take_at (i := 4) 18 (.agg #[.int .i64 x.t, .int .i64 x.r]) rfl rfl (by kernel_rfl) (by kernel_rfl) (by kernel_rfl) (fun _ _ _ h => h) (yields_ld (.tmp 17) 31 (.pointer (some ⟨g, k + i * 9, none⟩)) _ LA.out rfl rfl rfl) BV.out ?_
            simp only [Act.put, List.setIfInBounds_toArray, List.set_cons_zero, List.set_cons_succ]
            refine take_at (i := 5) 19 (.agg #[.int .i64 t, .int .i64 r]) rfl rfl (by kernel_rfl) (by kernel_rfl) (by kernel_rfl) (fun _ _ _ h => h) (yields_ld (.tmp 4) 31 (.pointer (some ⟨w.heap.size, 0, none⟩)) _ LB.out rfl rfl rfl) BV.out ?_
            simp only [Act.put, List.setIfInBounds_toArray, List.set_cons_zero, List.set_cons_succ]
            refine take_at (i := 6) 20 (.bool true) rfl rfl (by kernel_rfl) (by kernel_rfl) (by kernel_rfl) (fun _ _ _ h => h) (yields_bin .eql (.tmp 18) (.tmp 19) 31 31 (.agg #[.int .i64 x.t, .int .i64 x.r]) (.agg #[.int .i64 t, .int .i64 r]) _ EA.out (g24 _ _ _ _) rfl rfl rfl rfl) BV.out ?_
            simp only [Act.put, List.setIfInBounds_toArray, List.set_cons_zero, List.set_cons_succ]
            refine take_at (i := 7) 21 ?_ rfl rfl (by kernel_rfl) (by kernel_rfl) (by kernel_rfl) (fun _ _ _ h => h) (.inl ⟨rfl, ?_⟩) BV.out ?_
            rotate_left 1
            · intro w hSw; go_simp; try with_reducible rfl
            simp only [Act.put, List.setIfInBounds_toArray, List.set_cons_zero, List.set_cons_succ]
            refine take_at (i := 8) 22 ?_ rfl rfl (by kernel_rfl) (by kernel_rfl) (by kernel_rfl) (fun _ _ _ h => h) (.inl ⟨rfl, ?_⟩) BV.out ?_
            rotate_left 1
            · intro w hSw; go_simp; try with_reducible rfl
            simp only [Act.put, List.setIfInBounds_toArray, List.set_cons_zero, List.set_cons_succ]
            refine take_at (i := 9) 23 ?_ rfl rfl (by kernel_rfl) (by kernel_rfl) (by kernel_rfl) (fun _ _ _ h => h) (.inl ⟨rfl, ?_⟩) BV.out ?_
            rotate_left 1
            · intro w hSw; go_simp; try with_reducible rfl
            simp only [Act.put, List.setIfInBounds_toArray, List.set_cons_zero, List.set_cons_succ]
            refine take_at (i := 10) 24 (.pointer (some ⟨g, k + i * 9, none⟩)) rfl rfl (by kernel_rfl) (by kernel_rfl) (by kernel_rfl) (fun _ _ _ h => h) (yields_ix (.tmp 22) (.tmp 23) 22 (.slice (some ⟨g, k, none⟩) l.length cap) (.int .i64 (i : Int)) _ IX.out rfl rfl rfl rfl) BV.out ?_
            simp only [Act.put, List.setIfInBounds_toArray, List.set_cons_zero, List.set_cons_succ]
            refine take_at (i := 11) 25 ?_ rfl rfl (by kernel_rfl) (by kernel_rfl) (by kernel_rfl) (fun _ _ _ h => h) (.inl ⟨rfl, ?_⟩) BV.out ?_
            rotate_left 1
            · intro w hSw; go_simp; try with_reducible rfl
            simp only [Act.put, List.setIfInBounds_toArray, List.set_cons_zero, List.set_cons_succ]
            refine take_at (i := 12) 26 (.agg #[.int .i64 x.nt, .int .i64 x.nr]) rfl rfl (by kernel_rfl) (by kernel_rfl) (by kernel_rfl) (fun _ _ _ h => h) (yields_ld (.tmp 25) 31 (.pointer (some ⟨g, k + i * 9 + 3, none⟩)) _ LN.out rfl rfl rfl) BV.out ?_
            simp only [Act.put, List.setIfInBounds_toArray, List.set_cons_zero, List.set_cons_succ]
            refine take_at (i := 13) 27 (.agg #[.int .i64 t, .int .i64 r]) rfl rfl (by kernel_rfl) (by kernel_rfl) (by kernel_rfl) (fun _ _ _ h => h) (yields_ld (.tmp 4) 31 (.pointer (some ⟨w.heap.size, 0, none⟩)) _ LB.out rfl rfl rfl) BV.out ?_
            simp only [Act.put, List.setIfInBounds_toArray, List.set_cons_zero, List.set_cons_succ]
            refine take_at (i := 14) 28 (.bool true) rfl rfl (by kernel_rfl) (by kernel_rfl) (by kernel_rfl) (fun _ _ _ h => h) (yields_bin .eql (.tmp 26) (.tmp 27) 31 31 (.agg #[.int .i64 x.nt, .int .i64 x.nr]) (.agg #[.int .i64 t, .int .i64 r]) _ EN.out (g24 _ _ _ _) rfl rfl rfl rfl) BV.out ?_
            simp only [Act.put, List.setIfInBounds_toArray, List.set_cons_zero, List.set_cons_succ]
            refine take_at (i := 15) 29 ?_ rfl rfl (by kernel_rfl) (by kernel_rfl) (by kernel_rfl) (fun _ _ _ h => h) (.inl ⟨rfl, ?_⟩) BV.out ?_
            rotate_left 1
            · intro w hSw; go_simp; try with_reducible rfl
            simp only [Act.put, List.setIfInBounds_toArray, List.set_cons_zero, List.set_cons_succ]
            refine take_at (i := 16) 30 ?_ rfl rfl (by kernel_rfl) (by kernel_rfl) (by kernel_rfl) (fun _ _ _ h => h) (.inl ⟨rfl, ?_⟩) BV.out ?_
            rotate_left 1
            · intro w hSw; go_simp; try with_reducible rfl
            simp only [Act.put, List.setIfInBounds_toArray, List.set_cons_zero, List.set_cons_succ]
            refine take_at (i := 17) 31 ?_ rfl rfl (by kernel_rfl) (by kernel_rfl) (by kernel_rfl) (fun _ _ _ h => h) (.inl ⟨rfl, ?_⟩) BV.out ?_
            rotate_left 1
            · intro w hSw; go_simp; try with_reducible rfl
            simp only [Act.put, List.setIfInBounds_toArray, List.set_cons_zero, List.set_cons_succ]
            refine take_at (i := 18) 32 ?_ rfl rfl (by kernel_rfl) (by kernel_rfl) (by kernel_rfl) (fun _ _ _ h => h) (.inl ⟨rfl, ?_⟩) BV.out ?_
            rotate_left 1
            · intro w hSw; go_simp; try with_reducible rfl
            simp only [Act.put, List.setIfInBounds_toArray, List.set_cons_zero, List.set_cons_succ]
            refine take_at (i := 19) 33 (.pointer (some ⟨g, k + i * 9, none⟩)) rfl rfl (by kernel_rfl) (by kernel_rfl) (by kernel_rfl) (fun _ _ _ h => h) (yields_ix (.tmp 31) (.tmp 32) 22 (.slice (some ⟨g, k, none⟩) l.length cap) (.int .i64 (i : Int)) _ IX.out rfl rfl rfl rfl) BV.out ?_
            simp only [Act.put, List.setIfInBounds_toArray, List.set_cons_zero, List.set_cons_succ]
            refine take_at (i := 20) 34 ?_ rfl rfl (by kernel_rfl) (by kernel_rfl) (by kernel_rfl) (fun _ _ _ h => h) (.inl ⟨rfl, ?_⟩) BV.out ?_
            rotate_left 1
            · intro w hSw; go_simp; try with_reducible rfl
            simp only [Act.put, List.setIfInBounds_toArray, List.set_cons_zero, List.set_cons_succ]
            refine take_at (i := 21) 35 (.bool x.d) rfl rfl (by kernel_rfl) (by kernel_rfl) (by kernel_rfl) (fun _ _ _ h => h) (yields_ld (.tmp 34) 4 (.pointer (some ⟨g, k + i * 9 + 8, none⟩)) _ LD.out rfl rfl rfl) BV.out ?_
            simp only [Act.put, List.setIfInBounds_toArray, List.set_cons_zero, List.set_cons_succ]
            refine take_at (i := 22) 36 ?_ rfl rfl (by kernel_rfl) (by kernel_rfl) (by kernel_rfl) (fun _ _ _ h => h) (.inl ⟨rfl, ?_⟩) BV.out ?_
            rotate_left 1
            · intro w hSw; go_simp; try with_reducible rfl
            simp only [Act.put, List.setIfInBounds_toArray, List.set_cons_zero, List.set_cons_succ]
            refine take_at (i := 23) 37 (.bool true) rfl rfl (by kernel_rfl) (by kernel_rfl) (by kernel_rfl) (fun _ _ _ h => h) (yields_bin .eql (.tmp 35) (.tmp 36) 4 4 (.bool x.d) (.bool d) _ ED.out (geq4 _ _ _ _) rfl rfl rfl rfl) BV.out ?_
            simp only [Act.put, List.setIfInBounds_toArray, List.set_cons_zero, List.set_cons_succ]
            refine take_at (i := 24) 38 ?_ rfl rfl (by kernel_rfl) (by kernel_rfl) (by kernel_rfl) (fun _ _ _ h => h) (.inl ⟨rfl, ?_⟩) BV.out ?_
            rotate_left 1
            · intro w hSw; go_simp; try with_reducible rfl
            simp only [Act.put, List.setIfInBounds_toArray, List.set_cons_zero, List.set_cons_succ]
            refine wpAnyH_done (by kernel_rfl) ?_ _
            have FB := Lib.hid (B0.out.trans ((K.out.1.trans (BV.out.mono K.out.1.size)).mono B0.out.size))
            have FN := Lib.hid (MX.out rfl).symm
            clear BV
            go_wp2
            go_returns
            exact ⟨ret_b FN.out, FB.out⟩
    · have ei : i = l.length := by omega
      subst ei
      have FN := Lib.hid (show false = mdB l t r d from by have := K.out.2; rw [List.take_length] at this; exact this.symm)
      have FB := Lib.hid (B0.out.trans (K.out.1.mono B0.out.size))
      have hd : decide ((l.length : Int) < (l.length : Int)) = false := decide_eq_false (by omega)
      clear K hlt
      go_wp2
      go_returns
      exact ⟨ret_b FN.out, FB.out⟩
/-! ### Honest -/
noncomputable def okA (l : List O) (x : O) : Bool := rO x && (mdB l x.nt x.nr x.d && (resB x.pt x.pr || mdB l x.pt x.pr true))
def okP (x y : O) : Bool := !decide (y.t = x.t ∧ y.r = x.r) && !(decide (y.r = x.r) && (decide (y.q = x.q) || (decide (y.q < x.q) != decide (y.t < x.t))))
def okI (l : List O) (i : Nat) : Prop := ∀ x, l[i]? = some x → okA l x = true ∧ ∀ j y, l[j]? = some y → j ≠ i → okP x y = true
open Classical in
noncomputable def honR (l : List O) : Bool := decide (∀ i, okI l i)
theorem hon_no {l : List O} {i : Nat} (h : ¬ okI l i) : false = honR l := by unfold honR; exact (@decide_eq_false _ (Classical.propDecidable _) (fun q => h (q i))).symm
theorem hon_yes {l : List O} (h : ∀ i, i < l.length → okI l i) : true = honR l := by
  unfold honR
  exact (@decide_eq_true _ (Classical.propDecidable _) (fun i x hx => h i (List.getElem?_eq_some_iff.1 hx).1 x hx)).symm
theorem hon_a {l : List O} {i : Nat} {x : O} (hx : l[i]? = some x) (h : okA l x = false) : false = honR l := hon_no (i := i) (fun q => by rw [(q x hx).1] at h; cases h)
theorem hon_p {l : List O} {i j : Nat} {x y : O} (hx : l[i]? = some x) (hy : l[j]? = some y) (hn : j ≠ i) (h : okP x y = false) : false = honR l := hon_no (i := i) (fun q => by rw [(q x hx).2 j y hy hn] at h; cases h)
/-- The outer op's box, while the others are gone through. -/
structure HNI (w W : World) (b : Nat) (x : O) : Prop where
  bel : Below w.heap.size w W
  box : W.heap[b]? = some (.cells #[.int .i64 x.t, .int .i64 x.r, .int .i64 x.q, .int .i64 x.nt, .int .i64 x.nr, .int .i64 x.pt, .int .i64 x.pr, .string x.nm, .bool x.d] 33 (0, 0))
theorem HNI.step {w W W' : World} {b : Nat} {x : O} (h : HNI w W b x) (hb : Below W.heap.size W W') : HNI w W' b x := ⟨h.bel.trans (hb.mono h.bel.size), (hb.block _ (pl_lt h.box)).trans h.box⟩
set_option maxHeartbeats 25600000 in
theorem rhonest_any (w : World) (v : Value) (l : List O) (h : OLies w v l) (hsz : ∀ o ∈ l, o.nm.size ≤ 9223372036854775807) (hl : l.length ≤ 1000) :
    Calls Tryz.prog 22 #[v] w fun e w' => e = .returned (.bool (honR l)) ∧ Below w.heap.size w w' := by
  have H := Lib.hid h
  have HSZ := Lib.hid hsz
  obtain ⟨ao, cap, rfl⟩ := h.shape
  clear h hsz
  go_enter Tryz.func22, Tryz.ntmps22
  go_wp2
  go_loopw [3] (fun iv wr => ∃ i : Nat, iv = .int .i64 i ∧ i ≤ l.length ∧ Hid (Below w.heap.size w wr ∧ ∀ i' : Nat, i' < i → okI l i')) (fun iv _ => l.length - (intOf iv).toNat)
  case atStart => exact ⟨0, rfl, Nat.zero_le _, Lib.hid ⟨Below.refl _ _, fun i' h => by omega⟩⟩
  case round =>
    obtain ⟨i, rfl, hi, K⟩ := hrel
    by_cases hlt : i < l.length
    · have hi0 : (0 : Int) ≤ (i : Int) := by omega
      have hi1 : (i : Int) < (l.length : Int) := by omega
      have hd : decide ((i : Int) < (l.length : Int)) = true := decide_eq_true hi1
      have HL1 := Lib.hid (show i + 1 ≤ l.length from hlt)
      have HW9 := Lib.hid (wrap_nat hlt (show l.length ≤ 100000 by omega))
      have HMS := Lib.hid (meas_nat hlt)
      obtain ⟨g, k, x, e7, hx, hg, hc⟩ := (H.out.step K.out.1).atK hlt
      subst e7
      have HX := Lib.hid hx
      have LX := Lib.hid (@ldO wr g (k + i * 9) x hc)
      have RT := Lib.hid (fun W => rright_big W x.t x.r x.q x.nt x.nr x.pt x.pr x.nm x.d (HSZ.out x (List.mem_of_getElem? hx)))
      have M1 := Lib.hid (fun W (hW : Below w.heap.size w W) => made_op W _ l (H.out.step hW) x.nt x.nr x.d hl)
      have M2 := Lib.hid (fun W (hW : Below w.heap.size w W) => made_op W _ l (H.out.step hW) x.pt x.pr true hl)
      have RS := Lib.hid (fun W => rresv_any W x.pt x.pr)
      have OA := Lib.hid (show okA l x = (rB x.t x.r x.q x.nt x.nr x.pt x.pr x.nm && (mdB l x.nt x.nr x.d && (resB x.pt x.pr || mdB l x.pt x.pr true))) from rfl)
      obtain ⟨rb, hrb⟩ : ∃ z, rB x.t x.r x.q x.nt x.nr x.pt x.pr x.nm = z := ⟨_, rfl⟩
      obtain ⟨m1, hm1⟩ : ∃ z, mdB l x.nt x.nr x.d = z := ⟨_, rfl⟩
      obtain ⟨m2, hm2⟩ : ∃ z, mdB l x.pt x.pr true = z := ⟨_, rfl⟩
      obtain ⟨rs, hrs⟩ : ∃ z, resB x.pt x.pr = z := ⟨_, rfl⟩
      rw [hrb, hm1, hm2, hrs] at OA
      rw [hrb] at RT
      rw [hm1] at M1
      rw [hm2] at M2
      rw [hrs] at RS
      have KK := Lib.hid K.out.2
      clear hx hg hc hrb hm1 hm2 hrs
      have K5 := Lib.hid (show HNI w (wr.alloc (.cells #[.int .i64 x.t, .int .i64 x.r, .int .i64 x.q, .int .i64 x.nt, .int .i64 x.nr, .int .i64 x.pt, .int .i64 x.pr, .string x.nm, .bool x.d] 33)) wr.heap.size x from ⟨K.out.1.trans ((pl_vstep wr _).mono K.out.1.size), heap_alloc_new wr _⟩)
      go_upto_region 5 with (first
        | (refine Ve.wpList_load_arr rfl (.tmp 15) 33 rfl (.pointer (some ⟨g, k + i * 9, none⟩)) (.agg #[.int .i64 x.t, .int .i64 x.r, .int .i64 x.q, .int .i64 x.nt, .int .i64 x.nr, .int .i64 x.pt, .int .i64 x.pr, .string x.nm, .bool x.d]) rfl LX.out ?_))
      obtain ⟨w5, hw5⟩ : ∃ z, wr.alloc (.cells #[.int .i64 x.t, .int .i64 x.r, .int .i64 x.q, .int .i64 x.nt, .int .i64 x.nr, .int .i64 x.pt, .int .i64 x.pr, .string x.nm, .bool x.d] 33) = z := ⟨_, rfl⟩
      obtain ⟨bx, hbx⟩ : ∃ z, wr.heap.size = z := ⟨_, rfl⟩
      rw [hw5, hbx] at K5
      rw [hw5]
      try rw [hbx]
      clear hw5 hbx LX K
      obtain ⟨c0, c1, c2, c3, c4, c5, c6, c7, c8⟩ := cell9 K5.out.box
      go_wp2_with fail
      refine (RT.out w5).mono ?_
      rintro e w6 ⟨rfl, hb⟩
      have K6 := Lib.hid (K5.out.step hb)
      clear hb RT K5 c0 c1 c2 c3 c4 c5 c6 c7 c8
      cases rb with
      | false =>
        have FN := Lib.hid (hon_a HX.out OA.out)
        have FB := Lib.hid K6.out.bel
        clear K6
        go_wp2
        go_returns
        exact ⟨ret_b FN.out, FB.out⟩
      | true =>
        obtain ⟨c0, c1, c2, c3, c4, c5, c6, c7, c8⟩ := cell9 K6.out.box
        go_wp2_with fail
        refine (M1.out w6 K6.out.bel).mono ?_
        rintro e w7 ⟨rfl, hb⟩
        have K7 := Lib.hid (K6.out.step hb)
        clear hb M1 K6 c0 c1 c2 c3 c4 c5 c6 c7 c8
        cases m1 with
        | false =>
          have FN := Lib.hid (hon_a HX.out OA.out)
          have FB := Lib.hid K7.out.bel
          clear K7
          go_wp2
          go_returns
          exact ⟨ret_b FN.out, FB.out⟩
        | true =>
          obtain ⟨c0, c1, c2, c3, c4, c5, c6, c7, c8⟩ := cell9 K7.out.box
          go_wp2_with fail
          refine (RS.out w7).mono ?_
          rintro e w8 ⟨rfl, hb⟩
          have K8 := Lib.hid (K7.out.step hb)
          clear hb RS K7 c0 c1 c2 c3 c4 c5 c6 c7 c8
          cases rs with
          | true =>
            have OX := Lib.hid (show okA l x = true from OA.out)
            clear M2 OA
            go_wp2_with fail
            go_loopw [5] (fun jv wj => ∃ j : Nat, jv = .int .i64 j ∧ j ≤ l.length ∧ Hid (HNI w wj bx x ∧ ∀ (j' : Nat) y, j' < j → l[j']? = some y → j' ≠ i → okP x y = true)) (fun jv _ => l.length - (intOf jv).toNat)
            case atStart => exact ⟨0, rfl, Nat.zero_le _, Lib.hid ⟨K8.out, fun j' y h => by omega⟩⟩
            case round =>
              clear K8
              obtain ⟨j, rfl, hj, KJ⟩ := hrel
              by_cases hjl : j < l.length
              · have hj0 : (0 : Int) ≤ (j : Int) := by omega
                have hj1 : (j : Int) < (l.length : Int) := by omega
                have hdj : decide ((j : Int) < (l.length : Int)) = true := decide_eq_true hj1
                have HJ1 := Lib.hid (show j + 1 ≤ l.length from hjl)
                have HWJ := Lib.hid (wrap_nat hjl (show l.length ≤ 100000 by omega))
                have HMJ := Lib.hid (meas_nat hjl)
                obtain ⟨g2, k2, y, e8, hy, hg2, hc2⟩ := (H.out.step KJ.out.1.bel).atK hjl
                injection e8 with e8
                injection e8 with e8 e9 _
                subst e8 e9
                have HY := Lib.hid hy
                have LY := Lib.hid (@ldO wr g (k + j * 9) y hc2)
                have KN := Lib.hid (show okP x y = true ∨ j = i → ∀ (j' : Nat) z, j' < j + 1 → l[j']? = some z → j' ≠ i → okP x z = true from fun ho j' z h1 h2 h3 => by
                  rcases Nat.lt_or_ge j' j with q | q
                  · exact KJ.out.2 j' z q h2 h3
                  · have : j' = j := by omega
                    subst this
                    rw [HY.out] at h2
                    injection h2 with h2
                    subst h2
                    rcases ho with ho | ho
                    · exact ho
                    · exact absurd ho h3)
                have N7 := Lib.hid (heap_alloc_new wr (.cells #[.int .i64 y.t, .int .i64 y.r, .int .i64 y.q, .int .i64 y.nt, .int .i64 y.nr, .int .i64 y.pt, .int .i64 y.pr, .string y.nm, .bool y.d] 33))
                have K7 := Lib.hid (KJ.out.1.step (pl_vstep wr (.cells #[.int .i64 y.t, .int .i64 y.r, .int .i64 y.q, .int .i64 y.nt, .int .i64 y.nr, .int .i64 y.pt, .int .i64 y.pr, .string y.nm, .bool y.d] 33)))
                clear hy hg2 hc2 KJ
                go_upto_region 11 with (first
                  | (refine Ve.wpList_load_arr rfl (.tmp 50) 33 rfl (.pointer (some ⟨g, k + j * 9, none⟩)) (.agg #[.int .i64 y.t, .int .i64 y.r, .int .i64 y.q, .int .i64 y.nt, .int .i64 y.nr, .int .i64 y.pt, .int .i64 y.pr, .string y.nm, .bool y.d]) rfl LY.out ?_))
                obtain ⟨wk, hwk⟩ : ∃ z, wr.alloc (.cells #[.int .i64 y.t, .int .i64 y.r, .int .i64 y.q, .int .i64 y.nt, .int .i64 y.nr, .int .i64 y.pt, .int .i64 y.pr, .string y.nm, .bool y.d] 33) = z := ⟨_, rfl⟩
                obtain ⟨bz, hbz⟩ : ∃ z, wr.heap.size = z := ⟨_, rfl⟩
                rw [hwk, hbz] at N7
                rw [hwk] at K7
                rw [hwk]
                try rw [hbz]
                clear hwk hbz LY
                by_cases hji : j = i
                · have e1 := beqb_ (j : Int) (i : Int) (by omega)
                  have KF := Lib.hid (And.intro K7.out (KN.out (.inr hji)))
                  clear hji K7 KN N7
                  go_wp2
                  go_roundw
                  case rel => exact ⟨j + 1, by first | (rw [HWJ.out]; rfl) | go_num, HJ1.out, KF⟩
                  case measure => first | (rw [HWJ.out]; exact HMJ.out) | exact HMJ.out
                · have e1 := bneb_ (j : Int) (i : Int) (by omega)
                  have PN := Lib.hid (fun (q : okP x y = false) => hon_p HX.out HY.out hji q)
                  have OP := Lib.hid (show okP x y = (!decide (y.t = x.t ∧ y.r = x.r) && !(decide (y.r = x.r) && (decide (y.q = x.q) || (decide (y.q < x.q) != decide (y.t < x.t))))) from rfl)
                  have KP := Lib.hid (fun (q : okP x y = true) => And.intro K7.out (KN.out (.inl q)))
                  have FB := Lib.hid K7.out.bel
                  obtain ⟨c0, c1, c2, c3, c4, c5, c6, c7, c8⟩ := cell9 K7.out.box
                  obtain ⟨d0, d1, d2, d3, d4, d5, d6, d7, d8⟩ := cell9 N7.out
                  obtain ⟨xt, hxt⟩ : ∃ z, x.t = z := ⟨_, rfl⟩
                  obtain ⟨xr, hxr⟩ : ∃ z, x.r = z := ⟨_, rfl⟩
                  obtain ⟨xq, hxq⟩ : ∃ z, x.q = z := ⟨_, rfl⟩
                  obtain ⟨yt, hyt⟩ : ∃ z, y.t = z := ⟨_, rfl⟩
                  obtain ⟨yr, hyr⟩ : ∃ z, y.r = z := ⟨_, rfl⟩
                  obtain ⟨yq, hyq⟩ : ∃ z, y.q = z := ⟨_, rfl⟩
                  rw [hxt] at c0 OP
                  rw [hxr] at c1 OP
                  rw [hxq] at c2 OP
                  rw [hyt] at d0 OP
                  rw [hyr] at d1 OP
                  rw [hyq] at d2 OP
                  clear hji hxt hxr hxq hyt hyr hyq N7 K7 KN
                  by_cases hs : yt = xt ∧ yr = xr
                  · have FN := Lib.hid (PN.out (OP.out.trans (by rw [decide_eq_true hs]; rfl)))
                    obtain ⟨u1, u2⟩ := yes2 hs
                    clear hs
                    go_wp2
                    go_returns
                    exact ⟨ret_b FN.out, FB.out⟩
                  · by_cases hr : yr = xr
                    · have ht : ¬ yt = xt := fun q => hs ⟨q, hr⟩
                      have u1 := bneb_ yt xt ht
                      have u2 := beqb_ yr xr hr
                      by_cases hq : yq = xq
                      · have u3 := beqb_ yq xq hq
                        have FN := Lib.hid (PN.out (OP.out.trans (by rw [decide_eq_false hs, decide_eq_true hr, decide_eq_true hq]; rfl)))
                        clear hs hr hq ht
                        go_wp2
                        go_returns
                        exact ⟨ret_b FN.out, FB.out⟩
                      · have u3 := bneb_ yq xq hq
                        by_cases ha : yq < xq
                        · have v1 : decide (yq < xq) = true := decide_eq_true ha
                          by_cases hb : yt < xt
                          · have v2 : decide (yt < xt) = true := decide_eq_true hb
                            have KF := Lib.hid (KP.out (OP.out.trans (by rw [decide_eq_false hs, decide_eq_true hr, decide_eq_false hq, v1, v2]; rfl)))
                            clear hs hr hq ht ha hb
                            go_wp2
                            go_roundw
                            case rel => exact ⟨j + 1, by first | (rw [HWJ.out]; rfl) | go_num, HJ1.out, KF⟩
                            case measure => first | (rw [HWJ.out]; exact HMJ.out) | exact HMJ.out
                          · have v2 : decide (yt < xt) = false := decide_eq_false hb
                            have FN := Lib.hid (PN.out (OP.out.trans (by rw [decide_eq_false hs, decide_eq_true hr, decide_eq_false hq, v1, v2]; rfl)))
                            clear hs hr hq ht ha hb
                            go_wp2
                            go_returns
                            exact ⟨ret_b FN.out, FB.out⟩
                        · have v1 : decide (yq < xq) = false := decide_eq_false ha
                          by_cases hb : yt < xt
                          · have v2 : decide (yt < xt) = true := decide_eq_true hb
                            have FN := Lib.hid (PN.out (OP.out.trans (by rw [decide_eq_false hs, decide_eq_true hr, decide_eq_false hq, v1, v2]; rfl)))
                            clear hs hr hq ht ha hb
                            go_wp2
                            go_returns
                            exact ⟨ret_b FN.out, FB.out⟩
                          · have v2 : decide (yt < xt) = false := decide_eq_false hb
                            have KF := Lib.hid (KP.out (OP.out.trans (by rw [decide_eq_false hs, decide_eq_true hr, decide_eq_false hq, v1, v2]; rfl)))
                            clear hs hr hq ht ha hb
                            go_wp2
                            go_roundw
                            case rel => exact ⟨j + 1, by first | (rw [HWJ.out]; rfl) | go_num, HJ1.out, KF⟩
                            case measure => first | (rw [HWJ.out]; exact HMJ.out) | exact HMJ.out
                    · have u2 := bneb_ yr xr hr
                      have KF := Lib.hid (KP.out (OP.out.trans (by rw [decide_eq_false hs, decide_eq_false hr]; rfl)))
                      have hn := no2 hs
                      clear hs hr
                      rcases hn with u1 | ⟨u1, u3⟩
                      all_goals
                        go_wp2
                        go_roundw
                        case rel => exact ⟨j + 1, by first | (rw [HWJ.out]; rfl) | go_num, HJ1.out, KF⟩
                        case measure => first | (rw [HWJ.out]; exact HMJ.out) | exact HMJ.out
              · have ej : j = l.length := by omega
                subst ej
                have KF := Lib.hid (show Below w.heap.size w wr ∧ ∀ i' : Nat, i' < i + 1 → okI l i' from ⟨KJ.out.1.bel, fun i' h1 => by
                  rcases Nat.lt_or_ge i' i with q | q
                  · exact KK.out i' q
                  · have : i' = i := by omega
                    subst this
                    intro z hz
                    rw [HX.out] at hz
                    injection hz with hz
                    subst hz
                    exact ⟨OX.out, fun j y hy hn => KJ.out.2 j y (List.getElem?_eq_some_iff.1 hy).1 hy hn⟩⟩)
                have hdj : decide ((l.length : Int) < (l.length : Int)) = false := decide_eq_false (by omega)
                clear KJ hjl
                go_wp2
                go_roundw
                case rel => exact ⟨i + 1, by first | (rw [HW9.out]; rfl) | go_num, HL1.out, KF⟩
                case measure => first | (rw [HW9.out]; exact HMS.out) | exact HMS.out
          | false =>
            obtain ⟨c0, c1, c2, c3, c4, c5, c6, c7, c8⟩ := cell9 K8.out.box
            go_wp2_with fail
            refine (M2.out w8 K8.out.bel).mono ?_
            rintro e w9 ⟨rfl, hb⟩
            have K9 := Lib.hid (K8.out.step hb)
            clear hb M2 K8 c0 c1 c2 c3 c4 c5 c6 c7 c8
            cases m2 with
            | false =>
              have FN := Lib.hid (hon_a HX.out OA.out)
              have FB := Lib.hid K9.out.bel
              clear K9
              go_wp2
              go_returns
              exact ⟨ret_b FN.out, FB.out⟩
            | true =>
              have OX := Lib.hid (show okA l x = true from OA.out)
              have K8 := K9
              clear OA K9
              go_wp2_with fail
              go_loopw [5] (fun jv wj => ∃ j : Nat, jv = .int .i64 j ∧ j ≤ l.length ∧ Hid (HNI w wj bx x ∧ ∀ (j' : Nat) y, j' < j → l[j']? = some y → j' ≠ i → okP x y = true)) (fun jv _ => l.length - (intOf jv).toNat)
              case atStart => exact ⟨0, rfl, Nat.zero_le _, Lib.hid ⟨K8.out, fun j' y h => by omega⟩⟩
              case round =>
                clear K8
                obtain ⟨j, rfl, hj, KJ⟩ := hrel
                by_cases hjl : j < l.length
                · have hj0 : (0 : Int) ≤ (j : Int) := by omega
                  have hj1 : (j : Int) < (l.length : Int) := by omega
                  have hdj : decide ((j : Int) < (l.length : Int)) = true := decide_eq_true hj1
                  have HJ1 := Lib.hid (show j + 1 ≤ l.length from hjl)
                  have HWJ := Lib.hid (wrap_nat hjl (show l.length ≤ 100000 by omega))
                  have HMJ := Lib.hid (meas_nat hjl)
                  obtain ⟨g2, k2, y, e8, hy, hg2, hc2⟩ := (H.out.step KJ.out.1.bel).atK hjl
                  injection e8 with e8
                  injection e8 with e8 e9 _
                  subst e8 e9
                  have HY := Lib.hid hy
                  have LY := Lib.hid (@ldO wr g (k + j * 9) y hc2)
                  have KN := Lib.hid (show okP x y = true ∨ j = i → ∀ (j' : Nat) z, j' < j + 1 → l[j']? = some z → j' ≠ i → okP x z = true from fun ho j' z h1 h2 h3 => by
                    rcases Nat.lt_or_ge j' j with q | q
                    · exact KJ.out.2 j' z q h2 h3
                    · have : j' = j := by omega
                      subst this
                      rw [HY.out] at h2
                      injection h2 with h2
                      subst h2
                      rcases ho with ho | ho
                      · exact ho
                      · exact absurd ho h3)
                  have N7 := Lib.hid (heap_alloc_new wr (.cells #[.int .i64 y.t, .int .i64 y.r, .int .i64 y.q, .int .i64 y.nt, .int .i64 y.nr, .int .i64 y.pt, .int .i64 y.pr, .string y.nm, .bool y.d] 33))
                  have K7 := Lib.hid (KJ.out.1.step (pl_vstep wr (.cells #[.int .i64 y.t, .int .i64 y.r, .int .i64 y.q, .int .i64 y.nt, .int .i64 y.nr, .int .i64 y.pt, .int .i64 y.pr, .string y.nm, .bool y.d] 33)))
                  clear hy hg2 hc2 KJ
                  go_upto_region 11 with (first
                    | (refine Ve.wpList_load_arr rfl (.tmp 50) 33 rfl (.pointer (some ⟨g, k + j * 9, none⟩)) (.agg #[.int .i64 y.t, .int .i64 y.r, .int .i64 y.q, .int .i64 y.nt, .int .i64 y.nr, .int .i64 y.pt, .int .i64 y.pr, .string y.nm, .bool y.d]) rfl LY.out ?_))
                  obtain ⟨wk, hwk⟩ : ∃ z, wr.alloc (.cells #[.int .i64 y.t, .int .i64 y.r, .int .i64 y.q, .int .i64 y.nt, .int .i64 y.nr, .int .i64 y.pt, .int .i64 y.pr, .string y.nm, .bool y.d] 33) = z := ⟨_, rfl⟩
                  obtain ⟨bz, hbz⟩ : ∃ z, wr.heap.size = z := ⟨_, rfl⟩
                  rw [hwk, hbz] at N7
                  rw [hwk] at K7
                  rw [hwk]
                  try rw [hbz]
                  clear hwk hbz LY
                  by_cases hji : j = i
                  · have e1 := beqb_ (j : Int) (i : Int) (by omega)
                    have KF := Lib.hid (And.intro K7.out (KN.out (.inr hji)))
                    clear hji K7 KN N7
                    go_wp2
                    go_roundw
                    case rel => exact ⟨j + 1, by first | (rw [HWJ.out]; rfl) | go_num, HJ1.out, KF⟩
                    case measure => first | (rw [HWJ.out]; exact HMJ.out) | exact HMJ.out
                  · have e1 := bneb_ (j : Int) (i : Int) (by omega)
                    have PN := Lib.hid (fun (q : okP x y = false) => hon_p HX.out HY.out hji q)
                    have OP := Lib.hid (show okP x y = (!decide (y.t = x.t ∧ y.r = x.r) && !(decide (y.r = x.r) && (decide (y.q = x.q) || (decide (y.q < x.q) != decide (y.t < x.t))))) from rfl)
                    have KP := Lib.hid (fun (q : okP x y = true) => And.intro K7.out (KN.out (.inl q)))
                    have FB := Lib.hid K7.out.bel
                    obtain ⟨c0, c1, c2, c3, c4, c5, c6, c7, c8⟩ := cell9 K7.out.box
                    obtain ⟨d0, d1, d2, d3, d4, d5, d6, d7, d8⟩ := cell9 N7.out
                    obtain ⟨xt, hxt⟩ : ∃ z, x.t = z := ⟨_, rfl⟩
                    obtain ⟨xr, hxr⟩ : ∃ z, x.r = z := ⟨_, rfl⟩
                    obtain ⟨xq, hxq⟩ : ∃ z, x.q = z := ⟨_, rfl⟩
                    obtain ⟨yt, hyt⟩ : ∃ z, y.t = z := ⟨_, rfl⟩
                    obtain ⟨yr, hyr⟩ : ∃ z, y.r = z := ⟨_, rfl⟩
                    obtain ⟨yq, hyq⟩ : ∃ z, y.q = z := ⟨_, rfl⟩
                    rw [hxt] at c0 OP
                    rw [hxr] at c1 OP
                    rw [hxq] at c2 OP
                    rw [hyt] at d0 OP
                    rw [hyr] at d1 OP
                    rw [hyq] at d2 OP
                    clear hji hxt hxr hxq hyt hyr hyq N7 K7 KN
                    by_cases hs : yt = xt ∧ yr = xr
                    · have FN := Lib.hid (PN.out (OP.out.trans (by rw [decide_eq_true hs]; rfl)))
                      obtain ⟨u1, u2⟩ := yes2 hs
                      clear hs
                      go_wp2
                      go_returns
                      exact ⟨ret_b FN.out, FB.out⟩
                    · by_cases hr : yr = xr
                      · have ht : ¬ yt = xt := fun q => hs ⟨q, hr⟩
                        have u1 := bneb_ yt xt ht
                        have u2 := beqb_ yr xr hr
                        by_cases hq : yq = xq
                        · have u3 := beqb_ yq xq hq
                          have FN := Lib.hid (PN.out (OP.out.trans (by rw [decide_eq_false hs, decide_eq_true hr, decide_eq_true hq]; rfl)))
                          clear hs hr hq ht
                          go_wp2
                          go_returns
                          exact ⟨ret_b FN.out, FB.out⟩
                        · have u3 := bneb_ yq xq hq
                          by_cases ha : yq < xq
                          · have v1 : decide (yq < xq) = true := decide_eq_true ha
                            by_cases hb : yt < xt
                            · have v2 : decide (yt < xt) = true := decide_eq_true hb
                              have KF := Lib.hid (KP.out (OP.out.trans (by rw [decide_eq_false hs, decide_eq_true hr, decide_eq_false hq, v1, v2]; rfl)))
                              clear hs hr hq ht ha hb
                              go_wp2
                              go_roundw
                              case rel => exact ⟨j + 1, by first | (rw [HWJ.out]; rfl) | go_num, HJ1.out, KF⟩
                              case measure => first | (rw [HWJ.out]; exact HMJ.out) | exact HMJ.out
                            · have v2 : decide (yt < xt) = false := decide_eq_false hb
                              have FN := Lib.hid (PN.out (OP.out.trans (by rw [decide_eq_false hs, decide_eq_true hr, decide_eq_false hq, v1, v2]; rfl)))
                              clear hs hr hq ht ha hb
                              go_wp2
                              go_returns
                              exact ⟨ret_b FN.out, FB.out⟩
                          · have v1 : decide (yq < xq) = false := decide_eq_false ha
                            by_cases hb : yt < xt
                            · have v2 : decide (yt < xt) = true := decide_eq_true hb
                              have FN := Lib.hid (PN.out (OP.out.trans (by rw [decide_eq_false hs, decide_eq_true hr, decide_eq_false hq, v1, v2]; rfl)))
                              clear hs hr hq ht ha hb
                              go_wp2
                              go_returns
                              exact ⟨ret_b FN.out, FB.out⟩
                            · have v2 : decide (yt < xt) = false := decide_eq_false hb
                              have KF := Lib.hid (KP.out (OP.out.trans (by rw [decide_eq_false hs, decide_eq_true hr, decide_eq_false hq, v1, v2]; rfl)))
                              clear hs hr hq ht ha hb
                              go_wp2
                              go_roundw
                              case rel => exact ⟨j + 1, by first | (rw [HWJ.out]; rfl) | go_num, HJ1.out, KF⟩
                              case measure => first | (rw [HWJ.out]; exact HMJ.out) | exact HMJ.out
                      · have u2 := bneb_ yr xr hr
                        have KF := Lib.hid (KP.out (OP.out.trans (by rw [decide_eq_false hs, decide_eq_false hr]; rfl)))
                        have hn := no2 hs
                        clear hs hr
                        rcases hn with u1 | ⟨u1, u3⟩
                        all_goals
                          go_wp2
                          go_roundw
                          case rel => exact ⟨j + 1, by first | (rw [HWJ.out]; rfl) | go_num, HJ1.out, KF⟩
                          case measure => first | (rw [HWJ.out]; exact HMJ.out) | exact HMJ.out
                · have ej : j = l.length := by omega
                  subst ej
                  have KF := Lib.hid (show Below w.heap.size w wr ∧ ∀ i' : Nat, i' < i + 1 → okI l i' from ⟨KJ.out.1.bel, fun i' h1 => by
                    rcases Nat.lt_or_ge i' i with q | q
                    · exact KK.out i' q
                    · have : i' = i := by omega
                      subst this
                      intro z hz
                      rw [HX.out] at hz
                      injection hz with hz
                      subst hz
                      exact ⟨OX.out, fun j y hy hn => KJ.out.2 j y (List.getElem?_eq_some_iff.1 hy).1 hy hn⟩⟩)
                  have hdj : decide ((l.length : Int) < (l.length : Int)) = false := decide_eq_false (by omega)
                  clear KJ hjl
                  go_wp2
                  go_roundw
                  case rel => exact ⟨i + 1, by first | (rw [HW9.out]; rfl) | go_num, HL1.out, KF⟩
                  case measure => first | (rw [HW9.out]; exact HMS.out) | exact HMS.out
    · have ei : i = l.length := by omega
      subst ei
      have FN := Lib.hid (hon_yes K.out.2)
      have FB := Lib.hid K.out.1
      have hd : decide ((l.length : Int) < (l.length : Int)) = false := decide_eq_false (by omega)
      clear K hlt
      go_wp2
      go_returns
      exact ⟨ret_b FN.out, FB.out⟩
end Go.Proofs.YtbeodechhneeeaaGreatDoor

