/- fold.Known: Get, Known$1, IndexFunc, DeleteFunc. Made by genfl15.py. -/
import Derived.Test.YtbeodechhneeeaaDoorFK
set_option linter.unusedVariables false
set_option linter.unusedSimpArgs false
set_option maxRecDepth 100000
namespace Go.Proofs.YtbeodechhneeeaaDoor
open Go.RowKit Go.Shelf
open Tb (Rw setF getF aboveF Rise TabI TM LiesK LiesR ltS encS Sp)
open Vx (va vw zs zs_len va_len va_size cell_va set_va alloc_va load_va store_va v24 v26 index_va va_get)

theorem gtr3 (a b : Int) (W : World) : (binOp .gtr 3 (.int .i64 a) (.int .i64 b)).run Tryd.prog W = .ok (.bool (decide (b < a))) W := by
  go_simp
theorem ggtr3 (x y : Operand) (u v : Value) (w : World) : (eqGuard .gtr 3 x y u v).run Tryd.prog w = .ok () w := rfl
theorem vis_any (w : World) (r : Nat) (h : r < 64) : Calls Tryd.prog 60 #[.int .i64 (r : Int)] w fun e w' => e = .returned (.bool true) ∧ w = w' := by
  have h0 : (0 : Int) ≤ (r : Int) := by omega
  have h1 : (r : Int) < 64 := by omega
  have hd0 : decide ((0 : Int) ≤ (r : Int)) = true := decide_eq_true h0
  have hd1 : decide ((r : Int) < 64) = true := decide_eq_true h1
  go_enter Tryd.func60, Tryd.ntmps60
  go_wp2
  go_returns
  exact ⟨rfl, rfl⟩
set_option maxHeartbeats 1600000 in
theorem vget_any (w : World) (V : List Int) (hV : V.length = 64) (r : Nat) (h : r < 64) (y : Int) (hy : V[r]? = some y) :
    Calls Tryd.prog 33 #[vw V, .int .i64 (r : Int)] w fun e w' => e = .returned (.int .i64 y) ∧ Below w.heap.size w w' := by
  have B1 := Lib.hid (pl_vstep w (.cells (va V) 27))
  have N1 := heap_alloc_new w (.cells (va V) 27)
  have c0 := cell_va N1 hy
  have IX := @ixV w.heap.size r h
  have CI := Lib.hid (fun W => vis_any W r h)
  unfold vw
  obtain ⟨VA, hVA⟩ : ∃ z, va V = z := ⟨_, rfl⟩
  rw [hVA] at B1 N1 c0
  rw [hVA]
  have h0 : (0 : Int) ≤ (r : Int) := by omega
  have h1 : (r : Int) < 64 := by omega
  clear hVA N1
  go_enter Tryd.func33, Tryd.ntmps33
  go_upto_region 1 with (fail)
  obtain ⟨w0, hw0⟩ : ∃ z, w.alloc (.cells VA 27) = z := ⟨_, rfl⟩
  rw [hw0] at B1 c0
  rw [hw0]
  clear hw0
  go_wp2_with fail
  refine (CI.out w0).mono ?_
  rintro e w1 ⟨rfl, hw⟩
  subst hw
  clear CI
  go_wp2
  go_returns
  exact ⟨rfl, B1.out⟩
set_option maxHeartbeats 3200000 in
theorem kn1_any (w : World) (vb : Nat) (V : List Int) (hV : V.length = 64) (hb : w.heap[vb]? = some (.cells (va V) 27 (0, 0))) (x : O) (hr0 : 0 ≤ x.r) (hr1 : x.r < 64) :
    Calls Tryd.prog 32 #[oV x, .pointer (some ⟨vb, 0, none⟩)] w fun e w' => e = .returned (.bool (!keepB V x)) ∧ Below w.heap.size w w' := by
  obtain ⟨rn, hrn⟩ : ∃ n : Nat, x.r = (n : Int) := ⟨x.r.toNat, by omega⟩
  have hrn64 : rn < 64 := by omega
  obtain ⟨y, hy⟩ := va_len V hV rn hrn64
  have KP := Lib.hid (show decide (y < x.q) = !keepB V x from by
    unfold keepB
    rw [hrn, Int.toNat_natCast, List.getD_eq_getElem?_getD, hy]
    show _ = !decide (x.q ≤ y)
    by_cases h : x.q ≤ y
    · rw [decide_eq_true h, decide_eq_false (by omega)]; rfl
    · rw [decide_eq_false h, decide_eq_true (by omega)]; rfl)
  have GE := Lib.hid (fun W => vget_any W V hV rn hrn64 y hy)
  have B1 := pl_vstep w (.cells #[.int .i64 x.t, .int .i64 x.r, .int .i64 x.q, .int .i64 x.nt, .int .i64 x.nr, .int .i64 x.pt, .int .i64 x.pr, .string x.nm, .bool x.d] 48)
  have N1 := heap_alloc_new w (.cells #[.int .i64 x.t, .int .i64 x.r, .int .i64 x.q, .int .i64 x.nt, .int .i64 x.nr, .int .i64 x.pt, .int .i64 x.pr, .string x.nm, .bool x.d] 48)
  have M1 := (B1.block _ (pl_lt hb)).trans hb
  obtain ⟨w0, hw0⟩ : ∃ z, w.alloc (.cells #[.int .i64 x.t, .int .i64 x.r, .int .i64 x.q, .int .i64 x.nt, .int .i64 x.nr, .int .i64 x.pt, .int .i64 x.pr, .string x.nm, .bool x.d] 48) = z := ⟨_, rfl⟩
  rw [hw0] at B1 N1 M1
  have HW := Lib.hid hw0
  have LQ := Lib.hid (fun W (hW : Below w0.heap.size w0 W) => @ld3 W w.heap.size 2 x.q (cell9 ((hW.block _ (pl_lt N1)).trans N1)).2.2.1)
  have LR := Lib.hid (fun W (hW : Below w0.heap.size w0 W) => (show (Instr.loadAt 3 (.pointer (some ⟨w.heap.size, 1, none⟩))).run Tryd.prog W = .ok (.int .i64 (rn : Int)) W from by rw [← hrn]; exact @ld3 W w.heap.size 1 x.r (cell9 ((hW.block _ (pl_lt N1)).trans N1)).2.1))
  have LV := Lib.hid (fun W (hW : Below w0.heap.size w0 W) => load_va v24 W vb V hV ((hW.block _ (pl_lt M1)).trans M1))
  have E5 := Lib.hid (fun W => gtr3 x.q y W)
  have B1 := Lib.hid B1
  unfold vw at GE
  obtain ⟨VA, hVA⟩ : ∃ z, va V = z := ⟨_, rfl⟩
  rw [hVA] at LV GE
  obtain ⟨kb, hkb⟩ : ∃ z, decide (y < x.q) = z := ⟨_, rfl⟩
  rw [hkb] at KP E5
  clear hw0 N1 M1 hb hVA hrn hr0 hr1 hkb
  unfold oV
  go_enter Tryd.func32, Tryd.ntmps32
  go_upto_region 1 with (fail)
  rw [show w.alloc (.cells (oCells x) 48) = w0 from HW.out]
  refine wp_region_held_drew (S := fun w' => Below w0.heap.size w0 w') (by kernel_rfl) (Below.refl _ _).drew (fun hHeld => ?_)
  have BV := Lib.hid (show Below w0.heap.size w0 w0.drew from (Below.refl _ _).drew)
  clear hHeld
  refine take_at (i := 0) 4 ?_ rfl rfl (by kernel_rfl) (by kernel_rfl) (by kernel_rfl) (fun _ _ _ h => h) (.inl ⟨rfl, ?_⟩) BV.out ?_
  rotate_left 1
  · intro w hSw; go_simp; try with_reducible rfl
  simp only [Act.put, List.setIfInBounds_toArray, List.set_cons_zero, List.set_cons_succ]
  refine take_at (i := 1) 5 (.int .i64 x.q) rfl rfl (by kernel_rfl) (by kernel_rfl) (by kernel_rfl) (fun _ _ _ h => h) (yields_ld (.tmp 4) 3 (.pointer (some ⟨w.heap.size, 2, none⟩)) _ LQ.out rfl rfl rfl) BV.out ?_
  simp only [Act.put, List.setIfInBounds_toArray, List.set_cons_zero, List.set_cons_succ]
  refine take_at (i := 2) 6 (.agg VA) rfl rfl (by kernel_rfl) (by kernel_rfl) (by kernel_rfl) (fun _ _ _ h => h) (yields_ld (.tmp 1) 27 (.pointer (some ⟨vb, 0, none⟩)) _ LV.out rfl rfl rfl) BV.out ?_
  simp only [Act.put, List.setIfInBounds_toArray, List.set_cons_zero, List.set_cons_succ]
  refine take_at (i := 3) 7 ?_ rfl rfl (by kernel_rfl) (by kernel_rfl) (by kernel_rfl) (fun _ _ _ h => h) (.inl ⟨rfl, ?_⟩) BV.out ?_
  rotate_left 1
  · intro w hSw; go_simp; try with_reducible rfl
  simp only [Act.put, List.setIfInBounds_toArray, List.set_cons_zero, List.set_cons_succ]
  refine take_at (i := 4) 8 ?_ rfl rfl (by kernel_rfl) (by kernel_rfl) (by kernel_rfl) (fun _ _ _ h => h) (.inl ⟨rfl, ?_⟩) BV.out ?_
  rotate_left 1
  · intro w hSw; go_simp; try with_reducible rfl
  simp only [Act.put, List.setIfInBounds_toArray, List.set_cons_zero, List.set_cons_succ]
  refine take_at (i := 5) 9 (.int .i64 (rn : Int)) rfl rfl (by kernel_rfl) (by kernel_rfl) (by kernel_rfl) (fun _ _ _ h => h) (yields_ld (.tmp 8) 3 (.pointer (some ⟨w.heap.size, 1, none⟩)) _ LR.out rfl rfl rfl) BV.out ?_
  simp only [Act.put, List.setIfInBounds_toArray, List.set_cons_zero, List.set_cons_succ]
  refine wpAnyH_ready (rs := [6]) (by kernel_rfl) (by simp) (br_call (i := 6) 10 33 #[.agg VA, .int .i64 (rn : Int)] rfl rfl rfl (by go_simp) ((GE.out _).mono ?_) AllReadyH.nil)
  rintro e v1 ⟨rfl, hb⟩
  have BV := Lib.hid (BV.out.trans (hb.mono BV.out.size))
  clear hb
  refine ⟨_, rfl, BV.out, fun _ => ?_⟩
  simp only [Act.put, List.setIfInBounds_toArray, List.set_cons_zero, List.set_cons_succ]
  refine take_at (i := 7) 11 (.bool kb) rfl rfl (by kernel_rfl) (by kernel_rfl) (by kernel_rfl) (fun _ _ _ h => h) (yields_bin .gtr (.tmp 5) (.tmp 10) 3 3 (.int .i64 x.q) (.int .i64 y) _ E5.out (ggtr3 _ _ _ _) rfl rfl rfl rfl) BV.out ?_
  simp only [Act.put, List.setIfInBounds_toArray, List.set_cons_zero, List.set_cons_succ]
  refine take_at (i := 8) 3 ?_ rfl rfl (by kernel_rfl) (by kernel_rfl) (by kernel_rfl) (fun _ _ _ h => h) (.inl ⟨rfl, ?_⟩) BV.out ?_
  rotate_left 1
  · intro w hSw; go_simp; try with_reducible rfl
  simp only [Act.put, List.setIfInBounds_toArray, List.set_cons_zero, List.set_cons_succ]
  refine wpAnyH_done (by kernel_rfl) ?_ _
  have FB := Lib.hid (B1.out.trans (BV.out.mono B1.out.size))
  clear BV
  go_wp2
  go_returns
  exact ⟨ret_b KP.out, FB.out⟩
/-! ### IndexFunc -/
/-- What stands while the closure is asked: the row and the vector's box. -/
structure DFI (B vb : Nat) (V : List Int) (W : World) : Prop where
  box : W.heap[vb]? = some (.cells (va V) 27 (0, 0))
def IdxIs (V : List Int) (D : List O) (k : Int) : Prop := (k = -1 ∧ ∀ x ∈ D, keepB V x = true) ∨ ∃ i : Nat, k = (i : Int) ∧ i < D.length ∧ (∀ x, D[i]? = some x → keepB V x = false) ∧ ∀ x ∈ D.take i, keepB V x = true
abbrev CLO (vb : Nat) : Value := .func (.func 32) #[] #[.pointer (some ⟨vb, 0, none⟩)]
set_option maxHeartbeats 6400000 in
theorem idxf_any (w : World) (vb : Nat) (V : List Int) (hV : V.length = 64) (hb : w.heap[vb]? = some (.cells (va V) 27 (0, 0))) (v : Value) (D : List O) (h : OLies w v D) (hr : ∀ x ∈ D, 0 ≤ x.r ∧ x.r < 64) (hl : D.length ≤ 1000) :
    Calls Tryd.prog 59 #[v, CLO vb] w fun e w' => ∃ k, e = .returned (.int .i64 k) ∧ IdxIs V D k ∧ Below w.heap.size w w' := by
  have H := Lib.hid h
  have HR := Lib.hid hr
  have HV := Lib.hid hV
  have HB := Lib.hid hb
  obtain ⟨ao, cap, rfl⟩ := h.shape
  clear h hr hV hb
  go_enter Tryd.func59, Tryd.ntmps59
  go_wp2
  go_loopw [8] (fun iv wr => ∃ i : Nat, iv = .int .i64 i ∧ i ≤ D.length ∧ Hid (Below w.heap.size w wr ∧ ∀ x ∈ D.take i, keepB V x = true)) (fun iv _ => D.length - (intOf iv).toNat)
  case atStart => exact ⟨0, rfl, Nat.zero_le _, Lib.hid ⟨Below.refl _ _, fun x hx => by cases hx⟩⟩
  case round =>
    obtain ⟨i, rfl, hi, K⟩ := hrel
    by_cases hlt : i < D.length
    · have hi0 : (0 : Int) ≤ (i : Int) := by omega
      have hi1 : (i : Int) < (D.length : Int) := by omega
      have hd : decide ((i : Int) < (D.length : Int)) = true := decide_eq_true hi1
      have HL1 := Lib.hid (show i + 1 ≤ D.length from hlt)
      have HW9 := Lib.hid (wrap_nat hlt (show D.length ≤ 100000 by omega))
      have HMS := Lib.hid (meas_nat hlt)
      obtain ⟨g, k, x, e7, hx, hg, hc⟩ := (H.out.step K.out.1).atK hlt
      subst e7
      have HX := Lib.hid hx
      have LX := Lib.hid (@ldO wr g (k + i * 9) x hc)
      have RX := HR.out x (List.mem_of_getElem? hx)
      have CL := Lib.hid (kn1_any wr vb V HV.out ((K.out.1.block _ (pl_lt HB.out)).trans HB.out) x RX.1 RX.2)
      have TS := Lib.hid (show D.take (i + 1) = D.take i ++ [x] from by
        obtain ⟨q1, q2⟩ := List.getElem?_eq_some_iff.1 hx
        rw [List.take_succ_eq_append_getElem q1, q2])
      obtain ⟨kb, hkb⟩ : ∃ z, keepB V x = z := ⟨_, rfl⟩
      rw [hkb] at CL
      have HKB := Lib.hid hkb
      clear hx hg hc RX hkb hlt
      go_wp2_with (first | (refine Ve.wpList_load_arr rfl (.tmp 14) 48 rfl (.pointer (some ⟨g, k + i * 9, none⟩)) (oV x) rfl LX.out ?_))
      refine CL.out.mono ?_
      rintro e w5 ⟨rfl, hb5⟩
      have K5 := Lib.hid (K.out.1.trans (hb5.mono K.out.1.size))
      have KI := Lib.hid K.out.2
      clear hb5 CL LX K
      cases kb with
      | false =>
        have FN := Lib.hid (show IdxIs V D (i : Int) from .inr ⟨i, rfl, HL1.out, (fun z hz => by rw [HX.out] at hz; injection hz with hz; rw [← hz]; exact HKB.out), KI.out⟩)
        go_wp2
        go_returns
        first | exact ⟨_, rfl, FN.out, K5.out⟩ | exact ⟨FN.out, K5.out⟩
      | true =>
        have KF := Lib.hid (show Below w.heap.size w w5 ∧ ∀ z ∈ D.take (i + 1), keepB V z = true from ⟨K5.out, fun z hz => by
          rw [TS.out] at hz
          rcases List.mem_append.1 hz with q | q
          · exact KI.out z q
          · rw [List.mem_singleton.1 q]; exact HKB.out⟩)
        go_wp2
        go_roundw
        case rel => exact ⟨i + 1, by first | (rw [HW9.out]; rfl) | go_num, HL1.out, KF⟩
        case measure => first | (rw [HW9.out]; exact HMS.out) | exact HMS.out
    · have ei : i = D.length := by omega
      subst ei
      have FN := Lib.hid (show IdxIs V D (-1) from .inl ⟨rfl, fun x hx => K.out.2 x (by rw [List.take_length]; exact hx)⟩)
      have KB := Lib.hid K.out.1
      have hd : decide ((D.length : Int) < (D.length : Int)) = false := decide_eq_false (by omega)
      clear K hlt
      go_wp2
      go_returns
      first | exact ⟨_, rfl, FN.out, KB.out⟩ | exact ⟨FN.out, KB.out⟩
end Go.Proofs.YtbeodechhneeeaaDoor
