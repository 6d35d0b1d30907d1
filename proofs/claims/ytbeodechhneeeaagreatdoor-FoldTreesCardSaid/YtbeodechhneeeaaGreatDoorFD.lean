/- fold.Time, stamp.Reserved, fold.rising. Made by genfd15.py. -/
import Derived.Test.YtbeodechhneeeaaGreatDoorFC
import Derived.Test.YtbeodechhneeeaaGreatDoorVV
set_option linter.unusedVariables false
set_option linter.unusedSimpArgs false
set_option maxRecDepth 100000
namespace Go.Proofs.YtbeodechhneeeaaGreatDoor
open Go.RowKit Go.Shelf
open Tb (Rw setF getF aboveF Rise TabI TM LiesK LiesR ltS encS Sp)
open Vx (va vw zs zs_len va_len va_size cell_va set_va alloc_va load_va z24 v24)

theorem ld3 {W : World} {g o : Nat} {a : Int} (h : W.cell? ⟨g, o, none⟩ = some (.int .i64 a)) : (Instr.loadAt 3 (.pointer (some ⟨g, o, none⟩))).run Tryz.prog W = .ok (.int .i64 a) W := by
  go_simp
theorem ixV {b i : Nat} (hi : i < 64) (W : World) : (Instr.indexAt 52 (.pointer (some ⟨b, 0, none⟩)) (.int .i64 (i : Int))).run Tryz.prog W = .ok (.pointer (some ⟨b, i, none⟩)) W := by
  have h0 : (0 : Int) ≤ (i : Int) := by omega
  have h1 : (i : Int) < 64 := by omega
  go_simp
theorem leq3 (a b : Int) (W : World) : (binOp .leq 3 (.int .i64 a) (.int .i64 b)).run Tryz.prog W = .ok (.bool (decide (a ≤ b))) W := by
  go_simp
theorem gleq3 (x y : Operand) (u v : Value) (w : World) : (eqGuard .leq 3 x y u v).run Tryz.prog w = .ok () w := rfl
noncomputable def timeO (S : List O) : Int := (S.getLast?.map (·.t)).getD 0
theorem time_last {S : List O} {k : Nat} {x : O} (h : S.length = k + 1) (hx : S[k]? = some x) : timeO S = x.t := by
  unfold timeO
  rw [List.getLast?_eq_getElem?, show S.length - 1 = k by omega, hx]
  rfl
set_option maxHeartbeats 3200000 in
theorem ftime_any (w : World) (v : Value) (l : List O) (h : OLies w v l) (hok : ∀ o ∈ l, OkO o) (hsz : ∀ o ∈ l, o.nm.size ≤ 9223372036854775807) (hl : l.length ≤ 1000) (hu : (uniqF l).length ≤ 79) :
    Calls Tryz.prog 25 #[v] w fun e w' => e = .returned (.int .i64 (timeO (setO l))) ∧ Below w.heap.size w w' := by
  have C := Lib.hid (fset_any w v l h hok hsz hl hu)
  have SLN := Lib.hid (show (setO l).length ≤ 79 from by show (srtO (uniqF l)).length ≤ 79; rw [srtO_len]; exact hu)
  obtain ⟨ao, cap, rfl⟩ := h.shape
  obtain ⟨SS, hSS⟩ : ∃ z, setO l = z := ⟨_, rfl⟩
  rw [hSS] at C SLN ⊢
  clear h hok hsz hl hu hSS
  go_enter Tryz.func25, Tryz.ntmps25
  go_wp2_with fail
  refine C.out.mono ?_
  rintro e w1 ⟨rv, rfl, hown, hb⟩
  have HB := Lib.hid hb
  obtain ⟨ra, rc, rfl⟩ := Ve.own_shape hown
  have SO := Lib.hid (own_olies hown)
  clear hown hb C
  by_cases h0 : SS.length = 0
  · have hn : SS = [] := List.eq_nil_of_length_eq_zero h0
    subst hn
    go_wp2_with fail
    go_returns
    exact ⟨rfl, HB.out⟩
  · obtain ⟨k, hk⟩ : ∃ k, SS.length = k + 1 := ⟨SS.length - 1, by omega⟩
    obtain ⟨g, o, x, e7, hx, hg, hc⟩ := SO.out.atK (show k < SS.length by omega)
    subst e7
    have TE := Lib.hid (time_last hk hx)
    have c0 : w1.cell? ⟨g, o + k * 9, none⟩ = some (.int .i64 x.t) := hc 0 _ rfl
    have hb0 := Tb.bneb_ (SS.length : Int) 0 (by omega)
    have hw : wrap64 ((SS.length : Int) - 1) = (k : Int) := by have := SLN.out; unfold wrap64; omega
    have h1 : (0 : Int) ≤ (k : Int) := by omega
    have h2 : (k : Int) < (SS.length : Int) := by omega
    clear hc hg hx h0
    have HK := Lib.hid hk
    clear hk
    go_wp2_with fail
    go_returns
    exact ⟨by rw [TE.out]; rfl, HB.out⟩
set_option maxRecDepth 100000 in
theorem lost_any (w : World) : Calls Tryz.prog 97 #[] w fun e w' => e = .returned (.agg #[.int .i64 0, .int .i64 2]) ∧ Below w.heap.size w w' := by
  go_enter Tryz.func97, Tryz.ntmps97
  go_wp2
  refine bodyPost_ret (v := .agg #[.int .i64 0, .int .i64 2]) (by simp [results, Tryz.results97, go_sem]) rfl ⟨rfl, ?_⟩
  exact (Below.refl _ _).alloc (Nat.le_refl _) _
def resB (t r : Int) : Bool := decide (t = 0 ∧ r = 0) || (decide (t = 0 ∧ r = 1) || decide (t = 0 ∧ r = 2))
set_option maxHeartbeats 3200000 in
theorem res_any (w : World) (t r : Int) : Calls Tryz.prog 73 #[.agg #[.int .i64 t, .int .i64 r]] w fun e w' => e = .returned (.bool (resB t r)) ∧ Below w.heap.size w w' := by
  have hb := pl_vstep w (.cells #[.int .i64 t, .int .i64 r] 31)
  have hn := heap_alloc_new w (.cells #[.int .i64 t, .int .i64 r] 31)
  obtain ⟨w0, hw0⟩ : ∃ z, w.alloc (.cells #[.int .i64 t, .int .i64 r] 31) = z := ⟨_, rfl⟩
  rw [hw0] at hb hn
  have HW := Lib.hid hw0
  have B0 := Lib.hid hb
  have LB := Lib.hid (fun W (hb : Below w0.heap.size w0 W) => ldSt ((hb.block _ (pl_lt hn)).trans hn))
  have RB := Lib.hid (show resB t r = (decide (t = 0 ∧ r = 0) || (decide (t = 0 ∧ r = 1) || decide (t = 0 ∧ r = 2))) from rfl)
  have E0 := Lib.hid (fun W => eq24 t r 0 0 W)
  have E1 := Lib.hid (fun W => eq24 t r 0 1 W)
  have E2 := Lib.hid (fun W => eq24 t r 0 2 W)
  obtain ⟨b0, hb0⟩ : ∃ z, decide (t = 0 ∧ r = 0) = z := ⟨_, rfl⟩
  obtain ⟨b1, hb1⟩ : ∃ z, decide (t = 0 ∧ r = 1) = z := ⟨_, rfl⟩
  obtain ⟨b2, hb2⟩ : ∃ z, decide (t = 0 ∧ r = 2) = z := ⟨_, rfl⟩
  rw [hb0] at RB E0
  rw [hb1] at RB E1
  rw [hb2] at RB E2
  clear hw0 hb hn hb0 hb1 hb2
  go_enter Tryz.func73, Tryz.ntmps73
  go_upto_region 1 with (fail)
  rw [HW.out]
  cases b0 with
  | true =>
    refine wp_region_held_drew (S := fun w' => Below w0.heap.size w0 w') (by kernel_rfl) (Below.refl _ _).drew (fun hHeld => ?_)
    have BV := Lib.hid (show Below w0.heap.size w0 w0.drew from (Below.refl _ _).drew)
    clear hHeld
    refine take_at (i := 0) 3 (.agg #[.int .i64 t, .int .i64 r]) rfl rfl (by kernel_rfl) (by kernel_rfl) (by kernel_rfl) (fun _ _ _ h => h) (yields_ld (.tmp 1) 31 (.pointer (some ⟨w.heap.size, 0, none⟩)) _ LB.out rfl rfl rfl) BV.out ?_
    simp only [Act.put, List.setIfInBounds_toArray, List.set_cons_zero, List.set_cons_succ]
    refine wpAnyH_ready (rs := [1]) (by kernel_rfl) (by simp) (br_call (i := 1) 4 88 #[] rfl rfl rfl (by go_simp) ((St.root_any _).mono ?_) AllReadyH.nil)
    rintro e v1 ⟨rfl, hb⟩
    have BV := Lib.hid (BV.out.trans (hb.mono BV.out.size))
    clear hb
    refine ⟨_, rfl, BV.out, fun _ => ?_⟩
    simp only [Act.put, List.setIfInBounds_toArray, List.set_cons_zero, List.set_cons_succ]
    refine take_at (i := 2) 5 (.bool true) rfl rfl (by kernel_rfl) (by kernel_rfl) (by kernel_rfl) (fun _ _ _ h => h) (yields_bin .eql (.tmp 3) (.tmp 4) 31 31 (.agg #[.int .i64 t, .int .i64 r]) (.agg #[.int .i64 0, .int .i64 0]) _ E0.out (g24 _ _ _ _) rfl rfl rfl rfl) BV.out ?_
    simp only [Act.put, List.setIfInBounds_toArray, List.set_cons_zero, List.set_cons_succ]
    refine take_at (i := 3) 6 ?_ rfl rfl (by kernel_rfl) (by kernel_rfl) (by kernel_rfl) (fun _ _ _ h => h) (.inl ⟨rfl, ?_⟩) BV.out ?_
    rotate_left 1
    · intro w hSw; go_simp; try with_reducible rfl
    simp only [Act.put, List.setIfInBounds_toArray, List.set_cons_zero, List.set_cons_succ]
    refine take_at (i := 4) 7 undef rfl rfl (by kernel_rfl) (by kernel_rfl) (by kernel_rfl) (fun _ _ _ h => h) (.inr ⟨rfl, rfl⟩) BV.out ?_
    simp only [Act.put, List.setIfInBounds_toArray, List.set_cons_zero, List.set_cons_succ]
    refine take_at (i := 5) 8 undef rfl rfl (by kernel_rfl) (by kernel_rfl) (by kernel_rfl) (fun _ _ _ h => h) (.inr ⟨rfl, rfl⟩) BV.out ?_
    simp only [Act.put, List.setIfInBounds_toArray, List.set_cons_zero, List.set_cons_succ]
    refine take_at (i := 6) 9 undef rfl rfl (by kernel_rfl) (by kernel_rfl) (by kernel_rfl) (fun _ _ _ h => h) (.inr ⟨rfl, rfl⟩) BV.out ?_
    simp only [Act.put, List.setIfInBounds_toArray, List.set_cons_zero, List.set_cons_succ]
    refine take_at (i := 7) 10 ?_ rfl rfl (by kernel_rfl) (by kernel_rfl) (by kernel_rfl) (fun _ _ _ h => h) (.inl ⟨rfl, ?_⟩) BV.out ?_
    rotate_left 1
    · intro w hSw; go_simp; try with_reducible rfl
    simp only [Act.put, List.setIfInBounds_toArray, List.set_cons_zero, List.set_cons_succ]
    refine take_at (i := 8) 11 ?_ rfl rfl (by kernel_rfl) (by kernel_rfl) (by kernel_rfl) (fun _ _ _ h => h) (.inl ⟨rfl, ?_⟩) BV.out ?_
    rotate_left 1
    · intro w hSw; go_simp; try with_reducible rfl
    simp only [Act.put, List.setIfInBounds_toArray, List.set_cons_zero, List.set_cons_succ]
    refine take_at (i := 9) 12 undef rfl rfl (by kernel_rfl) (by kernel_rfl) (by kernel_rfl) (fun _ _ _ h => h) (.inr ⟨rfl, rfl⟩) BV.out ?_
    simp only [Act.put, List.setIfInBounds_toArray, List.set_cons_zero, List.set_cons_succ]
    refine take_at (i := 10) 13 undef rfl rfl (by kernel_rfl) (by kernel_rfl) (by kernel_rfl) (fun _ _ _ h => h) (.inr ⟨rfl, rfl⟩) BV.out ?_
    simp only [Act.put, List.setIfInBounds_toArray, List.set_cons_zero, List.set_cons_succ]
    refine take_at (i := 11) 14 undef rfl rfl (by kernel_rfl) (by kernel_rfl) (by kernel_rfl) (fun _ _ _ h => h) (.inr ⟨rfl, rfl⟩) BV.out ?_
    simp only [Act.put, List.setIfInBounds_toArray, List.set_cons_zero, List.set_cons_succ]
    refine take_at (i := 12) 15 ?_ rfl rfl (by kernel_rfl) (by kernel_rfl) (by kernel_rfl) (fun _ _ _ h => h) (.inl ⟨rfl, ?_⟩) BV.out ?_
    rotate_left 1
    · intro w hSw; go_simp; try with_reducible rfl
    simp only [Act.put, List.setIfInBounds_toArray, List.set_cons_zero, List.set_cons_succ]
    refine take_at (i := 13) 2 ?_ rfl rfl (by kernel_rfl) (by kernel_rfl) (by kernel_rfl) (fun _ _ _ h => h) (.inl ⟨rfl, ?_⟩) BV.out ?_
    rotate_left 1
    · intro w hSw; go_simp; try with_reducible rfl
    simp only [Act.put, List.setIfInBounds_toArray, List.set_cons_zero, List.set_cons_succ]
    refine wpAnyH_done (by kernel_rfl) ?_ _
    have FB := Lib.hid (B0.out.trans (BV.out.mono B0.out.size))
    clear BV
    go_wp2
    go_returns
    exact ⟨by rw [RB.out]; rfl, FB.out⟩
  | false =>
    cases b1 with
    | true =>
      refine wp_region_held_drew (S := fun w' => Below w0.heap.size w0 w') (by kernel_rfl) (Below.refl _ _).drew (fun hHeld => ?_)
      have BV := Lib.hid (show Below w0.heap.size w0 w0.drew from (Below.refl _ _).drew)
      clear hHeld
      refine take_at (i := 0) 3 (.agg #[.int .i64 t, .int .i64 r]) rfl rfl (by kernel_rfl) (by kernel_rfl) (by kernel_rfl) (fun _ _ _ h => h) (yields_ld (.tmp 1) 31 (.pointer (some ⟨w.heap.size, 0, none⟩)) _ LB.out rfl rfl rfl) BV.out ?_
      simp only [Act.put, List.setIfInBounds_toArray, List.set_cons_zero, List.set_cons_succ]
      refine wpAnyH_ready (rs := [1]) (by kernel_rfl) (by simp) (br_call (i := 1) 4 88 #[] rfl rfl rfl (by go_simp) ((St.root_any _).mono ?_) AllReadyH.nil)
      rintro e v1 ⟨rfl, hb⟩
      have BV := Lib.hid (BV.out.trans (hb.mono BV.out.size))
      clear hb
      refine ⟨_, rfl, BV.out, fun _ => ?_⟩
      simp only [Act.put, List.setIfInBounds_toArray, List.set_cons_zero, List.set_cons_succ]
      refine take_at (i := 2) 5 (.bool false) rfl rfl (by kernel_rfl) (by kernel_rfl) (by kernel_rfl) (fun _ _ _ h => h) (yields_bin .eql (.tmp 3) (.tmp 4) 31 31 (.agg #[.int .i64 t, .int .i64 r]) (.agg #[.int .i64 0, .int .i64 0]) _ E0.out (g24 _ _ _ _) rfl rfl rfl rfl) BV.out ?_
      simp only [Act.put, List.setIfInBounds_toArray, List.set_cons_zero, List.set_cons_succ]
      refine take_at (i := 3) 6 ?_ rfl rfl (by kernel_rfl) (by kernel_rfl) (by kernel_rfl) (fun _ _ _ h => h) (.inl ⟨rfl, ?_⟩) BV.out ?_
      rotate_left 1
      · intro w hSw; go_simp; try with_reducible rfl
      simp only [Act.put, List.setIfInBounds_toArray, List.set_cons_zero, List.set_cons_succ]
      refine take_at (i := 4) 7 (.agg #[.int .i64 t, .int .i64 r]) rfl rfl (by kernel_rfl) (by kernel_rfl) (by kernel_rfl) (fun _ _ _ h => h) (yields_ld (.tmp 1) 31 (.pointer (some ⟨w.heap.size, 0, none⟩)) _ LB.out rfl rfl rfl) BV.out ?_
      simp only [Act.put, List.setIfInBounds_toArray, List.set_cons_zero, List.set_cons_succ]
      refine wpAnyH_ready (rs := [5]) (by kernel_rfl) (by simp) (br_call (i := 5) 8 89 #[] rfl rfl rfl (by go_simp) ((St.trash_any _).mono ?_) AllReadyH.nil)
      rintro e v2 ⟨rfl, hb⟩
      have BV := Lib.hid (BV.out.trans (hb.mono BV.out.size))
      clear hb
      refine ⟨_, rfl, BV.out, fun _ => ?_⟩
      simp only [Act.put, List.setIfInBounds_toArray, List.set_cons_zero, List.set_cons_succ]
      refine take_at (i := 6) 9 (.bool true) rfl rfl (by kernel_rfl) (by kernel_rfl) (by kernel_rfl) (fun _ _ _ h => h) (yields_bin .eql (.tmp 7) (.tmp 8) 31 31 (.agg #[.int .i64 t, .int .i64 r]) (.agg #[.int .i64 0, .int .i64 1]) _ E1.out (g24 _ _ _ _) rfl rfl rfl rfl) BV.out ?_
      simp only [Act.put, List.setIfInBounds_toArray, List.set_cons_zero, List.set_cons_succ]
      refine take_at (i := 7) 10 ?_ rfl rfl (by kernel_rfl) (by kernel_rfl) (by kernel_rfl) (fun _ _ _ h => h) (.inl ⟨rfl, ?_⟩) BV.out ?_
      rotate_left 1
      · intro w hSw; go_simp; try with_reducible rfl
      simp only [Act.put, List.setIfInBounds_toArray, List.set_cons_zero, List.set_cons_succ]
      refine take_at (i := 8) 11 ?_ rfl rfl (by kernel_rfl) (by kernel_rfl) (by kernel_rfl) (fun _ _ _ h => h) (.inl ⟨rfl, ?_⟩) BV.out ?_
      rotate_left 1
      · intro w hSw; go_simp; try with_reducible rfl
      simp only [Act.put, List.setIfInBounds_toArray, List.set_cons_zero, List.set_cons_succ]
      refine take_at (i := 9) 12 undef rfl rfl (by kernel_rfl) (by kernel_rfl) (by kernel_rfl) (fun _ _ _ h => h) (.inr ⟨rfl, rfl⟩) BV.out ?_
      simp only [Act.put, List.setIfInBounds_toArray, List.set_cons_zero, List.set_cons_succ]
      refine take_at (i := 10) 13 undef rfl rfl (by kernel_rfl) (by kernel_rfl) (by kernel_rfl) (fun _ _ _ h => h) (.inr ⟨rfl, rfl⟩) BV.out ?_
      simp only [Act.put, List.setIfInBounds_toArray, List.set_cons_zero, List.set_cons_succ]
      refine take_at (i := 11) 14 undef rfl rfl (by kernel_rfl) (by kernel_rfl) (by kernel_rfl) (fun _ _ _ h => h) (.inr ⟨rfl, rfl⟩) BV.out ?_
      simp only [Act.put, List.setIfInBounds_toArray, List.set_cons_zero, List.set_cons_succ]
      refine take_at (i := 12) 15 ?_ rfl rfl (by kernel_rfl) (by kernel_rfl) (by kernel_rfl) (fun _ _ _ h => h) (.inl ⟨rfl, ?_⟩) BV.out ?_
      rotate_left 1
      · intro w hSw; go_simp; try with_reducible rfl
      simp only [Act.put, List.setIfInBounds_toArray, List.set_cons_zero, List.set_cons_succ]
      refine take_at (i := 13) 2 ?_ rfl rfl (by kernel_rfl) (by kernel_rfl) (by kernel_rfl) (fun _ _ _ h => h) (.inl ⟨rfl, ?_⟩) BV.out ?_
      rotate_left 1
      · intro w hSw; go_simp; try with_reducible rfl
      simp only [Act.put, List.setIfInBounds_toArray, List.set_cons_zero, List.set_cons_succ]
      refine wpAnyH_done (by kernel_rfl) ?_ _
      have FB := Lib.hid (B0.out.trans (BV.out.mono B0.out.size))
      clear BV
      go_wp2
      go_returns
      exact ⟨by rw [RB.out]; rfl, FB.out⟩
    | false =>
      refine wp_region_held_drew (S := fun w' => Below w0.heap.size w0 w') (by kernel_rfl) (Below.refl _ _).drew (fun hHeld => ?_)
      have BV := Lib.hid (show Below w0.heap.size w0 w0.drew from (Below.refl _ _).drew)
      clear hHeld
      refine take_at (i := 0) 3 (.agg #[.int .i64 t, .int .i64 r]) rfl rfl (by kernel_rfl) (by kernel_rfl) (by kernel_rfl) (fun _ _ _ h => h) (yields_ld (.tmp 1) 31 (.pointer (some ⟨w.heap.size, 0, none⟩)) _ LB.out rfl rfl rfl) BV.out ?_
      simp only [Act.put, List.setIfInBounds_toArray, List.set_cons_zero, List.set_cons_succ]
      refine wpAnyH_ready (rs := [1]) (by kernel_rfl) (by simp) (br_call (i := 1) 4 88 #[] rfl rfl rfl (by go_simp) ((St.root_any _).mono ?_) AllReadyH.nil)
      rintro e v1 ⟨rfl, hb⟩
      have BV := Lib.hid (BV.out.trans (hb.mono BV.out.size))
      clear hb
      refine ⟨_, rfl, BV.out, fun _ => ?_⟩
      simp only [Act.put, List.setIfInBounds_toArray, List.set_cons_zero, List.set_cons_succ]
      refine take_at (i := 2) 5 (.bool false) rfl rfl (by kernel_rfl) (by kernel_rfl) (by kernel_rfl) (fun _ _ _ h => h) (yields_bin .eql (.tmp 3) (.tmp 4) 31 31 (.agg #[.int .i64 t, .int .i64 r]) (.agg #[.int .i64 0, .int .i64 0]) _ E0.out (g24 _ _ _ _) rfl rfl rfl rfl) BV.out ?_
      simp only [Act.put, List.setIfInBounds_toArray, List.set_cons_zero, List.set_cons_succ]
      refine take_at (i := 3) 6 ?_ rfl rfl (by kernel_rfl) (by kernel_rfl) (by kernel_rfl) (fun _ _ _ h => h) (.inl ⟨rfl, ?_⟩) BV.out ?_
      rotate_left 1
      · intro w hSw; go_simp; try with_reducible rfl
      simp only [Act.put, List.setIfInBounds_toArray, List.set_cons_zero, List.set_cons_succ]
      refine take_at (i := 4) 7 (.agg #[.int .i64 t, .int .i64 r]) rfl rfl (by kernel_rfl) (by kernel_rfl) (by kernel_rfl) (fun _ _ _ h => h) (yields_ld (.tmp 1) 31 (.pointer (some ⟨w.heap.size, 0, none⟩)) _ LB.out rfl rfl rfl) BV.out ?_
      simp only [Act.put, List.setIfInBounds_toArray, List.set_cons_zero, List.set_cons_succ]
      refine wpAnyH_ready (rs := [5]) (by kernel_rfl) (by simp) (br_call (i := 5) 8 89 #[] rfl rfl rfl (by go_simp) ((St.trash_any _).mono ?_) AllReadyH.nil)
      rintro e v2 ⟨rfl, hb⟩
      have BV := Lib.hid (BV.out.trans (hb.mono BV.out.size))
      clear hb
      refine ⟨_, rfl, BV.out, fun _ => ?_⟩
      simp only [Act.put, List.setIfInBounds_toArray, List.set_cons_zero, List.set_cons_succ]
      refine take_at (i := 6) 9 (.bool false) rfl rfl (by kernel_rfl) (by kernel_rfl) (by kernel_rfl) (fun _ _ _ h => h) (yields_bin .eql (.tmp 7) (.tmp 8) 31 31 (.agg #[.int .i64 t, .int .i64 r]) (.agg #[.int .i64 0, .int .i64 1]) _ E1.out (g24 _ _ _ _) rfl rfl rfl rfl) BV.out ?_
      simp only [Act.put, List.setIfInBounds_toArray, List.set_cons_zero, List.set_cons_succ]
      refine take_at (i := 7) 10 ?_ rfl rfl (by kernel_rfl) (by kernel_rfl) (by kernel_rfl) (fun _ _ _ h => h) (.inl ⟨rfl, ?_⟩) BV.out ?_
      rotate_left 1
      · intro w hSw; go_simp; try with_reducible rfl
      simp only [Act.put, List.setIfInBounds_toArray, List.set_cons_zero, List.set_cons_succ]
      refine take_at (i := 8) 11 ?_ rfl rfl (by kernel_rfl) (by kernel_rfl) (by kernel_rfl) (fun _ _ _ h => h) (.inl ⟨rfl, ?_⟩) BV.out ?_
      rotate_left 1
      · intro w hSw; go_simp; try with_reducible rfl
      simp only [Act.put, List.setIfInBounds_toArray, List.set_cons_zero, List.set_cons_succ]
      refine take_at (i := 9) 12 (.agg #[.int .i64 t, .int .i64 r]) rfl rfl (by kernel_rfl) (by kernel_rfl) (by kernel_rfl) (fun _ _ _ h => h) (yields_ld (.tmp 1) 31 (.pointer (some ⟨w.heap.size, 0, none⟩)) _ LB.out rfl rfl rfl) BV.out ?_
      simp only [Act.put, List.setIfInBounds_toArray, List.set_cons_zero, List.set_cons_succ]
      refine wpAnyH_ready (rs := [10]) (by kernel_rfl) (by simp) (br_call (i := 10) 13 97 #[] rfl rfl rfl (by go_simp) ((lost_any _).mono ?_) AllReadyH.nil)
      rintro e v3 ⟨rfl, hb⟩
      have BV := Lib.hid (BV.out.trans (hb.mono BV.out.size))
      clear hb
      refine ⟨_, rfl, BV.out, fun _ => ?_⟩
      simp only [Act.put, List.setIfInBounds_toArray, List.set_cons_zero, List.set_cons_succ]
      refine take_at (i := 11) 14 (.bool b2) rfl rfl (by kernel_rfl) (by kernel_rfl) (by kernel_rfl) (fun _ _ _ h => h) (yields_bin .eql (.tmp 12) (.tmp 13) 31 31 (.agg #[.int .i64 t, .int .i64 r]) (.agg #[.int .i64 0, .int .i64 2]) _ E2.out (g24 _ _ _ _) rfl rfl rfl rfl) BV.out ?_
      simp only [Act.put, List.setIfInBounds_toArray, List.set_cons_zero, List.set_cons_succ]
      refine take_at (i := 12) 15 ?_ rfl rfl (by kernel_rfl) (by kernel_rfl) (by kernel_rfl) (fun _ _ _ h => h) (.inl ⟨rfl, ?_⟩) BV.out ?_
      rotate_left 1
      · intro w hSw; go_simp; try with_reducible rfl
      simp only [Act.put, List.setIfInBounds_toArray, List.set_cons_zero, List.set_cons_succ]
      refine take_at (i := 13) 2 ?_ rfl rfl (by kernel_rfl) (by kernel_rfl) (by kernel_rfl) (fun _ _ _ h => h) (.inl ⟨rfl, ?_⟩) BV.out ?_
      rotate_left 1
      · intro w hSw; go_simp; try with_reducible rfl
      simp only [Act.put, List.setIfInBounds_toArray, List.set_cons_zero, List.set_cons_succ]
      refine wpAnyH_done (by kernel_rfl) ?_ _
      have FB := Lib.hid (B0.out.trans (BV.out.mono B0.out.size))
      clear BV
      go_wp2
      go_returns
      exact ⟨by rw [RB.out]; rfl, FB.out⟩
/-- Have each replica's ops greater and greater numbers? -/
noncomputable def riseQ (v : List Int) : List O → Bool
  | [] => true
  | o :: L => if o.q ≤ v.getD o.r.toNat 0 then false else riseQ (v.set o.r.toNat o.q) L
structure RQI (w W : World) (cur : List Int) : Prop where
  bel : Below w.heap.size w W
  box : W.heap[w.heap.size]? = some (.cells (va cur) 52 (0, 0))
  len : cur.length = 64
theorem RQI.step {w W W' : World} {cur : List Int} (h : RQI w W cur) (hb : Below W.heap.size W W') : RQI w W' cur := ⟨h.bel.trans (hb.mono h.bel.size), (hb.block _ (pl_lt h.box)).trans h.box, h.len⟩
theorem RQI.put {w W : World} {cur : List Int} (h : RQI w W cur) (i : Nat) (x : Int) : RQI w (W.setCell ⟨w.heap.size, i, none⟩ (.int .i64 x)) (cur.set i x) :=
  ⟨h.bel.setCell (p := ⟨w.heap.size, i, none⟩) (Nat.le_refl _) _, set_va h.box i x, by rw [List.length_set]; exact h.len⟩
set_option maxHeartbeats 6400000 in
theorem rising_any (w : World) (v : Value) (SS : List O) (h : OLies w v SS) (hr : ∀ x ∈ SS, 0 ≤ x.r ∧ x.r < 64) (hl : SS.length ≤ 1000) :
    Calls Tryz.prog 42 #[v] w fun e w' => e = .returned (.bool (riseQ zs SS)) ∧ Below w.heap.size w w' := by
  have H := Lib.hid h
  have HR := Lib.hid hr
  have AZ := Lib.hid (alloc_va z24 w)
  have J0 := Lib.hid (show RQI w (w.alloc (.cells (va zs) 52)) zs from ⟨pl_vstep w _, heap_alloc_new w _, zs_len⟩)
  obtain ⟨ao, cap, rfl⟩ := h.shape
  clear h hr
  go_enter Tryz.func42, Tryz.ntmps42
  go_wp2_with (first | (refine wpList_alc rfl 52 rfl _ _ AZ.out ?_))
  go_loopw [8] (fun iv wr => ∃ i : Nat, iv = .int .i64 i ∧ i ≤ SS.length ∧ Hid (∃ cur, RQI w wr cur ∧ riseQ zs SS = riseQ cur (SS.drop i))) (fun iv _ => SS.length - (intOf iv).toNat)
  case atStart => exact ⟨0, rfl, Nat.zero_le _, Lib.hid ⟨_, J0.out, rfl⟩⟩
  case round =>
    obtain ⟨i, rfl, hi, K⟩ := hrel
    obtain ⟨cur, kq, ke⟩ := K.out
    have KQ := Lib.hid kq
    have KE := Lib.hid ke
    clear kq ke K J0 AZ
    by_cases hlt : i < SS.length
    · have hi0 : (0 : Int) ≤ (i : Int) := by omega
      have hi1 : (i : Int) < (SS.length : Int) := by omega
      have hd : decide ((i : Int) < (SS.length : Int)) = true := decide_eq_true hi1
      have HL1 := Lib.hid (show i + 1 ≤ SS.length from hlt)
      have HW9 := Lib.hid (wrap_nat hlt (show SS.length ≤ 100000 by omega))
      have HMS := Lib.hid (meas_nat hlt)
      obtain ⟨g, k, x, e7, hx, hg, hc⟩ := (H.out.step KQ.out.bel).atK hlt
      subst e7
      have LX := Lib.hid (@ldO wr g (k + i * 9) x hc)
      obtain ⟨hr0, hr1⟩ := HR.out x (List.mem_of_getElem? hx)
      obtain ⟨rn, hrn⟩ : ∃ n : Nat, x.r = (n : Int) := ⟨x.r.toNat, by omega⟩
      have hrn64 : rn < 64 := by omega
      obtain ⟨y, hy⟩ := va_len cur KQ.out.len rn hrn64
      have DS : SS.drop i = x :: SS.drop (i + 1) := by
        obtain ⟨q1, q2⟩ := List.getElem?_eq_some_iff.1 hx
        rw [List.drop_eq_getElem_cons q1, q2]
      have QE : riseQ cur (SS.drop i) = if x.q ≤ y then false else riseQ (cur.set rn x.q) (SS.drop (i + 1)) := by
        rw [DS]
        show (if x.q ≤ cur.getD x.r.toNat 0 then false else riseQ (cur.set x.r.toNat x.q) (SS.drop (i + 1))) = _
        rw [hrn, Int.toNat_natCast, List.getD_eq_getElem?_getD, hy]
        rfl
      have QE := Lib.hid (KE.out.trans QE)
      have HRN := Lib.hid hrn
      clear hx hg hc DS hr0 hr1 hrn KE
      have N5 := heap_alloc_new wr (.cells #[.int .i64 x.t, .int .i64 x.r, .int .i64 x.q, .int .i64 x.nt, .int .i64 x.nr, .int .i64 x.pt, .int .i64 x.pr, .string x.nm, .bool x.d] 33)
      have K5 := Lib.hid (KQ.out.step (pl_vstep wr (.cells #[.int .i64 x.t, .int .i64 x.r, .int .i64 x.q, .int .i64 x.nt, .int .i64 x.nr, .int .i64 x.pt, .int .i64 x.pr, .string x.nm, .bool x.d] 33)))
      go_upto_region 5 with (first
        | (refine Ve.wpList_load_arr rfl (.tmp 10) 33 rfl (.pointer (some ⟨g, k + i * 9, none⟩)) (.agg #[.int .i64 x.t, .int .i64 x.r, .int .i64 x.q, .int .i64 x.nt, .int .i64 x.nr, .int .i64 x.pt, .int .i64 x.pr, .string x.nm, .bool x.d]) rfl LX.out ?_))
      obtain ⟨w5, hw5⟩ : ∃ z, wr.alloc (.cells #[.int .i64 x.t, .int .i64 x.r, .int .i64 x.q, .int .i64 x.nt, .int .i64 x.nr, .int .i64 x.pt, .int .i64 x.pr, .string x.nm, .bool x.d] 33) = z := ⟨_, rfl⟩
      obtain ⟨bx, hbx⟩ : ∃ z, wr.heap.size = z := ⟨_, rfl⟩
      rw [hw5, hbx] at N5
      rw [hw5] at K5
      rw [hw5]
      try rw [hbx]
      have N5 := Lib.hid N5
      clear hw5 hbx LX KQ
      have LQ := Lib.hid (fun W (hb : Below w5.heap.size w5 W) => @ld3 W bx 2 x.q (cell9 ((hb.block _ (pl_lt N5.out)).trans N5.out)).2.2.1)
      have LR := Lib.hid (fun W (hb : Below w5.heap.size w5 W) => (show (Instr.loadAt 3 (.pointer (some ⟨bx, 1, none⟩))).run Tryz.prog W = .ok (.int .i64 (rn : Int)) W from by rw [← HRN.out]; exact @ld3 W bx 1 x.r (cell9 ((hb.block _ (pl_lt N5.out)).trans N5.out)).2.1))
      have LY := Lib.hid (fun W (hb : Below w5.heap.size w5 W) => @ld3 W w.heap.size rn y (cell_va (K5.out.step hb).box hy))
      have IXV := Lib.hid (fun W => @ixV w.heap.size rn hrn64 W)
      by_cases hq : x.q ≤ y
      · have E5 := Lib.hid (fun W => (leq3 x.q y W).trans (by rw [decide_eq_true hq]))
        have QF := Lib.hid (QE.out.trans (if_pos hq))
        clear hq QE
        refine wp_region_held_drew (S := fun w' => Below w5.heap.size w5 w') (by kernel_rfl) (Below.refl _ _).drew (fun hHeld => ?_)
        have BV := Lib.hid (show Below w5.heap.size w5 w5.drew from (Below.refl _ _).drew)
        clear hHeld
        refine take_at (i := 0) 12 ?_ rfl rfl (by kernel_rfl) (by kernel_rfl) (by kernel_rfl) (fun _ _ _ h => h) (.inl ⟨rfl, ?_⟩) BV.out ?_
        rotate_left 1
        · intro w hSw; go_simp; try with_reducible rfl
        simp only [Act.put, List.setIfInBounds_toArray, List.set_cons_zero, List.set_cons_succ]
        refine take_at (i := 1) 13 (.int .i64 x.q) rfl rfl (by kernel_rfl) (by kernel_rfl) (by kernel_rfl) (fun _ _ _ h => h) (yields_ld (.tmp 12) 3 (.pointer (some ⟨bx, 2, none⟩)) _ LQ.out rfl rfl rfl) BV.out ?_
        simp only [Act.put, List.setIfInBounds_toArray, List.set_cons_zero, List.set_cons_succ]
        refine take_at (i := 2) 14 ?_ rfl rfl (by kernel_rfl) (by kernel_rfl) (by kernel_rfl) (fun _ _ _ h => h) (.inl ⟨rfl, ?_⟩) BV.out ?_
        rotate_left 1
        · intro w hSw; go_simp; try with_reducible rfl
        simp only [Act.put, List.setIfInBounds_toArray, List.set_cons_zero, List.set_cons_succ]
        refine take_at (i := 3) 15 ?_ rfl rfl (by kernel_rfl) (by kernel_rfl) (by kernel_rfl) (fun _ _ _ h => h) (.inl ⟨rfl, ?_⟩) BV.out ?_
        rotate_left 1
        · intro w hSw; go_simp; try with_reducible rfl
        simp only [Act.put, List.setIfInBounds_toArray, List.set_cons_zero, List.set_cons_succ]
        refine take_at (i := 4) 16 (.int .i64 (rn : Int)) rfl rfl (by kernel_rfl) (by kernel_rfl) (by kernel_rfl) (fun _ _ _ h => h) (yields_ld (.tmp 15) 3 (.pointer (some ⟨bx, 1, none⟩)) _ LR.out rfl rfl rfl) BV.out ?_
        simp only [Act.put, List.setIfInBounds_toArray, List.set_cons_zero, List.set_cons_succ]
        refine take_at (i := 5) 17 (.pointer (some ⟨w.heap.size, rn, none⟩)) rfl rfl (by kernel_rfl) (by kernel_rfl) (by kernel_rfl) (fun _ _ _ h => h) (yields_ix (.tmp 3) (.tmp 16) 52 (.pointer (some ⟨w.heap.size, 0, none⟩)) (.int .i64 (rn : Int)) _ IXV.out rfl rfl rfl rfl) BV.out ?_
        simp only [Act.put, List.setIfInBounds_toArray, List.set_cons_zero, List.set_cons_succ]
        refine take_at (i := 6) 18 (.int .i64 y) rfl rfl (by kernel_rfl) (by kernel_rfl) (by kernel_rfl) (fun _ _ _ h => h) (yields_ld (.tmp 17) 3 (.pointer (some ⟨w.heap.size, rn, none⟩)) _ LY.out rfl rfl rfl) BV.out ?_
        simp only [Act.put, List.setIfInBounds_toArray, List.set_cons_zero, List.set_cons_succ]
        refine take_at (i := 7) 19 (.bool true) rfl rfl (by kernel_rfl) (by kernel_rfl) (by kernel_rfl) (fun _ _ _ h => h) (yields_bin .leq (.tmp 13) (.tmp 18) 3 3 (.int .i64 x.q) (.int .i64 y) _ E5.out (gleq3 _ _ _ _) rfl rfl rfl rfl) BV.out ?_
        simp only [Act.put, List.setIfInBounds_toArray, List.set_cons_zero, List.set_cons_succ]
        refine wpAnyH_done (by kernel_rfl) ?_ _
        have FB := Lib.hid ((K5.out.step BV.out).bel)
        clear BV
        go_wp2
        go_returns
        exact ⟨by rw [QF.out]; rfl, FB.out⟩
      · have E5 := Lib.hid (fun W => (leq3 x.q y W).trans (by rw [decide_eq_false hq]))
        have QF := Lib.hid (QE.out.trans (if_neg hq))
        clear hq QE
        refine wp_region_held_drew (S := fun w' => Below w5.heap.size w5 w') (by kernel_rfl) (Below.refl _ _).drew (fun hHeld => ?_)
        have BV := Lib.hid (show Below w5.heap.size w5 w5.drew from (Below.refl _ _).drew)
        clear hHeld
        refine take_at (i := 0) 12 ?_ rfl rfl (by kernel_rfl) (by kernel_rfl) (by kernel_rfl) (fun _ _ _ h => h) (.inl ⟨rfl, ?_⟩) BV.out ?_
        rotate_left 1
        · intro w hSw; go_simp; try with_reducible rfl
        simp only [Act.put, List.setIfInBounds_toArray, List.set_cons_zero, List.set_cons_succ]
        refine take_at (i := 1) 13 (.int .i64 x.q) rfl rfl (by kernel_rfl) (by kernel_rfl) (by kernel_rfl) (fun _ _ _ h => h) (yields_ld (.tmp 12) 3 (.pointer (some ⟨bx, 2, none⟩)) _ LQ.out rfl rfl rfl) BV.out ?_
        simp only [Act.put, List.setIfInBounds_toArray, List.set_cons_zero, List.set_cons_succ]
        refine take_at (i := 2) 14 ?_ rfl rfl (by kernel_rfl) (by kernel_rfl) (by kernel_rfl) (fun _ _ _ h => h) (.inl ⟨rfl, ?_⟩) BV.out ?_
        rotate_left 1
        · intro w hSw; go_simp; try with_reducible rfl
        simp only [Act.put, List.setIfInBounds_toArray, List.set_cons_zero, List.set_cons_succ]
        refine take_at (i := 3) 15 ?_ rfl rfl (by kernel_rfl) (by kernel_rfl) (by kernel_rfl) (fun _ _ _ h => h) (.inl ⟨rfl, ?_⟩) BV.out ?_
        rotate_left 1
        · intro w hSw; go_simp; try with_reducible rfl
        simp only [Act.put, List.setIfInBounds_toArray, List.set_cons_zero, List.set_cons_succ]
        refine take_at (i := 4) 16 (.int .i64 (rn : Int)) rfl rfl (by kernel_rfl) (by kernel_rfl) (by kernel_rfl) (fun _ _ _ h => h) (yields_ld (.tmp 15) 3 (.pointer (some ⟨bx, 1, none⟩)) _ LR.out rfl rfl rfl) BV.out ?_
        simp only [Act.put, List.setIfInBounds_toArray, List.set_cons_zero, List.set_cons_succ]
        refine take_at (i := 5) 17 (.pointer (some ⟨w.heap.size, rn, none⟩)) rfl rfl (by kernel_rfl) (by kernel_rfl) (by kernel_rfl) (fun _ _ _ h => h) (yields_ix (.tmp 3) (.tmp 16) 52 (.pointer (some ⟨w.heap.size, 0, none⟩)) (.int .i64 (rn : Int)) _ IXV.out rfl rfl rfl rfl) BV.out ?_
        simp only [Act.put, List.setIfInBounds_toArray, List.set_cons_zero, List.set_cons_succ]
        refine take_at (i := 6) 18 (.int .i64 y) rfl rfl (by kernel_rfl) (by kernel_rfl) (by kernel_rfl) (fun _ _ _ h => h) (yields_ld (.tmp 17) 3 (.pointer (some ⟨w.heap.size, rn, none⟩)) _ LY.out rfl rfl rfl) BV.out ?_
        simp only [Act.put, List.setIfInBounds_toArray, List.set_cons_zero, List.set_cons_succ]
        refine take_at (i := 7) 19 (.bool false) rfl rfl (by kernel_rfl) (by kernel_rfl) (by kernel_rfl) (fun _ _ _ h => h) (yields_bin .leq (.tmp 13) (.tmp 18) 3 3 (.int .i64 x.q) (.int .i64 y) _ E5.out (gleq3 _ _ _ _) rfl rfl rfl rfl) BV.out ?_
        simp only [Act.put, List.setIfInBounds_toArray, List.set_cons_zero, List.set_cons_succ]
        refine wpAnyH_done (by kernel_rfl) ?_ _
        have K6 := Lib.hid (K5.out.step BV.out)
        have N6 := Lib.hid ((BV.out.block _ (pl_lt N5.out)).trans N5.out)
        clear BV LQ LR LY K5 N5
        generalize w5.drew = w6 at *
        obtain ⟨c0, c1, c2, c3, c4, c5, c6, c7, c8⟩ := cell9 N6.out
        rw [HRN.out] at c1
        have g1 := cell_va K6.out.box hy
        have f1 := frozen_of_row _ _ rn _ _ K6.out.box
        have hm0 : (0 : Int) ≤ (rn : Int) := by omega
        have hm1 : (rn : Int) < 64 := by omega
        have K7 := Lib.hid (K6.out.put rn x.q)
        go_wp2_with fail
        have KF := Lib.hid (show ∃ cur, RQI w (w6.setCell ⟨w.heap.size, rn, none⟩ (.int .i64 x.q)) cur ∧ riseQ zs SS = riseQ cur (SS.drop (i + 1)) from ⟨_, K7.out, QF.out⟩)
        go_roundw
        case rel => exact ⟨i + 1, by first | (rw [HW9.out]; rfl) | go_num, HL1.out, KF⟩
        case measure => first | (rw [HW9.out]; exact HMS.out) | exact HMS.out
    · have ei : i = SS.length := by omega
      subst ei
      have QE := Lib.hid (show riseQ zs SS = true from by rw [KE.out, List.drop_length]; rfl)
      have KB := Lib.hid KQ.out.bel
      go_wp2
      go_returns
      exact ⟨by rw [QE.out]; rfl, KB.out⟩
end Go.Proofs.YtbeodechhneeeaaGreatDoor

