/- Merged by tools/merge.py: GE, GF. -/
import Derived.Test.YtbeodechhneeeaaGreatDoorFZ
import Derived.Test.YtbeodechhneeeaaGreatDoorXT

set_option linter.unusedVariables false
set_option linter.unusedSimpArgs false
set_option maxRecDepth 100000
namespace Go.Proofs.YtbeodechhneeeaaGreatDoor
open Go.RowKit Go.Shelf
open Tb (Rw setF getF aboveF Rise ltS Sp)

theorem idle_mem : ∀ (L : List O) (T : List Rw) (s : Sp), s ∈ idleF T L → ∃ y ∈ L, y.t = s.1 ∧ y.r = s.2
  | [], _, _, h => by cases h
  | o :: L, T, s, h => by
    have h : s ∈ (if skipF T o = true then [(o.t, o.r)] else []) ++ idleF (doF T o) L := h
    rcases List.mem_append.1 h with h | h
    · split at h
      · rw [List.mem_singleton.1 h]
        exact ⟨o, List.mem_cons_self .., rfl, rfl⟩
      · cases h
    · obtain ⟨y, hy, h1, h2⟩ := idle_mem L (doF T o) s h
      exact ⟨y, List.mem_cons_of_mem _ hy, h1, h2⟩
theorem did_idle : ∀ (L : List O) (T : List Rw) (x : O), L.Pairwise (fun a b => ¬ (a.t = b.t ∧ a.r = b.r)) → x ∈ L → rdidF T L x.t x.r = !decide ((x.t, x.r) ∈ idleF T L)
  | [], _, _, _, h => by cases h
  | o :: L, T, x, hp, h => by
    obtain ⟨p1, p2⟩ := List.pairwise_cons.1 hp
    have hi : ((x.t, x.r) ∈ idleF T (o :: L)) ↔ ((x.t, x.r) ∈ (if skipF T o = true then [(o.t, o.r)] else []) ∨ (x.t, x.r) ∈ idleF (doF T o) L) := List.mem_append
    rcases List.mem_cons.1 h with rfl | hx
    · have hn : (x.t, x.r) ∉ idleF (doF T x) L := fun q => by
        obtain ⟨y, hy, h1, h2⟩ := idle_mem _ _ _ q
        exact p1 y hy ⟨h1.symm, h2.symm⟩
      unfold rdidF
      rw [if_pos ⟨rfl, rfl⟩]
      cases hs : skipF T x with
      | true => rw [decide_eq_true (hi.2 (.inl (by rw [hs]; simp)))]
      | false => rw [decide_eq_false (fun q => (hi.1 q).elim (fun q => by rw [hs] at q; simp at q) hn)]
    · have hne : ¬ (o.t = x.t ∧ o.r = x.r) := p1 x hx
      have ih := did_idle L (doF T o) x p2 hx
      unfold rdidF
      rw [if_neg hne, ih]
      have : ((x.t, x.r) ∈ idleF T (o :: L)) ↔ (x.t, x.r) ∈ idleF (doF T o) L := by
        rw [hi]
        refine ⟨fun q => q.elim (fun q => ?_) id, .inr⟩
        split at q
        · have := List.mem_singleton.1 q
          injection this with e1 e2
          exact absurd ⟨e1.symm, e2.symm⟩ hne
        · cases q
      by_cases hq : (x.t, x.r) ∈ idleF (doF T o) L
      · rw [decide_eq_true hq, decide_eq_true (this.2 hq)]
      · rw [decide_eq_false hq, decide_eq_false (fun q => hq (this.1 q))]
theorem ltS_less (x y : O) : ltS x.t x.r y.t y.r = lessO x y := rfl
theorem set_riseO (l : List O) : RiseO (setO l) := (set_ss l).imp (fun {a b} h => h)
theorem has_perm {A B : List O} (h : A.Perm B) (t r : Int) : hasO A t r = hasO B t r := by
  unfold hasO
  cases h1 : A.any (fun x => decide (x.t = t ∧ x.r = r)) <;> cases h2 : B.any (fun x => decide (x.t = t ∧ x.r = r))
  · rfl
  · obtain ⟨y, hy, hz⟩ := List.any_eq_true.1 h2
    exact absurd hz (List.any_eq_false.1 h1 y (h.mem_iff.2 hy))
  · obtain ⟨y, hy, hz⟩ := List.any_eq_true.1 h1
    exact absurd hz (List.any_eq_false.1 h2 y (h.mem_iff.1 hy))
  · rfl
/-- One op more. -/
theorem set_snoc {l : List O} {i : Nat} {x : O} (h : l[i]? = some x) : setO (l.take (i + 1)) = if rO x = true ∧ hasO (setO (l.take i)) x.t x.r = false then putOx (setO (l.take i)) x else setO (l.take i) := by
  have hh : hasO (setO (l.take i)) x.t x.r = hasO (uniqF (l.take i)) x.t x.r := has_perm (srt_perm _) _ _
  have e : uniqF (l.take (i + 1)) = uqO (uniqF (l.take i)) x := uniq_snoc l i x h
  unfold uqO at e
  rw [hh]
  by_cases q : rO x = true ∧ hasO (uniqF (l.take i)) x.t x.r = false
  · rw [if_pos q] at e ⊢
    have hr : RiseO (setO (l.take i)) := set_riseO _
    rw [← ins_put hr (by rw [hh]; exact q.2)]
    show srtO (uniqF (l.take (i + 1))) = _
    rw [e]
    unfold srtO
    rw [List.foldl_append]
    rfl
  · rw [if_neg q] at e ⊢
    show srtO (uniqF (l.take (i + 1))) = _
    rw [e]
    rfl
theorem addE_iff {L : List O} {x : O} : addE 0 0 L x = 0 ↔ rO x = true ∧ hasO L x.t x.r = false := ⟨addE_zero, fun h => addE_of h.1 h.2⟩
theorem set_ok {l : List O} (hok : ∀ o ∈ l, OkO o) (i : Nat) : OkL (setO (l.take i)) := fun o ho => hok o (List.mem_of_mem_take (set_sub ho).1)
end Go.Proofs.YtbeodechhneeeaaGreatDoor

set_option linter.unusedVariables false
set_option linter.unusedSimpArgs false
set_option maxRecDepth 100000
namespace Go.Proofs.YtbeodechhneeeaaGreatDoor
open Go.RowKit Go.Shelf
open Tb (Rw setF getF aboveF Rise TabI TM LiesK LiesR ltS encS Sp)

theorem stHas {l : List Sp} {i : Nat} {x : Sp} (h : l[i]? = some x) (s : Sp) : decide (s ∈ l.take (i + 1)) = (decide (s ∈ l.take i) || decide (x = s)) := by
  obtain ⟨hlt, e⟩ := List.getElem?_eq_some_iff.1 h
  rw [List.take_succ_eq_append_getElem hlt, e]
  by_cases h1 : s ∈ l.take i
  · rw [decide_eq_true h1, decide_eq_true (List.mem_append_left _ h1)]; rfl
  · by_cases h2 : x = s
    · rw [decide_eq_true h2, decide_eq_true (List.mem_append_right _ (by rw [h2]; simp))]; simp
    · rw [decide_eq_false h1, decide_eq_false h2, decide_eq_false (fun q => (List.mem_append.1 q).elim h1 (fun q => h2 (List.mem_singleton.1 q).symm))]; rfl
set_option maxHeartbeats 3200000 in
theorem shas_any (w : World) (v : Value) (l : List Sp) (h : LiesK encS 2 w v l) (t r : Int) (hl : l.length ≤ 100000) :
    Calls Tryz.prog 13 #[v, .agg #[.int .i64 t, .int .i64 r]] w fun e w' => e = .returned (.bool (decide ((t, r) ∈ l))) ∧ Below w.heap.size w w' := by
  have hb := pl_vstep w (.cells #[.int .i64 t, .int .i64 r] 31)
  have hn := heap_alloc_new w (.cells #[.int .i64 t, .int .i64 r] 31)
  obtain ⟨w0, hw0⟩ : ∃ z, w.alloc (.cells #[.int .i64 t, .int .i64 r] 31) = z := ⟨_, rfl⟩
  rw [hw0] at hb hn
  have HW := Lib.hid hw0
  have H := Lib.hid (h.step hb)
  have B0 := Lib.hid hb
  have BX := Lib.hid (fun W (hb : Below w0.heap.size w0 W) => ldSt ((hb.block _ (pl_lt hn)).trans hn))
  obtain ⟨ao, cap, rfl⟩ := h.shape
  clear hw0 hb hn h
  go_enter Tryz.func13, Tryz.ntmps13
  go_upto_region 1 with (fail)
  rw [HW.out]
  go_wp2_with fail
  go_loopw [5] (fun iv wr => ∃ i : Nat, iv = .int .i64 i ∧ i ≤ l.length ∧ Hid (Below w0.heap.size w0 wr ∧ decide ((t, r) ∈ l.take i) = false)) (fun iv _ => l.length - (intOf iv).toNat)
  case atStart => exact ⟨0, rfl, by omega, Lib.hid ⟨Below.refl _ _, by simp⟩⟩
  case round =>
    obtain ⟨i, rfl, hi, K⟩ := hrel
    by_cases hlt : i < l.length
    · have hi0 : (0 : Int) ≤ (i : Int) := by omega
      have hi1 : (i : Int) < (l.length : Int) := by omega
      have hd : decide ((i : Int) < (l.length : Int)) = true := decide_eq_true hi1
      have HLS := Lib.hid (show i + 1 ≤ l.length from hlt)
      have HW9 := Lib.hid (wrap_nat hlt hl)
      have HMS := Lib.hid (meas_nat hlt)
      obtain ⟨g, k, s1, s2, rfl, hx, hg, a0, a1⟩ := (H.out.step K.out.1).spU hlt
      have LA := Lib.hid (fun W (hb : Below wr.heap.size wr W) => @ld24 W g (k + i * 2) s1 s2 ((hb.cell (p := ⟨g, k + i * 2, none⟩) hg).trans a0) ((hb.cell (p := ⟨g, k + i * 2 + 1, none⟩) hg).trans a1))
      have LB := Lib.hid (fun W (hb : Below wr.heap.size wr W) => BX.out W (K.out.1.trans (hb.mono K.out.1.size)))
      have IX := Lib.hid (fun W => @ix52 g k l.length cap i hlt W)
      have TS := Lib.hid (stHas hx (t, r))
      have MX := Lib.hid (List.mem_of_getElem? hx)
      clear hx hg a0 a1
      by_cases he : s1 = t ∧ s2 = r
      · have E24 := Lib.hid (fun W => (eq24 s1 s2 t r W).trans (by rw [decide_eq_true he]))
        have HR := Lib.hid (show decide ((t, r) ∈ l) = true from decide_eq_true (by rw [← he.1, ← he.2]; exact MX.out))
        clear he
        go_upto_region 4 with (fail)
        refine wp_region_held_drew (S := fun w' => Below wr.heap.size wr w') (by kernel_rfl) (Below.refl _ _).drew (fun hHeld => ?_)
        have BV := Lib.hid (show Below wr.heap.size wr wr.drew from (Below.refl _ _).drew)
        clear hHeld
        refine take_at (i := 0) 12 ?_ rfl rfl (by kernel_rfl) (by kernel_rfl) (by kernel_rfl) (fun _ _ _ h => h) (.inl ⟨rfl, ?_⟩) BV.out ?_
        rotate_left 1
        · intro w hSw; go_simp; try with_reducible rfl
        simp only [Act.put, List.setIfInBounds_toArray, List.set_cons_zero, List.set_cons_succ]
        refine take_at (i := 1) 13 ?_ rfl rfl (by kernel_rfl) (by kernel_rfl) (by kernel_rfl) (fun _ _ _ h => h) (.inl ⟨rfl, ?_⟩) BV.out ?_
        rotate_left 1
        · intro w hSw; go_simp; try with_reducible rfl
        simp only [Act.put, List.setIfInBounds_toArray, List.set_cons_zero, List.set_cons_succ]
        refine take_at (i := 2) 14 (.pointer (some ⟨g, k + i * 2, none⟩)) rfl rfl (by kernel_rfl) (by kernel_rfl) (by kernel_rfl) (fun _ _ _ h => h) (yields_ix (.tmp 12) (.tmp 13) 34 (.slice (some ⟨g, k, none⟩) l.length cap) (.int .i64 (i : Int)) _ IX.out rfl rfl rfl rfl) BV.out ?_
        simp only [Act.put, List.setIfInBounds_toArray, List.set_cons_zero, List.set_cons_succ]
        refine take_at (i := 3) 15 (.agg #[.int .i64 s1, .int .i64 s2]) rfl rfl (by kernel_rfl) (by kernel_rfl) (by kernel_rfl) (fun _ _ _ h => h) (yields_ld (.tmp 14) 31 (.pointer (some ⟨g, k + i * 2, none⟩)) _ LA.out rfl rfl rfl) BV.out ?_
        simp only [Act.put, List.setIfInBounds_toArray, List.set_cons_zero, List.set_cons_succ]
        refine take_at (i := 4) 16 (.agg #[.int .i64 t, .int .i64 r]) rfl rfl (by kernel_rfl) (by kernel_rfl) (by kernel_rfl) (fun _ _ _ h => h) (yields_ld (.tmp 3) 31 (.pointer (some ⟨w.heap.size, 0, none⟩)) _ LB.out rfl rfl rfl) BV.out ?_
        simp only [Act.put, List.setIfInBounds_toArray, List.set_cons_zero, List.set_cons_succ]
        refine take_at (i := 5) 17 (.bool true) rfl rfl (by kernel_rfl) (by kernel_rfl) (by kernel_rfl) (fun _ _ _ h => h) (yields_bin .eql (.tmp 15) (.tmp 16) 31 31 (.agg #[.int .i64 s1, .int .i64 s2]) (.agg #[.int .i64 t, .int .i64 r]) _ E24.out (g24 _ _ _ _) rfl rfl rfl rfl) BV.out ?_
        simp only [Act.put, List.setIfInBounds_toArray, List.set_cons_zero, List.set_cons_succ]
        refine wpAnyH_done (by kernel_rfl) ?_ _
        have FB := Lib.hid (B0.out.trans ((K.out.1.trans (BV.out.mono K.out.1.size)).mono B0.out.size))
        clear BV
        go_wp2
        go_returns
        exact ⟨by rw [HR.out]; rfl, FB.out⟩
      · have E24 := Lib.hid (fun W => (eq24 s1 s2 t r W).trans (by rw [decide_eq_false he]))
        have HR := Lib.hid (show decide ((t, r) ∈ l.take (i + 1)) = false from by
          rw [TS.out, K.out.2, decide_eq_false (fun q => he (by injection q with q1 q2; exact ⟨q1, q2⟩))]
          rfl)
        clear he
        go_upto_region 4 with (fail)
        refine wp_region_held_drew (S := fun w' => Below wr.heap.size wr w') (by kernel_rfl) (Below.refl _ _).drew (fun hHeld => ?_)
        have BV := Lib.hid (show Below wr.heap.size wr wr.drew from (Below.refl _ _).drew)
        clear hHeld
        refine take_at (i := 0) 12 ?_ rfl rfl (by kernel_rfl) (by kernel_rfl) (by kernel_rfl) (fun _ _ _ h => h) (.inl ⟨rfl, ?_⟩) BV.out ?_
        rotate_left 1
        · intro w hSw; go_simp; try with_reducible rfl
        simp only [Act.put, List.setIfInBounds_toArray, List.set_cons_zero, List.set_cons_succ]
        refine take_at (i := 1) 13 ?_ rfl rfl (by kernel_rfl) (by kernel_rfl) (by kernel_rfl) (fun _ _ _ h => h) (.inl ⟨rfl, ?_⟩) BV.out ?_
        rotate_left 1
        · intro w hSw; go_simp; try with_reducible rfl
        simp only [Act.put, List.setIfInBounds_toArray, List.set_cons_zero, List.set_cons_succ]
        refine take_at (i := 2) 14 (.pointer (some ⟨g, k + i * 2, none⟩)) rfl rfl (by kernel_rfl) (by kernel_rfl) (by kernel_rfl) (fun _ _ _ h => h) (yields_ix (.tmp 12) (.tmp 13) 34 (.slice (some ⟨g, k, none⟩) l.length cap) (.int .i64 (i : Int)) _ IX.out rfl rfl rfl rfl) BV.out ?_
        simp only [Act.put, List.setIfInBounds_toArray, List.set_cons_zero, List.set_cons_succ]
        refine take_at (i := 3) 15 (.agg #[.int .i64 s1, .int .i64 s2]) rfl rfl (by kernel_rfl) (by kernel_rfl) (by kernel_rfl) (fun _ _ _ h => h) (yields_ld (.tmp 14) 31 (.pointer (some ⟨g, k + i * 2, none⟩)) _ LA.out rfl rfl rfl) BV.out ?_
        simp only [Act.put, List.setIfInBounds_toArray, List.set_cons_zero, List.set_cons_succ]
        refine take_at (i := 4) 16 (.agg #[.int .i64 t, .int .i64 r]) rfl rfl (by kernel_rfl) (by kernel_rfl) (by kernel_rfl) (fun _ _ _ h => h) (yields_ld (.tmp 3) 31 (.pointer (some ⟨w.heap.size, 0, none⟩)) _ LB.out rfl rfl rfl) BV.out ?_
        simp only [Act.put, List.setIfInBounds_toArray, List.set_cons_zero, List.set_cons_succ]
        refine take_at (i := 5) 17 (.bool false) rfl rfl (by kernel_rfl) (by kernel_rfl) (by kernel_rfl) (fun _ _ _ h => h) (yields_bin .eql (.tmp 15) (.tmp 16) 31 31 (.agg #[.int .i64 s1, .int .i64 s2]) (.agg #[.int .i64 t, .int .i64 r]) _ E24.out (g24 _ _ _ _) rfl rfl rfl rfl) BV.out ?_
        simp only [Act.put, List.setIfInBounds_toArray, List.set_cons_zero, List.set_cons_succ]
        refine wpAnyH_done (by kernel_rfl) ?_ _
        have KF := Lib.hid (And.intro (K.out.1.trans (BV.out.mono K.out.1.size)) HR.out)
        clear BV
        go_wp2
        go_roundw
        case rel => exact ⟨i + 1, by first | (rw [HW9.out]; rfl) | go_num, HLS.out, KF⟩
        case measure => first | (rw [HW9.out]; exact HMS.out) | exact HMS.out
    · have ei : i = l.length := by omega
      subst ei
      have HR := Lib.hid (show decide ((t, r) ∈ l) = false from by have := K.out.2; rwa [List.take_length] at this)
      have FB := Lib.hid (B0.out.trans (K.out.1.mono B0.out.size))
      go_wp2
      go_returns
      exact ⟨by rw [HR.out]; rfl, FB.out⟩
/-! ### the law -/
theorem eqn4 (b : Bool) (W : World) : (binOp .eql 4 (.bool (!b)) (.bool b)).run Tryz.prog W = .ok (.bool false) W := by
  cases b <;> go_simp
theorem geq4x (x y : Operand) (a b : Bool) (w : World) : (eqGuard .eql 4 x y (.bool a) (.bool b)).run Tryz.prog w = .ok () w := rfl
/-- What stands while the ops are added. -/
structure TRI (w1 W : World) (p q mb : Nat) (L : List O) (la : Option Addr) (lc : Nat) : Prop where
  tree : TreeI W w1.heap.size p q mb [] 0 0 L la lc
  bel : Below w1.heap.size w1 W
theorem TRI.step {w1 W W' : World} {p q mb : Nat} {L : List O} {la : Option Addr} {lc : Nat} (h : TRI w1 W p q mb L la lc) (hb : Below W.heap.size W W') : TRI w1 W' p q mb L la lc := ⟨h.tree.step hb, h.bel.trans (hb.mono h.bel.size)⟩
theorem TRI.add {w1 W W' : World} {p q mb : Nat} {l : List O} {i : Nat} {x : O} {la : Option Addr} {lc : Nat} (h : TRI w1 W p q mb (setO (l.take i)) la lc) (hx : l[i]? = some x)
    (hr : (addE 0 0 (setO (l.take i)) x ≠ 0 ∧ Below W.heap.size W W') ∨ (addE 0 0 (setO (l.take i)) x = 0 ∧ Far (HasT p mb la) W W' ∧ ∃ g lc', TreeI W' w1.heap.size p q mb [] 0 0 (putOx (setO (l.take i)) x) (some ⟨g, 0, none⟩) lc' ∧ ((lgV la 0 0).ownBlock = some g ∨ W.heap.size ≤ g))) :
    ∃ la lc, TRI w1 W' p q mb (setO (l.take (i + 1))) la lc := by
  rw [set_snoc hx]
  rcases hr with ⟨hn, hb⟩ | ⟨he, hf, g, lc', ht, _⟩
  · rw [if_neg (fun q => hn (addE_iff.2 q))]
    exact ⟨la, lc, h.step hb⟩
  · rw [if_pos (addE_iff.1 he)]
    exact ⟨_, _, ht, h.bel.trans (hf.below h.bel.size (fun k hk => (h.tree.has hk).1))⟩
set_option maxHeartbeats 12800000 in
theorem trees_law (w : World) (v : Value) (l : List O) (h : OLies w v l) (hok : ∀ o ∈ l, OkO o) :
    Calls Tryz.prog 3 #[v] w fun e w' => e = .returned (.bool true) ∧ Below w.heap.size w w' := by
  have H := Lib.hid h
  have HOK := Lib.hid hok
  have LG := Lib.hid (long_any w v l h)
  have AW := Lib.hid (fun W => awake_any W)
  obtain ⟨ao, cap, rfl⟩ := h.shape
  clear h hok
  obtain ⟨lb, hlb⟩ : ∃ z, longB l = z := ⟨_, rfl⟩
  rw [hlb] at LG
  go_enter Tryz.func3, Tryz.ntmps3
  go_wp2_with fail
  refine LG.out.mono ?_
  rintro e w0 ⟨rfl, hw⟩
  subst hw
  clear LG
  cases lb with
  | true =>
    go_wp2_with fail
    refine (AW.out w).mono ?_
    rintro e w1 ⟨rfl, hb⟩
    have HB := Lib.hid hb
    clear hb AW
    go_wp2
    go_returns
    exact ⟨rfl, HB.out⟩
  | false =>
    have hf := long_f hlb
    have HSZ := Lib.hid (show ∀ o ∈ l, o.nm.size ≤ 9223372036854775807 from fun o ho => by have := hf.2 o ho; omega)
    have HUL := Lib.hid (show (uniqF l).length ≤ 79 from by have := (uniq_is l).len; have := hf.1; omega)
    have HLL := Lib.hid (show l.length ≤ 1000 from by have := hf.1; omega)
    have HSL := Lib.hid (fun i => show (setO (l.take i)).length ≤ 30 from by have e : (setO (l.take i)).length = (uniqF (l.take i)).length := srtO_len _; have h1 := (uniq_is (l.take i)).len; rw [List.length_take] at h1; have := hf.1; omega)
    clear hf hlb
    have C8 := Lib.hid (new_of w)
    go_wp2_with fail
    refine C8.out.mono ?_
    rintro e w1 ⟨p, q, mb, rfl, ht, hb⟩
    have J0 := Lib.hid (show ∃ la lc, TRI w w1 p q mb (setO (l.take 0)) la lc from ⟨none, 0, ht, hb⟩)
    clear ht hb C8
    go_wp2_with fail
    go_loopw [4] (fun iv wr => ∃ i : Nat, iv = .int .i64 i ∧ i ≤ l.length ∧ Hid (∃ la lc, TRI w wr p q mb (setO (l.take i)) la lc)) (fun iv _ => l.length - (intOf iv).toNat)
    case atStart => exact ⟨0, rfl, Nat.zero_le _, J0⟩
    case round =>
      clear J0
      obtain ⟨i, rfl, hi, K⟩ := hrel
      obtain ⟨la, lc, K⟩ := K.out
      have K := Lib.hid K
      by_cases hlt : i < l.length
      · have hi0 : (0 : Int) ≤ (i : Int) := by omega
        have hi1 : (i : Int) < (l.length : Int) := by omega
        have hd : decide ((i : Int) < (l.length : Int)) = true := decide_eq_true hi1
        have HLS := Lib.hid (show i + 1 ≤ l.length from hlt)
        have HW9 := Lib.hid (wrap_nat hlt (by have := HLL.out; omega))
        have HMS := Lib.hid (meas_nat hlt)
        obtain ⟨g, k, x, e7, hx, hg, hc⟩ := (H.out.step K.out.bel).atK hlt
        subst e7
        have LX := Lib.hid (@ldO wr g (k + i * 9) x hc)
        have hm := List.mem_of_getElem? hx
        have AD := Lib.hid (add_any wr w.heap.size p q mb [] 0 0 (setO (l.take i)) la lc K.out.tree (set_riseO _) (set_ok HOK.out i) okT_nil (by have := HSL.out i; simp; omega) K.out.bel.size x (HOK.out x hm) (HSZ.out x hm))
        have AF := Lib.hid (fun w' hr => @TRI.add w wr w' p q mb l i x la lc K.out hx hr)
        obtain ⟨en, hen⟩ : ∃ z, addN 0 0 (setO (l.take i)) x = z := ⟨_, rfl⟩
        obtain ⟨ee, hee⟩ : ∃ z, addE 0 0 (setO (l.take i)) x = z := ⟨_, rfl⟩
        rw [hen, hee] at AD
        simp only [hee] at AF
        clear hen hee hm hx hg hc K
        go_wp2_with (first | (refine Ve.wpList_load_arr rfl (.tmp 21) 33 rfl (.pointer (some ⟨g, k + i * 9, none⟩)) (oV x) rfl LX.out ?_))
        refine AD.out.mono ?_
        rintro e w5 ⟨rfl, hr⟩
        have K5 := Lib.hid (AF.out w5 hr)
        clear hr AF AD LX
        go_wp2
        go_roundw
        case rel => exact ⟨i + 1, by first | (rw [HW9.out]; rfl) | go_num, HLS.out, K5⟩
        case measure => first | (rw [HW9.out]; exact HMS.out) | exact HMS.out
      · have ei : i = l.length := by omega
        subst ei
        have HSN := Lib.hid (HSL.out l.length)
        rw [List.take_length] at K HSN
        have HSO := Lib.hid (show OkL (setO l) from fun o ho => HOK.out o (set_sub ho).1)
        have HDI := Lib.hid (fun x (hx : x ∈ setO l) => (rdid_did (setO l) [] x.t x.r (set_riseO l)).trans (did_idle (setO l) [] x (set_one l) hx))
        generalize wr = w2 at *
        have C10 := Lib.hid (fidle_any w2 _ l (H.out.step K.out.bel) HOK.out HSZ.out HLL.out HUL.out)
        have C16 := Lib.hid (fun W (hW : Below w2.heap.size w2 W) => fof_any W _ l (H.out.step (K.out.bel.trans (hW.mono K.out.bel.size))) HOK.out HSZ.out HLL.out HUL.out)
        have C18 := Lib.hid (fun W (hW : Below w2.heap.size w2 W) => fset_any W _ l (H.out.step (K.out.bel.trans (hW.mono K.out.bel.size))) HOK.out HSZ.out HLL.out HUL.out)
        obtain ⟨L, hL⟩ : ∃ z, setO l = z := ⟨_, rfl⟩
        rw [hL] at K HSN HSO C10
        simp only [hL] at HDI C16 C18
        have IL := Lib.hid (show (idleF [] L).length ≤ 100000 from by
          have q : ∀ (A : List O) (T : List Rw), (idleF T A).length ≤ A.length := by
            intro A
            induction A with
            | nil => intro T; exact Nat.le_refl _
            | cons o A ih =>
              intro T
              show ((if skipF T o = true then [(o.t, o.r)] else []) ++ idleF (doF T o) A).length ≤ A.length + 1
              have := ih (doF T o)
              rw [List.length_append]
              split <;> simp <;> omega
          have := q L []
          have := HSN.out
          omega)
        have HLQ := Lib.hid hL
        clear hL HSL
        have HOP := Lib.hid (fun W (hW : Below w2.heap.size w2 W) => ops_of W (pv p) _ 0 0 la L.length lc (stepsF [] L) (K.out.tree.step hW).haveL (lies_log (K.out.tree.step hW)) (by rw [steps_len]; have := HSN.out; omega))
        simp only [steps_o] at HOP
        have HRI := Lib.hid (show RiseO L from by rw [← HLQ.out]; exact set_riseO l)
        clear HLQ
        go_wp2_with fail
        refine C10.out.mono ?_
        rintro e w3 ⟨iv, rfl, hr, hb⟩
        have B3 := Lib.hid hb
        have R3 := Lib.hid hr
        obtain ⟨ja, jc, rfl⟩ := hr.shape
        clear hb hr C10
        go_wp2_with fail
        refine (HOP.out w3 B3.out).mono ?_
        rintro e w4 ⟨ov, rfl, ho, hb⟩
        have B4 := Lib.hid (B3.out.trans (hb.mono B3.out.size))
        have R4 := Lib.hid (R3.out.step hb)
        have O4 := Lib.hid (own_olies (by rw [cs9_flat]; exact ho))
        obtain ⟨oa, oc', rfl⟩ := O4.out.shape
        have J4 := Lib.hid (Below.refl w4.heap.size w4)
        clear hb ho HOP R3
        go_wp2_with fail
        go_loopw [7] (fun iv wr => ∃ i : Nat, iv = .int .i64 i ∧ i ≤ L.length ∧ Hid (Below w4.heap.size w4 wr)) (fun iv _ => L.length - (intOf iv).toNat)
        case atStart => exact ⟨0, rfl, Nat.zero_le _, J4⟩
        case round =>
          clear J4
          obtain ⟨i, rfl, hi, M⟩ := hrel
          have BW := Lib.hid (B4.out.trans (M.out.mono B4.out.size))
          by_cases hlt : i < L.length
          · have hi0 : (0 : Int) ≤ (i : Int) := by omega
            have hi1 : (i : Int) < (L.length : Int) := by omega
            have hd : decide ((i : Int) < (L.length : Int)) = true := decide_eq_true hi1
            have HLS := Lib.hid (show i + 1 ≤ L.length from hlt)
            have HW9 := Lib.hid (wrap_nat hlt (by have := HSN.out; omega))
            have HMS := Lib.hid (meas_nat hlt)
            obtain ⟨g, k, x, e7, hx, hg, hc⟩ := (O4.out.step M.out).atK hlt
            subst e7
            have LA := Lib.hid (fun W (hb : Below wr.heap.size wr W) => @ld24 W g (k + i * 9) x.t x.r ((hb.cell (p := ⟨g, k + i * 9 + 0, none⟩) hg).trans (hc 0 _ rfl)) ((hb.cell (p := ⟨g, k + i * 9 + 1, none⟩) hg).trans (hc 1 _ rfl)))
            have IX := Lib.hid (fun W => @ix30 g k L.length oc' i hlt W)
            have DI := Lib.hid (fun W (hb : Below wr.heap.size wr W) => TreeI.did (K.out.tree.step (BW.out.trans (hb.mono BW.out.size))) HRI.out (by have := HSN.out; omega) x.t x.r)
            have HA := Lib.hid (fun W (hb : Below wr.heap.size wr W) => shas_any W _ (idleF [] L) (R4.out.step (M.out.trans (hb.mono M.out.size))) x.t x.r IL.out)
            simp only [HDI.out x (List.mem_of_getElem? hx)] at DI
            obtain ⟨b, hbb⟩ : ∃ z, decide ((x.t, x.r) ∈ idleF [] L) = z := ⟨_, rfl⟩
            simp only [hbb] at DI HA
            clear hbb hx hg hc
            go_upto_region 13 with (fail)
            refine wp_region_held_drew (S := fun w' => Below wr.heap.size wr w') (by kernel_rfl) (Below.refl _ _).drew (fun hHeld => ?_)
            have BV := Lib.hid (show Below wr.heap.size wr wr.drew from (Below.refl _ _).drew)
            clear hHeld
            refine take_at (i := 0) 34 ?_ rfl rfl (by kernel_rfl) (by kernel_rfl) (by kernel_rfl) (fun _ _ _ h => h) (.inl ⟨rfl, ?_⟩) BV.out ?_
            rotate_left 1
            · intro w hSw; go_simp; try with_reducible rfl
            simp only [Act.put, List.setIfInBounds_toArray, List.set_cons_zero, List.set_cons_succ]
            refine take_at (i := 1) 35 ?_ rfl rfl (by kernel_rfl) (by kernel_rfl) (by kernel_rfl) (fun _ _ _ h => h) (.inl ⟨rfl, ?_⟩) BV.out ?_
            rotate_left 1
            · intro w hSw; go_simp; try with_reducible rfl
            simp only [Act.put, List.setIfInBounds_toArray, List.set_cons_zero, List.set_cons_succ]
            refine take_at (i := 2) 36 ?_ rfl rfl (by kernel_rfl) (by kernel_rfl) (by kernel_rfl) (fun _ _ _ h => h) (.inl ⟨rfl, ?_⟩) BV.out ?_
            rotate_left 1
            · intro w hSw; go_simp; try with_reducible rfl
            simp only [Act.put, List.setIfInBounds_toArray, List.set_cons_zero, List.set_cons_succ]
            refine take_at (i := 3) 37 (.pointer (some ⟨g, k + i * 9, none⟩)) rfl rfl (by kernel_rfl) (by kernel_rfl) (by kernel_rfl) (fun _ _ _ h => h) (yields_ix (.tmp 35) (.tmp 36) 22 (.slice (some ⟨g, k, none⟩) L.length oc') (.int .i64 (i : Int)) _ IX.out rfl rfl rfl rfl) BV.out ?_
            simp only [Act.put, List.setIfInBounds_toArray, List.set_cons_zero, List.set_cons_succ]
            refine take_at (i := 4) 38 ?_ rfl rfl (by kernel_rfl) (by kernel_rfl) (by kernel_rfl) (fun _ _ _ h => h) (.inl ⟨rfl, ?_⟩) BV.out ?_
            rotate_left 1
            · intro w hSw; go_simp; try with_reducible rfl
            simp only [Act.put, List.setIfInBounds_toArray, List.set_cons_zero, List.set_cons_succ]
            refine take_at (i := 5) 39 (.agg #[.int .i64 x.t, .int .i64 x.r]) rfl rfl (by kernel_rfl) (by kernel_rfl) (by kernel_rfl) (fun _ _ _ h => h) (yields_ld (.tmp 38) 31 (.pointer (some ⟨g, k + i * 9, none⟩)) _ LA.out rfl rfl rfl) BV.out ?_
            simp only [Act.put, List.setIfInBounds_toArray, List.set_cons_zero, List.set_cons_succ]
            refine take_at (i := 7) 41 ?_ rfl rfl (by kernel_rfl) (by kernel_rfl) (by kernel_rfl) (fun _ _ _ h => h) (.inl ⟨rfl, ?_⟩) BV.out ?_
            rotate_left 1
            · intro w hSw; go_simp; try with_reducible rfl
            simp only [Act.put, List.setIfInBounds_toArray, List.set_cons_zero, List.set_cons_succ]
            refine take_at (i := 8) 42 ?_ rfl rfl (by kernel_rfl) (by kernel_rfl) (by kernel_rfl) (fun _ _ _ h => h) (.inl ⟨rfl, ?_⟩) BV.out ?_
            rotate_left 1
            · intro w hSw; go_simp; try with_reducible rfl
            simp only [Act.put, List.setIfInBounds_toArray, List.set_cons_zero, List.set_cons_succ]
            refine take_at (i := 9) 43 ?_ rfl rfl (by kernel_rfl) (by kernel_rfl) (by kernel_rfl) (fun _ _ _ h => h) (.inl ⟨rfl, ?_⟩) BV.out ?_
            rotate_left 1
            · intro w hSw; go_simp; try with_reducible rfl
            simp only [Act.put, List.setIfInBounds_toArray, List.set_cons_zero, List.set_cons_succ]
            refine take_at (i := 10) 44 (.pointer (some ⟨g, k + i * 9, none⟩)) rfl rfl (by kernel_rfl) (by kernel_rfl) (by kernel_rfl) (fun _ _ _ h => h) (yields_ix (.tmp 42) (.tmp 43) 22 (.slice (some ⟨g, k, none⟩) L.length oc') (.int .i64 (i : Int)) _ IX.out rfl rfl rfl rfl) BV.out ?_
            simp only [Act.put, List.setIfInBounds_toArray, List.set_cons_zero, List.set_cons_succ]
            refine take_at (i := 11) 45 ?_ rfl rfl (by kernel_rfl) (by kernel_rfl) (by kernel_rfl) (fun _ _ _ h => h) (.inl ⟨rfl, ?_⟩) BV.out ?_
            rotate_left 1
            · intro w hSw; go_simp; try with_reducible rfl
            simp only [Act.put, List.setIfInBounds_toArray, List.set_cons_zero, List.set_cons_succ]
            refine take_at (i := 12) 46 (.agg #[.int .i64 x.t, .int .i64 x.r]) rfl rfl (by kernel_rfl) (by kernel_rfl) (by kernel_rfl) (fun _ _ _ h => h) (yields_ld (.tmp 45) 31 (.pointer (some ⟨g, k + i * 9, none⟩)) _ LA.out rfl rfl rfl) BV.out ?_
            simp only [Act.put, List.setIfInBounds_toArray, List.set_cons_zero, List.set_cons_succ]
            refine wpAnyH_ready (rs := [6]) (by kernel_rfl) (by simp) (br_call (i := 6) 40 12 #[pv p, .agg #[.int .i64 x.t, .int .i64 x.r]] rfl rfl rfl (by go_simp) ((DI.out _ BV.out).mono ?_) AllReadyH.nil)
            rintro e v1 ⟨rfl, hb⟩
            have BV := Lib.hid (BV.out.trans (hb.mono BV.out.size))
            clear hb
            refine ⟨_, rfl, BV.out, fun _ => ?_⟩
            simp only [Act.put, List.setIfInBounds_toArray, List.set_cons_zero, List.set_cons_succ]
            refine wpAnyH_ready (rs := [13]) (by kernel_rfl) (by simp) (br_call (i := 13) 47 13 #[.slice ja (idleF [] L).length jc, .agg #[.int .i64 x.t, .int .i64 x.r]] rfl rfl rfl (by go_simp) ((HA.out _ BV.out).mono ?_) AllReadyH.nil)
            rintro e v2 ⟨rfl, hb⟩
            have BV := Lib.hid (BV.out.trans (hb.mono BV.out.size))
            clear hb
            refine ⟨_, rfl, BV.out, fun _ => ?_⟩
            simp only [Act.put, List.setIfInBounds_toArray, List.set_cons_zero, List.set_cons_succ]
            refine take_at (i := 14) 48 (.bool false) rfl rfl (by kernel_rfl) (by kernel_rfl) (by kernel_rfl) (fun _ _ _ h => h) (yields_bin .eql (.tmp 40) (.tmp 47) 4 4 (.bool (!b)) (.bool b) _ (eqn4 b) (geq4x _ _ _ _) rfl rfl rfl rfl) BV.out ?_
            simp only [Act.put, List.setIfInBounds_toArray, List.set_cons_zero, List.set_cons_succ]
            refine wpAnyH_done (by kernel_rfl) ?_ _
            have KF := Lib.hid (M.out.trans (BV.out.mono M.out.size))
            clear BV
            go_wp2
            go_roundw
            case rel => exact ⟨i + 1, by first | (rw [HW9.out]; rfl) | go_num, HLS.out, KF⟩
            case measure => first | (rw [HW9.out]; exact HMS.out) | exact HMS.out
          · have ei : i = L.length := by omega
            subst ei
            have PL := Lib.hid (show (playF [] L).length < 100000 from by have h1 := play_len L []; have := HSN.out; simp at h1; omega)
            have OW := Lib.hid (O4.out.step M.out)
            have TW := Lib.hid (K.out.tree.step BW.out)
            have TB := Lib.hid (table_of wr (pv p) _ 0 0 la L.length lc (playF [] L) TW.out.haveL (clones_tab TW.out.tab PL.out))
            have CF := Lib.hid (fun W (hW : Below wr.heap.size wr W) => C16.out W (BW.out.trans (hW.mono BW.out.size)))
            have CS := Lib.hid (fun W (hW : Below wr.heap.size wr W) => C18.out W (BW.out.trans (hW.mono BW.out.size)))
            have BA := Lib.hid (K.out.bel.trans (BW.out.mono K.out.bel.size))
            clear HDI R4 O4 TW K C16 C18 IL HRI M BW
            obtain ⟨T, hT⟩ : ∃ z, playF [] L = z := ⟨_, rfl⟩
            simp only [hT] at TB CF PL
            clear hT
            go_wp2_with fail
            refine TB.out.mono ?_
            rintro e w5 ⟨q1, b1, rfl, ht1, _, _, hb⟩
            have B5 := Lib.hid hb
            have T5 := Lib.hid ht1
            clear hb ht1 TB
            go_wp2_with fail
            refine (CF.out w5 B5.out).mono ?_
            rintro e w6 ⟨q2, b2, rfl, ht2, _, _, hb⟩
            have B6 := Lib.hid (B5.out.trans (hb.mono B5.out.size))
            have CT := Lib.hid (Tb.tsame_any w6 q1 b1 q2 b2 T T (T5.out.step hb) ht2 PL.out)
            rw [decide_eq_true rfl] at CT
            clear hb ht2 CF T5
            go_wp2_with fail
            refine CT.out.mono ?_
            rintro e w7 ⟨rfl, hb⟩
            have B7 := Lib.hid (B6.out.trans (hb.mono B6.out.size))
            clear hb CT
            go_wp2_with fail
            refine (CS.out w7 B7.out).mono ?_
            rintro e w8 ⟨sv, rfl, ho, hb⟩
            have B8 := Lib.hid (B7.out.trans (hb.mono B7.out.size))
            have CO := Lib.hid (rsameO_any w8 _ _ L L (OW.out.step B8.out) (own_olies ho))
            rw [sameO_self] at CO
            obtain ⟨sa, sc, rfl⟩ := (own_olies ho).shape
            clear hb ho CS
            go_wp2_with fail
            refine CO.out.mono ?_
            rintro e w9 ⟨rfl, hb⟩
            have B9 := Lib.hid (B8.out.trans (hb.mono B8.out.size))
            clear hb CO
            go_wp2_with fail
            refine (AW.out w9).mono ?_
            rintro e w10 ⟨rfl, hb⟩
            have B10 := Lib.hid (BA.out.trans ((B9.out.trans (hb.mono B9.out.size)).mono BA.out.size))
            clear hb AW
            go_wp2
            go_returns
            exact ⟨rfl, B10.out⟩
end Go.Proofs.YtbeodechhneeeaaGreatDoor
