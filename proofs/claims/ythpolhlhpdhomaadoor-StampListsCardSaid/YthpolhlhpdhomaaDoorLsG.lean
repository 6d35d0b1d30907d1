/- BinarySearchFunc over stamps that rise. -/
import Derived.Test.YthpolhlhpdhomaaDoorLsD
set_option linter.unusedVariables false
namespace Go.Proofs.YthpolhlhpdhomaaDoor
open Go.RowKit

theorem cmp_lt {a b : St} (h : lt a b = true) : cmpS a.1 a.2 b.1 b.2 < 0 := by
  rcases cmp_less a.1 a.2 b.1 b.2 with ⟨_, e⟩ | ⟨e, _⟩ | ⟨e, _⟩
  · rw [e]; decide
  · unfold lt at h; rw [h] at e; cases e
  · unfold lt at h; rw [h] at e; cases e
theorem cmp_ge {a b : St} (h : lt a b = false) : ¬ (cmpS a.1 a.2 b.1 b.2 < 0) := by
  rcases cmp_less a.1 a.2 b.1 b.2 with ⟨e, _⟩ | ⟨_, _, e⟩ | ⟨_, _, e⟩
  · unfold lt at h; rw [h] at e; cases e
  · rw [e]; decide
  · rw [e]; decide
theorem cmp_eq (a b : St) : decide (cmpS a.1 a.2 b.1 b.2 = 0) = decide (a = b) := by
  have t1 := lt_irr a
  by_cases h : a = b
  · subst h
    rcases cmp_less a.1 a.2 a.1 a.2 with ⟨e, _⟩ | ⟨_, e, _⟩ | ⟨_, _, e⟩
    · unfold lt at t1; rw [t1] at e; cases e
    · unfold lt at t1; rw [t1] at e; cases e
    · rw [e]; simp
  · rcases cmp_less a.1 a.2 b.1 b.2 with ⟨_, e⟩ | ⟨_, _, e⟩ | ⟨e1, e2, e⟩
    · rw [e, decide_eq_false h]; rfl
    · rw [e, decide_eq_false h]; rfl
    · have := lt_tot (a := a) (b := b) e1 h
      unfold lt at this
      rw [this] at e2; cases e2
theorem up_get {l : List St} (hu : Up l) {i k : Nat} {x y : St} (hx : l[i]? = some x) (hy : l[k]? = some y) (h : i < k) : lt x y = true := by
  have := (List.pairwise_iff_getElem.1 hu) i k (List.getElem?_eq_some_iff.1 hx).1 (List.getElem?_eq_some_iff.1 hy).1 h
  rw [(List.getElem?_eq_some_iff.1 hx).2, (List.getElem?_eq_some_iff.1 hy).2] at this
  exact this

def LoP (l : List St) (s : St) (i : Nat) : Prop := ∀ (k : Nat) x, l[k]? = some x → k < i → lt x s = true
def HiP (l : List St) (s : St) (i : Nat) : Prop := ∀ (k : Nat) x, l[k]? = some x → i ≤ k → lt x s = false
theorem lo_next {l : List St} (hu : Up l) {s p : St} {h : Nat} (hp : l[h]? = some p) (hlt : lt p s = true) : LoP l s (h + 1) := fun k x hk hk2 => by
  by_cases e : k = h
  · subst e; rw [hk] at hp; injection hp with hp; rw [hp]; exact hlt
  · exact lt_tr (up_get hu hk hp (by omega)) hlt
theorem hi_next {l : List St} (hu : Up l) {s p : St} {h : Nat} (hp : l[h]? = some p) (hlt : lt p s = false) : HiP l s h := fun k x hk hk2 => by
  by_cases e : k = h
  · subst e; rw [hk] at hp; injection hp with hp; rw [hp]; exact hlt
  · exact lt_up hlt (up_get hu hp hk (by omega))

set_option maxRecDepth 100000 in
set_option maxHeartbeats 1600000 in
theorem bsearch_any (w : World) (v : Value) (l : List St) (s : St) (h : LiesS w v l) (hu : Up l) (hl : l.length ≤ 1000) :
    Calls Tryd.prog 50 #[v, .agg #[.int .i64 s.1, .int .i64 s.2], .func (.func 15) #[] #[]] w fun e w' => ∃ i : Nat, e = .returned (.tuple #[.int .i64 i, .bool (decide (l[i]? = some s))]) ∧ Split l s i ∧ Below w.heap.size w w' := by
  obtain ⟨s1, s2⟩ := s
  have X := Lib.hid ((Below.refl w.heap.size w).alloc (Nat.le_refl _) (.cells #[.int .i64 s1, .int .i64 s2] 23))
  have N := Lib.hid (heap_alloc_new w (.cells #[.int .i64 s1, .int .i64 s2] 23))
  have H := Lib.hid h
  have HU := Lib.hid hu
  obtain ⟨ao, cap, rfl⟩ := h.shape
  obtain ⟨W0, hW0⟩ : ∃ W0, w.alloc (.cells #[.int .i64 s1, .int .i64 s2] 23) = W0 := ⟨_, rfl⟩
  rw [hW0] at X N
  have HW := Lib.hid hW0
  clear hW0 h hu
  go_enter Tryd.func50, Tryd.ntmps50
  go_wp2_with fail
  rw [HW.out]
  go_loopw [9, 10] (fun iv jv wr => ∃ i j : Nat, iv = .int .i64 i ∧ jv = .int .i64 j ∧ i ≤ j ∧ j ≤ l.length ∧ Hid (LoP l (s1, s2) i ∧ HiP l (s1, s2) j ∧ Below W0.heap.size W0 wr)) (fun iv jv _ => (intOf jv).toNat - (intOf iv).toNat)
  case atStart => exact ⟨0, l.length, rfl, rfl, Nat.zero_le _, Nat.le_refl _, Lib.hid ⟨fun k x _ hk => absurd hk (Nat.not_lt_zero _), fun k x hk hk2 => absurd (List.getElem?_eq_some_iff.1 hk).1 (by omega), Below.refl _ _⟩⟩
  case round =>
    obtain ⟨i, j, rfl, rfl, hij, hjl, hI⟩ := hrel
    have G := box_step N.out hI.out.2.2
    obtain ⟨b0, b1, _, _⟩ := two_cells G
    clear G
    by_cases hlt : i < j
    · obtain ⟨m, hm⟩ : ∃ m, m = (i + j) / 2 := ⟨_, rfl⟩
      obtain ⟨p, hp⟩ : ∃ p, l[m]? = some p := ⟨_, List.getElem?_eq_getElem (by omega)⟩
      have HP := Lib.hid hp
      have HL := H.out.later (X.out.trans (hI.out.2.2.mono X.out.size))
      obtain ⟨k, o, e1, d0, d1⟩ := HL.at hp
      subst e1
      obtain ⟨p1, p2⟩ := p
      dsimp only at d0 d1
      have d0 := lcell d0
      have d1 := lcell d1
      have b0 := lcell b0
      have b1 := lcell b1
      have C := Lib.hid (fun W => compare_any W p1 p2 s1 s2)
      have hmi : i ≤ m := by omega
      have hmj : m < j := by omega
      have hml : (m : Int) < (l.length : Int) := by omega
      have q1 : ((i : Int) + (j : Int)) / 2 = (m : Int) := by omega
      have HM := Lib.hid hm
      clear hp HL hm
      cases hc : lt (p1, p2) (s1, s2) with
      | true =>
        have HC := Lib.hid hc
        have c0 := decide_eq_true (cmp_lt hc)
        dsimp only at c0
        clear hc
        go_wp2
        refine wp_region_later (by kernel_rfl) (by kernel_rfl) ?_
        repeat (go_big_quiet_step (first | (go_at_call 15; with_reducible exact later_call (C.out _))))
        refine wpQuiet_nil ?_
        intro _ hw'
        obtain ⟨xl, hw''⟩ := hw'
        subst hw''
        have B1 := Lib.hid (hI.out.2.2.trans (xl.below.mono hI.out.2.2.size))
        clear d0 d1 b0 b1
        go_wp2
        go_roundw
        case rel => exact ⟨m + 1, j, by go_num, rfl, by omega, by omega, Lib.hid ⟨lo_next HU.out HP.out HC.out, hI.out.2.1, B1.out⟩⟩
        case measure => simp [intOf]; omega
      | false =>
        have HC := Lib.hid hc
        have c0 := decide_eq_false (cmp_ge hc)
        dsimp only at c0
        clear hc
        go_wp2
        refine wp_region_later (by kernel_rfl) (by kernel_rfl) ?_
        repeat (go_big_quiet_step (first | (go_at_call 15; with_reducible exact later_call (C.out _))))
        refine wpQuiet_nil ?_
        intro _ hw'
        obtain ⟨xl, hw''⟩ := hw'
        subst hw''
        have B1 := Lib.hid (hI.out.2.2.trans (xl.below.mono hI.out.2.2.size))
        clear d0 d1 b0 b1
        go_wp2
        go_roundw
        case rel => exact ⟨i, m, rfl, by go_num, by omega, by omega, Lib.hid ⟨hI.out.1, hi_next HU.out HP.out HC.out, B1.out⟩⟩
        case measure => simp [intOf]; omega
    · have hie : i = j := by omega
      subst hie
      have HS : Hid (Split l (s1, s2) i) := Lib.hid ⟨hjl, hI.out.1, hI.out.2.1⟩
      have HB := Lib.hid hI.out.2.2
      by_cases hil : i < l.length
      · obtain ⟨p, hp⟩ : ∃ p, l[i]? = some p := ⟨_, List.getElem?_eq_getElem hil⟩
        have HL := H.out.later (X.out.trans (hI.out.2.2.mono X.out.size))
        obtain ⟨k, o, e1, d0, d1⟩ := HL.at hp
        subst e1
        obtain ⟨p1, p2⟩ := p
        dsimp only at d0 d1
        have d0 := lcell d0
        have d1 := lcell d1
        have b0 := lcell b0
        have b1 := lcell b1
        have C := Lib.hid (fun W => compare_any W p1 p2 s1 s2)
        have HE : Hid (decide (l[i]? = some (s1, s2)) = decide (cmpS p1 p2 s1 s2 = 0)) := Lib.hid (by
          rw [hp, cmp_eq (p1, p2) (s1, s2)]
          exact decide_eq_decide.2 (by simp))
        generalize cmpS p1 p2 s1 s2 = z at *
        clear hp HL hI
        go_wp2
        refine wp_region_later (by kernel_rfl) (by kernel_rfl) ?_
        repeat (go_big_quiet_step (first | (go_at_call 15; with_reducible exact later_call (C.out _))))
        refine wpQuiet_nil ?_
        intro _ hw'
        obtain ⟨xl, hw''⟩ := hw'
        subst hw''
        have B1 := Lib.hid (X.out.trans ((HB.out.trans (xl.below.mono HB.out.size)).mono X.out.size))
        clear d0 d1 b0 b1
        go_wp2
        go_returns
        refine ⟨i, ?_, HS.out, B1.out⟩
        rw [HE.out]; rfl
      · have HE : Hid (decide (l[i]? = some (s1, s2)) = false) := Lib.hid (by
          rw [List.getElem?_eq_none (by omega)]; simp)
        have B1 := Lib.hid (X.out.trans (HB.out.mono X.out.size))
        have hd : decide ((i : Int) < (l.length : Int)) = false := decide_eq_false (by omega)
        clear hI
        go_wp2
        refine wp_region_later (by kernel_rfl) (by kernel_rfl) ?_
        repeat (go_big_quiet_step (first | (go_at_call 15; fail)))
        refine wpQuiet_nil ?_
        intro _ hw'
        obtain ⟨xl, hw''⟩ := hw'
        subst hw''
        have B2 := Lib.hid (B1.out.trans (xl.below.mono B1.out.size))
        go_wp2
        go_returns
        refine ⟨i, ?_, HS.out, B2.out⟩
        rw [HE.out]; rfl
end Go.Proofs.YthpolhlhpdhomaaDoor
