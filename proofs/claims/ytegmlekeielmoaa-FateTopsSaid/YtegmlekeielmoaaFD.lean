/- The reference's Right, May, Rises, Has. -/
import Derived.Test.YtegmlekeielmoaaFC
import Derived.Test.YtegmlekeielmoaaLater
set_option linter.unusedVariables false
set_option maxRecDepth 100000
namespace Go.Proofs.Ytegmlekeielmoaa
open Go.RowKit Go.WideMaps Go.Maps

def rightB (t r : Int) : Bool := decide (1 ≤ t ∧ t ≤ 281474976710656 ∧ 0 ≤ r ∧ r ≤ 63)
set_option maxHeartbeats 1600000 in
theorem right_any (w : World) (t r : Int) : Calls Try.prog 49 #[.agg #[.int .i64 t, .int .i64 r]] w fun e w' => e = .returned (.bool (rightB t r)) ∧ Below w.heap.size w w' := by
  have B1 := Lib.hid (vstep w (.cells #[.int .i64 t, .int .i64 r] 24))
  by_cases h1 : 1 ≤ t
  · by_cases h2 : t ≤ 281474976710656
    · by_cases h3 : 0 ≤ r
      · by_cases h4 : r ≤ 63
        · have EQ := Lib.hid (show rightB t r = true from by unfold rightB; simp only [decide_eq_true_eq]; omega)
          have d1 := decide_eq_true h1
          have d2 := decide_eq_true h2
          have d3 := decide_eq_true h3
          have d4 := decide_eq_true h4
          clear h1 h2 h3 h4
          go_enter Try.func49, Try.ntmps49
          go_wp2
          go_returns
          exact ⟨ret_b' EQ.out, B1.out⟩
        · have EQ := Lib.hid (show rightB t r = false from by unfold rightB; simp only [decide_eq_false_iff_not]; omega)
          have d1 := decide_eq_true h1
          have d2 := decide_eq_true h2
          have d3 := decide_eq_true h3
          have d4 := decide_eq_false h4
          clear h1 h2 h3 h4
          go_enter Try.func49, Try.ntmps49
          go_wp2
          go_returns
          exact ⟨ret_b' EQ.out, B1.out⟩
      · have EQ := Lib.hid (show rightB t r = false from by unfold rightB; simp only [decide_eq_false_iff_not]; omega)
        have d1 := decide_eq_true h1
        have d2 := decide_eq_true h2
        have d3 := decide_eq_false h3
        clear h1 h2 h3
        go_enter Try.func49, Try.ntmps49
        go_wp2
        go_returns
        exact ⟨ret_b' EQ.out, B1.out⟩
    · have EQ := Lib.hid (show rightB t r = false from by unfold rightB; simp only [decide_eq_false_iff_not]; omega)
      have d1 := decide_eq_true h1
      have d2 := decide_eq_false h2
      clear h1 h2
      go_enter Try.func49, Try.ntmps49
      go_wp2
      go_returns
      exact ⟨ret_b' EQ.out, B1.out⟩
  · have EQ := Lib.hid (show rightB t r = false from by unfold rightB; simp only [decide_eq_false_iff_not]; omega)
    have d1 := decide_eq_false h1
    clear h1
    go_enter Try.func49, Try.ntmps49
    go_wp2
    go_returns
    exact ⟨ret_b' EQ.out, B1.out⟩
def mayB (l : List Rw) : Bool := l.all (fun x => rightB x.t x.r)
set_option maxHeartbeats 3200000 in
theorem may_any (w : World) (v : Value) (l : List Rw) (h : LiesR w v l) : Calls Try.prog 33 #[v] w fun e w' => e = .returned (.bool (mayB l)) ∧ Below w.heap.size w w' := by
  have L := Lib.hid h
  have hlm := h.len
  obtain ⟨ao, cap, rfl⟩ := h.shape
  clear h
  go_enter Try.func33, Try.ntmps33
  go_wp2_with fail
  go_loopw [3] (fun kv wr => ∃ i : Nat, kv = .int .i64 i ∧ i ≤ l.length ∧ Hid (Below w.heap.size w wr ∧ ∀ (j : Nat) x, j < i → l[j]? = some x → rightB x.t x.r = true)) (fun kv _ => l.length - (intOf kv).toNat)
  case atStart => exact ⟨0, rfl, Nat.zero_le _, Lib.hid ⟨Below.refl _ _, fun j x h => absurd h (Nat.not_lt_zero _)⟩⟩
  case round =>
    obtain ⟨i, rfl, hi, hK⟩ := hrel
    have K0 := Lib.hid hK.out.1
    have J0 := Lib.hid hK.out.2
    clear hK
    by_cases hlt : i < l.length
    · obtain ⟨g, o, x, rfl, hx, hg, a0, a1, a2, a3, a4, a5⟩ := (L.out.step K0.out).row hlt
      have HX := Lib.hid hx
      have R := Lib.hid (right_any wr x.t x.r)
      clear hx hg a2 a3 a4 a5
      go_wp2_with fail
      refine R.out.mono ?_
      rintro e w2 ⟨rfl, hb⟩
      have K2 := Lib.hid (K0.out.trans (hb.mono K0.out.size))
      obtain ⟨bb, hq⟩ : ∃ y, rightB x.t x.r = y := ⟨_, rfl⟩
      rw [hq]
      cases bb
      · have NO := Lib.hid (show mayB l = false from by
          unfold mayB
          rw [List.all_eq_false]
          exact ⟨x, List.mem_of_getElem? HX.out, by rw [hq]; simp⟩)
        clear hq hb a0 a1
        go_wp2
        go_returns
        exact ⟨ret_b' NO.out, K2.out⟩
      · have HQ := Lib.hid (show ∀ (j : Nat) y, j < i + 1 → l[j]? = some y → rightB y.t y.r = true from fun j y hj hy => by
          by_cases e : j = i
          · subst e; rw [HX.out] at hy; injection hy with hy; subst hy; exact hq
          · exact J0.out j y (by omega) hy)
        clear hq hb a0 a1
        go_wp2
        go_roundw
        case rel => exact ⟨i + 1, by go_num, by omega, Lib.hid ⟨K2.out, HQ.out⟩⟩
        case measure => simp [intOf]; omega
    · have FIN := Lib.hid (show mayB l = true from List.all_eq_true.2 fun x hx => by
        obtain ⟨j, hj⟩ := List.mem_iff_getElem?.1 hx
        exact J0.out j x (by have := (List.getElem?_eq_some_iff.1 hj).1; omega) hj)
      clear J0
      go_wp2
      go_returns
      exact ⟨ret_b' FIN.out, K0.out⟩
theorem lcell {W : World} {b o : Nat} {v : Value} (h : W.cell? ⟨b, o, none⟩ = some v) : ∀ x : Later W, x.w.cell? ⟨b, o, none⟩ = some v := fun x => (x.below.cell (p := ⟨b, o, none⟩) (World.block_lt_of_cell? W _ h)).trans h
def UpS (l : List Sp) : Prop := l.Pairwise (fun a b => ltS a.1 a.2 b.1 b.2 = true)
theorem LiesK.atp {w : World} {ao : Option Addr} {n cap : Nat} {l : List Sp} (h : LiesK encS 2 w (.slice ao n cap) l) {i : Nat} {p : Sp} (hp : l[i]? = some p) (hn : n = l.length) :
    ∃ k o, ao = some ⟨k, o, none⟩ ∧ w.cell? ⟨k, o + i * 2, none⟩ = some (.int .i64 p.1) ∧ w.cell? ⟨k, o + i * 2 + 1, none⟩ = some (.int .i64 p.2) := by
  obtain ⟨g, o, s1, s2, rfl, hx, _, a0, a1⟩ := h.sp (i := i) (by rw [hn]; exact (List.getElem?_eq_some_iff.1 hp).1)
  rw [hp] at hx
  injection hx with hx
  subst hx
  exact ⟨g, o, rfl, a0, a1⟩
set_option maxHeartbeats 1000000 in
theorem rrises_any (w : World) (v : Value) (l : List Sp) (h : LiesK encS 2 w v l) (hu : UpS l) :
    Calls Try.prog 36 #[v] w fun e w' => e = .returned (.bool true) ∧ Below w.heap.size w w' := by
  have hlm := h.len
  obtain ⟨ao, cap, rfl⟩ := h.shape
  have H := Lib.hid h
  have HU := Lib.hid hu
  clear h hu
  go_enter Try.func36, Try.ntmps36
  go_wp2
  go_loopw [3] (fun kv wr => ∃ j : Nat, kv = .int .i64 ((j : Int) + 1) ∧ j ≤ l.length ∧ Below w.heap.size w wr) (fun kv _ => l.length + 1 - (intOf kv).toNat)
  case atStart => exact ⟨0, rfl, Nat.zero_le _, Below.refl _ _⟩
  case round =>
    obtain ⟨j, rfl, hj, hB⟩ := hrel
    have HB := Lib.hid hB
    by_cases hlt : j + 1 < l.length
    · obtain ⟨p, hp⟩ : ∃ p, l[j]? = some p := ⟨_, List.getElem?_eq_getElem (by omega)⟩
      obtain ⟨q, hq⟩ : ∃ q, l[j + 1]? = some q := ⟨_, List.getElem?_eq_getElem hlt⟩
      have hpq : ltS p.1 p.2 q.1 q.2 = true := by
        have := (List.pairwise_iff_getElem.1 HU.out) j (j + 1) (by omega) hlt (by omega)
        rw [(List.getElem?_eq_some_iff.1 hp).2, (List.getElem?_eq_some_iff.1 hq).2] at this
        exact this
      have HL := H.out.step hB
      obtain ⟨k, o, e1, d0, d1⟩ := HL.atp hp rfl
      obtain ⟨k2, o2, e2, f0, f1⟩ := HL.atp hq rfl
      subst e1
      injection e2 with e2
      injection e2 with e2 e3
      subst e2 e3
      have d0 := lcell d0
      have d1 := lcell d1
      have f0 := lcell f0
      have f1 := lcell f1
      have L := fun x : Later wr => less_any x.w p.1 p.2 q.1 q.2
      rw [hpq] at L
      have L := Lib.hid L
      have hi1 : (j : Int) + 1 < (l.length : Int) := by omega
      have hi0 : (j : Int) < (l.length : Int) := by omega
      have w1 : IntKind.i64.wrap ((j : Int) + 1 - 1) = (j : Int) := by rw [IntKind.wrap_i64]; omega
      have n1 : ((j : Int) + 1).toNat = j + 1 := by omega
      have p0 : (0 : Int) ≤ (j : Int) := by omega
      have p1 : (0 : Int) ≤ (j : Int) + 1 := by omega
      clear hp hq hpq HL hB
      go_wp2
      refine wp_region_later (by kernel_rfl) (by kernel_rfl) ?_
      repeat (go_big_quiet_step (first | (go_at_call 43; with_reducible exact later_call (L.out _))))
      refine wpQuiet_nil ?_
      intro _ hw'
      obtain ⟨xl, hw''⟩ := hw'
      subst hw''
      have B1 := Lib.hid (HB.out.trans (xl.below.mono HB.out.size))
      clear d0 d1 f0 f1 L w1 n1
      go_wp2
      go_roundw
      case rel => exact ⟨j + 1, by go_num, by omega, B1.out⟩
      case measure => simp [intOf]; omega
    · have hge : ¬ ((j : Int) + 1 < (l.length : Int)) := by omega
      clear hB
      go_wp2
      go_returns
      exact ⟨rfl, HB.out⟩
set_option maxHeartbeats 1000000 in
theorem rhas_any (w : World) (v : Value) (l : List Sp) (s1 s2 : Int) (h : LiesK encS 2 w v l) (hm : (s1, s2) ∈ l) :
    Calls Try.prog 38 #[v, .agg #[.int .i64 s1, .int .i64 s2]] w fun e w' => e = .returned (.bool true) ∧ Below w.heap.size w w' := by
  have hlm := h.len
  have X := Lib.hid (vstep w (.cells #[.int .i64 s1, .int .i64 s2] 24))
  have H := Lib.hid (h.step X.out)
  have N := Lib.hid (StAt.new w s1 s2)
  have HM := Lib.hid hm
  obtain ⟨ao, cap, rfl⟩ := h.shape
  obtain ⟨W0, hW0⟩ : ∃ W0, w.alloc (.cells #[.int .i64 s1, .int .i64 s2] 24) = W0 := ⟨_, rfl⟩
  rw [hW0] at X H N
  obtain ⟨b0, b1⟩ := N.out.cells
  have HW := Lib.hid hW0
  clear hW0 h hm
  go_enter Try.func38, Try.ntmps38
  go_wp2_with fail
  rw [HW.out]
  go_loopw [5] (fun kv wr => ∃ i : Nat, kv = .int .i64 i ∧ i ≤ l.length ∧ Hid (∀ j : Nat, j < i → l[j]? ≠ some (s1, s2)) ∧ ∃ n, wr = W0.drewN n) (fun kv _ => l.length - (intOf kv).toNat)
  case atStart => exact ⟨0, rfl, Nat.zero_le _, Lib.hid (fun j h => absurd h (Nat.not_lt_zero _)), 0, rfl⟩
  case round =>
    obtain ⟨i, rfl, hi, hJ, n, rfl⟩ := hrel
    have HB := Lib.hid (X.out.trans ((below_drewN W0 n).mono X.out.size))
    by_cases hlt : i < l.length
    · obtain ⟨p, hp⟩ : ∃ p, l[i]? = some p := ⟨_, List.getElem?_eq_getElem hlt⟩
      obtain ⟨k, o, rfl, d0, d1⟩ := H.out.atp hp rfl
      obtain ⟨p1, p2⟩ := p
      dsimp only at d0 d1
      have HP := Lib.hid hp
      clear hp
      by_cases h1 : p1 = s1
      · subst h1
        by_cases h2 : p2 = s2
        · subst h2
          clear hJ
          go_wp2
          go_quiet (fail)
          go_wp2
          go_returns
          exact ⟨rfl, HB.out.trans ((below_drewN _ _).mono HB.out.size)⟩
        · have t1 := bneb_ p2 s2 h2
          have HN : Hid (∀ j : Nat, j < i + 1 → l[j]? ≠ some (p1, s2)) := Lib.hid (fun j hj => by
            by_cases e : j = i
            · subst e; rw [HP.out]; intro e; injection e with e; injection e with _ e; exact h2 e
            · exact hJ.out j (by omega))
          clear h2 hJ
          go_wp2
          go_quiet (fail)
          go_wp2
          go_roundw
          case rel => exact ⟨i + 1, by go_num, by omega, HN, _, rfl⟩
          case measure => simp [intOf]; omega
      · have t1 := bneb_ p1 s1 h1
        have HN : Hid (∀ j : Nat, j < i + 1 → l[j]? ≠ some (s1, s2)) := Lib.hid (fun j hj => by
          by_cases e : j = i
          · subst e; rw [HP.out]; intro e; injection e with e; injection e with e _; exact h1 e
          · exact hJ.out j (by omega))
        clear h1 hJ
        go_wp2
        go_quiet (fail)
        go_wp2
        go_roundw
        case rel => exact ⟨i + 1, by go_num, by omega, HN, _, rfl⟩
        case measure => simp [intOf]; omega
    · exfalso
      obtain ⟨j, hj⟩ := List.mem_iff_getElem?.1 HM.out
      exact hJ.out j (by have := (List.getElem?_eq_some_iff.1 hj).1; omega) hj
end Go.Proofs.Ytegmlekeielmoaa
