/- The reference's Right, May, Rises, Has. -/
import Derived.Test.YthbmbpnpigpgpaaFC
import Derived.Test.YthbmbpnpigpgpaaLater
set_option linter.unusedVariables false
set_option maxRecDepth 100000
namespace Go.Proofs.Ythbmbpnpigpgpaa
open Go.RowKit Go.WideMaps Go.Maps

def rightB (t r : Int) : Bool := decide (1 ≤ t ∧ t ≤ 281474976710656 ∧ 0 ≤ r ∧ r ≤ 63)
set_option maxHeartbeats 1600000 in
theorem right_any (w : World) (t r : Int) : Calls Try.prog 26 #[.agg #[.int .i64 t, .int .i64 r]] w fun e w' => e = .returned (.bool (rightB t r)) ∧ Below w.heap.size w w' := by
  have B1 := Lib.hid (vstep w (.cells #[.int .i64 t, .int .i64 r] 61))
  by_cases h1 : 1 ≤ t
  · by_cases h2 : t ≤ 281474976710656
    · by_cases h3 : 0 ≤ r
      · by_cases h4 : r ≤ 63
        · have EQ := Lib.hid (show rightB t r = true from by unfold rightB; simp only [decide_eq_true_eq]; omega)
          have d1 := decide_eq_true h1
          have d2 := decide_eq_true h2
          have d3 := decide_eq_true h3
          have d4 := decide_eq_true h4
          clear h1 h2 h3 h4
          go_enter Try.func26, Try.ntmps26
          go_wp2
          go_returns
          exact ⟨ret_b' EQ.out, B1.out⟩
        · have EQ := Lib.hid (show rightB t r = false from by unfold rightB; simp only [decide_eq_false_iff_not]; omega)
          have d1 := decide_eq_true h1
          have d2 := decide_eq_true h2
          have d3 := decide_eq_true h3
          have d4 := decide_eq_false h4
          clear h1 h2 h3 h4
          go_enter Try.func26, Try.ntmps26
          go_wp2
          go_returns
          exact ⟨ret_b' EQ.out, B1.out⟩
      · have EQ := Lib.hid (show rightB t r = false from by unfold rightB; simp only [decide_eq_false_iff_not]; omega)
        have d1 := decide_eq_true h1
        have d2 := decide_eq_true h2
        have d3 := decide_eq_false h3
        clear h1 h2 h3
        go_enter Try.func26, Try.ntmps26
        go_wp2
        go_returns
        exact ⟨ret_b' EQ.out, B1.out⟩
    · have EQ := Lib.hid (show rightB t r = false from by unfold rightB; simp only [decide_eq_false_iff_not]; omega)
      have d1 := decide_eq_true h1
      have d2 := decide_eq_false h2
      clear h1 h2
      go_enter Try.func26, Try.ntmps26
      go_wp2
      go_returns
      exact ⟨ret_b' EQ.out, B1.out⟩
  · have EQ := Lib.hid (show rightB t r = false from by unfold rightB; simp only [decide_eq_false_iff_not]; omega)
    have d1 := decide_eq_false h1
    clear h1
    go_enter Try.func26, Try.ntmps26
    go_wp2
    go_returns
    exact ⟨ret_b' EQ.out, B1.out⟩
def mayB (l : List Rw) : Bool := l.all (fun x => rightB x.t x.r)
set_option maxHeartbeats 3200000 in
theorem may_any (w : World) (v : Value) (l : List Rw) (h : LiesR w v l) : Calls Try.prog 27 #[v] w fun e w' => e = .returned (.bool (mayB l)) ∧ Below w.heap.size w w' := by
  have L := Lib.hid h
  have hlm := h.len
  obtain ⟨ao, cap, rfl⟩ := h.shape
  clear h
  go_enter Try.func27, Try.ntmps27
  go_wp2_with fail
  go_loopw [3] (fun kv wr => ∃ i : Nat, kv = .int .i64 i ∧ i ≤ l.length ∧ Hid (Below w.heap.size w wr ∧ ∀ (j : Nat) x, j < i → l[j]? = some x → rightB x.t x.r = true)) (fun kv _ => l.length - (intOf kv).toNat)
  case atStart => exact ⟨0, rfl, Nat.zero_le _, Lib.hid ⟨Below.refl _ _, fun j x h => absurd h (Nat.not_lt_zero _)⟩⟩
  case round =>
    obtain ⟨i, rfl, hi, hK⟩ := hrel
    have K0 := Lib.hid hK.out.1
    have J0 := Lib.hid hK.out.2
    clear hK
    by_cases hlt : i < l.length
    · obtain ⟨g, o, x, rfl, hx, hg, a0, a1, a2, a3, a4, a5⟩ := (L.out.step K0.out).row hlt
      have HX := Lib.hid hx
      have R := Lib.hid (right_any wr x.t x.r)
      clear hx hg a2 a3 a4 a5
      go_wp2_with fail
      refine R.out.mono ?_
      rintro e w2 ⟨rfl, hb⟩
      have K2 := Lib.hid (K0.out.trans (hb.mono K0.out.size))
      obtain ⟨bb, hq⟩ : ∃ y, rightB x.t x.r = y := ⟨_, rfl⟩
      rw [hq]
      cases bb
      · have NO := Lib.hid (show mayB l = false from by
          unfold mayB
          rw [List.all_eq_false]
          exact ⟨x, List.mem_of_getElem? HX.out, by rw [hq]; simp⟩)
        clear hq hb a0 a1
        go_wp2
        go_returns
        exact ⟨ret_b' NO.out, K2.out⟩
      · have HQ := Lib.hid (show ∀ (j : Nat) y, j < i + 1 → l[j]? = some y → rightB y.t y.r = true from fun j y hj hy => by
          by_cases e : j = i
          · subst e; rw [HX.out] at hy; injection hy with hy; subst hy; exact hq
          · exact J0.out j y (by omega) hy)
        clear hq hb a0 a1
        go_wp2
        go_roundw
        case rel => exact ⟨i + 1, by go_num, by omega, Lib.hid ⟨K2.out, HQ.out⟩⟩
        case measure => simp [intOf]; omega
    · have FIN := Lib.hid (show mayB l = true from List.all_eq_true.2 fun x hx => by
        obtain ⟨j, hj⟩ := List.mem_iff_getElem?.1 hx
        exact J0.out j x (by have := (List.getElem?_eq_some_iff.1 hj).1; omega) hj)
      clear J0
      go_wp2
      go_returns
      exact ⟨ret_b' FIN.out, K0.out⟩
end Go.Proofs.Ythbmbpnpigpgpaa

