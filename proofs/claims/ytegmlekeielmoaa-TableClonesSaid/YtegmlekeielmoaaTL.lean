/- Less, Same of stamps; To; Made. -/
import Derived.Test.YtegmlekeielmoaaTK
set_option linter.unusedVariables false
set_option maxRecDepth 100000
namespace Go.Proofs.Ytegmlekeielmoaa
open Go.RowKit Go.WideMaps Go.Maps

theorem below_drewN (w : World) : ∀ n, Below w.heap.size w (w.drewN n) := fun n => ⟨rfl, rfl, rfl, Nat.le_refl _, fun _ _ => rfl⟩
set_option maxHeartbeats 800000 in
theorem less_any (w : World) (a b c d : Int) : Calls Try.prog 43 #[.agg #[.int .i64 a, .int .i64 b], .agg #[.int .i64 c, .int .i64 d]] w fun e w' => e = .returned (.bool (ltS a b c d)) ∧ Below w.heap.size w w' := by
  have BB := Lib.hid ((vstep w (.cells #[.int .i64 a, .int .i64 b] 24)).trans ((vstep (w.alloc (.cells #[.int .i64 a, .int .i64 b] 24)) (.cells #[.int .i64 c, .int .i64 d] 24)).mono (vstep w _).size))
  unfold ltS
  by_cases h : a = c
  · rw [if_pos h]
    have t1 : (a != c) = false := by simp [h]
    clear h
    go_enter Try.func43, Try.ntmps43
    go_wp2
    go_returns
    exact ⟨rfl, BB.out⟩
  · rw [if_neg h]
    have t1 : (a != c) = true := by simp [h]
    clear h
    go_enter Try.func43, Try.ntmps43
    go_wp2
    go_returns
    exact ⟨rfl, BB.out⟩
theorem list_ext_get {α : Type} {l m : List α} (hl : l.length = m.length) (h : ∀ j : Nat, j < l.length → l[j]? = m[j]?) : l = m := by
  apply List.ext_getElem?
  intro j
  by_cases hj : j < l.length
  · exact h j hj
  · rw [List.getElem?_eq_none (by omega), List.getElem?_eq_none (by omega)]
theorem neqb_ (a b : Int) (h : a = b) : (a != b) = false := by simpa using h
theorem nneb_ (a b : Int) (h : a ≠ b) : (a != b) = true := by simpa using h
set_option maxHeartbeats 3200000 in
theorem same_any (w : World) (v1 v2 : Value) (l m : List Sp) (h1 : LiesK encS 2 w v1 l) (h2 : LiesK encS 2 w v2 m) :
    Calls Try.prog 18 #[v1, v2] w fun e w' => e = .returned (.bool (decide (l = m))) ∧ Below w.heap.size w w' := by
  have hl1 := h1.len
  have hl2 := h2.len
  have H1 := Lib.hid h1
  have H2 := Lib.hid h2
  obtain ⟨a1, c1, rfl⟩ := h1.shape
  obtain ⟨a2, c2, rfl⟩ := h2.shape
  clear h1 h2
  by_cases hne : l.length = m.length
  · have HN := Lib.hid hne
    have t0 : ((l.length : Int) != (m.length : Int)) = false := by simp [hne]
    go_enter Try.func18, Try.ntmps18
    clear hne
    go_wp2
    clear t0
    go_loopw [5] (fun kv wr => ∃ i : Nat, kv = .int .i64 i ∧ i ≤ l.length ∧ Hid (∀ j : Nat, j < i → l[j]? = m[j]?) ∧ ∃ n, wr = w.drewN n) (fun kv _ => l.length - (intOf kv).toNat)
    case atStart => exact ⟨0, rfl, Nat.zero_le _, Lib.hid (fun j h => absurd h (Nat.not_lt_zero _)), 0, rfl⟩
    case round =>
      obtain ⟨i, rfl, hi, hJ, n, rfl⟩ := hrel
      by_cases hlt : i < l.length
      · obtain ⟨k, o, p, rfl, hp, hg, hc⟩ := H1.out.at' hlt
        have hmlt : i < m.length := by have := HN.out; omega
        obtain ⟨k', o', p', rfl, hp', hg', hc'⟩ := H2.out.at' hmlt
        have d0 := hc 0 _ rfl
        have d1 := hc 1 _ rfl
        have e0 := hc' 0 _ rfl
        have e1 := hc' 1 _ rfl
        rw [Nat.add_zero] at d0 e0
        clear hg hg' hc hc'
        obtain ⟨p1, p2⟩ := p
        obtain ⟨q1, q2⟩ := p'
        dsimp only at d0 d1 e0 e1
        by_cases hpp : p1 = q1 ∧ p2 = q2
        · obtain ⟨rfl, rfl⟩ := hpp
          have HJ2 := Lib.hid (show ∀ j : Nat, j < i + 1 → l[j]? = m[j]? from fun j hj => by
            by_cases e : j = i
            · subst e; rw [hp, hp']
            · exact hJ.out j (by omega))
          clear hp hp' hJ
          go_wp2
          go_quiet (fail)
          go_wp2
          go_roundw
          case rel => exact ⟨i + 1, by go_num, by omega, HJ2, _, rfl⟩
          case measure => simp [intOf]; omega
        · have HE := Lib.hid (show decide (l = m) = false from decide_eq_false (fun e => hpp (by subst e; rw [hp] at hp'; injection hp' with hp'; injection hp' with a b; exact ⟨a, b⟩)))
          clear hp hp' hJ
          rcases no2 hpp with x0 | ⟨x0, x1⟩
          all_goals
            clear hpp
            go_wp2
            go_quiet (fail)
            go_wp2
            go_returns
            exact ⟨ret_b' HE.out, by first | exact below_drewN _ _ | exact (below_drewN w n).trans ((below_drewN _ _).mono (below_drewN w n).size)⟩
      · have HE := Lib.hid (show decide (l = m) = true from decide_eq_true (list_ext_get HN.out (fun j hj => hJ.out j (by omega))))
        clear hJ
        go_wp2
        go_returns
        exact ⟨ret_b' HE.out, by first | exact below_drewN _ _ | exact (below_drewN w n).trans ((below_drewN _ _).mono (below_drewN w n).size)⟩
  · have HE := Lib.hid (show decide (l = m) = false from decide_eq_false (fun e => hne (by rw [e])))
    have t0 : ((l.length : Int) != (m.length : Int)) = true := by simp; omega
    clear hne
    go_enter Try.func18, Try.ntmps18
    go_wp2
    go_returns
    exact ⟨ret_b' HE.out, Below.refl _ _⟩
set_option maxHeartbeats 800000 in
theorem to_any (w : World) (pt pr : Int) (nm : ByteArray) (d : Bool) : Calls Try.prog 12 #[.agg #[.int .i64 pt, .int .i64 pr, .string nm, .bool d]] w fun e w' => e = .returned (.agg #[.int .i64 pt, .int .i64 pr, .string nm, .bool d]) ∧ Below w.heap.size w w' := by
  go_enter Try.func12, Try.ntmps12
  go_wp2
  go_returns
  exact ⟨rfl, (vstep w _).trans ((vstep _ _).mono (vstep w _).size)⟩
end Go.Proofs.Ytegmlekeielmoaa
