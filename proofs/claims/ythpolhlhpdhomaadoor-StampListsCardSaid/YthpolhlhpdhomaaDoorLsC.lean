/- The reference's Has, Same. -/
import Derived.Test.YthpolhlhpdhomaaDoorLsB
set_option linter.unusedVariables false
namespace Go.Proofs.YthpolhlhpdhomaaDoor
open Go.RowKit

set_option maxRecDepth 100000 in
set_option maxHeartbeats 1000000 in
theorem rhas_any (w : World) (v : Value) (l : List St) (s : St) (h : LiesS w v l) :
    Calls Tryd.prog 26 #[v, .agg #[.int .i64 s.1, .int .i64 s.2]] w fun e w' => e = .returned (.bool (decide (s ∈ l))) ∧ Below w.heap.size w w' := by
  have hlm : l.length ≤ maxLen := by obtain ⟨_, _, _, g1, g2, _⟩ := h; omega
  unfold maxLen at hlm
  obtain ⟨s1, s2⟩ := s
  have X := Lib.hid ((Below.refl w.heap.size w).alloc (Nat.le_refl _) (.cells #[.int .i64 s1, .int .i64 s2] 23))
  have H := Lib.hid (h.later X.out)
  have N := Lib.hid (heap_alloc_new w (.cells #[.int .i64 s1, .int .i64 s2] 23))
  obtain ⟨ao, cap, rfl⟩ := h.shape
  obtain ⟨W0, hW0⟩ : ∃ W0, w.alloc (.cells #[.int .i64 s1, .int .i64 s2] 23) = W0 := ⟨_, rfl⟩
  rw [hW0] at X H N
  obtain ⟨b0, b1, _, _⟩ := two_cells N.out
  have HW := Lib.hid hW0
  clear hW0 h
  go_enter Tryd.func26, Tryd.ntmps26
  go_wp2_with fail
  rw [HW.out]
  go_loopw [5] (fun kv wr => ∃ i : Nat, kv = .int .i64 i ∧ i ≤ l.length ∧ Hid (∀ j : Nat, j < i → l[j]? ≠ some (s1, s2)) ∧ ∃ n, wr = W0.drewN n) (fun kv _ => l.length - (intOf kv).toNat)
  case atStart => exact ⟨0, rfl, Nat.zero_le _, Lib.hid (fun j h => absurd h (Nat.not_lt_zero _)), 0, rfl⟩
  case round =>
    obtain ⟨i, rfl, hi, hJ, n, rfl⟩ := hrel
    have HB := Lib.hid (X.out.trans ((below_drewN W0 n).mono X.out.size))
    by_cases hlt : i < l.length
    · obtain ⟨p, hp⟩ : ∃ p, l[i]? = some p := ⟨_, List.getElem?_eq_getElem hlt⟩
      obtain ⟨k, o, rfl, d0, d1⟩ := H.out.at hp
      obtain ⟨p1, p2⟩ := p
      dsimp only at d0 d1
      have HP := Lib.hid hp
      clear hp
      by_cases h1 : p1 = s1
      · subst h1
        by_cases h2 : p2 = s2
        · subst h2
          have HM := Lib.hid (decide_eq_true (p := (p1, p2) ∈ l) (List.mem_of_getElem? HP.out))
          go_wp2
          go_quiet (fail)
          go_wp2
          go_returns
          exact ⟨ret_b (by rw [HM.out]), HB.out.trans ((below_drewN _ _).mono HB.out.size)⟩
        · have t1 := bneb_ p2 s2 h2
          have HN : Hid (∀ j : Nat, j < i + 1 → l[j]? ≠ some (p1, s2)) := Lib.hid (fun j hj => by
            by_cases e : j = i
            · subst e; rw [HP.out]; intro e; injection e with e; injection e with _ e; exact h2 e
            · exact hJ.out j (by omega))
          clear h2 hJ
          go_wp2
          go_quiet (fail)
          go_wp2
          go_roundw
          case rel => exact ⟨i + 1, by go_num, by omega, HN, _, rfl⟩
          case measure => simp [intOf]; omega
      · have t1 := bneb_ p1 s1 h1
        have HN : Hid (∀ j : Nat, j < i + 1 → l[j]? ≠ some (s1, s2)) := Lib.hid (fun j hj => by
          by_cases e : j = i
          · subst e; rw [HP.out]; intro e; injection e with e; injection e with e _; exact h1 e
          · exact hJ.out j (by omega))
        clear h1 hJ
        go_wp2
        go_quiet (fail)
        go_wp2
        go_roundw
        case rel => exact ⟨i + 1, by go_num, by omega, HN, _, rfl⟩
        case measure => simp [intOf]; omega
    · have HM : Hid (decide ((s1, s2) ∈ l) = false) := Lib.hid (decide_eq_false (fun hm => by
        obtain ⟨j, hj⟩ := List.mem_iff_getElem?.1 hm
        exact hJ.out j (by have := (List.getElem?_eq_some_iff.1 hj).1; omega) hj))
      clear hJ
      go_wp2
      go_returns
      exact ⟨ret_b (by rw [HM.out]), HB.out⟩

set_option maxRecDepth 100000 in
set_option maxHeartbeats 1000000 in
theorem rsame_any (w : World) (v1 v2 : Value) (l : List St) (h1 : LiesS w v1 l) (h2 : LiesS w v2 l) :
    Calls Tryd.prog 27 #[v1, v2] w fun e w' => e = .returned (.bool true) ∧ Below w.heap.size w w' := by
  have hlm : l.length ≤ maxLen := by obtain ⟨_, _, _, g1, g2, _⟩ := h1; omega
  unfold maxLen at hlm
  obtain ⟨a1, c1, rfl⟩ := h1.shape
  obtain ⟨a2, c2, rfl⟩ := h2.shape
  have H1 := Lib.hid h1
  have H2 := Lib.hid h2
  clear h1 h2
  go_enter Tryd.func27, Tryd.ntmps27
  go_wp2
  go_loopw [5] (fun kv wr => ∃ i : Nat, kv = .int .i64 i ∧ i ≤ l.length ∧ ∃ n, wr = w.drewN n) (fun kv _ => l.length - (intOf kv).toNat)
  case atStart => exact ⟨0, rfl, Nat.zero_le _, 0, rfl⟩
  case round =>
    obtain ⟨i, rfl, hi, n, rfl⟩ := hrel
    by_cases hlt : i < l.length
    · obtain ⟨p, hp⟩ : ∃ p, l[i]? = some p := ⟨_, List.getElem?_eq_getElem hlt⟩
      obtain ⟨k, o, rfl, d0, d1⟩ := H1.out.at hp
      obtain ⟨k2, o2, rfl, f0, f1⟩ := H2.out.at hp
      clear hp
      go_wp2
      go_quiet (fail)
      go_wp2
      go_roundw
      case rel => exact ⟨i + 1, by go_num, by omega, _, rfl⟩
      case measure => simp [intOf]; omega
    · go_wp2
      go_returns
      exact ⟨rfl, below_drewN w n⟩
end Go.Proofs.YthpolhlhpdhomaaDoor
