/- The reference's 'Same' on any two slices; 'are'. -/
import Derived.Test.YtlhicojbpjdbaaaFrG
set_option linter.unusedVariables false
namespace Go.Proofs.Ytlhicojbpjdbaaa
open Go.RowKit

set_option maxRecDepth 100000 in
set_option maxHeartbeats 1000000 in
theorem rsame_all (w : World) (v1 v2 : Value) (l m : List Nat) (h1 : Lies w v1 l) (h2 : Lies w v2 m) (b : Bool) (hb : b = true ↔ l = m) :
    Calls Try.prog 13 #[v1, v2] w fun e w' => e = .returned (.bool b) ∧ Below w.heap.size w w' := by
  by_cases he : l = m
  · rw [hb.2 he]; subst he; exact same_any w v1 v2 l h1 h2
  · have hbf : b = false := by
      cases b with
      | false => rfl
      | true => exact absurd (hb.1 rfl) he
    subst hbf
    clear hb
    have hlm : l.length ≤ maxLen := by obtain ⟨_, _, _, g1, g2, _⟩ := h1; omega
    unfold maxLen at hlm
    obtain ⟨a1, p1, rfl, _, _, n1, hc1⟩ := h1
    obtain ⟨a2, p2, rfl, _, _, n2, hc2⟩ := h2
    by_cases hn : l.length = m.length
    · obtain ⟨N, hN⟩ : ∃ N, N = l.length := ⟨_, rfl⟩
      rw [← hn, ← hN]
      rw [← hN] at hlm
      go_enter Try.func13, Try.ntmps13
      go_wp2
      go_loopw [5] (fun kv wr => ∃ k : Nat, kv = .int .i64 k ∧ k ≤ N ∧ (∀ j : Nat, j < k → l[j]? = m[j]?) ∧ ∃ n, wr = w.drewN n) (fun kv _ => N - (intOf kv).toNat)
      case atStart => exact ⟨0, rfl, Nat.zero_le _, fun j h => absurd h (Nat.not_lt_zero _), 0, rfl⟩
      case round =>
        obtain ⟨k, rfl, hk, hj, n, rfl⟩ := hrel
        by_cases hlt : k < N
        · obtain ⟨x, hx⟩ : ∃ x, l[k]? = some x := ⟨_, List.getElem?_eq_getElem (by omega)⟩
          obtain ⟨y, hy⟩ : ∃ y, m[k]? = some y := ⟨_, List.getElem?_eq_getElem (by omega)⟩
          cases a1 with
          | none => have := (n1 rfl).1; rw [this] at hN; simp at hN; omega
          | some b1 =>
            cases a2 with
            | none => have := (n2 rfl).1; rw [this] at hn; simp at hn; rw [hn] at hN; simp at hN; omega
            | some b2 =>
              obtain ⟨k1, o1, rfl, _, hc1⟩ := hc1 b1 rfl (ne_of_lt (i := k) (by omega))
              obtain ⟨k2, o2, rfl, _, hc2⟩ := hc2 b2 rfl (ne_of_lt (i := k) (by omega))
              have d1 := hc1 k x hx
              have d2 := hc2 k y hy
              have HJ := Lib.hid hj
              have HXY := Lib.hid (And.intro hx hy)
              clear hc1 hc2 n1 n2 hx hy hj he hn hN
              by_cases hxy : (x : Int) = (y : Int)
              · rw [← hxy] at d2
                go_wp2
                go_quiet (fail)
                go_wp2
                go_roundw
                case rel =>
                  refine ⟨k + 1, by go_num, by omega, fun j hj => ?_, _, rfl⟩
                  by_cases e : j = k
                  · subst e; rw [HXY.out.1, HXY.out.2]; congr 1; omega
                  · exact HJ.out j (by omega)
                case measure => simp [intOf]; omega
              · go_wp2
                go_quiet (fail)
                go_wp2
                go_returns
                exact ⟨rfl, (below_drewN w n).trans ((below_drewN _ _).mono (below_drewN w n).size)⟩
        · exfalso
          refine he (List.ext_getElem? fun j => ?_)
          by_cases e : j < k
          · exact hj j e
          · rw [List.getElem?_eq_none (by omega), List.getElem?_eq_none (by omega)]
    · have hn2 : ¬ ((l.length : Int) = (m.length : Int)) := by omega
      clear hc1 hc2 n1 n2
      go_enter Try.func13, Try.ntmps13
      go_wp2
      go_returns
      exact ⟨rfl, Below.refl _ _⟩

set_option maxRecDepth 100000 in
set_option maxHeartbeats 800000 in
theorem are_k (w : World) (k f t k' f' t' : Int) (a a' : Option Addr) (n n' c c' : Nat) (hk : k ≠ k') :
    Calls Try.prog 15 #[.agg #[.int .i64 k, .int .i64 f, .int .i64 t, .slice a n c], .agg #[.int .i64 k', .int .i64 f', .int .i64 t', .slice a' n' c']] w fun e w' => e = .returned (.bool false) ∧ Below w.heap.size w w' := by
  go_enter Try.func15, Try.ntmps15
  go_wp2
  go_returns
  exact ⟨rfl, box2 _ _ _ _ _⟩
set_option maxRecDepth 100000 in
set_option maxHeartbeats 800000 in
theorem are_f (w : World) (k f t f' t' : Int) (a a' : Option Addr) (n n' c c' : Nat) (hk : f ≠ f') :
    Calls Try.prog 15 #[.agg #[.int .i64 k, .int .i64 f, .int .i64 t, .slice a n c], .agg #[.int .i64 k, .int .i64 f', .int .i64 t', .slice a' n' c']] w fun e w' => e = .returned (.bool false) ∧ Below w.heap.size w w' := by
  go_enter Try.func15, Try.ntmps15
  go_wp2
  go_returns
  exact ⟨rfl, box2 _ _ _ _ _⟩
set_option maxRecDepth 100000 in
set_option maxHeartbeats 800000 in
theorem are_t (w : World) (k f t t' : Int) (a a' : Option Addr) (n n' c c' : Nat) (hk : t ≠ t') :
    Calls Try.prog 15 #[.agg #[.int .i64 k, .int .i64 f, .int .i64 t, .slice a n c], .agg #[.int .i64 k, .int .i64 f, .int .i64 t', .slice a' n' c']] w fun e w' => e = .returned (.bool false) ∧ Below w.heap.size w w' := by
  go_enter Try.func15, Try.ntmps15
  go_wp2
  go_returns
  exact ⟨rfl, box2 _ _ _ _ _⟩
set_option maxRecDepth 100000 in
set_option maxHeartbeats 800000 in
theorem are_b (w : World) (k f t : Int) (v v' : Value) (l m : List Nat) (h1 : Lies w v l) (h2 : Lies w v' m) (b : Bool) (hb : b = true ↔ l = m) :
    Calls Try.prog 15 #[.agg #[.int .i64 k, .int .i64 f, .int .i64 t, v], .agg #[.int .i64 k, .int .i64 f, .int .i64 t, v']] w fun e w' => e = .returned (.bool b) ∧ Below w.heap.size w w' := by
  have E := Lib.hid (fun W (hW : Below w.heap.size w W) => rsame_all W v v' l m (h1.later hW) (h2.later hW) b hb)
  obtain ⟨a1, p1, rfl, _⟩ := h1
  obtain ⟨a2, p2, rfl, _⟩ := h2
  clear hb
  go_enter Try.func15, Try.ntmps15
  go_wp2_with fail
  refine (E.out _ (box2 _ _ _ _ _)).mono ?_
  rintro e w1 ⟨rfl, hb⟩
  have HB := Lib.hid ((box2 w _ _ _ _).trans (hb.mono (box2 w _ _ _ _).size))
  clear hb
  go_wp2
  go_returns
  exact ⟨rfl, HB.out⟩

theorem are_any (w : World) (k f t k' f' t' : Int) (v v' : Value) (l m : List Nat) (h1 : Lies w v l) (h2 : Lies w v' m) (b : Bool) (hb : b = true ↔ (k = k' ∧ f = f' ∧ t = t' ∧ l = m)) :
    Calls Try.prog 15 #[.agg #[.int .i64 k, .int .i64 f, .int .i64 t, v], .agg #[.int .i64 k', .int .i64 f', .int .i64 t', v']] w fun e w' => e = .returned (.bool b) ∧ Below w.heap.size w w' := by
  have no : ¬ (k = k' ∧ f = f' ∧ t = t' ∧ l = m) → b = false := fun h => by
    cases b with
    | false => rfl
    | true => exact absurd (hb.1 rfl) h
  obtain ⟨a1, p1, e1, _⟩ := id h1
  obtain ⟨a2, p2, e2, _⟩ := id h2
  by_cases hk : k = k'
  · by_cases hf : f = f'
    · by_cases ht : t = t'
      · subst hk hf ht
        exact are_b w k f t v v' l m h1 h2 b (by rw [hb]; exact ⟨fun h => h.2.2.2, fun h => ⟨rfl, rfl, rfl, h⟩⟩)
      · rw [no (fun h => ht h.2.2.1)]; subst hk hf e1 e2; exact are_t w k f t t' a1 a2 _ _ _ _ ht
    · rw [no (fun h => hf h.2.1)]; subst hk e1 e2; exact are_f w k f t f' t' a1 a2 _ _ _ _ hf
  · rw [no (fun h => hk h.1)]; subst e1 e2; exact are_k w k f t k' f' t' a1 a2 _ _ _ _ hk
end Go.Proofs.Ytlhicojbpjdbaaa
