/- What the reference's Fit and Tail return, at every text and number: the first, and the last, pieces that fit. -/
import Derived.Test.YtkkeemhbokpngaaDoorLE
set_option linter.unusedVariables false
namespace Go.Proofs.YtkkeemhbokpngaaDoor
open Go.RowKit

theorem own_cell {w : World} {base g N cap j : Nat} {E : TypeId} {xs : List Value} {u : Value} (h : w.ownsRow base E 3 (.slice (some ⟨g, 0, none⟩) N cap) N xs) (hj : xs[j]? = some u) : w.cell? ⟨g, j, none⟩ = some u := by
  have := h.cells (g := g) rfl j u hj
  have hadd : (⟨g, 0, none⟩ : Addr).add j = ⟨g, j, none⟩ := by unfold Addr.add; split <;> simp_all
  rw [hadd] at this
  exact this

theorem own_split {w : World} {base N : Nat} {E : TypeId} {xs : List Value} {v : Value} (h : w.ownsRow base E 3 v N xs) : (v = .slice none 0 0 ∧ N = 0) ∨ ∃ g cap, v = .slice (some ⟨g, 0, none⟩) N cap ∧ w.ownsRow base E 3 (.slice (some ⟨g, 0, none⟩) N cap) N xs ∧ N ≤ cap ∧ cap ≤ maxLen ∧ base ≤ g ∧ g < w.heap.size := by
  rcases h.2 with h2 | ⟨g, cap, cur, a, b, c, d, e, f⟩
  · exact .inl h2
  · subst a
    exact .inr ⟨g, cap, rfl, h, d, e, b, (Array.getElem?_eq_some_iff.1 c).1⟩

set_option maxRecDepth 100000 in
set_option maxHeartbeats 400000 in
theorem rfit_any (s : ByteArray) (N j : Nat) (m : Int) (w : World) (hs : s.size ≤ 1099511627000) (hN : IsN s N) (hj : IsFit s N m j) :
    Calls Tryd.prog 23 #[.string s, .int .i64 m] w fun e w' => e = .returned (.string (s.extract 0 (bd s j))) ∧ Below w.heap.size w w' := by
  have hNs := isN_le hN
  have C := Lib.hid (fun w => rpieces_any s N w hs hN)
  have HN := Lib.hid hN
  have HJ := Lib.hid hj
  clear hN hj
  go_enter Tryd.func23, Tryd.ntmps23
  go_wp2_with fail
  refine (C.out _).mono ?_
  rintro e w1 ⟨v, rfl, hown, hbw⟩
  rcases own_split hown with ⟨rfl, h0⟩ | ⟨g, cap, rfl, ho, hcap, hmax, hg1, hg2⟩
  · have e : s.extract 0 (bd s j) = ByteArray.empty := by
      have := HJ.out.1
      rw [show j = 0 by omega, show bd s 0 = 0 from rfl]; simp
    have E := Lib.hid e
    clear e hown
    subst h0
    go_wp2_with fail
    go_loop [6, 7] (fun nv iv => iv = .int .i64 0 ∧ nv = .int .i64 0) (fun _ iv => 0)
    case atStart => exact ⟨rfl, rfl⟩
    case round =>
      obtain ⟨rfl, rfl⟩ := hrel
      go_wp2_with fail
      go_ret
      exact ⟨by rw [E.out]; rfl, hbw⟩
  · have HO := Lib.hid ho
    clear ho hown
    go_wp2_with fail
    go_loop [6, 7] (fun nv iv => ∃ k : Nat, k ≤ N ∧ iv = .int .i64 k ∧ nv = .int .i64 (bd s k : Nat) ∧ (k = 0 ∨ (bd s k : Int) ≤ m)) (fun _ iv => N - (intOf iv).toNat)
    case atStart => exact ⟨0, Nat.zero_le _, rfl, rfl, .inl rfl⟩
    case round =>
      obtain ⟨k, hk, rfl, rfl, hkm⟩ := hrel
      have hbl := bd_le s k
      by_cases hlt : k < N
      · have hc1 := own_cell HO.out (pc_get s N k hlt).2.1
        have hb := isN_succ HN.out hlt
        have hw := wid_pos s (bd s k)
        have hw4 := wid_four s (bd s k)
        generalize wid s (bd s k) = y at *
        by_cases hle : (bd s k : Int) + y ≤ m
        · have HB := Lib.hid hb
          clear hb hkm
          go_wp2_with fail
          go_round
          case rel => exact ⟨k + 1, by omega, by go_num, by rw [HB.out]; go_num, .inr (by rw [HB.out]; omega)⟩
          case measure => simp [intOf]; omega
        · have e : j = k := isFit_eq HJ.out ⟨hk, hkm, .inr (by rw [hb]; omega)⟩
          have E := Lib.hid e
          clear e hb hkm
          go_wp2_with fail
          go_ret
          exact ⟨by rw [E.out]; rfl, hbw⟩
      · obtain rfl : k = N := by omega
        have e : j = k := isFit_eq HJ.out ⟨hk, hkm, .inl rfl⟩
        have E := Lib.hid e
        clear e hkm
        go_wp2_with fail
        go_ret
        exact ⟨by rw [E.out]; rfl, hbw⟩

end Go.Proofs.YtkkeemhbokpngaaDoor
