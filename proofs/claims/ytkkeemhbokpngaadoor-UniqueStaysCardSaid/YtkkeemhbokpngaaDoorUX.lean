/- UniqueNames' law. -/
import Derived.Test.YtkkeemhbokpngaaDoorUW
set_option linter.unusedVariables false
namespace Go.Proofs.YtkkeemhbokpngaaDoor
open Go.RowKit

theorem kept_both (w : World) (v t : Value) (l m : List ByteArray) (h : SLies w v l) (hm : SLies w t m) (i : Int) : ∃ b, (∀ W, Below w.heap.size w W → Calls Tryd.prog 11 #[v, t, .int .i64 i] W fun e w' => e = .returned (.bool b) ∧ Below W.heap.size W w') ∧
    (∀ W, Below w.heap.size w W → Calls Tryd.prog 12 #[v, t, .int .i64 i] W fun e w' => e = .returned (.bool b) ∧ Below W.heap.size W w') := by
  by_cases hi : 0 ≤ i ∧ i < (l.length : Int)
  · obtain ⟨j, rfl⟩ : ∃ j : Nat, i = (j : Int) := ⟨i.toNat, by omega⟩
    obtain ⟨s, hs⟩ : ∃ s, l[j]? = some s := ⟨_, List.getElem?_eq_getElem (by omega)⟩
    exact ⟨keptB l m j s, fun W hb => kept_at W v t l m (h.step hb) (hm.step hb) j s hs, fun W hb => rkept_at W v t l m (h.step hb) (hm.step hb) j s hs⟩
  · exact ⟨false, fun W hb => kept_out W v t l 0 0 none (h.step hb) i hi, fun W hb => rkept_out W v t l 0 0 none (h.step hb) i hi⟩
set_option maxRecDepth 100000 in
set_option maxHeartbeats 6400000 in
theorem names_law (w : World) (ht : Tab w) (v t : Value) (raw taken : List ByteArray) (h : SLies w v raw) (hm : SLies w t taken) (i : Int) :
    Calls Tryd.prog 3 #[v, t, .int .i64 i] w fun e w' => e = .returned (.bool true) ∧ Below w.heap.size w w' := by
  have H := Lib.hid h
  have HM := Lib.hid hm
  have L1 := Lib.hid (long_any w v raw h)
  have L2 := Lib.hid (long_any w t taken hm)
  have AW := Lib.hid (fun W (hb : Below w.heap.size w W) => awake_any W (tab_step ht hb))
  cases h1 : longB raw with
  | true =>
    rw [h1] at L1
    clear h1 h hm ht
    go_enter Tryd.func3, Tryd.ntmps3
    go_wp2_with fail
    refine L1.out.mono ?_
    rintro e w1 ⟨rfl, rfl⟩
    go_wp2_with fail
    refine (AW.out _ (Below.refl _ _)).mono ?_
    rintro e w1 ⟨rfl, hb⟩
    have B := Lib.hid hb
    clear hb
    go_wp2
    go_returns
    exact ⟨rfl, B.out⟩
  | false =>
    rw [h1] at L1
    cases h2 : longB taken with
    | true =>
      rw [h2] at L2
      clear h1 h2 h hm ht
      go_enter Tryd.func3, Tryd.ntmps3
      go_wp2_with fail
      refine L1.out.mono ?_
      rintro e w1 ⟨rfl, rfl⟩
      go_wp2_with fail
      refine L2.out.mono ?_
      rintro e w1 ⟨rfl, rfl⟩
      go_wp2_with fail
      refine (AW.out _ (Below.refl _ _)).mono ?_
      rintro e w1 ⟨rfl, hb⟩
      have B := Lib.hid hb
      clear hb
      go_wp2
      go_returns
      exact ⟨rfl, B.out⟩
    | false =>
      rw [h2] at L2
      obtain ⟨q1, q2⟩ := longB_false h1
      obtain ⟨q3, q4⟩ := longB_false h2
      have NM := Lib.hid (names_any w v t raw taken ht h hm (by omega) q3 q2 q4)
      have RN := Lib.hid (fun W (hb : Below w.heap.size w W) => rnames_any W v t raw taken (h.step hb) (hm.step hb) q1 q3 q2)
      have TL := Lib.hid (tell_len raw taken raw.length (Nat.le_refl _))
      obtain ⟨b, kb1, kb2⟩ := kept_both w v t raw taken h hm i
      have KB1 := Lib.hid kb1
      have KB2 := Lib.hid kb2
      have t1 : (b == b) = true := by cases b <;> rfl
      clear h1 h2 h hm ht q2 q4 kb1 kb2
      go_enter Tryd.func3, Tryd.ntmps3
      go_wp2_with fail
      refine L1.out.mono ?_
      rintro e w1 ⟨rfl, rfl⟩
      go_wp2_with fail
      refine L2.out.mono ?_
      rintro e w1 ⟨rfl, rfl⟩
      go_wp2_with fail
      refine NM.out.mono ?_
      rintro e w1 ⟨r1, rfl, ho1, hb1⟩
      have S1 := Lib.hid (show SLies w1 r1 (tell raw taken raw.length) from own_slies (by rw [TL.out]; exact ho1))
      have B1 := Lib.hid hb1
      clear ho1 hb1
      go_wp2_with fail
      refine (RN.out w1 B1.out).mono ?_
      rintro e w2 ⟨r2, rfl, ho2, hb2⟩
      have S2 := Lib.hid (show SLies w2 r2 (tell raw taken raw.length) from own_slies (by rw [TL.out]; exact ho2))
      have S1 := Lib.hid (S1.out.step hb2)
      have B2 := Lib.hid (B1.out.trans (hb2.mono B1.out.size))
      clear ho2 hb2
      go_wp2_with fail
      refine (rsame_any w2 _ _ _ S1.out S2.out).mono ?_
      rintro e w3 ⟨rfl, hb3⟩
      have B3 := Lib.hid (B2.out.trans (hb3.mono B2.out.size))
      clear hb3
      go_wp2_with fail
      refine (KB1.out w3 B3.out).mono ?_
      rintro e w4 ⟨rfl, hb4⟩
      have B4 := Lib.hid (B3.out.trans (hb4.mono B3.out.size))
      clear hb4
      go_wp2_with fail
      refine (KB2.out w4 B4.out).mono ?_
      rintro e w5 ⟨rfl, hb5⟩
      have B5 := Lib.hid (B4.out.trans (hb5.mono B4.out.size))
      clear hb5
      go_wp2_with fail
      refine (AW.out _ B5.out).mono ?_
      rintro e w6 ⟨rfl, hb6⟩
      have B6 := Lib.hid (B5.out.trans (hb6.mono B5.out.size))
      clear hb6
      go_wp2
      go_returns
      exact ⟨rfl, B6.out⟩
end Go.Proofs.YtkkeemhbokpngaaDoor
