/- The reference's Sort. -/
import Derived.Test.YthpolhlhpdhomaaDoorLsE
import Derived.Test.YthpolhlhpdhomaaDoorLsI
set_option linter.unusedVariables false
namespace Go.Proofs.YthpolhlhpdhomaaDoor
open Go.RowKit

theorem sort_snoc (l : List St) (p : St) : sortF (l ++ [p]) = putF false (sortF l) p := by unfold sortF; rw [List.foldl_append]; rfl

set_option maxRecDepth 100000 in
set_option maxHeartbeats 1600000 in
theorem rsort_any (w : World) (v : Value) (l : List St) (h : LiesS w v l) (hl : l.length ≤ 60) :
    Calls Tryd.prog 22 #[v] w fun e w' => ∃ r, e = .returned r ∧ RowS w w' r (sortF l) := by
  have H := Lib.hid h
  obtain ⟨ao, cap, rfl⟩ := h.shape
  clear h
  go_enter Tryd.func22, Tryd.ntmps22
  go_wp2
  go_loopw [3, 4] (fun bv kv wr => ∃ (i : Nat) (cs : List St), kv = .int .i64 i ∧ i ≤ l.length ∧ Hid (cs = sortF (l.take i) ∧ RowS w wr bv cs)) (fun _ kv _ => l.length - (intOf kv).toNat)
  case atStart => exact ⟨0, [], rfl, Nat.zero_le _, Lib.hid ⟨rfl, World.ownsRow_nil _ _ _ _, Below.refl _ _⟩⟩
  case round =>
    obtain ⟨i, cs, rfl, hil, hI⟩ := hrel
    obtain ⟨ba, bc, rfl⟩ := own_shape hI.out.2.1
    by_cases hlt : i < l.length
    · obtain ⟨p, hp⟩ : ∃ p, l[i]? = some p := ⟨_, List.getElem?_eq_getElem hlt⟩
      obtain ⟨k, o, e1, d0, d1⟩ := (H.out.later hI.out.2.2).at hp
      subst e1
      have hcl : cs.length ≤ 1000 := by rw [hI.out.1]; exact Nat.le_trans (sort_len _) (by rw [List.length_take]; omega)
      have C := Lib.hid (rput_any wr _ cs p (own_liesS hI.out.2.1) hcl)
      have HN : Hid (putF false cs p = sortF (l.take (i + 1))) := Lib.hid (by rw [take_snoc' l i p hp, sort_snoc, ← hI.out.1])
      obtain ⟨p1, p2⟩ := p
      dsimp only at d0 d1
      clear hp
      go_wp2_with fail
      refine C.out.mono ?_
      rintro e w1 ⟨r, rfl, ho⟩
      have K := Lib.hid (ho.from hI.out.2.2)
      clear ho
      go_wp2
      go_roundw
      case rel => exact ⟨i + 1, putF false cs (p1, p2), by go_num, by omega, Lib.hid ⟨HN.out, K.out⟩⟩
      case measure => simp [intOf]; omega
    · have HZ : Hid (cs = sortF l) := Lib.hid (by rw [hI.out.1, List.take_of_length_le (by omega)])
      go_wp2
      go_returns
      refine ⟨_, rfl, ?_⟩
      rw [← HZ.out]
      exact hI.out.2
end Go.Proofs.YthpolhlhpdhomaaDoor
