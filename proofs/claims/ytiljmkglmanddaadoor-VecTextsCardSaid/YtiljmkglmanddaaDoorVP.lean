/- Count. -/
import Derived.Test.YtiljmkglmanddaaDoorVO
set_option linter.unusedVariables false
namespace Go.Proofs.YtiljmkglmanddaaDoor
open Go.RowKit

def countS (n : Int) (r : Rg) : Int := if r.2.1 ≤ r.2.2 then wrap64 (n + wrap64 (wrap64 (r.2.2 - r.2.1) + 1)) else n
def countF (l : List Rg) : Int := l.foldl countS 0
theorem countF_snoc (l : List Rg) (r : Rg) : countF (l ++ [r]) = countS (countF l) r := by unfold countF; rw [List.foldl_append]; rfl
/-- A slice of ranges. -/
def LiesR (w : World) (v : Value) (l : List Rg) : Prop := ∃ ao cap, v = .slice ao l.length cap ∧ l.length ≤ 1000 ∧ (ao = none → l = []) ∧
  ∀ b, ao = some b → l ≠ [] → ∃ k o, b = ⟨k, o, none⟩ ∧ k < w.heap.size ∧ ∀ (j : Nat) p, l[j]? = some p → w.cell? ⟨k, o + j * 3, none⟩ = some (.int .i64 p.1) ∧ w.cell? ⟨k, o + j * 3 + 1, none⟩ = some (.int .i64 p.2.1) ∧ w.cell? ⟨k, o + j * 3 + 2, none⟩ = some (.int .i64 p.2.2)
theorem LiesR.at {w w' : World} {ao : Option Addr} {n cap : Nat} {l : List Rg} (h : LiesR w (.slice ao n cap) l) (hb : Below w.heap.size w w') {i : Nat} {p : Rg} (hp : l[i]? = some p) :
    ∃ k o, ao = some ⟨k, o, none⟩ ∧ w'.cell? ⟨k, o + i * 3, none⟩ = some (.int .i64 p.1) ∧ w'.cell? ⟨k, o + i * 3 + 1, none⟩ = some (.int .i64 p.2.1) ∧ w'.cell? ⟨k, o + i * 3 + 2, none⟩ = some (.int .i64 p.2.2) := by
  obtain ⟨ao', cap', e, h1, h3, h4⟩ := h
  injection e with e1 e2 e3
  subst e1
  cases ao with
  | none => have := h3 rfl; subst this; cases hp
  | some b =>
    obtain ⟨k, o, rfl, hk, hc⟩ := h4 b rfl (by rintro rfl; cases hp)
    obtain ⟨c0, c1, c2⟩ := hc i p hp
    exact ⟨k, o, rfl, (hb.cell (p := ⟨k, o + i * 3, none⟩) hk).trans c0, (hb.cell (p := ⟨k, o + i * 3 + 1, none⟩) hk).trans c1, (hb.cell (p := ⟨k, o + i * 3 + 2, none⟩) hk).trans c2⟩

set_option maxRecDepth 100000 in
set_option maxHeartbeats 1600000 in
theorem count_any (w : World) (v : Value) (l : List Rg) (h : LiesR w v l) :
    Calls Tryd.prog 26 #[v] w fun e w' => e = .returned (.int .i64 (countF l)) ∧ Below w.heap.size w w' := by
  have H := Lib.hid h
  obtain ⟨ao, cap, rfl, hl, _⟩ := h
  go_enter Tryd.func26, Tryd.ntmps26
  go_wp2
  go_loopw [3, 8] (fun sv iv wr => ∃ (i : Nat) (s : Int), iv = .int .i64 i ∧ i ≤ l.length ∧ sv = .int .i64 s ∧ Hid (s = countF (l.take i) ∧ Below w.heap.size w wr)) (fun _ iv _ => l.length - (intOf iv).toNat)
  case atStart => exact ⟨0, 0, rfl, Nat.zero_le _, rfl, Lib.hid ⟨rfl, Below.refl _ _⟩⟩
  case round =>
    obtain ⟨i, s, rfl, hi, rfl, hI⟩ := hrel
    by_cases hlt : i < l.length
    · obtain ⟨p, hp⟩ : ∃ p, l[i]? = some p := ⟨_, List.getElem?_eq_getElem hlt⟩
      obtain ⟨k, o, e1, d0, d1, d2⟩ := H.out.at hI.out.2 hp
      subst e1
      have HN := Lib.hid (show countF (l.take (i + 1)) = countS s p by rw [take_snoc' l i p hp, countF_snoc, ← hI.out.1])
      obtain ⟨p0, p1, p2⟩ := p
      dsimp only at d0 d1 d2
      clear hp
      have BX := Lib.hid (hI.out.2.alloc hI.out.2.size (.cells #[.int .i64 p0, .int .i64 p1, .int .i64 p2] 45))
      by_cases hle : p1 ≤ p2
      · have HE := Lib.hid (show wrap64 (s + wrap64 (wrap64 (p2 - p1) + 1)) = countF (l.take (i + 1)) by rw [HN.out]; unfold countS; rw [if_pos hle])
        go_wp2
        go_roundw
        case rel => exact ⟨i + 1, wrap64 (s + wrap64 (wrap64 (p2 - p1) + 1)), by go_num, by omega, rfl, Lib.hid ⟨HE.out, BX.out⟩⟩
        case measure => simp [intOf]; omega
      · have HE := Lib.hid (show s = countF (l.take (i + 1)) by rw [HN.out]; unfold countS; rw [if_neg hle])
        go_wp2
        go_roundw
        case rel => exact ⟨i + 1, s, by go_num, by omega, rfl, Lib.hid ⟨HE.out, BX.out⟩⟩
        case measure => simp [intOf]; omega
    · have HZ : Hid (s = countF l) := Lib.hid (by rw [hI.out.1, List.take_of_length_le (by omega)])
      go_wp2
      go_returns
      exact ⟨by rw [← HZ.out]; rfl, hI.out.2⟩
end Go.Proofs.YtiljmkglmanddaaDoor
