/- Count. -/
import Derived.Test.YtgnnpfainoppeaaDoorVN
import Derived.Deep.RegionHeldLaw
set_option linter.unusedVariables false
namespace Go.Proofs.YtgnnpfainoppeaaDoor.Ve
open Go.RowKit

/-- A slice of ranges. -/
def LiesR (w : World) (v : Value) (l : List Rg) : Prop := ∃ ao cap, v = .slice ao l.length cap ∧ l.length ≤ 1000 ∧ (ao = none → l = []) ∧
  ∀ b, ao = some b → l ≠ [] → ∃ k o, b = ⟨k, o, none⟩ ∧ k < w.heap.size ∧ ∀ (j : Nat) p, l[j]? = some p → w.cell? ⟨k, o + j * 3, none⟩ = some (.int .i64 p.1) ∧ w.cell? ⟨k, o + j * 3 + 1, none⟩ = some (.int .i64 p.2.1) ∧ w.cell? ⟨k, o + j * 3 + 2, none⟩ = some (.int .i64 p.2.2)
theorem LiesR.at {w w' : World} {ao : Option Addr} {n cap : Nat} {l : List Rg} (h : LiesR w (.slice ao n cap) l) (hb : Below w.heap.size w w') {i : Nat} {p : Rg} (hp : l[i]? = some p) :
    ∃ k o, ao = some ⟨k, o, none⟩ ∧ w'.cell? ⟨k, o + i * 3, none⟩ = some (.int .i64 p.1) ∧ w'.cell? ⟨k, o + i * 3 + 1, none⟩ = some (.int .i64 p.2.1) ∧ w'.cell? ⟨k, o + i * 3 + 2, none⟩ = some (.int .i64 p.2.2) := by
  obtain ⟨ao', cap', e, h1, h3, h4⟩ := h
  injection e with e1 e2 e3
  subst e1
  cases ao with
  | none => have := h3 rfl; subst this; cases hp
  | some b =>
    obtain ⟨k, o, rfl, hk, hc⟩ := h4 b rfl (by rintro rfl; cases hp)
    obtain ⟨c0, c1, c2⟩ := hc i p hp
    exact ⟨k, o, rfl, (hb.cell (p := ⟨k, o + i * 3, none⟩) hk).trans c0, (hb.cell (p := ⟨k, o + i * 3 + 1, none⟩) hk).trans c1, (hb.cell (p := ⟨k, o + i * 3 + 2, none⟩) hk).trans c2⟩

end Go.Proofs.YtgnnpfainoppeaaDoor.Ve

