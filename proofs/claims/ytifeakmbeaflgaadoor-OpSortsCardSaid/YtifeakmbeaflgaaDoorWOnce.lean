/- WireOnce: what was read of any bytes is written as just those with which they begin. -/
import Derived.Test.YtifeakmbeaflgaaDoorWOnceBase
set_option linter.unusedVariables false
namespace Go.Proofs.YtifeakmbeaflgaaDoor.Wi
open Go.RowKit

theorem stamp_range (s : St) (hb : Byt s.bs) : 0 ≤ s.stamp.1.1 ∧ s.stamp.1.1 ≤ 9223372036854775807 ∧ 0 ≤ s.stamp.1.2 ∧ s.stamp.1.2 ≤ 9223372036854775807 := by
  have h1 := St.num_range s hb
  have h2 := St.num_range s.num.2 (num_byt hb)
  unfold St.stamp
  split
  · exact ⟨Int.le_refl 0, by show (0 : Int) ≤ _; omega, Int.le_refl 0, by show (0 : Int) ≤ _; omega⟩
  · exact ⟨h1.1, h1.2, h2.1, h2.2⟩

theorem lies_prefix {w : World} {ao : Option Addr} {cap : Nat} {l out rest : List Int} (h : Lies w (.slice ao l.length cap) l) (he : l = out ++ rest) : Lies w (.slice ao out.length cap) out := by
  obtain ⟨a', c', hv, hn, h0, hc⟩ := h
  injection hv with e1 e2 e3
  subst e1; subst e3
  refine ⟨ao, cap, rfl, by rw [he, List.length_append] at hn; omega, fun e => ?_, fun b hb j u hj => hc b hb j u ?_⟩
  · obtain ⟨e1, e2⟩ := h0 e
    rw [e1] at he
    exact ⟨(List.append_eq_nil_iff.1 he.symm).1, e2⟩
  · rw [he, u8s_append, List.getElem?_append_left]
    · exact hj
    · exact (List.getElem?_eq_some_iff.1 hj).1

end Go.Proofs.YtifeakmbeaflgaaDoor.Wi
