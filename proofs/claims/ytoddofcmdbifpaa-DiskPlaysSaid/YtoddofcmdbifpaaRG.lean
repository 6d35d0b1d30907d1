/- A file put into a list in its place, as the reference does it; plain. -/
import Derived.Test.YtoddofcmdbifpaaRE
set_option linter.unusedVariables false
set_option linter.unusedSimpArgs false
set_option maxRecDepth 100000
namespace Go.Proofs.Ytoddofcmdbifpaa
open Go.RowKit

def ins (f : Fl) : List Fl → List Fl
  | [] => [f]
  | y :: ys => if ltF f y = true then f :: y :: ys else y :: ins f ys
theorem ins_perm (f : Fl) : ∀ l, (ins f l).Perm (f :: l)
  | [] => .refl _
  | y :: ys => by
    unfold ins
    split
    · exact .refl _
    · exact ((ins_perm f ys).cons y).trans (List.Perm.swap _ _ _)
theorem ins_rise {f : Fl} : ∀ {l : List Fl}, Rise l → (∀ y ∈ l, sameN y f = false) → Rise (ins f l)
  | [], _, _ => List.pairwise_singleton _ _
  | y :: ys, h, hs => by
    obtain ⟨h1, h2⟩ := List.pairwise_cons.1 h
    unfold ins
    split
    · rename_i hl
      refine List.pairwise_cons.2 ⟨fun z hz => ?_, h⟩
      rcases List.mem_cons.1 hz with rfl | hz
      · exact hl
      · exact lt_trans' hl (h1 z hz)
    · rename_i hl
      refine List.pairwise_cons.2 ⟨fun z hz => ?_, ins_rise h2 (fun z hz => hs z (List.mem_cons_of_mem _ hz))⟩
      rcases List.mem_cons.1 ((ins_perm f ys).mem_iff.1 hz) with rfl | hz
      · have := hs y (List.mem_cons_self ..)
        rcases lt_tri y z with ⟨a, b, c⟩ | ⟨a, b, c⟩ | ⟨a, b, c⟩
        · exact a
        · rw [b] at this; cases this
        · exact absurd c hl
      · exact h1 z hz
theorem rise_one' {l1 l2 : List Fl} (hp : l1.Perm l2) (h1 : Rise l1) (h2 : Rise l2) : l1 = l2 :=
  List.Perm.eq_of_pairwise (le := fun x y => ltF x y = true) (fun a b _ _ q1 q2 => by
    have := lt_trans' q1 q2
    rw [irrF] at this
    cases this) h1 h2 hp
theorem drop_mem' {l : List Fl} {nm : ByteArray} {x : Fl} (h : x ∈ dropF l nm) : x.n ≠ nm := by
  obtain ⟨h1, h2⟩ := List.mem_filter.1 h
  unfold isN at h2
  simpa using h2
/-- What the reference's with makes is what the disk's map holds. -/
theorem ins_setF {l : List Fl} (h : Rise l) (f : Fl) : ins f (dropF l f.n) = setF l f := by
  have e : dropF l f.n = l.filter (fun y => !sameN y f) := by
    unfold dropF
    refine List.filter_congr (fun y _ => ?_)
    rfl
  refine rise_one' ((ins_perm f _).trans (by rw [e]; exact (set_perm f).symm)) (ins_rise (h.filter _) (fun y hy => ?_)) (rise_set h f)
  have := (drop_mem' hy)
  unfold sameN
  exact decide_eq_false this
end Go.Proofs.Ytoddofcmdbifpaa
