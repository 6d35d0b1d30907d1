/- A table: Kids. -/
import Derived.Test.YthbmbpnpigpgpaaTG
import Derived.Test.YthbmbpnpigpgpaaRk
set_option linter.unusedVariables false
set_option maxRecDepth 100000
namespace Go.Proofs.Ythbmbpnpigpgpaa
open Go.RowKit Go.WideMaps Go.Maps

theorem info24 : (Try.prog.info? 61).map (fun i => (i.zero, i.size, i.bytes)) = some (some (.agg #[.int .i64 0, .int .i64 0]), 2, 16) := by kernel_rfl
theorem Try.u43 : Try.prog.underlying 24 = some (.slice 61) := by kernel_rfl
def stOf (x : Rw) : Sp := (x.t, x.r)
def atP (pt pr : Int) (x : Rw) : Bool := decide (x.pt = pt ∧ x.pr = pr)
theorem rise_sorted {l : List Rw} (h : Rise l) : (l.map stOf).Pairwise (fun x y => ltS y.1 y.2 x.1 x.2 = false) := by
  rw [List.pairwise_map]
  refine h.imp (fun {a b} hab => ?_)
  rcases lt_tri a b with ⟨q1, q2, q3⟩ | ⟨q1, q2, q3⟩ | ⟨q1, q2, q3⟩
  · exact q3
  · rw [hab] at q1; cases q1
  · rw [hab] at q1; cases q1
theorem ltS_eq {a b c d : Int} (h1 : ltS a b c d = false) (h2 : ltS c d a b = false) : a = c ∧ b = d := by
  unfold ltS at *
  split at h1 <;> split at h2 <;> simp at * <;> omega
theorem sorted_one {l1 l2 : List Sp} (hp : l1.Perm l2) (h1 : l1.Pairwise (fun x y => ltS y.1 y.2 x.1 x.2 = false)) (h2 : l2.Pairwise (fun x y => ltS y.1 y.2 x.1 x.2 = false)) : l1 = l2 := by
  refine List.Perm.eq_of_pairwise (le := fun x y => ltS y.1 y.2 x.1 x.2 = false) (fun a b _ _ q1 q2 => ?_) h1 h2 hp
  obtain ⟨e1, e2⟩ := ltS_eq q1 q2
  exact Prod.ext e1.symm e2.symm
end Go.Proofs.Ythbmbpnpigpgpaa

