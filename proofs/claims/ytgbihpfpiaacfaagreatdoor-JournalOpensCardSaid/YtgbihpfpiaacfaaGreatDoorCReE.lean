/- All's closure goes through the records. -/
import Derived.Test.YtgbihpfpiaacfaaGreatDoorCReD
import Derived.KernelRfl
set_option linter.unusedVariables false
set_option maxRecDepth 100000
namespace Go.Proofs.YtgbihpfpiaacfaaGreatDoor.Rc
open Go.RowKit Go.Shelf
attribute [local go_sem] Oper.semAt_some

/-- What is read between two rounds. -/
def Rd (lo hi bx : Nat) (bs : List Nat) (W : World) : Prop := lo ≤ bx ∧ bx < hi ∧ ∃ r, W.cell? ⟨bx, 0, none⟩ = some r ∧ LiesIn lo hi W r bs
theorem Rd.keep {lo hi bx : Nat} {bs : List Nat} {W W' : World} (h : Rd lo hi bx bs W) (hk : KeepRow lo hi W W') : Rd lo hi bx bs W' := by
  obtain ⟨h1, h2, r, hc, hl⟩ := h
  exact ⟨h1, h2, r, hk.cell h1 h2 hc, hl.keep hk⟩
theorem Rd.later {lo hi bx : Nat} {bs : List Nat} {W W' : World} (h : Rd lo hi bx bs W) (hb : Below W.heap.size W W') : Rd lo hi bx bs W' := by
  obtain ⟨h1, h2, r, hc, hl⟩ := h
  exact ⟨h1, h2, r, (hb.cell (p := ⟨bx, 0, none⟩) (World.block_lt_of_cell? W _ hc)).trans hc, hl.later hb⟩

theorem slice_tail {w : World} {ra : Option Addr} {n rc at_ : Nat} {bs : List Nat} (h : Lies w (.slice ra n rc) bs) (hat : at_ ≤ n) :
    ∃ A, (∀ W, (Instr.slice 39 (.slice ra n rc) (some (.int .i64 (at_ : Int))) none none).run Tryz.prog W = .ok (.slice A (n - at_) (rc - at_)) W) ∧ Lies w (.slice A (n - at_) (rc - at_)) (bs.drop at_) := by
  refine ⟨if rc = at_ then ra else ra.map (·.add (at_ * 1)), fun W => ?_, ?_⟩
  · have hz : (Go.sizeOf (Tryz.prog.elem 39)).run Tryz.prog W = .ok 1 W := by kernel_rfl
    rw [run_slice_l (P := Tryz.prog) (ht := Tryz.underlying39) (h0 := by omega) (h1 := by omega), hz]
    rfl
  · obtain ⟨ao, cap, e, h1, h2, h3, h4⟩ := id h
    injection e with e1 e2 e3
    subst e1 e2 e3
    split
    · rename_i e
      have e0 : bs.drop at_ = [] := List.eq_nil_of_length_eq_zero (by rw [List.length_drop]; omega)
      rw [e0]
      exact ⟨_, _, by rw [show bs.length - at_ = 0 by omega]; rfl, Nat.zero_le _, by omega, (fun e => ⟨rfl, by omega⟩), fun b hb hne => absurd rfl hne⟩
    · cases ra with
      | none => have := (h3 rfl).2; have := (h3 rfl).1; subst this; simp at hat; omega
      | some b =>
        by_cases hne : bs = []
        · subst hne
          simp at hat
          subst hat
          exact ⟨_, _, rfl, Nat.zero_le _, by omega, (fun e => by cases e), fun b hb hne => absurd rfl hne⟩
        · obtain ⟨g, o, rfl, _⟩ := h4 b rfl hne
          have := h.drop at_ hat
          rw [Nat.mul_one]
          show Lies w (.slice (some ((⟨g, o, none⟩ : Addr).add at_)) _ _) _
          rw [add_addr]
          exact this

end Go.Proofs.YtgbihpfpiaacfaaGreatDoor.Rc

