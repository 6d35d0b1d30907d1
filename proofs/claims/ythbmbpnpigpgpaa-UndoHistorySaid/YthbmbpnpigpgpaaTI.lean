/- A table: Kids, walked. -/
import Derived.Test.YthbmbpnpigpgpaaTH
set_option linter.unusedVariables false
set_option maxRecDepth 100000
namespace Go.Proofs.Ythbmbpnpigpgpaa
open Go.RowKit Go.WideMaps Go.Maps

theorem row_iter {w : World} {b r : Nat} {l done : List Rw} {base : Nat} {e : TypeId} {size : Nat} {v : Value} {m : Nat} {xs : List Value} (h : w.ownsRow base e size v m xs) (hr : TRg w b r l done) : some r ≠ v.ownBlock := by
  obtain ⟨es, left, cnt, h1, _⟩ := hr
  obtain ⟨_, _, _, _, _, _, _, _, _, hit, _⟩ := h1
  rcases h.2 with ⟨rfl, _⟩ | ⟨g, cap, cur, rfl, _, hb, _⟩
  · simp [Value.ownBlock]
  · intro e1
    have : r = g := by simpa [Value.ownBlock] using e1
    subst this
    rw [hit] at hb
    cases hb
abbrev kd (done : List Rw) (pt pr : Int) : List Sp := (done.filter (atP pt pr)).map stOf
/-- Kids, between two rounds. -/
structure KI (w W : World) (b r : Nat) (l : List Rw) (pt pr : Int) (v : Value) (done : List Rw) : Prop where
  rg : TRg W b r l done
  own : W.ownsRow (w.heap.size + 1) 61 2 v (kd done pt pr).length ((kd done pt pr).flatMap encS)
  box : StAt W w.heap.size pt pr
  bel : Below w.heap.size w W
  big : w.heap.size + 1 ≤ r
theorem KI.len {w W : World} {b r : Nat} {l : List Rw} {pt pr : Int} {v : Value} {done : List Rw} (h : KI w W b r l pt pr v done) : done.length ≤ l.length := by
  obtain ⟨es, left, cnt, _, _, _, h4, _, h6, h7⟩ := h.rg
  exact List.Nodup.length_le_of_subset h6 h7
theorem KI.step {w W W' : World} {b r : Nat} {l : List Rw} {pt pr : Int} {v : Value} {done : List Rw} (h : KI w W b r l pt pr v done) (hb : Below W.heap.size W W') : KI w W' b r l pt pr v done ∧ W'.rangeLeft b r = W.rangeLeft b r := by
  have hg := below_grown hb none
  have k := h.rg.kept hg (by simp) (by simp)
  exact ⟨⟨k.1, own_belowK h.own hb, h.box.step hb, h.bel.trans (hb.mono h.bel.size), h.big⟩, k.2⟩
/-- The iterator's step. -/
theorem KI.next {w W W' : World} {b r : Nat} {l : List Rw} {pt pr : Int} {v : Value} {done : List Rw} (h : KI w W b r l pt pr v done) (hg : W.grownBy W' (some r)) : W'.ownsRow (w.heap.size + 1) 61 2 v (kd done pt pr).length ((kd done pt pr).flatMap encS) ∧ StAt W' w.heap.size pt pr ∧ Below w.heap.size w W' := by
  refine ⟨h.own.kept hg ?_, (hg.block _ (lt_of_block h.box) (fun e => by injection e with e; have := h.big; omega)).trans h.box, h.bel.grown hg h.bel.size (fun k e => by cases e; have := h.big; omega)⟩
  have := row_iter h.own h.rg
  cases hv : v.ownBlock with
  | none => exact .inl rfl
  | some g => exact .inr (fun e => this (by rw [hv, e]))
end Go.Proofs.Ythbmbpnpigpgpaa

