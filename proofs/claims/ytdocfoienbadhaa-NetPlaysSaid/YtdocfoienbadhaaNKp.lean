/- Whose memory is a net's: what a call of it leaves as it was. -/
import Derived.Test.YtdocfoienbadhaaNB
set_option linter.unusedVariables false
namespace Go.Proofs.Ytdocfoienbadhaa
open Go.RowKit

def NOwn (p : Nat) (fv : Value) (fl : List Fl) (k : Nat) : Prop := k = p ∨ fv.ownBlock = some k ∨ ∃ f ∈ fl, f.bv.ownBlock = some k
structure Kp (w w' : World) (p : Nat) (fv : Value) (fl : List Fl) (fv' : Value) (fl' : List Fl) : Prop where
  size : w.heap.size ≤ w'.heap.size
  keep : ∀ k, k < w.heap.size → ¬ NOwn p fv fl k → w'.heap[k]? = w.heap[k]?
  own : ∀ k, NOwn p fv' fl' k → NOwn p fv fl k ∨ w.heap.size ≤ k
section
variable {w w1 w' : World} {p b o : Nat} {fv fv' : Value} {fl fl' : List Fl} {v : Value}
theorem Kp.of_below (h : Below w.heap.size w w') : Kp w w' p fv fl fv fl := ⟨h.size, fun k hk _ => h.block k hk, fun k hk => .inl hk⟩
theorem Kp.front (h : Below w.heap.size w w1) (k : Kp w1 w' p fv fl fv' fl') : Kp w w' p fv fl fv' fl' :=
  ⟨Nat.le_trans h.size k.size, fun j hj hn => (k.keep j (Nat.lt_of_lt_of_le hj h.size) hn).trans (h.block j hj), fun j hj => (k.own j hj).imp id (fun x => Nat.le_trans h.size x)⟩
theorem Kp.back (k : Kp w w1 p fv fl fv' fl') (h : Below w1.heap.size w1 w') : Kp w w' p fv fl fv' fl' :=
  ⟨Nat.le_trans k.size h.size, fun j hj hn => (h.block j (Nat.lt_of_lt_of_le hj k.size)).trans (k.keep j hj hn), k.own⟩
theorem Kp.setNew (k : Kp w w' p fv fl fv' fl') (hb : w.heap.size ≤ b) : Kp w (w'.setCell ⟨b, o, none⟩ v) p fv fl fv' fl' :=
  ⟨by simpa using k.size, fun j hj hn => (Below.heap_setCell (a := ⟨b, o, none⟩) _ _ _ (show j ≠ b by omega)).trans (k.keep j hj hn), k.own⟩
theorem Kp.setOwn (k : Kp w w' p fv fl fv' fl') (hb : NOwn p fv fl b) : Kp w (w'.setCell ⟨b, o, none⟩ v) p fv fl fv' fl' :=
  ⟨by simpa using k.size, fun j hj hn => (Below.heap_setCell (a := ⟨b, o, none⟩) _ _ _ (show j ≠ b from fun e => hn (by rw [e]; exact hb))).trans (k.keep j hj hn), k.own⟩
theorem Kp.newOwn {fv2 : Value} {fl2 : List Fl} (k : Kp w w' p fv fl fv' fl') (h : ∀ j, NOwn p fv2 fl2 j → NOwn p fv' fl' j ∨ NOwn p fv fl j ∨ w.heap.size ≤ j) : Kp w w' p fv fl fv2 fl2 :=
  ⟨k.size, k.keep, fun j hj => by
    rcases h j hj with h1 | h1
    · exact k.own j h1
    · exact h1⟩
end
theorem NetAt.own_lt {B : Nat} {w : World} {p : Nat} {fv : Value} {fl : List Fl} {lost : Int} (h : NetAt B w p fv fl lost) {k : Nat} (hk : NOwn p fv fl k) : B ≤ k ∧ k < w.heap.size := by
  rcases hk with rfl | hk | ⟨f, hf, hk⟩
  · exact ⟨h.pB, lt_of_block h.row0⟩
  · exact h.row.lt k hk
  · exact (h.byt f hf).1.lt k hk
theorem kp_sent {w W1 W2 : World} {p : Nat} {fv v' r : Value} {fl : List Fl} {dst : Int} {bs : List Nat} {hurt : Bool} (hb : Below w.heap.size w W1) (hr : W1.ownsRow w.heap.size 5 1 r bs.length (u8s bs)) (hg : W1.grownBy W2 fv.ownBlock) (hs : Sprung W1 fv v') :
    Kp w (W2.setCell ⟨p, 0, none⟩ v') p fv fl v' (fl ++ [⟨dst, r, bs, hurt⟩]) := by
  refine ⟨by simpa using Nat.le_trans hb.size hg.size, fun k hk hn => ?_, fun k hk => ?_⟩
  · refine (Below.heap_setCell (a := ⟨p, 0, none⟩) _ _ _ (show k ≠ p from fun e => hn (.inl e))).trans ?_
    exact (hg.block k (Nat.lt_of_lt_of_le hk hb.size) (fun e => hn (.inr (.inl e.symm)))).trans (hb.block k hk)
  · have hsz := hb.size
    rcases hk with h | h | ⟨f, hf, h⟩
    · exact .inl (.inl h)
    · rcases hs with e | ⟨k', e, hk'⟩
      · exact .inl (.inr (.inl (by rw [← e]; exact h)))
      · rw [h] at e; injection e with e; right; omega
    · rcases List.mem_append.1 hf with hf | hf
      · exact .inl (.inr (.inr ⟨f, hf, h⟩))
      · rw [List.mem_singleton.1 hf] at h
        exact .inr (hr.lt k h).1
end Go.Proofs.Ytdocfoienbadhaa
