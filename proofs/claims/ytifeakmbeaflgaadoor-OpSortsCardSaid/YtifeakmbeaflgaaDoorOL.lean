/- The reference's Sorted. -/
import Derived.Test.YtifeakmbeaflgaaDoorOH
set_option linter.unusedVariables false
namespace Go.Proofs.YtifeakmbeaflgaaDoor
open Go.RowKit

def lessO (x y : O) : Bool := St.lessB x.t x.r y.t y.r
def stepO (x : O) (s : List O × Bool) (y : O) : List O × Bool := ((if !s.2 && lessO x y then s.1 ++ [x] else s.1) ++ [y], s.2 || lessO x y)
def foldO (x : O) (u : List O) : List O × Bool := u.foldl (stepO x) ([], false)
def insO (x : O) (u : List O) : List O := if (foldO x u).2 then (foldO x u).1 else (foldO x u).1 ++ [x]
def srtO (l : List O) : List O := l.foldl (fun u x => insO x u) []
theorem foldO_snoc (x : O) (u : List O) (j : Nat) (y : O) (h : u[j]? = some y) : foldO x (u.take (j + 1)) = stepO x (foldO x (u.take j)) y := by
  obtain ⟨hlt, e⟩ := List.getElem?_eq_some_iff.1 h
  unfold foldO
  rw [List.take_succ_eq_append_getElem hlt, List.foldl_append, e]
  rfl
theorem srtO_snoc (l : List O) (i : Nat) (x : O) (h : l[i]? = some x) : srtO (l.take (i + 1)) = insO x (srtO (l.take i)) := by
  obtain ⟨hlt, e⟩ := List.getElem?_eq_some_iff.1 h
  unfold srtO
  rw [List.take_succ_eq_append_getElem hlt, List.foldl_append, e]
  rfl
theorem foldO_len (x : O) : ∀ (u : List O) (s : List O × Bool), (u.foldl (stepO x) s).1.length + (if (u.foldl (stepO x) s).2 then 0 else 1) = s.1.length + u.length + (if s.2 then 0 else 1)
  | [], s => rfl
  | y :: u, s => by
    rw [List.foldl_cons, foldO_len x u (stepO x s y)]
    unfold stepO
    cases s.2 <;> cases lessO x y <;> simp <;> omega
theorem insO_len (x : O) (u : List O) : (insO x u).length = u.length + 1 := by
  have := foldO_len x u ([], false)
  unfold insO foldO
  cases h : (List.foldl (stepO x) ([], false) u).2 <;> rw [h] at this <;> simp at this ⊢ <;> omega
theorem foldO_le (x : O) (u : List O) : (foldO x u).1.length ≤ u.length + 1 := by
  have := foldO_len x u ([], false)
  unfold foldO
  simp at this
  omega
theorem srtO_len (l : List O) : (srtO l).length = l.length := by
  have : ∀ (l u : List O), (l.foldl (fun u x => insO x u) u).length = u.length + l.length := by
    intro l
    induction l with
    | nil => intro u; simp
    | cons x l ih => intro u; rw [List.foldl_cons, ih, insO_len, List.length_cons]; omega
  have h := this l []
  unfold srtO
  simpa using h
theorem push_own {w3 w4 : World} {E : Nat} {v v' : Value} {m : List O} {o : O} {ob : Obj} (ho : w3.ownsRow E 25 9 v m.length (cs9 m)) (hE : E ≤ w3.heap.size) (hown : w4.ownsRow E 25 9 v' (m.length + 1) (cs9 m ++ cs9 [o])) (hgr : (w3.alloc ob).grownBy w4 v.ownBlock) : w4.ownsRow E 25 9 v' (m ++ [o]).length (cs9 (m ++ [o])) ∧ Below E w3 w4 :=
  ⟨by rw [List.length_append, cs9_append]; exact hown, ((Below.refl E w3).alloc hE _).trans ((Below.refl E _).grown hgr (Nat.le_trans hE (vstep w3 ob).size) (fun k hk => (ho.lt k hk).1))⟩
theorem OLies.keep {w w' : World} {E : Nat} {v : Value} {l : List O} (h : OLies w v l) (hb : Below E w w') (hE : w.heap.size ≤ E) : OLies w' v l := by
  obtain ⟨ao, cap, rfl, hn, hm, h0, hc⟩ := h
  refine ⟨ao, cap, rfl, hn, hm, h0, fun b hbb hne => ?_⟩
  obtain ⟨g, k, rfl, hk, hc⟩ := hc b hbb hne
  exact ⟨g, k, rfl, Nat.lt_of_lt_of_le hk hb.size, fun j p hj i u hi => (hb.cell (p := ⟨g, k + j * 9 + i, none⟩) (Nat.lt_of_lt_of_le hk hE)).trans (hc j p hj i u hi)⟩
theorem stepO_b (x y : O) (s : List O × Bool) (b : Bool) (h : b = (s.2 || lessO x y)) : (stepO x s y).2 = b := h.symm
end Go.Proofs.YtifeakmbeaflgaaDoor
