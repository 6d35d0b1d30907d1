/- The reference's disk: with. Made by genrw10.py. -/
import Derived.Test.YtoddofcmdbifpaaRG
set_option linter.unusedVariables false
set_option linter.unusedSimpArgs false
set_option maxRecDepth 100000
namespace Go.Proofs.Ytoddofcmdbifpaa
open Go.RowKit Go.WideMaps Go.Maps

theorem wpList_run_append {w : World} {ops : Array Oper} {rest : List Oper} {o : Oper} {a : Act} {Q : Exit → Act → World → Prop} (hgd : o.guard = none) (s x : Operand)
    (ho : o.op = .call { callee := .builtin .append, args := #[s, x], argTypes := #[27, 27] }) (v xv u : Value) (w' : World) (hs : a.eval s = v) (hx : a.eval x = xv) (hrun : (Builtin.append_ #[27, 27] o.type #[v, xv]).run Try.prog w = .ok u w')
    (h : wpList Try.prog ops Q rest (a.put o.dst u) w') : wpList Try.prog ops Q (o :: rest) a w := by
  refine wpList_plain hgd fun K hK => ?_
  unfold Oper.wp
  simp only [execOp, ho, resolve, invoke, builtin, Sem.run_bind, Sem.run_pure, Result.andThen_ok, List.map_toArray, List.map_cons, List.map_nil, hs, hx, hrun]
  exact hK _ _ h
def FR (w : World) (g : Nat) (f : Fl) : Prop := w.heap[g]? = some (.cells #[.string f.n, .slice f.a f.b.length f.c, .int .i64 f.s] 66 (0, 0))
theorem FR.cells {w : World} {g : Nat} {f : Fl} (h : FR w g f) : w.cell? ⟨g, 0, none⟩ = some (.string f.n) ∧ w.cell? ⟨g, 1, none⟩ = some (.slice f.a f.b.length f.c) ∧ w.cell? ⟨g, 2, none⟩ = some (.int .i64 f.s) := by
  refine ⟨?_, ?_, ?_⟩ <;> (rw [cell_of_row _ _ _ _ _ _ h]; rfl)
theorem FR.far {P : Nat → Prop} {w w' : World} {g : Nat} {f : Fl} (h : FR w g f) (hf : Far P w w') (hn : ¬ P g) : FR w' g f := (hf.block g (lt_of_block h) hn).trans h
structure XI (w : World) (e s3 : Nat) (W : World) (f : Fl) (xv : Value) (xl m : List Fl) (room lasts : Int) (dn : Bool) (u : Value) : Prop where
  lo : w.heap.size + 3 ≤ e ∧ e ≤ s3
  g1 : FR W (w.heap.size + 1) f
  g2 : RB W (w.heap.size + 2) (.slice none 0 0) 0 0 false
  g3 : RB W s3 xv room lasts dn
  g4 : RB W (s3 + 1) u room lasts dn
  xs : W.ownsRow e 66 3 xv xl.length (xl.flatMap encR)
  xb : ∀ j, xv.ownBlock = some j → j < s3
  own : W.ownsRow (s3 + 2) 66 3 u m.length (m.flatMap encR)
  bel : Below w.heap.size w W
/-- What a push leaves. -/
theorem XI.next {w W W' : World} {e s3 : Nat} {f : Fl} {xv u u' : Value} {xl m m' : List Fl} {room lasts : Int} {dn : Bool} (h : XI w e s3 W f xv xl m room lasts dn u) (hf : Far (fun k => u.ownBlock = some k ∨ k = s3 + 1) W W') (h4 : RB W' (s3 + 1) u' room lasts dn) (ho : W'.ownsRow (s3 + 2) 66 3 u' m'.length (m'.flatMap encR)) : XI w e s3 W' f xv xl m' room lasts dn u' := by
  have ap : ∀ j, u.ownBlock = some j → s3 + 2 ≤ j := fun j q => (h.own.lt j q).1
  have hlo := h.lo
  refine ⟨h.lo, h.g1.far hf ?_, h.g2.far hf ?_, h.g3.far hf ?_, h4, hf.row h.xs (fun j q r => ?_), h.xb, ho, h.bel.trans (hf.below h.bel.size (fun k r => ?_))⟩
  · rintro (q | q)
    · have := ap _ q; omega
    · omega
  · rintro (q | q)
    · have := ap _ q; omega
    · omega
  · rintro (q | q)
    · have := ap _ q; omega
    · omega
  · have := h.xb j q
    rcases r with r | r
    · have := ap _ r; omega
    · omega
  · rcases r with r | r
    · have := ap _ r; omega
    · omega
def INV (f : Fl) (xl : List Fl) (bd : Bool) (i : Nat) (m : List Fl) : Prop := if bd = true then m ++ xl.drop i = ins f xl else (m = xl.take i ∧ xl.take i ++ ins f (xl.drop i) = ins f xl)
theorem inv_zero (f : Fl) (xl : List Fl) : INV f xl false 0 [] := by simp [INV]
theorem inv_go {f : Fl} {xl : List Fl} {i : Nat} {m : List Fl} {x : Fl} (hx : xl[i]? = some x) (h : INV f xl true i m) : INV f xl true (i + 1) (m ++ [x]) := by
  unfold INV at *
  simp only [if_true] at *
  have hi := (List.getElem?_eq_some_iff.1 hx).1
  have he := (List.getElem?_eq_some_iff.1 hx).2
  rw [← h, List.append_assoc, List.drop_eq_getElem_cons hi, he]
  rfl
theorem inv_put {f : Fl} {xl : List Fl} {i : Nat} {m : List Fl} {x : Fl} (hx : xl[i]? = some x) (h : INV f xl false i m) (hl : ltF f x = true) : INV f xl true i (m ++ [f]) := by
  unfold INV at *
  simp only [if_true, Bool.false_eq_true, if_false] at *
  have hi := (List.getElem?_eq_some_iff.1 hx).1
  have he := (List.getElem?_eq_some_iff.1 hx).2
  obtain ⟨h1, h2⟩ := h
  rw [← h2, h1, List.append_assoc, List.drop_eq_getElem_cons hi, he]
  conv => rhs; unfold ins
  rw [if_pos hl]
  rfl
theorem inv_pass {f : Fl} {xl : List Fl} {i : Nat} {m : List Fl} {x : Fl} (hx : xl[i]? = some x) (h : INV f xl false i m) (hl : ltF f x = false) : INV f xl false (i + 1) (m ++ [x]) := by
  unfold INV at *
  simp only [Bool.false_eq_true, if_false] at *
  have hi := (List.getElem?_eq_some_iff.1 hx).1
  have he := (List.getElem?_eq_some_iff.1 hx).2
  obtain ⟨h1, h2⟩ := h
  have et : xl.take (i + 1) = xl.take i ++ [x] := by rw [List.take_add_one, hx]; rfl
  refine ⟨by rw [h1, et], ?_⟩
  rw [← h2, et, List.append_assoc, List.drop_eq_getElem_cons hi, he]
  conv => rhs; unfold ins
  rw [if_neg (by rw [hl]; simp)]
  rfl
theorem inv_end {f : Fl} {xl : List Fl} {m : List Fl} (h : INV f xl true xl.length m) : m = ins f xl := by
  unfold INV at h
  simpa using h
theorem inv_last {f : Fl} {xl : List Fl} {m : List Fl} (h : INV f xl false xl.length m) : m ++ [f] = ins f xl := by
  unfold INV at h
  simp only [Bool.false_eq_true, if_false, List.take_length, List.drop_length] at h
  rw [h.1, ← h.2]
  rfl
end Go.Proofs.Ytoddofcmdbifpaa
