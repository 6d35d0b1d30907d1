/- group.Of. Made by gengo17.py. -/
import Derived.Test.YthbliaohaakbiaaGI
set_option linter.unusedVariables false
set_option linter.unusedSimpArgs false
set_option maxRecDepth 100000
namespace Go.Proofs.Ythbliaohaakbiaa
open Go.RowKit Go.Sort Go.WideMaps Go.Maps

/-- Between two rounds. -/
structure OI (w2 wr : World) (b : Nat) (gv : Value) (s : List It) (k : Nat) (gs : List Gn) (f : SF) : Prop where
  row : wr.ownsRow (w2.heap.size + 1) 32 3 gv gs.length (gs.flatMap encN)
  nil : gs = [] → gv = .slice none 0 0
  is : gs.map Gn.p = gOf (s.take k)
  each : ∀ x ∈ gs, wr.ownsRow (w2.heap.size + 1) 39 2 x.v x.l.length (x.l.flatMap encS) ∧ x.v.ownBlock ≠ gv.ownBlock
  apart : gs.Pairwise (fun x y => x.v.ownBlock ≠ y.v.ownBlock)
  map : IMap wr b gs.length f
  fs : ∀ n i, f n = some i → ∃ (j : Nat) (x : Gn), i = j ∧ gs[j]? = some x ∧ x.d = true ∧ x.n = n
  fn : ∀ n, f n = none → ∀ x ∈ gs, ¬ (x.d = true ∧ x.n = n)
  bel : Below w2.heap.size w2 wr
theorem OI.ne {w2 wr : World} {b : Nat} {gv : Value} {s : List It} {k : Nat} {gs : List Gn} {f : SF} (h : OI w2 wr b gv s k gs f) (hu : Unlike s) : ∀ x ∈ gs, x.l ≠ [] := fun x hx => by
  have hk : Unlike (s.take k) := hu.sublist ((List.take_sublist k s).map ndI)
  have := (fine_gOf _ hk).ne x.p (by rw [← h.is]; exact List.mem_map.2 ⟨x, hx, rfl⟩)
  exact this.1
theorem own_some {w : World} {B e k n : Nat} {v : Value} {xs : List Value} (h : w.ownsRow B e k v n xs) (hn : 0 < n) : ∃ g, v.ownBlock = some g ∧ B ≤ g ∧ g < w.heap.size := by
  rcases h.2 with ⟨rfl, h0⟩ | ⟨g, cap, cur, rfl, hB, hb, _⟩
  · omega
  · exact ⟨g, rfl, hB, lt_of_block hb⟩
theorem ne_kept {w w' : World} {B e k n : Nat} {v : Value} {xs : List Value} {row : Option Nat} (h : w.ownsRow B e k v n xs) (hg : w.grownBy w' row) (hne : v.ownBlock ≠ row) : w'.ownsRow B e k v n xs := by
  refine h.kept hg ?_
  cases hv : v.ownBlock with
  | none => exact .inl rfl
  | some g => exact .inr (fun e => hne (by rw [hv, e]))
/-- A fresh world, blocks alone behind it. -/
theorem OI.step {w2 wr wr' : World} {b : Nat} {gv : Value} {s : List It} {k : Nat} {gs : List Gn} {f : SF} (h : OI w2 wr b gv s k gs f) (hb : Below wr.heap.size wr wr') : OI w2 wr' b gv s k gs f :=
  ⟨own_belowK h.row hb, h.nil, h.is, fun x hx => ⟨own_belowK (h.each x hx).1 hb, (h.each x hx).2⟩, h.apart, h.map.step hb, h.fs, h.fn, h.bel.trans (hb.mono h.bel.size)⟩
theorem gput_new {gs : List Gp} {x : It} (h : ∀ g ∈ gs, ¬ (x.d = true ∧ g.d = true ∧ g.n = x.n)) : gput gs x = gs ++ [⟨x.n, x.d, [ndI x]⟩] := by
  unfold gput
  rw [if_neg]
  intro q
  simp only [Bool.and_eq_true, List.any_eq_true, decide_eq_true_eq] at q
  obtain ⟨h1, g, hg, h2, h3⟩ := q
  exact h g hg ⟨h1, h2, h3⟩
theorem gput_old {gs : List Gp} {x : It} {j : Nat} {g : Gp} (hdu : gs.Pairwise (fun a b => ¬ (a.d = true ∧ b.d = true ∧ a.n = b.n))) (hx : x.d = true) (hj : gs[j]? = some g) (hd : g.d = true) (hn : g.n = x.n) : gput gs x = gs.set j ⟨g.n, g.d, g.l ++ [ndI x]⟩ := by
  unfold gput
  have hjl := (List.getElem?_eq_some_iff.1 hj).1
  rw [if_pos (by
    simp only [Bool.and_eq_true, List.any_eq_true, decide_eq_true_eq]
    exact ⟨hx, g, List.mem_of_getElem? hj, hd, hn⟩)]
  apply List.ext_getElem?
  intro i
  rw [List.getElem?_map, List.getElem?_set]
  by_cases e : j = i
  · subst e
    rw [if_pos rfl, if_pos hjl, hj]
    simp [hd, hn]
  · rw [if_neg e]
    cases hi : gs[i]? with
    | none => rfl
    | some y =>
      have hil := (List.getElem?_eq_some_iff.1 hi).1
      have ey := (List.getElem?_eq_some_iff.1 hi).2
      have eg := (List.getElem?_eq_some_iff.1 hj).2
      simp only [Option.map_some]
      rw [if_neg]
      intro q
      simp only [Bool.and_eq_true, decide_eq_true_eq] at q
      rcases Nat.lt_or_ge j i with h | h
      · have := List.pairwise_iff_getElem.1 hdu j i hjl hil h
        rw [ey, eg] at this
        exact this ⟨hd, q.1, hn.trans q.2.symm⟩
      · have := List.pairwise_iff_getElem.1 hdu i j hil hjl (by omega)
        rw [ey, eg] at this
        exact this ⟨q.1, hd, q.2.trans hn.symm⟩
/-- A group of one node, in a block of its own. -/
def Gn.new (x : It) (q : Nat) : Gn := ⟨x.n, x.d, some ⟨q, 0, none⟩, 1, [ndI x]⟩
/-- One more group. -/
theorem OI.push {w2 wr W1 W2 : World} {b : Nat} {gv gv' : Value} {s : List It} {k : Nat} {gs : List Gn} {f f' : SF} {x : It} {q : Nat} (h : OI w2 wr b gv s k gs f) (hx : s[k]? = some x) (hu : Unlike s) (hb1 : b = w2.heap.size)
    (hno : x.d = true → f x.n = none) (hf' : f' = if x.d then upd f x.n (gs.length : Int) else f)
    (hW1 : ∀ (B e kk n : Nat) (v : Value) (xs : List Value), wr.ownsRow B e kk v n xs → W1.ownsRow B e kk v n xs) (hs1 : wr.heap.size ≤ W1.heap.size) (hm1 : IMap W1 b (gs.length + 1) f') (hB1 : Below w2.heap.size w2 W1)
    (hq : W1.heap[q]? = some (.cells #[.int .i64 x.t, .int .i64 x.r] 39 (0, 0))) (hqw : wr.heap.size ≤ q)
    (hrow : W2.ownsRow (w2.heap.size + 1) 32 3 gv' (gs ++ [Gn.new x q]).length ((gs ++ [Gn.new x q]).flatMap encN)) (hg : W1.grownBy W2 gv.ownBlock) (hsp : Sprung W1 gv gv') :
    OI w2 W2 b gv' s (k + 1) (gs ++ [Gn.new x q]) f' := by
  have hbs := h.bel.size
  have hq0 : q < W1.heap.size := lt_of_block hq
  have hgb : ∀ g, gv.ownBlock = some g → g < wr.heap.size ∧ w2.heap.size + 1 ≤ g := fun g hg => by have := h.row.lt g hg; exact ⟨this.2, this.1⟩
  have hx0 : W2.ownsRow (w2.heap.size + 1) 39 2 (.slice (some ⟨q, 0, none⟩) 1 1) 1 (encS (ndI x)) := by
    have hne : some q ≠ gv.ownBlock := fun e => by have := hgb q e.symm; omega
    refine ⟨rfl, .inr ⟨q, 1, #[.int .i64 x.t, .int .i64 x.r], rfl, ?_, ?_, Nat.le_refl _, by unfold maxLen; omega, rfl, rfl⟩⟩
    · have := h.map.lt; omega
    · rw [hg.block q hq0 (fun e => hne e)]; exact hq
  have hold : ∀ y ∈ gs, W2.ownsRow (w2.heap.size + 1) 39 2 y.v y.l.length (y.l.flatMap encS) := fun y hy => ne_kept (hW1 _ _ _ _ _ _ (h.each y hy).1) hg (h.each y hy).2
  have hgp : ∀ y ∈ gs, ¬ (x.d = true ∧ y.d = true ∧ y.n = x.n) := fun y hy ⟨e1, e2, e3⟩ => h.fn x.n (hno e1) y hy ⟨e2, e3⟩
  have hapart : ∀ y ∈ gs, ∀ g, y.v.ownBlock = some g → g < wr.heap.size := fun y hy g e => ((h.each y hy).1.lt g e).2
  have hne := h.ne hu
  refine ⟨hrow, fun e => by simp at e, ?_, fun y hy => ?_, ?_, ?_, ?_, ?_, ?_⟩
  · rw [List.map_append, h.is, take_snoc hx, gOf_snoc, gput_new]
    · rfl
    · intro g hg
      rw [← h.is] at hg
      obtain ⟨y, hy, rfl⟩ := List.mem_map.1 hg
      exact hgp y hy
  · rcases List.mem_append.1 hy with hy | hy
    · refine ⟨hold y hy, fun e => ?_⟩
      obtain ⟨g, hg1, hg2, hg3⟩ := own_some (h.each y hy).1 (by have := hne y hy; cases hq : y.l with | nil => exact absurd hq this | cons => simp)
      rcases hsp with e1 | ⟨g', e1, e2⟩
      · exact (h.each y hy).2 (by rw [e, e1])
      · rw [hg1, e1] at e
        injection e with e
        omega
    · rw [List.mem_singleton] at hy
      subst hy
      refine ⟨hx0, fun e => ?_⟩
      have e : some q = gv'.ownBlock := e
      rcases hsp with e1 | ⟨g', e1, e2⟩
      · rw [e1] at e; have := hgb q e.symm; omega
      · rw [e1] at e; injection e with e; omega
  · rw [List.pairwise_append]
    refine ⟨h.apart, List.pairwise_singleton _ _, fun y hy z hz => ?_⟩
    rw [List.mem_singleton] at hz
    subst hz
    intro e
    have e : y.v.ownBlock = some q := e
    have := hapart y hy q e
    omega
  · rw [List.length_append]
    exact hm1.grown hg (row_imap (hW1 _ _ _ _ _ _ h.row) hm1)
  · intro n i hn
    subst hf'
    cases hd : x.d with
    | false =>
      rw [hd] at hn
      obtain ⟨j, y, h1, h2, h3⟩ := h.fs n i hn
      exact ⟨j, y, h1, by rw [List.getElem?_append_left (List.getElem?_eq_some_iff.1 h2).1]; exact h2, h3⟩
    | true =>
      rw [hd] at hn
      simp only [if_true] at hn
      by_cases e : n = x.n
      · subst e
        rw [upd_same] at hn
        injection hn with hn
        exact ⟨gs.length, _, hn.symm, by rw [List.getElem?_append_right (Nat.le_refl _)]; simp; rfl, by exact hd, rfl⟩
      · rw [upd_other e] at hn
        obtain ⟨j, y, h1, h2, h3⟩ := h.fs n i hn
        exact ⟨j, y, h1, by rw [List.getElem?_append_left (List.getElem?_eq_some_iff.1 h2).1]; exact h2, h3⟩
  · intro n hn y hy
    subst hf'
    rintro ⟨q1, q2⟩
    rcases List.mem_append.1 hy with hy | hy
    · cases hd : x.d with
      | false => rw [hd] at hn; exact h.fn n hn y hy ⟨q1, q2⟩
      | true =>
        rw [hd] at hn
        simp only [if_true] at hn
        by_cases e : n = x.n
        · subst e; rw [upd_same] at hn; cases hn
        · rw [upd_other e] at hn; exact h.fn n hn y hy ⟨q1, q2⟩
    · rw [List.mem_singleton] at hy
      subst hy
      have q1 : x.d = true := q1
      have q2 : x.n = n := q2
      rw [q1] at hn
      simp only [if_true] at hn
      rw [q2, upd_same] at hn
      cases hn
  · exact hB1.grown hg hB1.size (fun g e => by have := hgb g e; omega)
theorem set_mem {α : Type} {l : List α} {j : Nat} {a y : α} (h : y ∈ l.set j a) : (∃ i : Nat, i ≠ j ∧ l[i]? = some y) ∨ (y = a ∧ j < l.length) := by
  obtain ⟨i, hi⟩ := List.mem_iff_getElem?.1 h
  rw [List.getElem?_set] at hi
  by_cases e : j = i
  · rw [if_pos e] at hi
    by_cases hl : j < l.length
    · rw [if_pos hl] at hi; injection hi with hi; exact .inr ⟨hi.symm, hl⟩
    · rw [if_neg hl] at hi; cases hi
  · rw [if_neg e] at hi
    exact .inl ⟨i, fun q => e q.symm, hi⟩
/-- A node more in a group that is there. -/
theorem OI.more {w2 wr W1 W2 : World} {b ga gc : Nat} {s : List It} {k : Nat} {gs : List Gn} {f : SF} {x : It} {j : Nat} {y : Gn} {a' : Option Addr} {c' : Nat} (h : OI w2 wr b (.slice (some ⟨ga, 0, none⟩) gs.length gc) s k gs f) (hx : s[k]? = some x) (hu : Unlike s) (hd : x.d = true) (hb1 : b = w2.heap.size)
    (hj : gs[j]? = some y) (hyd : y.d = true) (hyn : y.n = x.n)
    (hW1 : Below wr.heap.size wr W1) (hrow : W2.ownsRow (w2.heap.size + 1) 39 2 (.slice a' (y.l ++ [ndI x]).length c') (y.l ++ [ndI x]).length ((y.l ++ [ndI x]).flatMap encS)) (hg : W1.grownBy W2 y.v.ownBlock) (hsp : Sprung W1 y.v (.slice a' (y.l ++ [ndI x]).length c')) :
    OI w2 (W2.setCell ⟨ga, j * 3 + 2, none⟩ (.slice a' (y.l ++ [ndI x]).length c')) b (.slice (some ⟨ga, 0, none⟩) (gs.set j ⟨y.n, y.d, a', c', y.l ++ [ndI x]⟩).length gc) s (k + 1) (gs.set j ⟨y.n, y.d, a', c', y.l ++ [ndI x]⟩) f := by
  have h1 := h.step hW1
  have hym := List.mem_of_getElem? hj
  have hjl := (List.getElem?_eq_some_iff.1 hj).1
  have hgaB := h1.row.lt ga rfl
  have hne := h.ne hu
  obtain ⟨yb, hyb, hyb1, hyb2⟩ := own_some (h1.each y hym).1 (by have := hne y hym; cases hq : y.l with | nil => exact absurd hq this | cons => simp)
  have hyga : yb ≠ ga := fun e => (h1.each y hym).2 (by rw [hyb, e]; rfl)
  have hgS := grown_setCell W2 ga (j * 3 + 2) (.slice a' (y.l ++ [ndI x]).length c')
  have hrow2 : W2.ownsRow (w2.heap.size + 1) 32 3 (.slice (some ⟨ga, 0, none⟩) gs.length gc) gs.length (gs.flatMap encN) := ne_kept h1.row hg (fun e => (h1.each y hym).2 e.symm)
  have hv' : ∀ g, (Value.slice a' (y.l ++ [ndI x]).length c').ownBlock = some g → g ≠ ga ∧ (g = yb ∨ W1.heap.size ≤ g) := fun g e => by
    rcases hsp with e1 | ⟨g', e1, e2⟩
    · rw [e1, hyb] at e; injection e with e; exact ⟨by omega, .inl e.symm⟩
    · rw [e1] at e; injection e with e; exact ⟨by omega, .inr (by omega)⟩
  have hoth : ∀ (i : Nat) z, i ≠ j → gs[i]? = some z → z.v.ownBlock ≠ y.v.ownBlock := fun i z hij hz => by
    have hil := (List.getElem?_eq_some_iff.1 hz).1
    have ez := (List.getElem?_eq_some_iff.1 hz).2
    have ey := (List.getElem?_eq_some_iff.1 hj).2
    rcases Nat.lt_or_ge i j with q | q
    · have := List.pairwise_iff_getElem.1 h.apart i j hil hjl q
      rwa [ez, ey] at this
    · have := List.pairwise_iff_getElem.1 h.apart j i hjl hil (by omega)
      rw [ez, ey] at this
      exact fun e => this e.symm
  have hblk : ∀ z ∈ gs, ∃ g, z.v.ownBlock = some g ∧ g < W1.heap.size := fun z hz => by
    obtain ⟨g, e1, _, e3⟩ := own_some (h1.each z hz).1 (by have := hne z hz; cases hq : z.l with | nil => exact absurd hq this | cons => simp)
    exact ⟨g, e1, e3⟩
  refine ⟨own_set encN_len hrow2 hj (by omega) rfl, fun e => ?_, ?_, fun z hz => ?_, ?_, ?_, ?_, ?_, ?_⟩
  · have := congrArg List.length e
    rw [List.length_set] at this
    simp at this
    rw [this] at hjl
    simp at hjl
  · rw [List.map_set, h.is, take_snoc hx, gOf_snoc]
    have hk : Unlike (s.take k) := hu.sublist ((List.take_sublist k s).map ndI)
    have hjp : (gOf (s.take k))[j]? = some y.p := by rw [← h.is, List.getElem?_map, hj]; rfl
    rw [gput_old (fine_gOf _ hk).du hd hjp hyd hyn]
    rfl
  · rcases set_mem hz with ⟨i, hij, hz⟩ | ⟨rfl, _⟩
    · have hzm := List.mem_of_getElem? hz
      refine ⟨ne_kept (ne_kept (h1.each z hzm).1 hg (hoth i z hij hz)) hgS (h1.each z hzm).2, (h1.each z hzm).2⟩
    · refine ⟨ne_kept hrow hgS (fun e => ?_), fun e => ?_⟩
      · have := hv' ga e; exact this.1 rfl
      · have e : (Value.slice a' (y.l ++ [ndI x]).length c').ownBlock = some ga := e
        exact (hv' ga e).1 rfl
  · rw [List.pairwise_iff_getElem]
    intro p q hp hq hpq e
    rw [List.length_set] at hp hq
    rw [List.getElem_set, List.getElem_set] at e
    by_cases e1 : j = p
    · have e2 : j ≠ q := by omega
      rw [if_pos e1, if_neg e2] at e
      obtain ⟨g, z1, z2⟩ := hblk gs[q] (List.getElem_mem _)
      have e : (Value.slice a' (y.l ++ [ndI x]).length c').ownBlock = gs[q].v.ownBlock := e
      rw [z1] at e
      rcases (hv' g e).2 with r | r
      · exact hoth q gs[q] (by omega) (List.getElem?_eq_getElem hq) (by rw [z1, hyb, r])
      · omega
    · by_cases e2 : j = q
      · rw [if_neg e1, if_pos e2] at e
        obtain ⟨g, z1, z2⟩ := hblk gs[p] (List.getElem_mem _)
        have e : gs[p].v.ownBlock = (Value.slice a' (y.l ++ [ndI x]).length c').ownBlock := e
        rw [z1] at e
        rcases (hv' g e.symm).2 with r | r
        · exact hoth p gs[p] (by omega) (List.getElem?_eq_getElem hp) (by rw [z1, hyb, r])
        · omega
      · rw [if_neg e1, if_neg e2] at e
        exact List.pairwise_iff_getElem.1 h.apart p q hp hq hpq e
  · rw [List.length_set]
    have m1 := h1.map.grown hg (row_imap (h1.each y hym).1 h1.map)
    exact m1.grown hgS (row_imap hrow2 m1)
  · intro n i hn
    obtain ⟨jj, z, q1, q2, q3, q4⟩ := h.fs n i hn
    by_cases e : jj = j
    · subst e
      rw [hj] at q2
      injection q2 with q2
      subst q2
      exact ⟨jj, ⟨y.n, y.d, a', c', y.l ++ [ndI x]⟩, q1, by rw [List.getElem?_set_self hjl], q3, q4⟩
    · exact ⟨jj, z, q1, by rw [List.getElem?_set_ne (fun q => e q.symm)]; exact q2, q3, q4⟩
  · intro n hn z hz
    rcases set_mem hz with ⟨i, _, hz⟩ | ⟨rfl, _⟩
    · exact h.fn n hn z (List.mem_of_getElem? hz)
    · exact h.fn n hn y hym
  · have b1 := h1.bel.grown hg h1.bel.size (fun g e => by rw [hyb] at e; injection e with e; omega)
    exact b1.grown hgS b1.size (fun g e => by injection e with e; omega)
end Go.Proofs.Ythbliaohaakbiaa
