/- Add of a tree: the row while it is gone through. -/
import Derived.Test.YtkmeceoilighiaaEE
set_option linter.unusedVariables false
set_option linter.unusedSimpArgs false
set_option maxRecDepth 100000
namespace Go.Proofs.Ytkmeceoilighiaa
open Go.RowKit Go.Shelf Go.Lib
open Tb (Rw setF dropF getF aboveF Rise TabI TM LiesK TOut)

/-! ### plain -/
def rowF (T0 : List Rw) (M : List O) (Old : List Stp) (i : Nat) : List Stp := (stepsF T0 M).take i ++ Old.drop i
theorem steps_get : ∀ (M : List O) (T : List Rw) (i : Nat) (o : O), M[i]? = some o → (stepsF T M)[i]? = some (stepF (playF T (M.take i)) o)
  | [], _, _, _, h => by simp at h
  | x :: M, T, 0, o, h => by simp at h; subst h; rfl
  | x :: M, T, i + 1, o, h => by
    have h : M[i]? = some o := by simpa using h
    show (stepsF (doF T x) M)[i]? = _
    rw [steps_get M (doF T x) i o h]
    rfl
theorem play_snoc (T : List Rw) {M : List O} {i : Nat} {o : O} (h : M[i]? = some o) : playF T (M.take (i + 1)) = doF (playF T (M.take i)) o := by
  rw [Tb.take_snoc h, play_append]; rfl
theorem row_len {T0 : List Rw} {M : List O} {Old : List Stp} (hl : Old.length = M.length) {i : Nat} (hi : i ≤ M.length) : (rowF T0 M Old i).length = M.length := by
  unfold rowF
  rw [List.length_append, List.length_take, List.length_drop, steps_len]
  omega
theorem row_at {T0 : List Rw} {M : List O} {Old : List Stp} (hl : Old.length = M.length) {i : Nat} (hi : i < M.length) : (rowF T0 M Old i)[i]? = Old[i]? := by
  have e : ((stepsF T0 M).take i).length = i := by rw [List.length_take, steps_len]; omega
  unfold rowF
  rw [List.getElem?_append_right (by omega), e, Nat.sub_self, List.getElem?_drop]
  rfl
theorem row_list {α : Type} (A b C Z x : List α) (i : Nat) (hA : A.length = i * 15) (hb : b.length = 15) : (A ++ (b ++ C) ++ Z).take (i * 15) ++ x ++ (A ++ (b ++ C) ++ Z).drop (i * 15 + 15) = A ++ x ++ C ++ Z := by
  have e1 : (A ++ (b ++ C) ++ Z).take (i * 15) = A := by rw [List.append_assoc, ← hA, List.take_left]
  have e2 : (A ++ (b ++ C) ++ Z).drop (i * 15 + 15) = C ++ Z := by
    rw [show A ++ (b ++ C) ++ Z = (A ++ b) ++ (C ++ Z) by simp [List.append_assoc], show i * 15 + 15 = (A ++ b).length by rw [List.length_append]; omega, List.drop_left]
  rw [e1, e2]
  simp [List.append_assoc]
theorem row_set {T0 : List Rw} {M : List O} {Old : List Stp} (hl : Old.length = M.length) {i : Nat} {o : O} (ho : M[i]? = some o) (Z : List Value) :
    (stc (rowF T0 M Old i) ++ Z).take (i * 15) ++ stc1 (stepF (playF T0 (M.take i)) o) ++ (stc (rowF T0 M Old i) ++ Z).drop (i * 15 + 15) = stc (rowF T0 M Old (i + 1)) ++ Z := by
  have hi := (List.getElem?_eq_some_iff.1 ho).1
  have e : ((stepsF T0 M).take i).length = i := by rw [List.length_take, steps_len]; omega
  have hd : Old.drop i = Old[i] :: Old.drop (i + 1) := List.drop_eq_getElem_cons (by omega)
  have ht : (stepsF T0 M).take (i + 1) = (stepsF T0 M).take i ++ [stepF (playF T0 (M.take i)) o] := Tb.take_snoc (steps_get M T0 i o ho)
  unfold rowF
  rw [hd, ht, stc_append, stc_cons, stc_append, stc_append]
  have ex : stc [stepF (playF T0 (M.take i)) o] = stc1 (stepF (playF T0 (M.take i)) o) := by unfold stc; simp
  rw [ex, row_list (stc ((stepsF T0 M).take i)) (stc1 Old[i]) (stc (Old.drop (i + 1))) Z _ i (by rw [stc_len, e]) rfl]
theorem row_end {T0 : List Rw} {M : List O} {Old : List Stp} (hl : Old.length = M.length) : rowF T0 M Old M.length = stepsF T0 M := by
  unfold rowF
  rw [← hl, List.drop_length, hl, ← steps_len M T0, List.take_length, List.append_nil]
theorem row_start {T0 : List Rw} {M : List O} {Old : List Stp} {k : Nat} (h : (stepsF T0 M).take k = Old.take k) : rowF T0 M Old k = Old := by
  unfold rowF
  rw [h, List.take_append_drop]
def OkL (L : List O) : Prop := ∀ o ∈ L, OkO o
def OkT (T : List Rw) : Prop := ∀ x ∈ T, x.ok
theorem i64_0 : Tb.I64 0 := ⟨by omega, by omega⟩
theorem do_okT {T : List Rw} (h : OkT T) {o : O} (ho : OkO o) : OkT (doF T o) := by
  unfold doF
  split
  · exact h
  · intro x hx
    rcases Tb.mem_set.1 hx with rfl | hx
    · exact ⟨ho.nt, ho.nr, ho.pt, ho.pr⟩
    · exact h x hx.1
theorem step_ok {T : List Rw} (h : OkT T) {o : O} (ho : OkO o) : (stepF T o).ok := by
  unfold stepF
  split
  · exact ⟨ho.nt, ho.nr, i64_0, i64_0⟩
  · refine ⟨ho.nt, ho.nr, ?_, ?_⟩
    · show Tb.I64 (wasF T o.nt o.nr).pt
      unfold wasF
      cases hg : getF T o.nt o.nr with
      | none => exact i64_0
      | some x => exact (h x (List.mem_of_find?_eq_some hg)).2.2.1
    · show Tb.I64 (wasF T o.nt o.nr).pr
      unfold wasF
      cases hg : getF T o.nt o.nr with
      | none => exact i64_0
      | some x => exact (h x (List.mem_of_find?_eq_some hg)).2.2.2
theorem steps_ok : ∀ (L : List O) {T : List Rw}, OkT T → OkL L → ∀ s ∈ stepsF T L, s.ok
  | [], _, _, _, s, hs => by cases hs
  | o :: L, T, hT, hL, s, hs => by
    rcases List.mem_cons.1 hs with rfl | hs
    · exact step_ok hT (hL o (List.mem_cons_self ..))
    · exact steps_ok L (do_okT hT (hL o (List.mem_cons_self ..))) (fun x hx => hL x (List.mem_cons_of_mem _ hx)) s hs
theorem do_len (T : List Rw) (o : O) : (doF T o).length ≤ T.length + 1 := by
  unfold doF
  split
  · omega
  · exact Tb.setF_len _ _
theorem play_len : ∀ (L : List O) (T : List Rw), (playF T L).length ≤ T.length + L.length
  | [], T => by show T.length ≤ _; omega
  | o :: L, T => by
    have h1 := do_len T o
    have h2 := play_len L (doF T o)
    show (playF (doF T o) L).length ≤ _
    rw [List.length_cons]
    omega
/-! ### the tree while Add goes through its row -/
structure AddI (w W : World) (B p q mb k6 g cap : Nat) (T : List Rw) (ft fr : Int) (la : Option Addr) (n lc : Nat) (R : List Stp) (o : O) : Prop where
  far : Far (HasT p mb la) w W
  b3 : W.heap[w.heap.size]? = some (.cells (oCells o) 34 (0, 0))
  b6 : W.heap[k6]? = some (.cells #[pv q, .int .i64 ft, .int .i64 fr, .slice la n lc] 77 (0, 0))
  box : W.heap[p]? = some (.cells #[pv q, .int .i64 ft, .int .i64 fr, .slice (some ⟨g, 0, none⟩) (n + 1) cap] 79 (0, 0))
  tab : TabI W q mb T
  row : ∃ Z : List Value, W.heap[g]? = some (.cells (stc R ++ Z).toArray 89 (0, 0)) ∧ (stc R ++ Z).length = cap * 15
  len : R.length = n + 1 ∧ n + 1 ≤ cap ∧ cap ≤ maxLen ∧ B ≤ g
  gb : (lgV la 0 0).ownBlock = some g ∨ w.heap.size ≤ g
theorem AddI.step {w W W' : World} {B p q mb k6 g cap : Nat} {T : List Rw} {ft fr : Int} {la : Option Addr} {n lc : Nat} {R : List Stp} {o : O} (h : AddI w W B p q mb k6 g cap T ft fr la n lc R o) (hb : Below W.heap.size W W') : AddI w W' B p q mb k6 g cap T ft fr la n lc R o := by
  obtain ⟨Z, h1, h2⟩ := h.row
  exact ⟨h.far.trans (Far.of_below (P := fun _ => False) hb) (fun _ _ q => q.elim), (hb.block _ (pl_lt h.b3)).trans h.b3, (hb.block _ (pl_lt h.b6)).trans h.b6, (hb.block _ (pl_lt h.box)).trans h.box, h.tab.step hb, ⟨Z, (hb.block _ (pl_lt h1)).trans h1, h2⟩, h.len, h.gb⟩
theorem cell_ne {W : World} {a b : Nat} {c d : Array Value} {s t : TypeId} {f g : Nat × Nat} (h : W.heap[a]? = some (.cells c s f)) (k : W.heap[b]? = some (.cells d t g)) (ht : s ≠ t) : a ≠ b := fun e => by
  rw [e, k] at h; injection h with h; injection h with h1 h2; exact ht h2.symm
theorem map_ne {W : World} {a b : Nat} {c : Array Value} {s : TypeId} {f : Nat × Nat} {l : List Rw} (h : W.heap[a]? = some (.cells c s f)) (k : TM W b l) : a ≠ b := fun e => by
  obtain ⟨es, ⟨es', c', hb', _⟩, _⟩ := k
  rw [e, hb'] at h; cases h
theorem AddI.turn {w W W' : World} {B p q mb k6 g cap : Nat} {T T' : List Rw} {ft fr : Int} {la : Option Addr} {n lc : Nat} {R : List Stp} {o : O} (h : AddI w W B p q mb k6 g cap T ft fr la n lc R o) (ht : TOut W W' q mb T') : AddI w W' B p q mb k6 g cap T' ft fr la n lc R o := by
  obtain ⟨Z, h1, h2⟩ := h.row
  have hm := h.tab.map
  exact ⟨h.far.trans (Far.of_grown (P := fun k => k = mb) ht.grow (fun k e => by injection e with e; exact e.symm)) (fun _ _ q => .inr (.inl q)), (ht.grow.block _ (pl_lt h.b3) (fun e => map_ne h.b3 hm (by injection e))).trans h.b3, (ht.grow.block _ (pl_lt h.b6) (fun e => map_ne h.b6 hm (by injection e))).trans h.b6, (ht.grow.block _ (pl_lt h.box) (fun e => map_ne h.box hm (by injection e))).trans h.box, ht.tab, ⟨Z, (ht.grow.block _ (pl_lt h1) (fun e => map_ne h1 hm (by injection e))).trans h1, h2⟩, h.len, h.gb⟩
theorem setRow_grown (W : World) (g : Nat) (c : Array Value) : W.grownBy (W.setRow g c) (some g) := ⟨rfl, rfl, rfl, by simp [World.setRow], fun k _ hk => setRow_other W g k c (fun e => hk (by rw [e]))⟩
/-- One element of the row laid anew. -/
theorem AddI.set {w W : World} {B p q mb k6 g cap : Nat} {T : List Rw} {ft fr : Int} {la : Option Addr} {n lc : Nat} {R R' : List Stp} {o : O} (h : AddI w W B p q mb k6 g cap T ft fr la n lc R o) (i : Nat) (x : Stp) (hi : i < n + 1) (hl : R'.length = n + 1)
    (hR : ∀ Z : List Value, (stc R ++ Z).take (i * 15) ++ stc1 x ++ (stc R ++ Z).drop (i * 15 + 15) = stc R' ++ Z) :
    ∃ W', (Instr.storeAt 89 (.pointer (some ⟨g, i * 15, none⟩)) (stV x)).run Try.prog W = .ok () W' ∧ AddI w W' B p q mb k6 g cap T ft fr la n lc R' o := by
  obtain ⟨Z, h1, h2⟩ := h.row
  have hlen := h.len
  have hs := stR (x := x) h1 (o := i * 15) (by rw [h2]; omega)
  refine ⟨_, hs, ?_⟩
  rw [hR Z]
  have hg := setRow_grown W g (stc R' ++ Z).toArray
  have hm := h.tab.map
  refine ⟨h.far.trans (Far.of_grown (P := fun k => k = g) hg (fun k e => by injection e with e; exact e.symm)) (fun k hk e => ?_), (setRow_other W g _ _ (cell_ne h.b3 h1 (by decide))).trans h.b3, (setRow_other W g _ _ (cell_ne h.b6 h1 (by decide))).trans h.b6, (setRow_other W g _ _ (cell_ne h.box h1 (by decide))).trans h.box, TabI.setRow h.tab (cell_ne h.tab.box h1 (by decide)) (fun e => map_ne h1 hm e.symm) _, ⟨Z, setRow_heap W g _ _ 89 _ h1, ?_⟩, ⟨hl, hlen.2⟩, h.gb⟩
  · rcases h.gb with hq | hq
    · exact .inr (.inr (by rw [e]; exact hq))
    · omega
  · rw [List.length_append, stc_len, hl]
    rw [List.length_append, stc_len, hlen.1] at h2
    exact h2
end Go.Proofs.Ytkmeceoilighiaa
