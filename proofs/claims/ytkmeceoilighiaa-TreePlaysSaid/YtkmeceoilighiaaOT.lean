/- Gap's tools: drawn regions by hand, boxes of ops, what a call turns. Picked out of stage27 by mkgb.sh. -/
import Derived.Test.YtkmeceoilighiaaOJ
import Derived.Test.YtkmeceoilighiaaDR
import Derived.Test.YtkmeceoilighiaaVE
import Derived.Deep.RegionHeld3
import Derived.Laws.OwnMore
import Derived.Laws.StructEq
import Derived.Handy
import Derived.WalkKit
import Derived.Deep.AppendSrc
import Derived.OwnWalk
set_option linter.unusedVariables false
set_option linter.unusedSimpArgs false
set_option maxRecDepth 100000
namespace Go.Proofs.Ytkmeceoilighiaa
open Go.RowKit
theorem run_storeV (W : World) (g o : Nat) (a : Option Addr) (n c : Nat) (u : Value) (h : W.cell? ⟨g, o, none⟩ = some u) (hf : W.frozen? ⟨g, o, none⟩ = false) : (Instr.storeAt 30 (.pointer (some ⟨g, o, none⟩)) (.slice a n c)).run Try.prog W = .ok () (W.setCell ⟨g, o, none⟩ (.slice a n c)) := by
  go_simp
theorem ldV {W : World} {g o : Nat} {a : Option Addr} {n c : Nat} (h0 : W.cell? ⟨g, o, none⟩ = some (.slice a n c)) : (Instr.loadAt 30 (.pointer (some ⟨g, o, none⟩))).run Try.prog W = .ok (.slice a n c) W := by
  go_simp
theorem ldI {W : World} {g o : Nat} {x : Int} (h0 : W.cell? ⟨g, o, none⟩ = some (.int .i64 x)) : (Instr.loadAt 3 (.pointer (some ⟨g, o, none⟩))).run Try.prog W = .ok (.int .i64 x) W := by
  go_simp
theorem ldO {W : World} {g o : Nat} {x : O} (h : ∀ i u, (oc x)[i]? = some u → W.cell? ⟨g, o + i, none⟩ = some u) : (Instr.loadAt 34 (.pointer (some ⟨g, o, none⟩))).run Try.prog W = .ok (oV x) W := by
  have d0 := h 0 _ rfl
  have d1 := h 1 _ rfl
  have d2 := h 2 _ rfl
  have d3 := h 3 _ rfl
  have d4 := h 4 _ rfl
  have d5 := h 5 _ rfl
  have d6 := h 6 _ rfl
  have d7 := h 7 _ rfl
  have d8 := h 8 _ rfl
  simp only [Nat.add_zero] at d0
  unfold oV oCells
  go_simp
theorem box_o {W : World} {g : Nat} {x : O} (h : W.heap[g]? = some (.cells (oCells x) 34 (0, 0))) : ∀ i u, (oc x)[i]? = some u → W.cell? ⟨g, 0 + i, none⟩ = some u := fun i u hu => by
  rw [Nat.zero_add, cell_of_row _ _ _ _ _ _ h]
  unfold oc at hu
  rwa [Array.getElem?_toList] at hu
theorem one_olies {W : World} {g : Nat} {x : O} (h : W.heap[g]? = some (.cells (oCells x) 34 (0, 0))) : OLies W (.slice (some ⟨g, 0, none⟩) 1 1) [x] := by
  refine ⟨some ⟨g, 0, none⟩, 1, rfl, Nat.le_refl _, by unfold maxLen; omega, (fun e => by cases e), fun b hb _ => ?_⟩
  injection hb with hb
  subst hb
  refine ⟨g, 0, rfl, lt_of_block h, fun j p hj i u hu => ?_⟩
  cases j with
  | zero =>
    injection hj with hj
    subst hj
    have := box_o h i u hu
    rwa [show 0 + 0 * 9 + i = 0 + i by omega]
  | succ j => simp at hj
theorem bsO (W : World) (x : O) : (Instr.buildSlice 30 1 #[(0, oV x)]).run Try.prog W = .ok (.slice (some ⟨W.heap.size, 0, none⟩) 1 1) (W.alloc (.cells (oCells x) 34)) := by
  unfold oV oCells
  go_simp
  try rfl
abbrev pvo (b j : Nat) : Value := .pointer (some ⟨b, j, none⟩)
theorem vstep (W : World) (o : Obj) : Below W.heap.size W (W.alloc o) := (Below.refl _ _).alloc (Nat.le_refl _) _
theorem cs9_append : ∀ l m : List O, cs9 (l ++ m) = cs9 l ++ cs9 m
  | [], m => rfl
  | p :: r, m => by show oc p ++ cs9 (r ++ m) = (oc p ++ cs9 r) ++ cs9 m; rw [cs9_append r m, List.append_assoc]
/-- A row of ops of one's own. -/
def RowO (w w' : World) (v : Value) (l : List O) : Prop := w'.ownsRow w.heap.size 34 9 v l.length (cs9 l) ∧ Below w.heap.size w w'
/-- Only blocks of P turn. -/
structure Far (P : Nat → Prop) (w w' : World) : Prop where
  os : w'.os = w.os
  tape : w'.tape = w.tape
  output : w'.output = w.output
  size : w.heap.size ≤ w'.heap.size
  block : ∀ k, k < w.heap.size → ¬ P k → w'.heap[k]? = w.heap[k]?
theorem Far.of_grown {P : Nat → Prop} {w w' : World} {row : Option Nat} (h : w.grownBy w' row) (hr : ∀ k, row = some k → P k) : Far P w w' :=
  ⟨h.os, h.tape, h.output, h.size, fun k hk hn => h.block k hk (fun e => hn (hr k e.symm))⟩
theorem Far.of_below {P : Nat → Prop} {w w' : World} (h : Below w.heap.size w w') : Far P w w' := ⟨h.os, h.tape, h.output, h.size, fun k hk _ => h.block k hk⟩
theorem Far.refl (P : Nat → Prop) (w : World) : Far P w w := ⟨rfl, rfl, rfl, Nat.le_refl _, fun _ _ _ => rfl⟩
theorem Far.trans {P Q : Nat → Prop} {w w1 w2 : World} (h1 : Far P w w1) (h2 : Far Q w1 w2) (hq : ∀ k, k < w.heap.size → Q k → P k) : Far P w w2 :=
  ⟨h2.os.trans h1.os, h2.tape.trans h1.tape, h2.output.trans h1.output, Nat.le_trans h1.size h2.size, fun k hk hn => (h2.block k (Nat.lt_of_lt_of_le hk h1.size) (fun q => hn (hq k hk q))).trans (h1.block k hk hn)⟩
theorem Far.below {P : Nat → Prop} {w w' : World} {B : Nat} (h : Far P w w') (hB : B ≤ w.heap.size) (hp : ∀ k, P k → B ≤ k) : Below B w w' :=
  (⟨h.os, h.tape, h.output, h.size, fun k hk => h.block k (Nat.lt_of_lt_of_le hk hB) (fun q => by have := hp k q; omega)⟩)
theorem Far.row {P : Nat → Prop} {w w' : World} (h : Far P w w') {B e k n : Nat} {v : Value} {xs : List Value} (ho : w.ownsRow B e k v n xs) (hn : ∀ j, v.ownBlock = some j → ¬ P j) : w'.ownsRow B e k v n xs := by
  refine ⟨ho.1, ?_⟩
  rcases ho.2 with h0 | ⟨g, cap, cur, rfl, hB, hb, h1⟩
  · exact .inl h0
  · exact .inr ⟨g, cap, cur, rfl, hB, (h.block g (lt_of_block hb) (hn g rfl)).trans hb, h1⟩
theorem own_lt {w : World} {B e k n : Nat} {v : Value} {xs : List Value} (h : w.ownsRow B e k v n xs) : ∀ j, v.ownBlock = some j → B ≤ j ∧ j < w.heap.size := by
  intro j hj
  rcases h.2 with ⟨rfl, _⟩ | ⟨g, cap, cur, rfl, hB, hb, h1⟩
  · cases hj
  · have : g = j := by simpa [Value.ownBlock] using hj
    subst this
    exact ⟨hB, lt_of_block hb⟩
/-- An op stored whole into a box of its own; a result that lies there. -/
theorem store_o (W : World) (b : Nat) (p o : O) (h : W.heap[b]? = some (.cells (oCells p) 34 (0, 0))) :
    (Instr.storeAt 34 (.pointer (some ⟨b, 0, none⟩)) (oV o)).run Try.prog W = .ok () (W.setRow b (oCells o)) := by
  have := run_storeVar_row (P := Try.prog) W b 34 34 (oCells p) (oCells o) h (show (Try.prog.info? 34).map (·.size) = some 9 by kernel_rfl) rfl (Array.all_eq_true_iff_forall_mem.2 (fun v hv => oc_one o v (by unfold oc; simpa using hv)))
  unfold oV
  simp only [Instr.storeAt, Instr.sureAddr, Sem.run_bind, Sem.run_pure, Result.andThen_ok, this]
theorem alloc40 (W : World) : (Instr.alloc 34 true (.tuple #[])).run Try.prog W = .ok (pvo W.heap.size 0) (W.alloc (.cells (oCells O0) 34)) := by
  have h := (zero_of_info (P := Try.prog) (t := 34) (show (Try.prog.info? 34).map (fun i => (i.zero, i.size)) = some (some (oV O0), 9) by kernel_rfl)).1 W
  unfold Instr.alloc
  rw [Sem.run_bind, h]
  simp [newVar, Value.cells, oV, go_sem]
theorem box3 {W : World} {g : Nat} {x : O} (h : W.heap[g]? = some (.cells (oCells x) 34 (0, 0))) : W.cell? ⟨g, 0, none⟩ = some (.int .i64 x.t) ∧ W.cell? ⟨g, 1, none⟩ = some (.int .i64 x.r) ∧ W.cell? ⟨g, 2, none⟩ = some (.int .i64 x.q) := by
  refine ⟨?_, ?_, ?_⟩ <;> (rw [cell_of_row _ _ _ _ _ _ h]; rfl)
theorem wpList_bs {P : Program} {w : World} {ops : Array Oper} {rest : List Oper} {o : Oper} {a : Act} {Q : Exit → Act → World → Prop} (hgd : o.guard = none) (ty : TypeId) (x : Operand)
    (ho : o.op = .buildSlice ty 1 #[(0, x)]) (xv : Value) (hx : a.eval x = xv) (u : Value) (w' : World) (hr : (Instr.buildSlice ty 1 #[(0, xv)]).run P w = .ok u w')
    (h : wpList P ops Q rest (a.put o.dst u) w') : wpList P ops Q (o :: rest) a w :=
  wpList_plain hgd fun _ hK => by
    unfold Oper.wp execOp
    simp only [ho, List.map_toArray, List.map_cons, List.map_nil, hx, hr, Sem.run_bind, Sem.run_pure, Result.andThen_ok]
    exact hK _ _ h
theorem OLies.one {w : World} {v : Value} {l : List O} (h : OLies w v l) : v.oneCell' = true := by obtain ⟨ao, cap, rfl, _⟩ := h; rfl
theorem own_keep {w w' : World} {B e n size : Nat} {v : Value} {xs : List Value} (h : w.ownsRow B e size v n xs) (hb : Below w.heap.size w w') : w'.ownsRow B e size v n xs := (Far.of_below (P := fun _ => False) hb).row h (fun _ _ q => q)
theorem OLies.atK {w : World} {ao : Option Addr} {n cap : Nat} {l : List O} (h : OLies w (.slice ao n cap) l) {i : Nat} (hi : i < n) : ∃ g k o, ao = some ⟨g, k, none⟩ ∧ l[i]? = some o ∧ g < w.heap.size ∧ ∀ j u, (oc o)[j]? = some u → w.cell? ⟨g, k + i * 9 + j, none⟩ = some u := by
  obtain ⟨ao', cap', e, hn, hm, h0, hc⟩ := h
  injection e with e1 e2 e3
  subst e1 e2 e3
  cases ao with
  | none => obtain ⟨rfl, _⟩ := h0 rfl; simp at hi
  | some b =>
    obtain ⟨g, k, rfl, hg, hc⟩ := hc b rfl (ne_of_lt hi)
    have hp := List.getElem?_eq_getElem hi
    exact ⟨g, k, _, rfl, hp, hg, hc i _ hp⟩
theorem eq40 (o : O) (W : World) : (binOp .eql 34 (oV o) (oV o)).run Try.prog W = .ok (.bool true) W := by
  unfold oV oCells
  go_simp
theorem egt40 : (Try.prog.eqGuardType Try.prog.depth 34) = false := by kernel_rfl
theorem wpList_eq40 {w : World} {ops : Array Oper} {rest : List Oper} {o : Oper} {a : Act} {Q : Exit → Act → World → Prop} (hgd : o.guard = none) (x y : Operand)
    (ho : o.op = .binOp .eql 34 x y 34) (q : O) (hx : a.eval x = oV q) (hy : a.eval y = oV q) (h : wpList Try.prog ops Q rest (a.put o.dst (.bool true)) w) : wpList Try.prog ops Q (o :: rest) a w :=
  wpList_plain hgd fun _ hK => by
    unfold Oper.wp execOp
    have e1 : (eqGuard .eql 34 x y (oV q) (oV q)).run Try.prog w = .ok () w := by unfold oV; exact run_eqGuard_agg w .eql 34 x y _ _ egt40
    simp only [ho, hx, hy, e1, eq40, Sem.run_bind, Sem.run_pure, Result.andThen_ok]
    exact hK _ _ h
theorem box40 (W : World) (o : O) : (Instr.alloc 34 true (.tuple #[])).run Try.prog W = .ok (pvo W.heap.size 0) (W.alloc (.cells (oCells O0) 34)) ∧
    ∃ W2, (Instr.storeAt 34 (pvo W.heap.size 0) (oV o)).run Try.prog (W.alloc (.cells (oCells O0) 34)) = .ok () W2 ∧ Below W.heap.size W W2 ∧ W2.heap[W.heap.size]? = some (.cells (oCells o) 34 (0, 0)) :=
  ⟨alloc40 W, _, store_o _ _ O0 o (heap_alloc_new W _), Ve.below_setRow (vstep W _) (Nat.le_refl _) _, setRow_heap _ _ _ _ _ _ (heap_alloc_new W _)⟩
theorem ldBox {W : World} {k : Nat} {o : O} (h : W.heap[k]? = some (.cells (oCells o) 34 (0, 0))) : (Instr.loadAt 34 (pvo k 0)).run Try.prog W = .ok (oV o) W :=
  ldO (fun i u hu => by rw [Nat.zero_add, cell_of_row _ _ _ _ _ _ h]; simpa [oc, oCells] using hu)
theorem snocRec {α : Type} {P : List α → Prop} (h0 : P []) (h1 : ∀ l x, P l → P (l ++ [x])) : ∀ l, P l := by
  intro l
  have : ∀ (n : Nat) (l : List α), l.length = n → P l := by
    intro n
    induction n with
    | zero => intro l hl; rw [List.eq_nil_of_length_eq_zero hl]; exact h0
    | succ n ih =>
      intro l hl
      have hne : l ≠ [] := by rintro rfl; cases hl
      rw [← List.dropLast_concat_getLast hne]
      exact h1 _ _ (ih _ (by rw [List.length_dropLast]; omega))
  exact this _ l rfl
end Go.Proofs.Ytkmeceoilighiaa

