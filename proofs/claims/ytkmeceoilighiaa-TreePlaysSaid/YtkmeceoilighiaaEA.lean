/- A tree in the heap; have, New, Load. -/
import Derived.Test.YtkmeceoilighiaaDP
import Derived.Deep.MidRow
import Derived.Deep.CutRange
import Derived.StillTailTactics
set_option linter.unusedVariables false
set_option linter.unusedSimpArgs false
set_option maxRecDepth 100000
namespace Go.Proofs.Ytkmeceoilighiaa
open Go.RowKit
open Tb (Rw setF dropF getF aboveF Rise TabI TM)

noncomputable def rO (o : O) : Bool := rB o.t o.r o.q o.nt o.nr o.pt o.pr o.nm
abbrev lgV (a : Option Addr) (n c : Nat) : Value := .slice a n c
/-- A tree at block p: its table's box q, the map mb; what was at the floor, the floor, the log. -/
structure TreeI (w : World) (B p q mb : Nat) (T0 : List Rw) (ft fr : Int) (L : List O) (la : Option Addr) (lc : Nat) : Prop where
  box : w.heap[p]? = some (.cells #[pv q, .int .i64 ft, .int .i64 fr, .slice la L.length lc] 79 (0, 0))
  tab : TabI w q mb (playF T0 L)
  log : w.ownsRow B 89 15 (.slice la L.length lc) L.length (stc (stepsF T0 L))
  lo : B ≤ p ∧ B ≤ q ∧ B ≤ mb
  r0 : Rise T0
/-- The tree's blocks that a call may turn. -/
def HasT (p mb : Nat) (la : Option Addr) (k : Nat) : Prop := k = p ∨ k = mb ∨ (lgV la 0 0).ownBlock = some k
theorem ownB (la : Option Addr) (n c n' c' : Nat) : (lgV la n c).ownBlock = (lgV la n' c').ownBlock := by cases la <;> rfl
theorem TreeI.plt {w : World} {B p q mb : Nat} {T0 : List Rw} {ft fr : Int} {L : List O} {la : Option Addr} {lc : Nat} (h : TreeI w B p q mb T0 ft fr L la lc) : p < w.heap.size := lt_of_block h.box
theorem TreeI.step {w w' : World} {B p q mb : Nat} {T0 : List Rw} {ft fr : Int} {L : List O} {la : Option Addr} {lc : Nat} (h : TreeI w B p q mb T0 ft fr L la lc) (hb : Below w.heap.size w w') : TreeI w' B p q mb T0 ft fr L la lc :=
  ⟨(hb.block p h.plt).trans h.box, h.tab.step hb, own_keep h.log hb, h.lo, h.r0⟩
theorem TreeI.has {w : World} {B p q mb : Nat} {T0 : List Rw} {ft fr : Int} {L : List O} {la : Option Addr} {lc : Nat} (h : TreeI w B p q mb T0 ft fr L la lc) {k : Nat} (hk : HasT p mb la k) : B ≤ k ∧ k < w.heap.size := by
  rcases hk with rfl | rfl | hk
  · exact ⟨h.lo.1, h.plt⟩
  · exact ⟨h.lo.2.2, h.tab.blt⟩
  · exact own_lt h.log k (by rw [ownB la L.length lc 0 0]; exact hk)
theorem Far.tm {P : Nat → Prop} {w w' : World} (hf : Far P w w') {b : Nat} {l : List Rw} (h : TM w b l) (hn : ¬ P b) : TM w' b l := by
  have hlt := h.lt
  obtain ⟨es, ⟨es', clock, hb, F, hs, hD⟩, h2⟩ := h
  exact ⟨es, ⟨es', clock, (hf.block b hlt hn).trans hb, F, hs, hD⟩, h2⟩
theorem Far.tab {P : Nat → Prop} {w w' : World} (hf : Far P w w') {q b : Nat} {l : List Rw} (h : TabI w q b l) (hq : ¬ P q) (hn : ¬ P b) : TabI w' q b l :=
  ⟨(hf.block q h.plt hq).trans h.box, hf.tm h.map hn⟩
theorem TreeI.keep {w w' : World} {B p q mb : Nat} {T0 : List Rw} {ft fr : Int} {L : List O} {la : Option Addr} {lc : Nat} {P : Nat → Prop} (h : TreeI w B p q mb T0 ft fr L la lc) (hf : Far P w w') (hn : ∀ k, HasT p mb la k ∨ k = q → ¬ P k) : TreeI w' B p q mb T0 ft fr L la lc :=
  ⟨(hf.block p h.plt (hn p (.inl (.inl rfl)))).trans h.box, hf.tab h.tab (hn q (.inr rfl)) (hn mb (.inl (.inr (.inl rfl)))), hf.row h.log (fun k e => hn k (.inl (.inr (.inr (by rw [← e]; exact ownB _ _ _ _ _))))), h.lo, h.r0⟩
abbrev grw (q : Nat) (ft fr : Int) (lv : Value) : Value := .agg #[pv q, .int .i64 ft, .int .i64 fr, lv]
theorem box4 {w : World} {p : Nat} {a b c d : Value} {t : TypeId} (h : w.heap[p]? = some (.cells #[a, b, c, d] t (0, 0))) : w.cell? ⟨p, 0, none⟩ = some a ∧ w.cell? ⟨p, 1, none⟩ = some b ∧ w.cell? ⟨p, 2, none⟩ = some c ∧ w.cell? ⟨p, 3, none⟩ = some d :=
  ⟨by rw [cell_of_row _ _ _ _ _ _ h]; rfl, by rw [cell_of_row _ _ _ _ _ _ h]; rfl, by rw [cell_of_row _ _ _ _ _ _ h]; rfl, by rw [cell_of_row _ _ _ _ _ _ h]; rfl⟩
def set4 (w : World) (b : Nat) (x y z v : Value) : World := (((w.setCell ⟨b, 0, none⟩ x).setCell ⟨b, 1, none⟩ y).setCell ⟨b, 2, none⟩ z).setCell ⟨b, 3, none⟩ v
theorem set4_row {w : World} {b : Nat} {T : TypeId} {x y z v x' y' z' v' : Value} (h : w.heap[b]? = some (.cells #[x, y, z, v] T (0, 0))) : (set4 w b x' y' z' v').heap[b]? = some (.cells #[x', y', z', v'] T (0, 0)) := by
  have h := Ve.row_setC (j := 3) (u := v') (Ve.row_setC (j := 2) (u := z') (Ve.row_setC (j := 1) (u := y') (Ve.row_setC (j := 0) (u := x') h)))
  exact h
theorem set4_below {w w1 : World} {B b : Nat} {x y z v : Value} (h : Below B w w1) (hb : B ≤ b) : Below B w (set4 w1 b x y z v) :=
  (((h.setCell (p := ⟨b, 0, none⟩) hb _).setCell (p := ⟨b, 1, none⟩) hb _).setCell (p := ⟨b, 2, none⟩) hb _).setCell (p := ⟨b, 3, none⟩) hb _
set_option maxHeartbeats 1600000 in
/-- have, of any tree whose four cells are known. -/
theorem have_box (w : World) (p : Nat) (u : Option Addr) (ft fr : Int) (a : Option Addr) (n c : Nat) (h : w.heap[p]? = some (.cells #[.pointer u, .int .i64 ft, .int .i64 fr, .slice a n c] 79 (0, 0))) :
    Calls Try.prog 41 #[pv p] w fun e w' => e = .returned (.agg #[.pointer u, .int .i64 ft, .int .i64 fr, .slice a n c]) ∧ Below w.heap.size w w' := by
  have hb := vstep w (.cells #[.pointer none, .int .i64 0, .int .i64 0, .slice none 0 0] 77)
  have hn := heap_alloc_new w (.cells #[.pointer none, .int .i64 0, .int .i64 0, .slice none 0 0] 77)
  obtain ⟨w0, hw0⟩ : ∃ z, w.alloc (.cells #[.pointer none, .int .i64 0, .int .i64 0, .slice none 0 0] 77) = z := ⟨_, rfl⟩
  rw [hw0] at hb hn
  obtain ⟨c0, c1, c2, c3⟩ := box4 ((hb.block _ (lt_of_block h)).trans h)
  obtain ⟨z0, z1, z2, z3⟩ := box4 hn
  have f0 := frozen_of_row (j := 0) _ _ _ _ hn
  have f1 := frozen_of_row (j := 1) _ _ _ _ hn
  have f2 := frozen_of_row (j := 2) _ _ _ _ hn
  have f3 := frozen_of_row (j := 3) _ _ _ _ hn
  have BB := Lib.hid (set4_below (x := .pointer u) (y := .int .i64 ft) (z := .int .i64 fr) (v := .slice a n c) hb (Nat.le_refl _))
  obtain ⟨d0, d1, d2, d3⟩ := box4 (set4_row (x' := .pointer u) (y' := .int .i64 ft) (z' := .int .i64 fr) (v' := .slice a n c) hn)
  clear h hn hb
  go_enter Try.func41, Try.ntmps41
  go_wp2_with fail
  unfold set4 at d0 d1 d2 d3
  refine bodyPost_ret (by simp [results, Try.results41, go_sem, d0, d1, d2, d3]; try rfl) rfl ⟨rfl, BB.out⟩
set_option maxHeartbeats 1600000 in
theorem have_nil (w : World) : Calls Try.prog 41 #[.pointer none] w fun e w' => e = .returned (.agg #[.pointer none, .int .i64 0, .int .i64 0, .slice none 0 0]) ∧ Below w.heap.size w w' := by
  have hb := vstep w (.cells #[.pointer none, .int .i64 0, .int .i64 0, .slice none 0 0] 77)
  have hn := heap_alloc_new w (.cells #[.pointer none, .int .i64 0, .int .i64 0, .slice none 0 0] 77)
  obtain ⟨w0, hw0⟩ : ∃ z, w.alloc (.cells #[.pointer none, .int .i64 0, .int .i64 0, .slice none 0 0] 77) = z := ⟨_, rfl⟩
  rw [hw0] at hb hn
  obtain ⟨z0, z1, z2, z3⟩ := box4 hn
  have f0 := frozen_of_row (j := 0) _ _ _ _ hn
  have f1 := frozen_of_row (j := 1) _ _ _ _ hn
  have f2 := frozen_of_row (j := 2) _ _ _ _ hn
  have f3 := frozen_of_row (j := 3) _ _ _ _ hn
  have BB := Lib.hid (set4_below (x := .pointer none) (y := .int .i64 0) (z := .int .i64 0) (v := .slice none 0 0) hb (Nat.le_refl _))
  obtain ⟨d0, d1, d2, d3⟩ := box4 (set4_row (x' := .pointer none) (y' := .int .i64 0) (z' := .int .i64 0) (v' := .slice none 0 0) hn)
  clear hn hb
  go_enter Try.func41, Try.ntmps41
  go_wp2_with fail
  unfold set4 at d0 d1 d2 d3
  refine bodyPost_ret (by simp [results, Try.results41, go_sem, d0, d1, d2, d3]; try rfl) rfl ⟨rfl, BB.out⟩
theorem TreeI.have {w : World} {B p q mb : Nat} {T0 : List Rw} {ft fr : Int} {L : List O} {la : Option Addr} {lc : Nat} (h : TreeI w B p q mb T0 ft fr L la lc) :
    Calls Try.prog 41 #[pv p] w fun e w' => e = .returned (grw q ft fr (.slice la L.length lc)) ∧ Below w.heap.size w w' := have_box w p _ ft fr la _ lc h.box
end Go.Proofs.Ytkmeceoilighiaa
