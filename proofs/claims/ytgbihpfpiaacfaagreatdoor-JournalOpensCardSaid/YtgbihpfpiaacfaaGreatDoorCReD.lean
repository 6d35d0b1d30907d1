/- All: what it hands back, and how it goes through the records. -/
import Derived.Test.YtgbihpfpiaacfaaGreatDoorCReC
import Derived.Deep.RegionHeld3
import Derived.RangeFuncNested
import Derived.RangeFuncBound
import Derived.RangeFuncCalls
import Derived.RangeFuncLeaves
import Derived.Shelf.Abstract
import Derived.Shelf.RegionOpen
import Derived.WalkKit
import Derived.OwnWalkIn
import Derived.TacticsInMore
import Derived.LoopNIn
import Derived.LoopIn
set_option linter.unusedVariables false
namespace Go.Proofs.YtgbihpfpiaacfaaGreatDoor.Rc
open Go.RowKit Go.Shelf
attribute [local go_sem] Oper.semAt_some

/-- The cells of some blocks lie as they lay. -/
def KeepRow (lo hi : Nat) (W W' : World) : Prop := ∀ k, lo ≤ k → k < hi → ∀ o : Obj, W.heap[k]? = some o → o.isCells = true → W'.heap[k]? = some o
theorem KeepRow.trans {lo hi : Nat} {A B C : World} (h : KeepRow lo hi A B) (k : KeepRow lo hi B C) : KeepRow lo hi A C := fun i h1 h2 o ho hc => k i h1 h2 o (h i h1 h2 o ho hc) hc
theorem KeepRow.putObj {lo hi : Nat} (W : World) (l : Nat) (o o' : Obj) (h : W.heap[l]? = some o) (hc : o.isCells = false) : KeepRow lo hi W (W.putObj l o') := fun k h1 h2 o2 ho ho2 => by
  have hne : l ≠ k := fun e => by
    subst e
    rw [h] at ho
    injection ho with ho
    subst ho
    rw [hc] at ho2; cases ho2
  exact (World.putObj_heap_other (fun e => hne e.symm)).trans ho
theorem KeepRow.cell {lo hi : Nat} {W W' : World} (h : KeepRow lo hi W W') {b o : Nat} {v : Value} (h1 : lo ≤ b) (h2 : b < hi) (hc : W.cell? ⟨b, o, none⟩ = some v) : W'.cell? ⟨b, o, none⟩ = some v := by
  obtain ⟨ob, hb, hoc⟩ := cells_of_cell hc
  have h3 := h b h1 h2 ob hb hoc
  unfold World.cell? at hc ⊢
  rw [show (⟨b, o, none⟩ : Addr).block = b from rfl] at hb
  simp only [hb] at hc
  simp only [h3]
  exact hc
/-- Bytes that lie in these blocks. -/
def LiesIn (lo hi : Nat) (w : World) (v : Value) (bs : List Nat) : Prop := Lies w v bs ∧ ∀ ad n c, v = .slice (some ad) n c → lo ≤ ad.block ∧ ad.block < hi
theorem LiesIn.keep {lo hi : Nat} {W W' : World} {v : Value} {bs : List Nat} (h : LiesIn lo hi W v bs) (hk : KeepRow lo hi W W') : LiesIn lo hi W' v bs := by
  refine ⟨?_, h.2⟩
  obtain ⟨⟨ao, cap, rfl, hn, hm, h0, hc⟩, h2⟩ := h
  refine ⟨ao, cap, rfl, hn, hm, h0, fun b hb hne => ?_⟩
  obtain ⟨k, o, rfl, hk1, hc1⟩ := hc b hb hne
  have hlo := h2 _ _ _ (by rw [hb])
  refine ⟨k, o, rfl, ?_, fun j x hj => hk.cell hlo.1 hlo.2 (hc1 j x hj)⟩
  have : 0 < bs.length := by cases bs with | nil => exact absurd rfl hne | cons => simp
  exact World.block_lt_of_cell? W' _ (hk.cell hlo.1 hlo.2 (hc1 0 bs[0] (List.getElem?_eq_getElem this)))
theorem LiesIn.later {lo hi : Nat} {W W' : World} {v : Value} {bs : List Nat} (h : LiesIn lo hi W v bs) (hb : Below W.heap.size W W') : LiesIn lo hi W' v bs := ⟨h.1.later hb, h.2⟩

theorem lies_set_far {w : World} {v : Value} {bs : List Nat} {b j : Nat} {u : Value} (h : Lies w v bs) (hb : ∀ ad n c, v = .slice (some ad) n c → ad.block ≠ b) : Lies (w.setCell ⟨b, j, none⟩ u) v bs := by
  obtain ⟨ao, cap, rfl, h1, h2, h3, h4⟩ := h
  refine ⟨_, _, rfl, h1, h2, h3, fun ad hd hne => ?_⟩
  obtain ⟨k, o, rfl, hk, hc⟩ := h4 ad hd hne
  have hf := hb _ _ _ (by rw [hd])
  refine ⟨k, o, rfl, by simpa [World.setCell] using hk, fun i x hj => ?_⟩
  rw [World.cell?_setCell_far _ _ _ _ (fun e => hf e.symm)]
  exact hc i x hj

set_option maxRecDepth 100000 in
set_option maxHeartbeats 800000 in
theorem all_any (w : World) (v : Value) (bs : List Nat) (h : Lies w v bs) (hl : bs.length ≤ 200000) :
    Calls Tryz.prog 56 #[v] w fun e w' => ∃ r, e = .returned (.func (.func 72) #[] #[.pointer (some ⟨w.heap.size, 0, none⟩)]) ∧ w'.cell? ⟨w.heap.size, 0, none⟩ = some r ∧ LiesIn w.heap.size w'.heap.size w' r bs ∧ w.heap.size < w'.heap.size ∧ Below w.heap.size w w' := by
  have H := Lib.hid h
  obtain ⟨ao, cap, rfl, _⟩ := h
  have C := Lib.hid (fun W (hW : Below w.heap.size w W) => clone_any W _ bs (H.out.later hW) (by omega))
  have B0 := Lib.hid ((Below.refl w.heap.size w).alloc (Nat.le_refl _) (.cells #[.slice ao bs.length cap] 39))
  have G0 := Lib.hid (heap_alloc_new w (.cells #[.slice ao bs.length cap] 39))
  go_enter Tryz.func56, Tryz.ntmps56
  go_wp2_with fail
  refine (C.out _ B0.out).mono ?_
  rintro e w1 ⟨r, rfl, hr⟩
  have hB := B0.out.trans (hr.2.mono B0.out.size)
  have hg := (hr.2.block w.heap.size (by simp)).trans G0.out
  have hsz : w.heap.size < w1.heap.size := (Array.getElem?_eq_some_iff.1 hg).1
  have c0 : w1.cell? ⟨w.heap.size, 0, none⟩ = some (.slice ao bs.length cap) := by rw [cell_of_row _ _ _ _ _ _ hg]; rfl
  have f0 : w1.frozen? ⟨w.heap.size, 0, none⟩ = false := frozen_of_row _ _ _ _ _ hg
  have hL := own_lies hr.1
  have hfar : ∀ ad n c, r = .slice (some ad) n c → w.heap.size + 1 ≤ ad.block := fun ad n c e => by
    rcases hr.1.2 with ⟨h2, _⟩ | ⟨g', cap', cur, e2, hb, _⟩
    · rw [h2] at e; injection e with e _ _; cases e
    · rw [e2] at e; injection e with e _ _; injection e with e; subst e; simpa using hb
  have hlt : ∀ ad n c, r = .slice (some ad) n c → ad.block < w1.heap.size := fun ad n c e => by
    rcases hr.1.2 with ⟨h2, _⟩ | ⟨g', cap', cur, e2, hb, hg2, _⟩
    · rw [h2] at e; injection e with e _ _; cases e
    · rw [e2] at e; injection e with e _ _; injection e with e; subst e; exact (Array.getElem?_eq_some_iff.1 hg2).1
  have HL2 := Lib.hid (lies_set_far (b := w.heap.size) (j := 0) (u := r) hL (fun ad n c e => by have := hfar ad n c e; omega))
  have HF := Lib.hid hfar
  have HT := Lib.hid hlt
  obtain ⟨ra, rc, rfl⟩ := own_shape hr.1
  have HB := Lib.hid hB
  have HC0 := Lib.hid c0
  clear hr hB hg hL hfar hlt
  go_wp2
  go_returns
  exact ⟨_, rfl, World.cell?_setCell_same' _ _ _ (by rw [HC0.out]; rfl), ⟨HL2.out, fun ad n c e => ⟨by have := HF.out ad n c e; omega, by have := HT.out ad n c e; simpa [World.setCell] using this⟩⟩, by simpa [World.setCell] using hsz, HB.out.setCell (p := ⟨w.heap.size, 0, none⟩) (Nat.le_refl _) _⟩
end Go.Proofs.YtgbihpfpiaacfaaGreatDoor.Rc

