/- What letter.Next returns, at every text and place: the piece that the model's own decoder has there; the zero piece where there is no such byte. -/
import Derived.Test.YtkkdecppdbkmjaaWalkB
import Derived.LoopTactic
import Derived.Laws.RangeAny
import Derived.Lib.OthersKept
import Derived.Deep.Cut
set_option linter.unusedVariables false
namespace Go.Proofs.Ytkkdecppdbkmjaa
open Go.RowKit

set_option maxRecDepth 100000 in
set_option maxHeartbeats 400000 in
theorem next_neg (s : ByteArray) (a : Int) (w : World) (hs : s.size ≤ 1099511627000) (ha : a < 0) (hb : -9223372036854775808 ≤ a) :
    Calls Try.prog 12 #[.string s, .int .i64 a] w fun e w' => e = .returned (.agg #[.int .i64 0, .int .i64 0, .int .i64 0]) ∧ Below w.heap.size w w' := by
  go_enter Try.func12, Try.ntmps12
  go_wp2
  refine bodyPost_ret (v := .agg #[.int .i64 0, .int .i64 0, .int .i64 0]) (by simp [results, Try.results12, go_sem]) rfl ⟨rfl, ?_⟩
  exact ((Below.refl _ _).alloc (Nat.le_refl _) _)

set_option maxRecDepth 100000 in
set_option maxHeartbeats 400000 in
theorem next_far (s : ByteArray) (a : Int) (w : World) (hs : s.size ≤ 1099511627000) (ha : s.size ≤ a) (hb : a ≤ 9223372036854775807) :
    Calls Try.prog 12 #[.string s, .int .i64 a] w fun e w' => e = .returned (.agg #[.int .i64 0, .int .i64 0, .int .i64 0]) ∧ Below w.heap.size w w' := by
  have h0 : ¬ a < 0 := by omega
  go_enter Try.func12, Try.ntmps12
  go_wp2
  refine bodyPost_ret (v := .agg #[.int .i64 0, .int .i64 0, .int .i64 0]) (by simp [results, Try.results12, go_sem]) rfl ⟨rfl, ?_⟩
  exact ((Below.refl _ _).alloc (Nat.le_refl _) _)



theorem row_setCell {w : World} {b j : Nat} {c : Array Value} {t : TypeId} {fz : Nat × Nat} {u : Value} (h : w.heap[b]? = some (.cells c t fz)) : (w.setCell ⟨b, j, none⟩ u).heap[b]? = some (.cells (c.setIfInBounds j u) t fz) := by
  have hlt := (Array.getElem?_eq_some_iff.1 h).1
  have h' : w.heap[b] = .cells c t fz := by simpa [Array.getElem?_eq_getElem hlt] using h
  show (w.heap.modify b _)[b]? = _
  rw [Array.getElem?_eq_getElem (by simpa using hlt), Array.getElem_modify_self, h']
  rfl

/-- What stands in memory at the head of a round of Next's loop. -/
structure NxI (w wr : World) (T : ByteArray) (p l x : Int) (pos : Nat) : Prop where
  a : wr.heap[w.heap.size]? = some (.cells #[.int .i64 0, .int .i64 0, .int .i64 0] 29 (0, 0))
  b : wr.heap[w.heap.size + 1]? = some (.cells #[.int .i64 p, .int .i64 l, .int .i64 x] 29 (0, 0))
  i : wr.heap[w.heap.size + 1 + 1]? = some (.stringIter T pos)
  z : wr.heap.size = w.heap.size + 1 + 1 + 1
  m : Below w.heap.size w wr
theorem NxI.next {w wr : World} {T : ByteArray} {p l x : Int} {pos : Nat} (h : NxI w wr T p l x pos) (q : Nat) : NxI w (wr.iterAt (w.heap.size + 1 + 1) T q) T p l x q :=
  ⟨(Lib.iterAt_other _ _ _ _ _ (by omega)).trans h.a, (Lib.iterAt_other _ _ _ _ _ (by omega)).trans h.b, Lib.iterAt_heap _ _ _ _ _ h.i, by rw [Lib.iterAt_size]; exact h.z, Lib.below_iterAt h.m (by omega) _ _⟩
theorem NxI.set2 {w wr : World} {T : ByteArray} {p l x : Int} {pos : Nat} (h : NxI w wr T p l x pos) (y : Int) : NxI w (wr.setCell ⟨w.heap.size + 1, 2, none⟩ (.int .i64 y)) T p l y pos :=
  ⟨(Below.heap_setCell _ _ _ _ (by simp)).trans h.a, row_setCell h.b, (Below.heap_setCell _ _ _ _ (by simp)).trans h.i, by simpa [World.setCell] using h.z, h.m.setCell (by simp) _⟩
theorem NxI.set1 {w wr : World} {T : ByteArray} {p l x : Int} {pos : Nat} (h : NxI w wr T p l x pos) (y : Int) : NxI w (wr.setCell ⟨w.heap.size + 1, 1, none⟩ (.int .i64 y)) T p y x pos :=
  ⟨(Below.heap_setCell _ _ _ _ (by simp)).trans h.a, row_setCell h.b, (Below.heap_setCell _ _ _ _ (by simp)).trans h.i, by simpa [World.setCell] using h.z, h.m.setCell (by simp) _⟩
theorem NxI.cells {w wr : World} {T : ByteArray} {p l x : Int} {pos : Nat} (h : NxI w wr T p l x pos) :
    (wr.cell? ⟨w.heap.size, 0, none⟩ = some (.int .i64 0) ∧ wr.cell? ⟨w.heap.size, 1, none⟩ = some (.int .i64 0) ∧ wr.cell? ⟨w.heap.size, 2, none⟩ = some (.int .i64 0)) ∧
    (wr.cell? ⟨w.heap.size + 1, 0, none⟩ = some (.int .i64 p) ∧ wr.cell? ⟨w.heap.size + 1, 1, none⟩ = some (.int .i64 l) ∧ wr.cell? ⟨w.heap.size + 1, 2, none⟩ = some (.int .i64 x)) ∧
    (wr.frozen? ⟨w.heap.size, 0, none⟩ = false ∧ wr.frozen? ⟨w.heap.size, 1, none⟩ = false ∧ wr.frozen? ⟨w.heap.size, 2, none⟩ = false) ∧
    (wr.frozen? ⟨w.heap.size + 1, 0, none⟩ = false ∧ wr.frozen? ⟨w.heap.size + 1, 1, none⟩ = false ∧ wr.frozen? ⟨w.heap.size + 1, 2, none⟩ = false) := by
  refine ⟨⟨?_, ?_, ?_⟩, ⟨?_, ?_, ?_⟩, ⟨?_, ?_, ?_⟩, ⟨?_, ?_, ?_⟩⟩
  all_goals first | (rw [cell_of_row _ _ _ _ _ _ h.a]; rfl) | (rw [cell_of_row _ _ _ _ _ _ h.b]; rfl) | exact frozen_of_row _ _ _ _ _ h.a | exact frozen_of_row _ _ _ _ _ h.b

theorem NxI.start (w : World) (T : ByteArray) (p l : Int) :
    NxI w (World.iter ((w.alloc (.cells #[.int .i64 0, .int .i64 0, .int .i64 0] 29)).alloc (.cells #[.int .i64 p, .int .i64 l, .int .i64 0] 29)) T 0) T p l 0 0 := by
  refine ⟨?_, ?_, ?_, ?_, ?_⟩
  · exact (Below.heap_alloc _ _ _ (by simp; omega)).trans ((Below.heap_alloc _ _ _ (by simp)).trans (heap_alloc_new w _))
  · refine (Below.heap_alloc _ _ _ (by simp)).trans ?_
    have := heap_alloc_new (w.alloc (.cells #[.int .i64 0, .int .i64 0, .int .i64 0] 29)) (.cells #[.int .i64 p, .int .i64 l, .int .i64 0] 29)
    simpa using this
  · have := World.iter_heap ((w.alloc (.cells #[.int .i64 0, .int .i64 0, .int .i64 0] 29)).alloc (.cells #[.int .i64 p, .int .i64 l, .int .i64 0] 29)) T 0
    simpa using this
  · simp [World.iter]
  · exact (((Below.refl _ _).alloc (Nat.le_refl _) _).alloc (by simp) _).alloc (by simp; omega) _

set_option maxRecDepth 100000 in
set_option maxHeartbeats 400000 in
theorem next_in (s : ByteArray) (p : Nat) (w : World) (hs : s.size ≤ 1099511627000) (hp : p < s.size) :
    Calls Try.prog 12 #[.string s, .int .i64 p] w fun e w' => e = .returned (pcv s p) ∧ Below w.heap.size w w' := by
  have d1 : decide ((p : Int) < 0) = false := by simp
  have d2 : decide (s.size ≤ p) = false := by simp; omega
  have ts : (s.extract p s.size).size = s.size - p := Lib.tail_size s p
  have TS := Lib.hid ts
  clear ts
  have w1 := wid_pos s p
  have w2 := wid_fit s p hp
  have w3 := rn_le s p
  have hpc : pcv s p = .agg #[.int .i64 p, .int .i64 (wid s p), .int .i64 (rn s p)] := rfl
  have e1 : (Utf8.decode (s.extract p s.size) 0).1 = rn s p := rn_tail s p 0
  have e2 : (Utf8.decode (s.extract p s.size) 0).2 = wid s p := wid_tail s p 0
  generalize wid s p = wd at *
  generalize rn s p = r at *
  have E1 := Lib.hid e1
  have E2 := Lib.hid e2
  have PC := Lib.hid hpc
  clear e1 e2 hpc
  go_enter Try.func12, Try.ntmps12
  go_wp2
  go_loopw [6, 7] (fun iv rv wr => ∃ (pos : Nat) (x : Int), NxI w wr (s.extract p s.size) p ((s.size : Int) - p) x pos ∧ ((pos = 0 ∧ x = 0) ∨ (pos = wd ∧ x = r))) (fun _ _ wr => s.size - wr.iterPos (w.heap.size + 1 + 1))
  case atStart =>
    exact ⟨0, 0, NxI.start _ _ _ _, .inl ⟨rfl, rfl⟩⟩
  case round =>
    obtain ⟨pos, x, hI, hx⟩ := hrel
    rcases hx with ⟨rfl, rfl⟩ | ⟨hp1, rfl⟩
    · have hnx := fun ty => Lib.run_next_any_at (P := Try.prog) wr (w.heap.size + 1 + 1) (s.extract p s.size) 0 ty hI.i (by rw [TS.out]; omega)
      rw [E1.out, E2.out] at hnx
      have hJ := hI.next (0 + wd)
      obtain ⟨W, hW⟩ : ∃ W, wr.iterAt (w.heap.size + 1 + 1) (s.extract p s.size) (0 + wd) = W := ⟨_, rfl⟩
      rw [hW] at hnx hJ
      have HI := Lib.hid hI
      have HJ := Lib.hid hJ
      obtain ⟨⟨a0, a1, a2⟩, ⟨b0, b1, b2⟩, ⟨fa0, fa1, fa2⟩, ⟨fb0, fb1, fb2⟩⟩ := hJ.cells
      clear hI hJ hW
      go_wp2
      go_roundw
      case rel =>
        have K := HJ.out.set2 r
        rw [Nat.zero_add] at K
        exact ⟨wd, r, K, .inr ⟨rfl, rfl⟩⟩
      case measure =>
        have K := (HJ.out.set2 r).i
        simp only [World.iterPos, K, HI.out.i]
        omega
    · obtain rfl : wd = pos := hp1.symm
      by_cases hlt : p + wd < s.size
      · have hnx := fun ty => Lib.run_next_any_at (P := Try.prog) wr (w.heap.size + 1 + 1) (s.extract p s.size) wd ty hI.i (by rw [TS.out]; omega)
        have e1 : (Utf8.decode (s.extract p s.size) wd).1 = rn (s.extract p s.size) wd := rfl
        have e2 : (Utf8.decode (s.extract p s.size) wd).2 = wid (s.extract p s.size) wd := rfl
        rw [e1, e2] at hnx
        clear e1 e2
        have hr := rn_le (s.extract p s.size) wd
        generalize rn (s.extract p s.size) wd = R at hnx hr
        generalize wid (s.extract p s.size) wd = K at hnx
        have hJ := hI.next (wd + K)
        obtain ⟨W, hW⟩ : ∃ W, wr.iterAt (w.heap.size + 1 + 1) (s.extract p s.size) (wd + K) = W := ⟨_, rfl⟩
        rw [hW] at hnx hJ
        have HJ := Lib.hid hJ
        obtain ⟨⟨a0, a1, a2⟩, ⟨b0, b1, b2⟩, ⟨fa0, fa1, fa2⟩, ⟨fb0, fb1, fb2⟩⟩ := hJ.cells
        clear hI hJ hW
        have hw0 : ¬ wd = 0 := by omega
        go_upto_region 10 with (fail)
        have KI := Lib.hid (HJ.out.set1 wd)
        obtain ⟨W2, hW2⟩ : ∃ W2, W.setCell ⟨w.heap.size + 1, 1, none⟩ (.int .i64 wd) = W2 := ⟨_, rfl⟩
        rw [hW2] at KI ⊢
        clear hW2 a0 a1 a2 b0 b1 b2 fa0 fa1 fa2 fb0 fb1 fb2 hnx
        obtain ⟨⟨a0, a1, a2⟩, ⟨b0, b1, b2⟩, ⟨fa0, fa1, fa2⟩, ⟨fb0, fb1, fb2⟩⟩ := KI.out.cells
        go_wp2
        refine bodyPost_ret (v := .agg #[.int .i64 p, .int .i64 wd, .int .i64 r]) (by simp [results, Try.results12, go_sem, a0, a1, a2]) rfl ⟨by rw [PC.out], ?_⟩
        exact ((KI.out.m.setCell (by simp) _).setCell (by simp) _).setCell (by simp) _
      · have hl : ((s.size : Int) - p) = wd := by omega
        rw [hl] at hI
        have hnx := fun ty => Lib.run_next_end_at (P := Try.prog) wr (w.heap.size + 1 + 1) (s.extract p s.size) wd ty hI.i (by rw [TS.out]; omega)
        have HI := Lib.hid hI
        obtain ⟨⟨a0, a1, a2⟩, ⟨b0, b1, b2⟩, ⟨fa0, fa1, fa2⟩, ⟨fb0, fb1, fb2⟩⟩ := hI.cells
        clear hI hl
        go_wp2
        refine bodyPost_ret (v := .agg #[.int .i64 p, .int .i64 wd, .int .i64 r]) (by simp [results, Try.results12, go_sem, a0, a1, a2]) rfl ⟨by rw [PC.out], ?_⟩
        exact ((HI.out.m.setCell (by simp) _).setCell (by simp) _).setCell (by simp) _

def nextv (s : ByteArray) (a : Int) : Value := if 0 ≤ a ∧ a < s.size then pcv s a.toNat else .agg #[.int .i64 0, .int .i64 0, .int .i64 0]
theorem next_any (s : ByteArray) (a : Int) (w : World) (hs : s.size ≤ 1099511627000) (h1 : -9223372036854775808 ≤ a) (h2 : a ≤ 9223372036854775807) :
    Calls Try.prog 12 #[.string s, .int .i64 a] w fun e w' => e = .returned (nextv s a) ∧ Below w.heap.size w w' := by
  unfold nextv
  by_cases h : 0 ≤ a ∧ a < s.size
  · rw [if_pos h]
    obtain ⟨n, rfl⟩ := Int.eq_ofNat_of_zero_le h.1
    exact next_in s n w hs (by omega)
  · rw [if_neg h]
    by_cases h0 : a < 0
    · exact next_neg s a w hs h0 h1
    · exact next_far s a w hs (by omega) h2
end Go.Proofs.Ytkkdecppdbkmjaa
