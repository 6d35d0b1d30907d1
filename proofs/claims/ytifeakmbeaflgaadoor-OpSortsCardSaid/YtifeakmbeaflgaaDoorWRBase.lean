/- What a reader holds; Bad, Left, Fail. -/
import Derived.Test.YtifeakmbeaflgaaDoorWWRef
import Derived.Test.YtifeakmbeaflgaaDoorWRPlain
set_option linter.unusedVariables false
namespace Go.Proofs.YtifeakmbeaflgaaDoor.Wi
open Go.RowKit

/-- The slice v holds these bytes, and they lie in another block than r. -/
def Feed (w : World) (M r : Nat) (v : Value) (bs : List Int) : Prop :=
  ∃ ao cap, v = .slice ao bs.length cap ∧ bs.length ≤ cap ∧ cap ≤ maxLen ∧ (bs ≠ [] → ∃ g off, ao = some ⟨g, off, none⟩ ∧ (g ≠ r ∧ g < M) ∧ ∀ j x, bs[j]? = some x → w.cell? ⟨g, off + j, none⟩ = some (.int .u8 x))

/-- A reader at block r. -/
structure RdI (w : World) (B M r : Nat) (s : St) : Prop where
  ge : B ≤ r
  blk : ∃ v, w.heap[r]? = some (.cells #[v, .int .i64 s.bad] 77 (0, 0)) ∧ Feed w M r v s.bs
  byt : Byt s.bs
  len : s.bs.length ≤ 1000000
  top : M ≤ w.heap.size

/-- Nothing has turned but block r. -/
structure Kr (w w' : World) (r : Nat) : Prop where
  os : w'.os = w.os
  tape : w'.tape = w.tape
  output : w'.output = w.output
  size : w.heap.size ≤ w'.heap.size
  block : ∀ k, k < w.heap.size → k ≠ r → w'.heap[k]? = w.heap[k]?
theorem Kr.refl (w : World) (r : Nat) : Kr w w r := ⟨rfl, rfl, rfl, Nat.le_refl _, fun _ _ _ => rfl⟩
theorem Kr.trans {w w1 w2 : World} {r : Nat} (h : Kr w w1 r) (k : Kr w1 w2 r) : Kr w w2 r :=
  ⟨k.os.trans h.os, k.tape.trans h.tape, k.output.trans h.output, Nat.le_trans h.size k.size, fun j hj hr => (k.block j (Nat.lt_of_lt_of_le hj h.size) hr).trans (h.block j hj hr)⟩
theorem Kr.below {w w' : World} {r B : Nat} (h : Kr w w' r) (hr : B ≤ r) (hB : B ≤ w.heap.size) : Below B w w' := ⟨h.os, h.tape, h.output, h.size, fun k hk => h.block k (by omega) (by omega)⟩
theorem Kr.ofBelow {w w' : World} (r : Nat) (hb : Below w.heap.size w w') : Kr w w' r := ⟨hb.os, hb.tape, hb.output, hb.size, fun k hk _ => hb.block k hk⟩
theorem Kr.set {w : World} {r : Nat} (j : Nat) (u : Value) : Kr w (w.setCell ⟨r, j, none⟩ u) r := ⟨rfl, rfl, rfl, by simp [World.setCell], fun k hk hr => Below.heap_setCell _ _ _ _ hr⟩

/-- A store into a block that was not there. -/
theorem Kr.setNew {w w' : World} {r : Nat} (h : Kr w w' r) {p : Addr} (hp : w.heap.size ≤ p.block) (u : Value) : Kr w (w'.setCell p u) r :=
  ⟨h.os, h.tape, h.output, by have := h.size; simpa [World.setCell] using this, fun k hk hr => (Below.heap_setCell _ _ _ _ (by omega)).trans (h.block k hk hr)⟩
theorem row_setC {w : World} {b j : Nat} {c : Array Value} {t : TypeId} {fz : Nat × Nat} {u : Value} (h : w.heap[b]? = some (.cells c t fz)) : (w.setCell ⟨b, j, none⟩ u).heap[b]? = some (.cells (c.setIfInBounds j u) t fz) := by
  have hlt := (Array.getElem?_eq_some_iff.1 h).1
  have h' : w.heap[b] = .cells c t fz := by simpa [Array.getElem?_eq_getElem hlt] using h
  show (w.heap.modify b _)[b]? = _
  rw [Array.getElem?_eq_getElem (by simpa using hlt), Array.getElem_modify_self, h']
  rfl
theorem two_cells {w : World} {r : Nat} {v u : Value} {t : TypeId} (h : w.heap[r]? = some (.cells #[v, u] t (0, 0))) :
    w.cell? ⟨r, 0, none⟩ = some v ∧ w.cell? ⟨r, 1, none⟩ = some u ∧ w.frozen? ⟨r, 0, none⟩ = false ∧ w.frozen? ⟨r, 1, none⟩ = false := by
  refine ⟨?_, ?_, ?_, ?_⟩
  · rw [cell_of_row _ _ _ _ _ _ h]; rfl
  · rw [cell_of_row _ _ _ _ _ _ h]; rfl
  · exact frozen_of_row _ _ _ _ _ h
  · exact frozen_of_row _ _ _ _ _ h

def RdOut (w w' : World) (B M r : Nat) (s : St) : Prop := RdI w' B M r s ∧ Kr w w' r

theorem RdI.open {w : World} {B M r : Nat} {s : St} (h : RdI w B M r s) : ∃ ao cap, w.heap[r]? = some (.cells #[.slice ao s.bs.length cap, .int .i64 s.bad] 77 (0, 0)) ∧ Feed w M r (.slice ao s.bs.length cap) s.bs := by
  obtain ⟨v, hb, hf⟩ := h.blk
  obtain ⟨ao, cap, rfl, rest⟩ := hf
  exact ⟨ao, cap, hb, ao, cap, rfl, rest⟩

set_option maxRecDepth 100000 in
set_option maxHeartbeats 400000 in
theorem bad_any (w : World) (B M r : Nat) (s : St) (h : RdI w B M r s) :
    Calls Tryd.prog 26 #[.pointer (some ⟨r, 0, none⟩)] w fun e w' => e = .returned (.int .i64 s.bad) ∧ w = w' := by
  obtain ⟨ao, cap, hb, hf⟩ := h.open
  obtain ⟨c0, c1, f0, f1⟩ := two_cells hb
  clear h hb hf
  go_enter Tryd.func26, Tryd.ntmps26
  go_wp2
  go_returns
  exact ⟨rfl, rfl⟩

set_option maxRecDepth 100000 in
set_option maxHeartbeats 400000 in
theorem left_any (w : World) (B M r : Nat) (s : St) (h : RdI w B M r s) :
    Calls Tryd.prog 25 #[.pointer (some ⟨r, 0, none⟩)] w fun e w' => e = .returned (.int .i64 s.bs.length) ∧ w = w' := by
  obtain ⟨ao, cap, hb, hf⟩ := h.open
  obtain ⟨c0, c1, f0, f1⟩ := two_cells hb
  clear h hb hf
  go_enter Tryd.func25, Tryd.ntmps25
  go_wp2
  go_returns
  exact ⟨rfl, rfl⟩

theorem neb_ (a b : Int) (h : a ≠ b) : (a != b) = true := by simpa using h
theorem eqb_ (a b : Int) (h : a = b) : (a != b) = false := by simpa using h
theorem bneb_ (a b : Int) (h : a ≠ b) : (a == b) = false := by simpa using h

set_option maxRecDepth 100000 in
set_option maxHeartbeats 400000 in
theorem fail_any (w : World) (B M r : Nat) (s : St) (e : Int) (h : RdI w B M r s) :
    Calls Tryd.prog 61 #[.pointer (some ⟨r, 0, none⟩), .int .i64 e] w fun e' w' => e' = .returned (.tuple #[]) ∧ RdOut w w' B M r (s.fail e) := by
  obtain ⟨ao, cap, hb, hf⟩ := h.open
  obtain ⟨c0, c1, f0, f1⟩ := two_cells hb
  have HB := Lib.hid hb
  have C := Lib.hid (fun w (h : RdI w B M r s) => bad_any w B M r s h)
  have H := Lib.hid h
  clear hf hb h
  by_cases g : s.bad ≠ 0
  · have t1 := neb_ s.bad 0 g
    have E : s.fail e = s := by unfold St.fail; rw [if_pos (.inl g)]
    have EH := Lib.hid E
    clear E g
    go_enter Tryd.func61, Tryd.ntmps61
    go_wp2_with fail
    refine (C.out _ H.out).mono ?_
    rintro e' w' ⟨rfl, rfl⟩
    go_wp2
    go_returns
    exact ⟨rfl, by rw [EH.out]; exact ⟨H.out, Kr.refl _ _⟩⟩
  · have g' : s.bad = 0 := by omega
    have t1 := eqb_ s.bad 0 g'
    by_cases k : e = 0
    · have E : s.fail e = s := by unfold St.fail; rw [if_pos (.inr k)]
      have EH := Lib.hid E
      clear E g g'
      subst k
      go_enter Tryd.func61, Tryd.ntmps61
      go_wp2_with fail
      refine (C.out _ H.out).mono ?_
      rintro e' w' ⟨rfl, rfl⟩
      go_wp2
      go_returns
      exact ⟨rfl, by rw [EH.out]; exact ⟨H.out, Kr.refl _ _⟩⟩
    · have t2 := bneb_ e 0 k
      have E : s.fail e = ⟨[], e⟩ := by unfold St.fail; rw [if_neg (by omega)]
      have EH := Lib.hid E
      clear E g g' k
      go_enter Tryd.func61, Tryd.ntmps61
      go_wp2_with fail
      refine (C.out _ H.out).mono ?_
      rintro e' w' ⟨rfl, rfl⟩
      go_wp2
      go_returns
      refine ⟨rfl, ?_⟩
      rw [EH.out]
      refine ⟨⟨H.out.ge, ⟨_, row_setC (row_setC HB.out), none, 0, rfl, Nat.le_refl _, by unfold maxLen; omega, fun c => absurd rfl c⟩, Byt.nil, by simp, by have := H.out.top; simpa [World.setCell] using this⟩, (Kr.set 1 _).trans (Kr.set 0 _)⟩

end Go.Proofs.YtifeakmbeaflgaaDoor.Wi
