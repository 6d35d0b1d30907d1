/- Flights; a net; clone, find, Len, Lost. -/
import Derived.Test.YtdocfoienbadhaaNA
import Derived.Test.YtdocfoienbadhaaLater
import Derived.Deep.CutRange
set_option linter.unusedVariables false
namespace Go.Proofs.Ytdocfoienbadhaa
open Go.RowKit

theorem own_mono {w : World} {B B' e size n : Nat} {v : Value} {xs : List Value} (hb : B ≤ B') (h : w.ownsRow B' e size v n xs) : w.ownsRow B e size v n xs :=
  ⟨h.1, h.2.imp id fun ⟨g, cap, cur, h1, h2, h3⟩ => ⟨g, cap, cur, h1, Nat.le_trans hb h2, h3⟩⟩
theorem own_block {w w' : World} {B e size n : Nat} {v : Value} {xs : List Value} (h : w.ownsRow B e size v n xs) (hk : ∀ k, v.ownBlock = some k → w'.heap[k]? = w.heap[k]?) : w'.ownsRow B e size v n xs := by
  refine ⟨h.1, h.2.imp id fun ⟨g, cap, cur, h1, h2, h3, h4⟩ => ⟨g, cap, cur, h1, h2, ?_, h4⟩⟩
  rw [hk g (by rw [h1]; rfl)]
  exact h3
theorem own_setCell {w : World} {B e size n b o : Nat} {v u : Value} {xs : List Value} (h : w.ownsRow B e size v n xs) (hn : v.ownBlock ≠ some b) : (w.setCell ⟨b, o, none⟩ u).ownsRow B e size v n xs :=
  own_block h fun k hk => Below.heap_setCell _ _ _ _ (fun e => hn (by rw [hk, e]))
theorem row_setC {w : World} {b j : Nat} {c : Array Value} {t : TypeId} {fz : Nat × Nat} {u : Value} (h : w.heap[b]? = some (.cells c t fz)) : (w.setCell ⟨b, j, none⟩ u).heap[b]? = some (.cells (c.setIfInBounds j u) t fz) := by
  have hlt := (Array.getElem?_eq_some_iff.1 h).1
  have h' : w.heap[b] = .cells c t fz := by simpa [Array.getElem?_eq_getElem hlt] using h
  show (w.heap.modify b _)[b]? = _
  rw [Array.getElem?_eq_getElem (by simpa using hlt), Array.getElem_modify_self, h']
  rfl
theorem lt_of_block {w : World} {b : Nat} {o : Obj} (h : w.heap[b]? = some o) : b < w.heap.size := (Array.getElem?_eq_some_iff.1 h).1
theorem cell_of_row (w : World) (b j : Nat) (c : Array Value) (t : TypeId) (fz : Nat × Nat) (h : w.heap[b]? = some (.cells c t fz)) : w.cell? ⟨b, j, none⟩ = c[j]? := by
  simp [World.cell?, h]
theorem vstep (W : World) (o : Obj) : Below W.heap.size W (W.alloc o) := (Below.refl _ _).alloc (Nat.le_refl _) _
structure Fl where
  dst : Int
  bv : Value
  bs : List Nat
  hurt : Bool
def fc (f : Fl) : List Value := [.int .i64 f.dst, f.bv, .bool f.hurt]
def flat (l : List Fl) : List Value := l.flatMap fc
theorem flat_len (l : List Fl) : (flat l).length = l.length * 3 := by
  unfold flat
  induction l with
  | nil => rfl
  | cons f r ih => rw [List.flatMap_cons, List.length_append, ih]; simp [fc]; omega
theorem flat_at : ∀ (l : List Fl) (i : Nat) (f : Fl), l[i]? = some f → (flat l)[i * 3]? = some (.int .i64 f.dst) ∧ (flat l)[i * 3 + 1]? = some f.bv ∧ (flat l)[i * 3 + 2]? = some (.bool f.hurt)
  | [], i, f, h => by simp at h
  | g :: r, 0, f, h => by
    injection h with h
    subst h
    exact ⟨rfl, rfl, rfl⟩
  | g :: r, i + 1, f, h => by
    have ih := flat_at r i f h
    have e : ∀ k, (flat (g :: r))[(i + 1) * 3 + k]? = (flat r)[i * 3 + k]? := fun k => by
      unfold flat
      rw [List.flatMap_cons, List.getElem?_append_right (by simp [fc]; omega)]
      simp [fc]
      congr 1
      omega
    exact ⟨(e 0).trans ih.1, (e 1).trans ih.2.1, (e 2).trans ih.2.2⟩
/-- A net, in memory that the law itself made. -/
structure NetAt (B : Nat) (W : World) (p : Nat) (fv : Value) (fl : List Fl) (lost : Int) : Prop where
  row0 : W.heap[p]? = some (.cells #[fv, .int .i64 lost] 26 (0, 0))
  row : W.ownsRow B 39 3 fv fl.length (flat fl)
  byt : ∀ f ∈ fl, W.ownsRow B 5 1 f.bv f.bs.length (u8s f.bs) ∧ Byt f.bs ∧ f.bs.length ≤ 1000
  pB : B ≤ p
  ap1 : fv.ownBlock ≠ some p
  ap2 : ∀ f ∈ fl, f.bv.ownBlock ≠ some p ∧ (f.bv.ownBlock = none ∨ f.bv.ownBlock ≠ fv.ownBlock)
  ap3 : fl.Pairwise fun a b => a.bv.ownBlock = none ∨ a.bv.ownBlock ≠ b.bv.ownBlock
  len : fl.length ≤ 256
  lo : 0 ≤ lost ∧ lost ≤ 100000
theorem NetAt.step {B : Nat} {W W' : World} {p : Nat} {fv : Value} {fl : List Fl} {lost : Int} (h : NetAt B W p fv fl lost) (hb : Below W.heap.size W W') : NetAt B W' p fv fl lost :=
  ⟨(hb.block _ (lt_of_block h.row0)).trans h.row0, own_kept h.row hb, fun f hf => ⟨own_kept (h.byt f hf).1 hb, (h.byt f hf).2⟩, h.pB, h.ap1, h.ap2, h.ap3, h.len, h.lo⟩
def findF (n : Nat) (k : Int) : Int := if 0 ≤ k ∧ k < (n : Int) then 0 else 8
set_option maxRecDepth 100000 in
set_option maxHeartbeats 800000 in
theorem find_any {B : Nat} (w : World) (p : Nat) (fv : Value) (fl : List Fl) (lost : Int) (h : NetAt B w p fv fl lost) (k : Int) :
    Calls Try.prog 25 #[.pointer (some ⟨p, 0, none⟩), .int .i64 k] w fun e w' => e = .returned (.int .i64 (findF fl.length k)) ∧ w = w' := by
  have c0 := cell_of_row _ p 0 _ _ _ h.row0
  obtain ⟨ao, cap, rfl⟩ := own_shape h.row
  simp at c0
  have hl := h.len
  by_cases h1 : k < 0
  · have HE := Lib.hid (show findF fl.length k = 8 by unfold findF; rw [if_neg (by omega)])
    clear h
    go_enter Try.func25, Try.ntmps25
    go_wp2
    go_returns
    exact ⟨by rw [HE.out]; rfl, rfl⟩
  · by_cases h2 : (fl.length : Int) ≤ k
    · have HE := Lib.hid (show findF fl.length k = 8 by unfold findF; rw [if_neg (by omega)])
      clear h
      go_enter Try.func25, Try.ntmps25
      go_wp2
      go_returns
      exact ⟨by rw [HE.out]; rfl, rfl⟩
    · have HE := Lib.hid (show findF fl.length k = 0 by unfold findF; rw [if_pos (by omega)])
      clear h
      go_enter Try.func25, Try.ntmps25
      go_wp2
      go_returns
      exact ⟨by rw [HE.out]; rfl, rfl⟩
set_option maxRecDepth 100000 in
set_option maxHeartbeats 800000 in
theorem len_any {B : Nat} (w : World) (p : Nat) (fv : Value) (fl : List Fl) (lost : Int) (h : NetAt B w p fv fl lost) :
    Calls Try.prog 8 #[.pointer (some ⟨p, 0, none⟩)] w fun e w' => e = .returned (.int .i64 (fl.length : Int)) ∧ w = w' := by
  have c0 := cell_of_row _ p 0 _ _ _ h.row0
  obtain ⟨ao, cap, rfl⟩ := own_shape h.row
  simp at c0
  clear h
  go_enter Try.func8, Try.ntmps8
  go_wp2
  go_returns
  exact ⟨rfl, rfl⟩
set_option maxRecDepth 100000 in
set_option maxHeartbeats 800000 in
theorem lost_any {B : Nat} (w : World) (p : Nat) (fv : Value) (fl : List Fl) (lost : Int) (h : NetAt B w p fv fl lost) :
    Calls Try.prog 9 #[.pointer (some ⟨p, 0, none⟩)] w fun e w' => e = .returned (.int .i64 lost) ∧ w = w' := by
  have c1 := cell_of_row _ p 1 _ _ _ h.row0
  simp at c1
  clear h
  go_enter Try.func9, Try.ntmps9
  go_wp2
  go_returns
  exact ⟨rfl, rfl⟩
set_option maxRecDepth 100000 in
set_option maxHeartbeats 1600000 in
theorem fclone_any (w : World) (dst : Int) (bv : Value) (bs : List Nat) (hurt : Bool) (h : Lies w bv bs) (hl : bs.length ≤ 1000000) :
    Calls Try.prog 26 #[.agg #[.int .i64 dst, bv, .bool hurt]] w fun e w' => ∃ r, e = .returned (.agg #[.int .i64 dst, r, .bool hurt]) ∧ RowOut w w' r bs := by
  obtain ⟨W2, e2, b2, n0, n1, z2⟩ : ∃ W, (w.alloc (.cells #[.int .i64 dst, bv, .bool hurt] 39)).alloc (.cells #[.int .i64 0, .slice none 0 0, .bool false] 39) = W ∧ Below w.heap.size w W ∧ W.heap[w.heap.size]? = some (.cells #[.int .i64 dst, bv, .bool hurt] 39 (0, 0)) ∧
      W.heap[w.heap.size + 1]? = some (.cells #[.int .i64 0, .slice none 0 0, .bool false] 39 (0, 0)) ∧ W.heap.size = w.heap.size + 2 := by
    refine ⟨_, rfl, (vstep w _).alloc (by simp) _, ?_, ?_, by simp⟩
    · exact ((vstep (w.alloc (.cells #[.int .i64 dst, bv, .bool hurt] 39)) _).block _ (by simp)).trans (heap_alloc_new w _)
    · have := heap_alloc_new (w.alloc (.cells #[.int .i64 dst, bv, .bool hurt] 39)) (.cells #[.int .i64 0, .slice none 0 0, .bool false] 39)
      rwa [World.size_alloc] at this
  have E2 := Lib.hid e2
  have N0 := Lib.hid n0
  have N1 := Lib.hid n1
  have B2 := Lib.hid b2
  have CL := Lib.hid (clone_any W2 bv bs (h.later b2) hl)
  obtain ⟨ao, cap, rfl, _⟩ := h
  have c1 := cell_of_row _ w.heap.size 1 _ _ _ n0
  simp at c1
  have HZ := Lib.hid z2
  obtain ⟨b0, hb0⟩ : ∃ b, w.heap.size = b := ⟨_, rfl⟩
  obtain ⟨b1, hb1⟩ : ∃ b, b0 + 1 = b := ⟨_, rfl⟩
  rw [hb0] at N0 N1 c1 HZ
  rw [hb1] at N1
  have HB := Lib.hid (show w.heap.size = b0 ∧ b0 + 1 = b1 from ⟨hb0, hb1⟩)
  clear e2 b2 n0 n1 z2
  go_enter Try.func26, Try.ntmps26
  go_upto_region 1 with (fail)
  rw [E2.out]
  go_wp2_with fail
  refine CL.out.mono ?_
  rintro e w3 ⟨r, rfl, ho, hb⟩
  have M0 := (hb.block _ (lt_of_block N0.out)).trans N0.out
  have M1 := Lib.hid ((hb.block _ (lt_of_block N1.out)).trans N1.out)
  have f1 := frozen_of_row _ b0 1 _ _ M0
  have c1 := cell_of_row _ b0 1 _ _ _ M0
  simp at c1
  have hrb : ∀ k, r.ownBlock = some k → b0 + 2 ≤ k := fun k hk => by have := (ho.lt k hk).1; have := HZ.out; omega
  have HO := Lib.hid (And.intro (own_mono (show b0 ≤ W2.heap.size by have := HZ.out; omega) ho) hrb)
  have BB := Lib.hid (B2.out.trans (hb.mono B2.out.size))
  have M0' := Lib.hid M0
  obtain ⟨ar, cr, hr⟩ := own_shape ho
  clear hb ho hrb M0
  rw [hr]
  go_upto_region 2 with (fail)
  rw [← hr]
  obtain ⟨w4, hw4⟩ : ∃ y, w3.setCell ⟨b0, 1, none⟩ r = y := ⟨_, rfl⟩
  have P0 := (show w4.heap[b0]? = some (.cells #[.int .i64 dst, r, .bool hurt] 39 (0, 0)) by rw [← hw4]; exact row_setC M0'.out)
  have P1 := (show w4.heap[b1]? = some (.cells #[.int .i64 0, .slice none 0 0, .bool false] 39 (0, 0)) by rw [← hw4]; exact (Below.heap_setCell _ _ _ _ (by have := HB.out.2; show b1 ≠ b0; omega)).trans M1.out)
  have HO4 := Lib.hid (show w4.ownsRow b0 5 1 r bs.length (u8s bs) ∧ Below w.heap.size w w4 from by
    rw [← hw4]
    exact ⟨own_setCell HO.out.1 (fun e => by have := HO.out.2 _ e; omega), BB.out.setCell (p := ⟨b0, 1, none⟩) (by have := HB.out.1; show w.heap.size ≤ b0; omega) _⟩)
  rw [hw4]
  clear hw4 M1 M0' f1 c1
  have d0 := cell_of_row _ b0 0 _ _ _ P0
  have d1 := cell_of_row _ b0 1 _ _ _ P0
  have d2 := cell_of_row _ b0 2 _ _ _ P0
  have k0 := cell_of_row _ b1 0 _ _ _ P1
  have k1 := cell_of_row _ b1 1 _ _ _ P1
  have k2 := cell_of_row _ b1 2 _ _ _ P1
  have g0 := frozen_of_row _ b1 0 _ _ P1
  have g1 := frozen_of_row _ b1 1 _ _ P1
  have g2 := frozen_of_row _ b1 2 _ _ P1
  simp at d0 d1 d2 k0 k1 k2
  rw [hr] at d1 ⊢
  clear P0 P1
  go_wp2
  refine bodyPost_ret (by simp [results, Try.results26, go_sem, k0, k1, k2]; try rfl) rfl ?_
  rw [← hr]
  refine ⟨r, rfl, ?_, ?_⟩
  · have hn1 : r.ownBlock ≠ some b1 := fun e => by have := HO.out.2 _ e; have := HB.out.2; omega
    exact own_mono (by have := HB.out.1; omega) (own_setCell (own_setCell (own_setCell HO4.out.1 hn1) hn1) hn1)
  · exact ((HO4.out.2.setCell (p := ⟨b1, 0, none⟩) (by have := HB.out; show w.heap.size ≤ b1; omega) _).setCell (p := ⟨b1, 1, none⟩) (by have := HB.out; show w.heap.size ≤ b1; omega) _).setCell (p := ⟨b1, 2, none⟩) (by have := HB.out; show w.heap.size ≤ b1; omega) _
end Go.Proofs.Ytdocfoienbadhaa
