/- The second law. Made by gendv10.py. -/
import Derived.Test.YtoddofcmdbifpaaDU
set_option linter.unusedVariables false
set_option linter.unusedSimpArgs false
set_option maxRecDepth 100000
namespace Go.Proofs.Ytoddofcmdbifpaa
open Go.RowKit Go.WideMaps Go.Maps

structure Ac where
  k : Int
  na : Int
  t2 : Int
  n : Int
  ba : Option Addr
  bc : Nat
  b : List Int
  ka : Option Addr
  kc : Nat
  kp : List Int
def enc6 (x : Ac) : List Value := [.int .i64 x.k, .int .u8 x.na, .int .u8 x.t2, .int .i64 x.n, .slice x.ba x.b.length x.bc, .slice x.ka x.kp.length x.kc]
theorem enc6_len (x : Ac) : (enc6 x).length = 6 := rfl
def AcOk (W : World) (x : Ac) : Prop := LiesK encB 1 W (.slice x.ba x.b.length x.bc) x.b ∧ LiesK encN 1 W (.slice x.ka x.kp.length x.kc) x.kp ∧ (-9223372036854775808 ≤ x.n ∧ x.n ≤ 9223372036854775807)
def AB (w : World) (g : Nat) (x : Ac) : Prop := w.heap[g]? = some (.cells #[.int .i64 x.k, .int .u8 x.na, .int .u8 x.t2, .int .i64 x.n, .slice x.ba x.b.length x.bc, .slice x.ka x.kp.length x.kc] 36 (0, 0))
theorem AB.step {w w' : World} {g : Nat} {x : Ac} (h : AB w g x) (hb : Below w.heap.size w w') : AB w' g x := (hb.block g (lt_of_block h)).trans h
theorem AB.far {P : Nat → Prop} {w w' : World} {g : Nat} {x : Ac} (h : AB w g x) (hf : Far P w w') (hn : ¬ P g) : AB w' g x := (hf.block g (lt_of_block h) hn).trans h
theorem AB.cells {w : World} {g : Nat} {x : Ac} (h : AB w g x) : w.cell? ⟨g, 0, none⟩ = some (.int .i64 x.k) ∧ w.cell? ⟨g, 3, none⟩ = some (.int .i64 x.n) ∧ w.cell? ⟨g, 4, none⟩ = some (.slice x.ba x.b.length x.bc) ∧ w.cell? ⟨g, 5, none⟩ = some (.slice x.ka x.kp.length x.kc) := by
  refine ⟨?_, ?_, ?_, ?_⟩ <;> (rw [cell_of_row _ _ _ _ _ _ h]; rfl)
theorem act_at {w : World} {ao : Option Addr} {n cap : Nat} {l : List Ac} (h : LiesK enc6 6 w (.slice ao n cap) l) {i : Nat} (hi : i < n) : ∃ g o x, ao = some ⟨g, o, none⟩ ∧ l[i]? = some x ∧ g < w.heap.size ∧ w.cell? ⟨g, o + i * 6, none⟩ = some (.int .i64 x.k) ∧ w.cell? ⟨g, o + i * 6 + 1, none⟩ = some (.int .u8 x.na) ∧ w.cell? ⟨g, o + i * 6 + 2, none⟩ = some (.int .u8 x.t2) ∧ w.cell? ⟨g, o + i * 6 + 3, none⟩ = some (.int .i64 x.n) ∧ w.cell? ⟨g, o + i * 6 + 4, none⟩ = some (.slice x.ba x.b.length x.bc) ∧ w.cell? ⟨g, o + i * 6 + 5, none⟩ = some (.slice x.ka x.kp.length x.kc) := by
  obtain ⟨g, o, p, e, hx, hg, hc⟩ := h.at' hi
  exact ⟨g, o, p, e, hx, hg, hc 0 _ rfl, hc 1 _ rfl, hc 2 _ rfl, hc 3 _ rfl, hc 4 _ rfl, hc 5 _ rfl⟩
/-- The disk and all that was told it, between two calls. -/
structure HI (w W : World) (d : Nat) (s : DS) (x : Fl) (v : Value) (all : List Int) (sr : Int) : Prop where
  dk : DK W w.heap.size d s
  l : s.l = [x]
  n : x.n = nmA
  sl : sr ≤ x.s
  room : s.room = 16777216
  own : W.ownsRow w.heap.size 5 1 v all.length (all.flatMap encB)
  ap : ∀ j, v.ownBlock = some j → ¬ Has d s j
  bel : Below w.heap.size w W
section
variable {w W W' : World} {d : Nat} {s : DS} {x : Fl} {v : Value} {all : List Int} {sr : Int}
theorem HI.step (h : HI w W d s x v all sr) (hb : Below W.heap.size W W') : HI w W' d s x v all sr :=
  ⟨h.dk.step hb, h.l, h.n, h.sl, h.room, own_belowK h.own hb, h.ap, h.bel.trans (hb.mono h.bel.size)⟩
theorem HI.out (h : HI w W d s x v all sr) {s2 : DS} {x2 : Fl} (ho : Out w.heap.size d s s2 W W') (hl : s2.l = [x2]) (hn : x2.n = nmA) (hs : sr ≤ x2.s) (hr : s2.room = s.room) : HI w W' d s2 x2 v all sr :=
  ⟨ho.dk, hl, hn, hs, hr.trans h.room, ho.far.row h.own h.ap, fun j e q => by
    rcases ho.sub j q with z | z
    · exact h.ap j e z
    · have := (h.own.lt j e).2; omega, h.bel.trans (ho.bel h.dk h.bel.size)⟩
theorem HI.push (h : HI w W d s x v all sr) {v' : Value} {bs : List Int} (ho : W'.ownsRow w.heap.size 5 1 v' (all ++ bs).length ((all ++ bs).flatMap encB)) (hg : W.grownBy W' v.ownBlock) (hs : Sprung W v v') : HI w W' d s x v' (all ++ bs) sr := by
  have hf : Far (fun k => v.ownBlock = some k) W W' := Far.of_grown hg (fun k e => e)
  refine ⟨h.dk.still hf (fun k q e => h.ap k e q), h.l, h.n, h.sl, h.room, ho, fun j e q => ?_, h.bel.trans (hf.below h.bel.size (fun k e => (h.own.lt k e).1))⟩
  rcases hs with e2 | ⟨k, e2, hk⟩
  · exact h.ap j (by rw [← e2]; exact e) q
  · rw [e2] at e
    injection e with e
    have := (h.dk.base j q).2
    omega
theorem HI.fresh (h : HI w W d s x v all sr) (hb : Below W.heap.size W W') {v' : Value} {bs : List Int} (ho : W'.ownsRow W.heap.size 5 1 v' bs.length (bs.flatMap encB)) (sr' : Int) (hs : sr' ≤ x.s) : HI w W' d s x v' bs sr' :=
  ⟨h.dk.step hb, h.l, h.n, hs, h.room, own_less ho h.bel.size, fun j e q => by
    have := (ho.lt j e).1
    have := (h.dk.base j q).2
    omega, h.bel.trans (hb.mono h.bel.size)⟩
theorem HI.ok (h : HI w W d s x v all sr) {a : Ac} (ha : AcOk w a) : AcOk W a := ⟨ha.1.keep h.bel (Nat.le_refl _), ha.2.1.keep h.bel (Nat.le_refl _), ha.2.2⟩
theorem HI.foe {α : Type} {enc : α → List Value} {k : Nat} (h : HI w W d s x v all sr) {u : Value} {bs : List α} (ha : LiesK enc k w u bs) : bs ≠ [] → ∀ j, u.ownBlock = some j → ¬ Has d s j := by
  intro hne j e q
  have := (h.dk.base j q).1
  obtain ⟨ao, cap, rfl, _, _, _, hc⟩ := ha
  cases hb : ao with
  | none => rw [hb] at e; cases e
  | some b =>
    obtain ⟨g, o, rfl, hg, _⟩ := hc b hb hne
    rw [hb] at e
    have : g = j := by simpa [Value.ownBlock] using e
    omega
end
end Go.Proofs.Ytoddofcmdbifpaa
