/- A slice of parts that came in: its cells; and a writer beside a row that grows with it. -/
import Derived.Test.YtffnopmadjpopabOnceBase
import Derived.Test.YtffnopmadjpopabView
import Derived.Deep.Slices
import Derived.Deep.Fields
import Derived.ChangeSame
set_option linter.unusedVariables false
namespace Go.Proofs.Ytffnopmadjpopab
open Go.ChangeShapes Go.WideShapes Go.ChangeAt Go.RowKit

/-- A part's data. -/
structure Pt where
  k : Int
  n : Int
  s : ByteArray
  x : Int
  y : Int
def Pt.ok (p : Pt) : Prop := p.n ≤ 9223372036854775807 ∧ p.x ≤ 9223372036854775807 ∧ p.y ≤ 9223372036854775807 ∧ p.s.size ≤ 9223372036854775807
def Pt.v (p : Pt) : Value := part p.k p.n p.s p.x p.y
def Pt.b (p : Pt) : List Int := pb p.k p.n p.s p.x p.y

/-- The slice v holds these parts. -/
def Holds5 (w : World) (v : Value) (ps : List Pt) : Prop :=
  ∃ ao cap, v = .slice ao ps.length cap ∧ ps.length ≤ 9223372036854775807 ∧ (∀ p ∈ ps, p.ok) ∧ (ps ≠ [] → ∃ g off, ao = some ⟨g, off, none⟩ ∧ g < w.heap.size ∧ ∀ i p, ps[i]? = some p →
    w.cell? ⟨g, off + i * 5, none⟩ = some (.int .i64 p.k) ∧ w.cell? ⟨g, off + i * 5 + 1, none⟩ = some (.int .i64 p.n) ∧ w.cell? ⟨g, off + i * 5 + 2, none⟩ = some (.string p.s) ∧
    w.cell? ⟨g, off + i * 5 + 3, none⟩ = some (.int .i64 p.x) ∧ w.cell? ⟨g, off + i * 5 + 4, none⟩ = some (.int .i64 p.y))

theorem pb_len (p : Pt) (h : p.ok) (hs : p.s.size ≤ 300) : p.b.length ≤ 309 := by
  have h1 := nb_len9 p.n.toNat (by have := h.1; omega)
  have h2 := nb_len9 p.x.toNat (by have := h.2.1; omega)
  have h3 := nb_len9 p.y.toNat (by have := h.2.2.1; omega)
  have h4 := nb_len9 p.s.size (by omega)
  have h5 := strI_len p.s
  have h6 : (fb (p.n == 1)).length = 1 := by unfold fb; split <;> rfl
  unfold Pt.b pb
  split
  · omega
  · split
    · omega
    · split
      · unfold tb; rw [List.length_append]; omega
      · split
        · unfold stb; rw [List.length_append]; omega
        · simp

/-- A writer, and a row of the same bytes that lies elsewhere. -/
structure WI (w wr : World) (B a : Nat) (v wv : Value) (L : List Int) : Prop where
  wt : WrI wr B a v L
  row : wr.ownsRow B 5 1 wv L.length (u8s L)
  na : wv.ownBlock ≠ some a
  nv : ∀ k, wv.ownBlock = some k → v.ownBlock ≠ some k
  below : Below w.heap.size w wr
  hB : B ≤ wr.heap.size
  hw : w.heap.size ≤ B

theorem WI.old {w wr W : World} {B a : Nat} {v wv : Value} {L : List Int} (h : WI w wr B a v wv L) (hb : Below wr.heap.size wr W) : WI w W B a v wv L :=
  ⟨h.wt.old hb, own_old h.row hb, h.na, h.nv, h.below.trans (hb.mono h.below.size), Nat.le_trans h.hB hb.size, h.hw⟩

/-- Behind 'writes'. -/
structure WJ (w W : World) (B a : Nat) (v wv x : Value) (L l : List Int) : Prop where
  wt : WrI W B a v (L ++ l)
  row : W.ownsRow B 5 1 wv L.length (u8s L)
  na : wv.ownBlock ≠ some a
  nv : ∀ k, wv.ownBlock = some k → v.ownBlock ≠ some k
  below : Below w.heap.size w W
  hB : B ≤ W.heap.size
  hw : w.heap.size ≤ B
  src : Src Try.prog 1 24 x l.length (u8s l) W
theorem WI.wrote {w wr W : World} {B a : Nat} {v wv x : Value} {L l : List Int} (h : WI w wr B a v wv L) (k : WsOut wr W B a v L x l) : ∃ v', WJ w W B a v' wv x L l := by
  obtain ⟨⟨v', hW, hE⟩, hx⟩ := k
  refine ⟨v', hW, ?_, h.na, ?_, h.below.trans ((hE.below h.wt h.hB).mono h.hw), Nat.le_trans h.hB hE.size, h.hw, (own_lies hx).src⟩
  · rcases h.row.2 with hn | ⟨g, cap, cur, rfl, hg, hh, rest⟩
    · exact ⟨h.row.1, .inl hn⟩
    · refine ⟨h.row.1, .inr ⟨g, cap, cur, rfl, hg, ?_, rest⟩⟩
      rw [hE.block g (lt_of_block hh) (fun e => h.na (by simp [Value.ownBlock, e])) (fun e => h.nv g rfl e.symm)]
      exact hh
  · intro q hq c
    rcases hE.spr with e | ⟨q', e, hq'⟩
    · exact h.nv q hq (e ▸ c)
    · rw [e] at c
      injection c with c
      have := (h.row.lt q hq).2
      omega
theorem WJ.grown {w W W1 : World} {B a : Nat} {v wv wv' x : Value} {L l : List Int} (h : WJ w W B a v wv x L l) (hown : W1.ownsRow B 5 1 wv' (L.length + l.length) (u8s L ++ u8s l)) (hg : W.grownBy W1 wv.ownBlock) (hs : Sprung W wv wv') :
    WI w W1 B a v wv' (L ++ l) := by
  have ha := lt_of_block h.wt.blk
  refine ⟨⟨h.wt.ge, (hg.block a ha (fun e => h.na e.symm)).trans h.wt.blk, h.wt.own.kept hg ?_⟩, by rw [List.length_append, u8s_append]; exact hown, ?_, ?_, ?_, Nat.le_trans h.hB hg.size, h.hw⟩
  · cases hv : v.ownBlock with
    | none => exact .inl rfl
    | some q => exact .inr (fun e => h.nv q e.symm hv)
  · rcases hs with e | ⟨q, e, hq⟩
    · rw [e]; exact h.na
    · rw [e]; intro c; injection c with c; omega
  · intro k hk c
    rcases hs with e | ⟨q, e, hq⟩
    · exact h.nv k (e ▸ hk) c
    · rw [e] at hk; injection hk with hk
      have := (h.wt.own.lt k c).2
      omega
  · exact h.below.grown hg h.below.size (fun k hk => by have := (h.row.lt k hk).1; have := h.hw; omega)

theorem wi_start (w : World) : WI w (w.alloc (.cells #[.slice none 0 0] 26)) w.heap.size w.heap.size (.slice none 0 0) (.slice none 0 0) [] :=
  ⟨wr_start w, World.ownsRow_nil _ _ _ _, by simp [Value.ownBlock], fun k hk => by simp [Value.ownBlock] at hk, (Below.refl _ _).alloc (Nat.le_refl _) _, by simp, Nat.le_refl _⟩
end Go.Proofs.Ytffnopmadjpopab
