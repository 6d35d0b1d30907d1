/- TreeOrder: two trees kept apart; what is left. -/
import Derived.Test.YtkmeceoilighiaaRQ
set_option linter.unusedVariables false
set_option linter.unusedSimpArgs false
set_option maxRecDepth 100000
namespace Go.Proofs.Ytkmeceoilighiaa
open Go.RowKit Go.Shelf
open Tb (Rw TabI TM LiesK)

theorem own_base {w : World} {B B' e k n : Nat} {v : Value} {xs : List Value} (h : w.ownsRow B e k v n xs) (hB : B' ≤ B) : w.ownsRow B' e k v n xs := by
  refine ⟨h.1, ?_⟩
  rcases h.2 with h | ⟨g, cap, cur, h1, h2, h3⟩
  · exact .inl h
  · exact .inr ⟨g, cap, cur, h1, Nat.le_trans hB h2, h3⟩
theorem app34 (w : World) (B : Nat) (v : Value) (l : List O) (x : Value) (m : List O) (hown : w.ownsRow B 34 9 v l.length (cs9 l)) (hs : OLies w x m) (hl : l.length + m.length ≤ 1000) (hB : B ≤ w.heap.size) :
    ∃ va w', (Builtin.append_ #[30, 30] 30 #[v, x]).run Try.prog w = .ok va w' ∧ w'.ownsRow B 34 9 va (l ++ m).length (cs9 (l ++ m)) ∧ Below B w w' := by
  obtain ⟨i0, hi9, hz0, hz1, hz2⟩ := info_parts info25
  obtain ⟨va, w', h1, h2, h3, _⟩ := Tb.run_append_src_own (P := Try.prog) w B 30 30 30 34 i0 (oV O0) 9 80 Try.u27 hi9 hz0 hz1 hz2 rfl (by decide) v l.length (cs9 l) hown x m.length (cs9 m) hs.src (by unfold maxLen; omega) (by omega) hB
  refine ⟨va, w', h1, ?_, (Below.refl B w).grown h3 hB (fun k hk => (own_lt hown k hk).1)⟩
  rw [List.length_append, cs9_append]
  exact h2
theorem LM.permK {L K K' u : List O} (h : LM L K u) (hp : K.Perm K') : LM L K' u :=
  ⟨by rw [← hp.length_eq]; exact h.lg, fun y => by rw [h.mem, hp.mem_iff], h.right⟩
/-- Where the two trees lie. -/
structure Geo (wU w1 w2 : World) (p q mb p' q' mb' : Nat) : Prop where
  u1 : wU.heap.size ≤ w1.heap.size
  one : p < w1.heap.size ∧ q < w1.heap.size ∧ mb < w1.heap.size
  two : p' < w2.heap.size ∧ q' < w2.heap.size ∧ mb' < w2.heap.size
  lo : w1.heap.size ≤ p' ∧ w1.heap.size ≤ q' ∧ w1.heap.size ≤ mb'
  le : w1.heap.size ≤ w2.heap.size
/-- The first loop. -/
structure OA1 (wU w1 w2 W : World) (u : List O) (p q mb p' q' mb' i : Nat) : Prop where
  bel : Below wU.heap.size wU W
  sz : w2.heap.size ≤ W.heap.size
  t1 : ∃ L la lc, TreeI W wU.heap.size p q mb [] 0 0 L la lc ∧ LM L (u.take i) u ∧ ∀ k, (lgV la 0 0).ownBlock = some k → w2.heap.size ≤ k
  t2 : TreeI W w1.heap.size p' q' mb' [] 0 0 [] none 0
theorem lgV_some {g k : Nat} (h : (lgV (some ⟨g, 0, none⟩) 0 0).ownBlock = some k) : k = g := by
  have : some g = some k := h
  injection this with e
  exact e.symm
theorem lgV_none {k : Nat} (h : (lgV none 0 0).ownBlock = some k) : False := by cases h
theorem oa_step {wU w1 w2 W W' : World} {u : List O} {p q mb p' q' mb' i : Nat} {L : List O} {la : Option Addr} {lc : Nat} {x : O} (G : Geo wU w1 w2 p q mb p' q' mb') (hb : Below wU.heap.size wU W) (hsz : w2.heap.size ≤ W.heap.size)
    (t1 : TreeI W wU.heap.size p q mb [] 0 0 L la lc) (lm : LM L (u.take i) u) (hk : ∀ k, (lgV la 0 0).ownBlock = some k → w2.heap.size ≤ k) (t2 : TreeI W w1.heap.size p' q' mb' [] 0 0 [] none 0) (hone : One u) (hx : u[i]? = some x)
    (hr : (addE 0 0 L x ≠ 0 ∧ Below W.heap.size W W') ∨ (addE 0 0 L x = 0 ∧ Far (HasT p mb la) W W' ∧ ∃ g lc', TreeI W' wU.heap.size p q mb [] 0 0 (putO L x) (some ⟨g, 0, none⟩) lc' ∧ ((lgV la 0 0).ownBlock = some g ∨ W.heap.size ≤ g))) :
    OA1 wU w1 w2 W' u p q mb p' q' mb' (i + 1) := by
  have hp : (u.take i ++ ([] ++ x :: u.drop (i + 1))).Perm u := by rw [List.nil_append, ← split_at hx]
  obtain ⟨h0, hl⟩ := lm.put hone hp
  rcases hr with ⟨hn, _⟩ | ⟨_, hf, g, lc', ht', hg⟩
  · exact absurd h0 hn
  · refine ⟨hb.trans (hf.belowT t1), Nat.le_trans hsz hf.size, ⟨_, _, _, ht', ?_, fun k e => ?_⟩, t2.keep hf (fun k h1 h2 => ?_)⟩
    · refine hl.permK ?_
      obtain ⟨h1, h2⟩ := List.getElem?_eq_some_iff.1 hx
      rw [List.take_succ_eq_append_getElem h1, h2]
      exact (List.perm_append_singleton x _).symm
    · have := lgV_some e
      subst this
      rcases hg with e | e
      · exact hk _ e
      · exact Nat.le_trans hsz e
    · have hk1 : w1.heap.size ≤ k ∧ k < w2.heap.size := by
        rcases h1 with (rfl | rfl | e) | rfl
        · exact ⟨G.lo.1, G.two.1⟩
        · exact ⟨G.lo.2.2, G.two.2.2⟩
        · exact (lgV_none e).elim
        · exact ⟨G.lo.2.1, G.two.2.1⟩
      rcases h2 with rfl | rfl | e
      · have := G.one.1; omega
      · have := G.one.2.2; omega
      · have := hk _ e; omega
/-- The second loop. -/
structure OA2 (wU w1 w2 w3 W : World) (u L1 : List O) (p q mb p' q' mb' : Nat) (la1 : Option Addr) (lc1 : Nat) (m K : List O) (lv : Value) : Prop where
  bel : Below wU.heap.size wU W
  sz : w3.heap.size ≤ W.heap.size
  t1 : TreeI W wU.heap.size p q mb [] 0 0 L1 la1 lc1
  t2 : ∃ L la lc, TreeI W w1.heap.size p' q' mb' [] 0 0 L la lc ∧ LM L K u ∧ ∀ k, (lgV la 0 0).ownBlock = some k → w3.heap.size ≤ k ∧ lv.ownBlock ≠ some k
  left : W.ownsRow w3.heap.size 34 9 lv m.length (cs9 m)
  perm : (K ++ m).Perm u
theorem ob_step {wU w1 w2 w3 W W' : World} {u L1 : List O} {p q mb p' q' mb' : Nat} {la1 : Option Addr} {lc1 : Nat} {m K A C : List O} {lv : Value} {L : List O} {la : Option Addr} {lc : Nat} {x : O} (G : Geo wU w1 w2 p q mb p' q' mb') (h23 : w2.heap.size ≤ w3.heap.size)
    (hk1 : ∀ k, (lgV la1 0 0).ownBlock = some k → w2.heap.size ≤ k ∧ k < w3.heap.size)
    (hb : Below wU.heap.size wU W) (hsz : w3.heap.size ≤ W.heap.size) (t1 : TreeI W wU.heap.size p q mb [] 0 0 L1 la1 lc1) (t2 : TreeI W w1.heap.size p' q' mb' [] 0 0 L la lc) (lm : LM L K u)
    (hk : ∀ k, (lgV la 0 0).ownBlock = some k → w3.heap.size ≤ k ∧ lv.ownBlock ≠ some k) (hown : W.ownsRow w3.heap.size 34 9 lv m.length (cs9 m)) (hone : One u) (hp : (K ++ (A ++ x :: C)).Perm u)
    (hr : (addE 0 0 L x ≠ 0 ∧ Below W.heap.size W W') ∨ (addE 0 0 L x = 0 ∧ Far (HasT p' mb' la) W W' ∧ ∃ g lc', TreeI W' w1.heap.size p' q' mb' [] 0 0 (putO L x) (some ⟨g, 0, none⟩) lc' ∧ ((lgV la 0 0).ownBlock = some g ∨ W.heap.size ≤ g))) :
    Below wU.heap.size wU W' ∧ W.heap.size ≤ W'.heap.size ∧ TreeI W' wU.heap.size p q mb [] 0 0 L1 la1 lc1 ∧ (∃ L la lc, TreeI W' w1.heap.size p' q' mb' [] 0 0 L la lc ∧ LM L (x :: K) u ∧ ∀ k, (lgV la 0 0).ownBlock = some k → w3.heap.size ≤ k ∧ k < W'.heap.size) ∧ W'.ownsRow w3.heap.size 34 9 lv m.length (cs9 m) := by
  obtain ⟨h0, hl⟩ := lm.put hone hp
  have hle := G.le
  rcases hr with ⟨hn, _⟩ | ⟨_, hf, g, lc', ht', hg⟩
  · exact absurd h0 hn
  · refine ⟨hb.trans ((hf.belowT t2).mono G.u1), hf.size, t1.keep hf (fun k h1 h2 => ?_), ⟨_, _, _, ht', hl, fun k e => ⟨?_, ?_⟩⟩, hf.row hown (fun j hj h2 => ?_)⟩
    · have h3 : k < w1.heap.size ∨ (w2.heap.size ≤ k ∧ k < w3.heap.size) := by
        rcases h1 with (rfl | rfl | e) | rfl
        · exact .inl G.one.1
        · exact .inl G.one.2.2
        · exact .inr (hk1 _ e)
        · exact .inl G.one.2.1
      rcases h2 with rfl | rfl | e
      · have := G.lo.1; have := G.two.1; omega
      · have := G.lo.2.2; have := G.two.2.2; omega
      · have := (hk _ e).1; omega
    · have := lgV_some e
      subst this
      rcases hg with e | e
      · exact (hk _ e).1
      · exact Nat.le_trans hsz e
    · exact (ht'.has (.inr (.inr e))).2
    · have h3 := own_lt hown j hj
      rcases h2 with rfl | rfl | e
      · have := G.two.1; omega
      · have := G.two.2.2; omega
      · exact (hk _ e).2 hj
/-- Behind a round of the second loop. -/
theorem ob_next {wU w1 w2 w3 W W' : World} {u L1 : List O} {p q mb p' q' mb' : Nat} {la1 : Option Addr} {lc1 : Nat} {m' K' : List O} {lv' : Value}
    (hb : Below wU.heap.size wU W) (hsz : w3.heap.size ≤ W.heap.size) (t1 : TreeI W wU.heap.size p q mb [] 0 0 L1 la1 lc1) (hu : wU.heap.size ≤ W.heap.size)
    (t2 : ∃ L la lc, TreeI W w1.heap.size p' q' mb' [] 0 0 L la lc ∧ LM L K' u ∧ ∀ k, (lgV la 0 0).ownBlock = some k → w3.heap.size ≤ k ∧ k < W.heap.size)
    (hW : Below W.heap.size W W') (hown : W'.ownsRow W.heap.size 34 9 lv' m'.length (cs9 m')) (hp : (K' ++ m').Perm u) : OA2 wU w1 w2 w3 W' u L1 p q mb p' q' mb' la1 lc1 m' K' lv' := by
  obtain ⟨L, la, lc, h1, h2, h3⟩ := t2
  refine ⟨hb.trans (hW.mono hu), Nat.le_trans hsz hW.size, t1.step hW, ⟨L, la, lc, h1.step hW, h2, fun k e => ⟨(h3 k e).1, fun e2 => ?_⟩⟩, own_base hown hsz, hp⟩
  have := (own_lt hown k e2).1
  have := (h3 k e).2
  omega
theorem add3 {k : Nat} (hk : k < 100000) (W : World) : (binOp .add 3 (.int .i64 (k : Int)) (.int .i64 1)).run Try.prog W = .ok (.int .i64 ((k + 1 : Nat) : Int)) W := by
  have e : wrap64 ((k : Int) + 1) = (k : Int) + 1 := by unfold wrap64; omega
  go_simp
  rw [IntKind.wrap_i64]
  omega
theorem gadd (x y : Operand) (u v : Value) (w : World) : (eqGuard .add 3 x y u v).run Try.prog w = .ok () w := rfl
theorem ld5 {W : World} {g o : Nat} {b : Int} (c0 : W.cell? ⟨g, o, none⟩ = some (.int .u8 b)) : (Instr.loadAt 5 (.pointer (some ⟨g, o, none⟩))).run Try.prog W = .ok (.int .u8 b) W := by
  go_simp
end Go.Proofs.Ytkmeceoilighiaa
