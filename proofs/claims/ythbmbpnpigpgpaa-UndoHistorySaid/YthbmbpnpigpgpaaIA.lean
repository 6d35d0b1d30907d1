/- Lists of lists of changes: rows of slices, and what a history owns. -/
import Derived.Test.YthbmbpnpigpgpaaHK
import Derived.Test.YthbmbpnpigpgpaaHI
set_option linter.unusedVariables false
set_option linter.unusedSimpArgs false
set_option maxRecDepth 100000
namespace Go.Proofs.Ythbmbpnpigpgpaa
open Go.RowKit

/-- A list of changes, as it lies: where, its room, and what it is. -/
structure Ls where
  a : Option Addr
  c : Nat
  l : List Ch
def Ls.v (x : Ls) : Value := .slice x.a x.l.length x.c
def encL (x : Ls) : List Value := [x.v]
theorem encL_len (x : Ls) : (encL x).length = 1 := rfl
theorem encL_one (x : Ls) : ∀ v ∈ encL x, v.oneCell' = true := by
  intro v hv
  rw [List.mem_singleton.1 hv]
  rfl
noncomputable instance instInhLs : Inhabited Ls := ⟨⟨none, 0, []⟩⟩
theorem flatL_len (l : List Ls) : (l.flatMap encL).length = l.length := by
  rw [flat_len encL_len, Nat.mul_one]
theorem info30 : (Try.prog.info? 30).map (fun i => (i.zero, i.size, i.bytes)) = some (some (.slice none 0 0), 1, 24) := by kernel_rfl
theorem info23 : (Try.prog.info? 23).map (fun i => (i.zero, i.size, i.bytes)) = some (some (.slice none 0 0), 1, 24) := by kernel_rfl
theorem Try.u45 : Try.prog.underlying 45 = some (.slice 30) := by kernel_rfl
theorem Try.u48 : Try.prog.underlying 48 = some (.slice 23) := by kernel_rfl
/-- What stays: all below B, and every row but of some types. -/
structure Kp (S : List Nat) (B : Nat) (W W' : World) : Prop where
  bel : Below B W W'
  oth : ∀ (k : Nat) cs (t : Nat) fr, W.heap[k]? = some (.cells cs t fr) → t ∉ S → W'.heap[k]? = some (.cells cs t fr)
theorem Kp.refl (S : List Nat) (B : Nat) (W : World) : Kp S B W W := ⟨Below.refl _ _, fun _ _ _ _ h _ => h⟩
theorem Kp.of {S : List Nat} {B : Nat} {W W' : World} (hb : Below W.heap.size W W') (hB : B ≤ W.heap.size) : Kp S B W W' :=
  ⟨hb.mono hB, fun k cs t fr h _ => (hb.block k (lt_of_block h)).trans h⟩
theorem Kp.trans {S : List Nat} {B : Nat} {W W' W'' : World} (h : Kp S B W W') (h' : Kp S B W' W'') : Kp S B W W'' :=
  ⟨h.bel.trans h'.bel, fun k cs t fr q hn => h'.oth k cs t fr (h.oth k cs t fr q hn) hn⟩
theorem Kp.step {S : List Nat} {B : Nat} {W W' W'' : World} (h : Kp S B W W') (hb : Below W'.heap.size W' W'') (hB : B ≤ W'.heap.size) : Kp S B W W'' := h.trans (Kp.of hb hB)
theorem Kp.wide {S S' : List Nat} {B : Nat} {W W' : World} (h : Kp S B W W') (hs : ∀ t ∈ S, t ∈ S') : Kp S' B W W' :=
  ⟨h.bel, fun k cs t fr q hn => h.oth k cs t fr q (fun hm => hn (hs t hm))⟩
theorem Kp.grown {S : List Nat} {B : Nat} {W W' : World} {row : Option Nat} (hg : W.grownBy W' row) (hB : B ≤ W.heap.size) (hr : ∀ k, row = some k → B ≤ k ∧ ∃ cs t fr, t ∈ S ∧ W.heap[k]? = some (.cells cs t fr)) : Kp S B W W' :=
  ⟨(Below.refl B W).grown hg hB (fun k e => (hr k e).1), fun k cs t fr h hn => by
    refine (hg.block k (lt_of_block h) (fun e => ?_)).trans h
    obtain ⟨_, cs', t', fr', ht, hb⟩ := hr k e.symm
    rw [h] at hb
    injection hb with hb
    injection hb with _ hb _
    subst hb
    exact hn ht⟩
theorem Kp.set {S : List Nat} {B : Nat} {W : World} {g j : Nat} {u : Value} {cs : Array Value} {t : Nat} {fr : Nat × Nat} (h : W.heap[g]? = some (.cells cs t fr)) (hg : B ≤ g) (ht : t ∈ S) : Kp S B W (W.setCell ⟨g, j, none⟩ u) :=
  ⟨(Below.refl B W).setCell (p := ⟨g, j, none⟩) hg u, fun k cs' t' fr' q hn => by
    refine (Below.heap_setCell _ _ _ _ (fun e => ?_)).trans q
    have e : k = g := e
    subst e
    rw [h] at q
    injection q with q
    injection q with _ q _
    subst q
    exact hn ht⟩
theorem row_block {W : World} {B e size n : Nat} {v : Value} {xs : List Value} (h : W.ownsRow B e size v n xs) : ∀ k, v.ownBlock = some k → B ≤ k ∧ ∃ cs, W.heap[k]? = some (.cells cs e (0, 0)) := by
  intro k hk
  rcases h.2 with ⟨rfl, _⟩ | ⟨g, cap, cur, rfl, hB, hb, _⟩
  · cases hk
  · have e : g = k := by simpa [Value.ownBlock] using hk
    subst e
    exact ⟨hB, _, hb⟩
theorem own_kp {S : List Nat} {B : Nat} {W W' : World} {E e size n : Nat} {v : Value} {xs : List Value} (h : W.ownsRow E e size v n xs) (hk : Kp S B W W') (he : e ∉ S) : W'.ownsRow E e size v n xs := by
  refine ⟨h.1, ?_⟩
  rcases h.2 with q | ⟨g, cap, cur, rfl, hB, hb, q⟩
  · exact .inl q
  · exact .inr ⟨g, cap, cur, rfl, hB, hk.oth g cur e (0, 0) hb he, q⟩
/-! ### rows that are only read -/
def LiesT (t : Nat) (w : World) (v : Value) (l : List Ls) : Prop := LiesK encL 1 w v l ∧ ∀ g o n c, v = .slice (some ⟨g, o, none⟩) n c → l ≠ [] → ∃ cs, w.heap[g]? = some (.cells cs t (0, 0))
theorem LiesT.nil (t : Nat) (w : World) : LiesT t w (.slice none 0 0) [] := ⟨LiesK.nil w, fun g o n c e => by cases e⟩
theorem LiesT.kp {S : List Nat} {B t : Nat} {W W' : World} {v : Value} {l : List Ls} (h : LiesT t W v l) (hk : Kp S B W W') (ht : t ∉ S) : LiesT t W' v l := by
  obtain ⟨⟨ao, cap, rfl, hn, hm, h0, hc⟩, h2⟩ := h
  refine ⟨⟨ao, cap, rfl, hn, hm, h0, fun b hb hne => ?_⟩, fun g o n c e hne => ?_⟩
  · obtain ⟨g, o, rfl, hg, hc2⟩ := hc b hb hne
    subst hb
    obtain ⟨cs, hb⟩ := h2 g o _ _ rfl hne
    have hb' := hk.oth g cs t _ hb ht
    exact ⟨g, o, rfl, lt_of_block hb', fun j p hj i u hi => (World.cell?_of_block (a := ⟨g, o + j * 1 + i, none⟩) (hb'.trans hb.symm)).trans (hc2 j p hj i u hi)⟩
  · obtain ⟨cs, hb⟩ := h2 g o n c e hne
    exact ⟨cs, hk.oth g cs t _ hb ht⟩
theorem LiesT.step {t : Nat} {W W' : World} {v : Value} {l : List Ls} (h : LiesT t W v l) (hb : Below W.heap.size W W') : LiesT t W' v l := h.kp (S := []) (Kp.of hb (Nat.le_refl _)) (by simp)
theorem LiesT.of_own {t B : Nat} {W : World} {v : Value} {l : List Ls} (h : W.ownsRow B t 1 v l.length (l.flatMap encL)) : LiesT t W v l :=
  ⟨own_liesK encL_len h, fun g o n c e hne => by
    subst e
    obtain ⟨_, cs, hb⟩ := row_block h g rfl
    exact ⟨cs, hb⟩⟩
/-- One list less, at its end. -/
theorem LiesT.init {t : Nat} {W : World} {ao : Option Addr} {n cap : Nat} {l : List Ls} {x : Ls} (h : LiesT t W (.slice ao n cap) (l ++ [x])) : LiesT t W (.slice ao l.length cap) l := by
  obtain ⟨⟨ao', cap', e, hn, hm, h0, hc⟩, h2⟩ := h
  injection e with e1 e2 e3
  subst e1 e3
  rw [List.length_append] at hn
  have hne : l ++ [x] ≠ [] := by simp
  refine ⟨⟨ao, cap, rfl, by omega, hm, fun e => absurd (h0 e).1 hne, fun b hb _ => ?_⟩, fun g o n c e _ => ?_⟩
  · obtain ⟨g, o, e, hg, hc2⟩ := hc b hb hne
    exact ⟨g, o, e, hg, fun j p hj i u hi => hc2 j p (by rw [List.getElem?_append_left (List.getElem?_eq_some_iff.1 hj).1]; exact hj) i u hi⟩
  · injection e with e _ _
    exact h2 g o _ _ (by rw [e]) hne
/-- One list less, at its head. -/
theorem LiesT.tail {t : Nat} {W : World} {g o n cap : Nat} {l : List Ls} {x : Ls} (h : LiesT t W (.slice (some ⟨g, o, none⟩) n cap) (x :: l)) (a : Option Addr) (ha : l ≠ [] → a = some ⟨g, o + 1, none⟩) (hz : a ≠ none) : LiesT t W (.slice a l.length (cap - 1)) l := by
  obtain ⟨⟨ao', cap', e, hn, hm, h0, hc⟩, h2⟩ := h
  injection e with e1 e2 e3
  subst e1 e3
  rw [List.length_cons] at hn
  refine ⟨⟨a, cap - 1, rfl, by omega, by omega, fun e => absurd e hz, fun b hb hne => ?_⟩, fun g' o' n c e hne => ?_⟩
  · have := ha hne
    rw [hb] at this
    injection this with this
    subst this
    obtain ⟨g2, o2, e, hg, hc⟩ := hc _ rfl (by simp)
    injection e with e4 e5
    subst e4 e5
    exact ⟨g, o + 1, rfl, hg, fun j p hj i u hi => by
      have := hc (j + 1) p (by simpa using hj) i u hi
      rwa [show o + (j + 1) * 1 + i = o + 1 + j * 1 + i by omega] at this⟩
  · injection e with e _ _
    have := ha hne
    rw [e] at this
    injection this with this
    injection this with this
    subst this
    exact h2 g' o _ _ rfl (by simp)
/-! ### what a history has -/
/-- What a history's two rows are. -/
structure HO (W : World) (B : Nat) (vd vu : Value) (D U : List Ls) : Prop where
  od : W.ownsRow B 30 1 vd D.length (D.flatMap encL)
  ou : W.ownsRow B 30 1 vu U.length (U.flatMap encL)
  ap : ∀ k, vd.ownBlock = some k → vu.ownBlock ≠ some k
  el : ∀ x, x ∈ D ∨ x ∈ U → W.ownsRow B 71 7 x.v x.l.length (x.l.flatMap encH)
theorem HO.swap {W : World} {B : Nat} {vd vu : Value} {D U : List Ls} (h : HO W B vd vu D U) : HO W B vu vd U D :=
  ⟨h.ou, h.od, fun k h1 h2 => h.ap k h2 h1, fun x hx => h.el x hx.symm⟩
theorem HO.kp {S : List Nat} {E B : Nat} {W W' : World} {vd vu : Value} {D U : List Ls} (h : HO W B vd vu D U) (hk : Kp S E W W') (h1 : 30 ∉ S) (h2 : 71 ∉ S) : HO W' B vd vu D U :=
  ⟨own_kp h.od hk h1, own_kp h.ou hk h1, h.ap, fun x hx => own_kp (h.el x hx) hk h2⟩
theorem HO.step {B : Nat} {W W' : World} {vd vu : Value} {D U : List Ls} (h : HO W B vd vu D U) (hb : Below W.heap.size W W') : HO W' B vd vu D U := h.kp (S := []) (Kp.of hb (Nat.le_refl _)) (by simp) (by simp)
theorem HO.rowKp {B : Nat} {W N : World} {vd vu : Value} {D U : List Ls} (h : HO W B vd vu D U) (hB : B ≤ W.heap.size) (hg : W.grownBy N vd.ownBlock) : Kp [30] B W N :=
  Kp.grown hg hB (fun k e => by
    obtain ⟨h1, cs, h2⟩ := row_block h.od k e
    exact ⟨h1, cs, 30, _, by simp, h2⟩)
theorem HO.other {B : Nat} {W N : World} {vd vu : Value} {D U : List Ls} (h : HO W B vd vu D U) (hg : W.grownBy N vd.ownBlock) : N.ownsRow B 30 1 vu U.length (U.flatMap encL) :=
  own_grown h.ou hg (fun j hj e => h.ap j e hj)
theorem HO.push {B E : Nat} {W N : World} {vd vu va : Value} {D U : List Ls} {x : Ls} (h : HO W B vd vu D U) (hB : B ≤ W.heap.size) (hx : W.ownsRow E 71 7 x.v x.l.length (x.l.flatMap encH)) (hE : B ≤ E)
    (ho : N.ownsRow B 30 1 va (D ++ [x]).length ((D ++ [x]).flatMap encL)) (hg : W.grownBy N vd.ownBlock) (sp : Sprung W vd va) : HO N B va vu (D ++ [x]) U := by
  have hk := h.rowKp hB hg
  refine ⟨ho, h.other hg, fun k h1 h2 => ?_, fun y hy => ?_⟩
  · rcases sp with sp | ⟨j, sp, hj⟩
    · exact h.ap k (sp ▸ h1) h2
    · rw [sp] at h1
      injection h1 with h1
      subst h1
      have := (h.ou.lt _ h2).2
      omega
  · rcases hy with hy | hy
    · rcases List.mem_append.1 hy with hy | hy
      · exact own_kp (h.el y (.inl hy)) hk (by simp)
      · rw [List.mem_singleton.1 hy]
        exact own_kp (own_base hx hE) hk (by simp)
    · exact own_kp (h.el y (.inr hy)) hk (by simp)
theorem HO.cut {B : Nat} {W N : World} {vd vu va : Value} {D D' U : List Ls} (h : HO W B vd vu D U) (hB : B ≤ W.heap.size) (ho : N.ownsRow B 30 1 va D'.length (D'.flatMap encL)) (hg : W.grownBy N vd.ownBlock) (he : va.ownBlock = vd.ownBlock) (hs : ∀ x ∈ D', x ∈ D) : HO N B va vu D' U :=
  ⟨ho, h.other hg, fun k h1 => h.ap k (he ▸ h1), fun y hy => own_kp (h.el y (hy.imp (hs y) id)) (h.rowKp hB hg) (by simp)⟩
theorem HO.clear {B : Nat} {W : World} {vd vu : Value} {D U : List Ls} (h : HO W B vd vu D U) : HO W B vd (.slice none 0 0) D [] :=
  ⟨h.od, World.ownsRow_nil _ _ _ _, fun k _ e => (by cases e), fun x hx => h.el x (hx.imp id (fun e => by cases e))⟩
/-- A history. -/
structure HI (W : World) (B hb : Nat) (vd vu : Value) (D U : List Ls) : Prop where
  box : W.heap[hb]? = some (.cells #[vd, vu] 47 (0, 0))
  ge : B ≤ hb
  own : HO W B vd vu D U
theorem HI.kp {S : List Nat} {E B hb : Nat} {W W' : World} {vd vu : Value} {D U : List Ls} (h : HI W B hb vd vu D U) (hk : Kp S E W W') (h1 : 30 ∉ S) (h2 : 71 ∉ S) (h3 : 47 ∉ S) : HI W' B hb vd vu D U :=
  ⟨hk.oth _ _ _ _ h.box h3, h.ge, h.own.kp hk h1 h2⟩
theorem HI.step {B hb : Nat} {W W' : World} {vd vu : Value} {D U : List Ls} (h : HI W B hb vd vu D U) (q : Below W.heap.size W W') : HI W' B hb vd vu D U := h.kp (S := []) (Kp.of q (Nat.le_refl _)) (by simp) (by simp) (by simp)
theorem HI.lt {B hb : Nat} {W : World} {vd vu : Value} {D U : List Ls} (h : HI W B hb vd vu D U) : hb < W.heap.size := lt_of_block h.box
theorem HI.set0 {B hb : Nat} {W : World} {vd vu va : Value} {D' U' : List Ls} (hx : W.heap[hb]? = some (.cells #[vd, vu] 47 (0, 0))) (hB : B ≤ hb) (ho : HO W B va vu D' U') : HI (W.setCell ⟨hb, 0, none⟩ va) B hb va vu D' U' :=
  ⟨row_setC (j := 0) hx, hB, ho.kp (Kp.set (S := [47]) (B := B) hx hB (by simp)) (by simp) (by simp)⟩
theorem HI.set1 {B hb : Nat} {W : World} {vd vu va : Value} {D' U' : List Ls} (hx : W.heap[hb]? = some (.cells #[vd, vu] 47 (0, 0))) (hB : B ≤ hb) (ho : HO W B vd va D' U') : HI (W.setCell ⟨hb, 1, none⟩ va) B hb vd va D' U' :=
  ⟨row_setC (j := 1) hx, hB, ho.kp (Kp.set (S := [47]) (B := B) hx hB (by simp)) (by simp) (by simp)⟩
end Go.Proofs.Ythbmbpnpigpgpaa
