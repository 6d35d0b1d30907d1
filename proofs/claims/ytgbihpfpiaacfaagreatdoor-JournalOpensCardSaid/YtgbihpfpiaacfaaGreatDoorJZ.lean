/- Merged by tools/merge.py: JL, JM, JN, JO, JP, JQ, JR, JS, JT, JU, JV, JW, JX, JActs. -/
import Derived.Test.YtgbihpfpiaacfaaGreatDoorJEnds
import Derived.Test.YtgbihpfpiaacfaaGreatDoorJI
import Derived.ProofKit
import Derived.LaidMore
import Derived.OpenShut
import Derived.Stop.Joined
import Derived.SevenTiedAt
import Derived.Carry
import Derived.Lib.SmallJoins
import Derived.Deep.Slices
import Derived.Shelf.Vars
import Derived.Lay

set_option linter.unusedVariables false
set_option linter.unusedSimpArgs false
set_option maxRecDepth 100000
namespace Go.Proofs.YtgbihpfpiaacfaaGreatDoor
open Go.RowKit Go.Shelf Go.WideMaps Go.Maps

/-- What stands between two rounds: L is what was told by the segments before, ms the marks of their loops. -/
structure RL (w : World) (lo E k : Nat) (L : List (List Nat)) (rs : List (Nat × List Nat)) (ms : List Nat) (i : Nat) (vs : List Value) (ov : Value) (W : World) : Prop where
  b1 : W.heap[k]? = some (.cells #[ov] 30 (0, 0))
  row : W.ownsRow w.heap.size 39 1 ov vs.length vs
  away : ∀ g, ov.ownBlock = some g → g < lo ∨ E ≤ g
  len : vs.length = L.length + i
  each : ∀ (j : Nat) u p, vs[j]? = some u → (L ++ rs.map (·.2))[j]? = some p → Rc.Lies W u p ∧ (p ≠ [] → ∀ g, u.ownBlock = some g → ov.ownBlock ≠ some g)
  b2 : W.heap[k + 1]? = some (.cells #[.int .i64 ((Rc.takes (rs.take i) : Nat) : Int)] 3 (0, 0))
  bel : Below w.heap.size w W
  size : E ≤ W.heap.size
  mks : ∀ D ∈ ms, w.heap.size ≤ D ∧ D < lo ∧ W.heap[D]? = some (.deferred (some []))
def RM (w : World) (lo E k : Nat) (L : List (List Nat)) (rs : List (Nat × List Nat)) (ms : List Nat) (i : Nat) (W : World) : Prop := ∃ vs ov, RL w lo E k L rs ms i vs ov W
theorem RM.own {w : World} {lo E k B : Nat} {L : List (List Nat)} {rs : List (Nat × List Nat)} {ms : List Nat} (hB : w.heap.size ≤ B) (hlo : lo ≤ B) : OwnFrom B (RM w lo E k L rs ms) := by
  intro i W W' row h hg hr
  obtain ⟨vs, ov, h⟩ := h
  have nb : ∀ {g : Nat} {cs : Array Value} {t : TypeId} {fr : Nat × Nat}, W.heap[g]? = some (.cells cs t fr) → W'.heap[g]? = some (.cells cs t fr) := fun {g cs t fr} hb => (hg.block g (lt_of_block hb) (fun e => by
    obtain ⟨_, o, ho, hc⟩ := hr _ e.symm
    rw [hb] at ho
    cases ho
    cases hc)).trans hb
  refine ⟨vs, ov, nb h.b1, ?_, h.away, h.len, fun j u p hu hp => ⟨lies_keptN (h.each j u p hu hp).1 hg (fun g e => .inr (hr g e).2), (h.each j u p hu hp).2⟩, nb h.b2, h.bel.grown hg h.bel.size (fun g e => Nat.le_trans hB (hr g e).1), Nat.le_trans h.size hg.size, fun D hD => ?_⟩
  · refine ⟨h.row.1, ?_⟩
    rcases h.row.2 with q | ⟨g, cap, cur, rfl, hE, hb, q⟩
    · exact .inl q
    · exact .inr ⟨g, cap, cur, rfl, hE, nb hb, q⟩
  · obtain ⟨m1, m2, m3⟩ := h.mks D hD
    exact ⟨m1, m2, (hg.block D (Array.getElem?_eq_some_iff.1 m3).1 (fun e => by have := (hr D e.symm).1; omega)).trans m3⟩
theorem RL.push {w : World} {E k lo : Nat} {L : List (List Nat)} {ms : List Nat} {rs : List (Nat × List Nat)} {i : Nat} {vs : List Value} {ov v' : Value} {W W3 : World} {a : Option Addr} {c : Nat} {p : Nat × List Nat} {t : Int} (h : RL w lo E k L rs ms i vs ov W) (hp : rs[i]? = some p) (hk : w.heap.size ≤ k) (hkl : k + 1 < lo) (hwE : w.heap.size ≤ E) (hloE : lo ≤ E)
    (hL : Rc.Lies W (.slice a p.2.length c) p.2) (hfr : ∀ ad, a = some ad → ov.ownBlock ≠ some ad.block) (ho : W3.ownsRow w.heap.size 39 1 v' (vs ++ [Value.slice a p.2.length c]).length (vs ++ [Value.slice a p.2.length c])) (hg : (W.alloc (.cells #[.slice a p.2.length c] 39)).grownBy W3 ov.ownBlock)
    (hs : Sprung (W.alloc (.cells #[.slice a p.2.length c] 39)) ov v') (ht : t = ((Rc.takes (rs.take (i + 1)) : Nat) : Int)) :
    W3.heap[k]? = some (.cells #[ov] 30 (0, 0)) ∧ (W3.setCell ⟨k, 0, none⟩ v').heap[k + 1]? = some (.cells #[.int .i64 ((Rc.takes (rs.take i) : Nat) : Int)] 3 (0, 0)) ∧
    RM w lo E k L rs ms (i + 1) ((W3.setCell ⟨k, 0, none⟩ v').setCell ⟨k + 1, 0, none⟩ (.int .i64 t)) ∧ Rc.KeepRow lo E W ((W3.setCell ⟨k, 0, none⟩ v').setCell ⟨k + 1, 0, none⟩ (.int .i64 t)) ∧ KeepsOthers W ((W3.setCell ⟨k, 0, none⟩ v').setCell ⟨k + 1, 0, none⟩ (.int .i64 t)) := by
  have hB := vstep W (.cells #[.slice a p.2.length c] 39)
  obtain ⟨W2, hW2⟩ : ∃ z, W.alloc (.cells #[.slice a p.2.length c] 39) = z := ⟨_, rfl⟩
  have hK0 := KeepsOthers.alloc W (.cells #[.slice a p.2.length c] 39)
  rw [hW2] at hB hg hs hK0
  have hr2 : W2.ownsRow w.heap.size 39 1 ov vs.length vs := own_belowK h.row hB
  have own39 : ∀ g, ov.ownBlock = some g → w.heap.size ≤ g ∧ ∃ cs, W2.heap[g]? = some (.cells cs 39 (0, 0)) := by
    intro g hg'
    rcases hr2.2 with ⟨rfl, _⟩ | ⟨g', cap, cur, rfl, hE, hb, _⟩
    · cases hg'
    · have : g' = g := by simpa [Value.ownBlock] using hg'
      subst this
      exact ⟨hE, cur, hb⟩
  have nb : ∀ {g : Nat} {cs : Array Value} {t : TypeId} {fr : Nat × Nat}, W.heap[g]? = some (.cells cs t fr) → t ≠ 39 → W3.heap[g]? = some (.cells cs t fr) := fun {g cs t fr} hb ht => by
    have hb2 := (hB.block g (lt_of_block hb)).trans hb
    refine (hg.block g (lt_of_block hb2) (fun e => ?_)).trans hb2
    obtain ⟨_, cs', h'⟩ := own39 g e.symm
    rw [hb2] at h'
    injection h' with h'
    injection h' with _ h' _
    exact ht h'
  have q1 := nb h.b1 (by decide)
  have q2 := nb h.b2 (by decide)
  have hkk : k + 1 ≠ k := by omega
  have s1 : (W3.setCell ⟨k, 0, none⟩ v').heap[k]? = some (.cells #[v'] 30 (0, 0)) := row_setC (j := 0) q1
  have s2 : (W3.setCell ⟨k, 0, none⟩ v').heap[k + 1]? = _ := (Below.heap_setCell W3 ⟨k, 0, none⟩ v' (k + 1) (by show ¬ (k + 1 = k); omega)).trans q2
  have s3 := row_setC (j := 0) (u := .int .i64 t) s2
  have s4 : ((W3.setCell ⟨k, 0, none⟩ v').setCell ⟨k + 1, 0, none⟩ (.int .i64 t)).heap[k]? = _ := (Below.heap_setCell (W3.setCell ⟨k, 0, none⟩ v') ⟨k + 1, 0, none⟩ (.int .i64 t) k (by show ¬ (k = k + 1); omega)).trans s1
  have oth : ∀ g, g ≠ k → g ≠ k + 1 → ((W3.setCell ⟨k, 0, none⟩ v').setCell ⟨k + 1, 0, none⟩ (.int .i64 t)).heap[g]? = W3.heap[g]? := fun g e1 e2 =>
    (Below.heap_setCell (W3.setCell ⟨k, 0, none⟩ v') ⟨k + 1, 0, none⟩ (.int .i64 t) g (by show ¬ (g = k + 1); exact e2)).trans (Below.heap_setCell W3 ⟨k, 0, none⟩ v' g (by show ¬ (g = k); exact e1))
  have hE3 : E ≤ W3.heap.size := Nat.le_trans h.size (Nat.le_trans hB.size hg.size)
  have hk3 := lt_of_block q1
  have hk4 := lt_of_block q2
  have set2 : ∀ {u : Value} {bs : List Nat}, Rc.Lies W3 u bs → (bs ≠ [] → u.ownBlock ≠ some k ∧ u.ownBlock ≠ some (k + 1)) → Rc.Lies ((W3.setCell ⟨k, 0, none⟩ v').setCell ⟨k + 1, 0, none⟩ (.int .i64 t)) u bs := by
    intro u bs hl hne
    obtain ⟨ao, cap, rfl, l1, l2, l3, l4⟩ := hl
    refine ⟨ao, cap, rfl, l1, l2, l3, fun b hb hn => ?_⟩
    obtain ⟨g, o, rfl, hgl, hc⟩ := l4 b hb hn
    have := hne hn
    rw [hb] at this
    have e1 : g ≠ k := fun e => this.1 (by rw [e]; rfl)
    have e2 : g ≠ k + 1 := fun e => this.2 (by rw [e]; rfl)
    exact ⟨g, o, rfl, by simpa [World.setCell] using hgl, fun j x hj => (World.cell?_of_block (a := ⟨g, o + j, none⟩) (oth g e1 e2)).trans (hc j x hj)⟩
  -- bytes do not lie in the boxes
  have nbox : ∀ {u : Value} {bs : List Nat}, Rc.Lies W u bs → bs ≠ [] → u.ownBlock ≠ some k ∧ u.ownBlock ≠ some (k + 1) := by
    intro u bs hl hne
    obtain ⟨ao, cap, rfl, l1, l2, l3, l4⟩ := hl
    cases ao with
    | none => exact absurd (l3 rfl).1 hne
    | some b =>
      obtain ⟨g, o, rfl, hgl, hc⟩ := l4 b rfl hne
      have hpos : 0 < bs.length := by cases bs with | nil => exact absurd rfl hne | cons => simp
      have hc0 := hc 0 bs[0] (List.getElem?_eq_getElem hpos)
      have tell : ∀ (g' : Nat) (cv : Value) (t' : TypeId), W.heap[g']? = some (.cells #[cv] t' (0, 0)) → (∀ x : Int, cv ≠ .int .u8 x) → g ≠ g' := fun g' cv t' hb hcv e => by
        subst e
        rw [cell_of_row _ _ _ _ _ _ hb] at hc0
        have h0 : o + 0 = 0 := by
          have := (Array.getElem?_eq_some_iff.1 hc0).1
          simp at this
          omega
        rw [h0] at hc0
        simp at hc0
        exact hcv _ hc0
      refine ⟨fun e => ?_, fun e => ?_⟩
      · have e : g = k := by simpa [Value.ownBlock] using e
        refine tell k ov 30 h.b1 (fun x hx => ?_) e
        rcases h.row.2 with ⟨q, _⟩ | ⟨_, _, _, q, _⟩ <;> (rw [q] at hx; cases hx)
      · have e : g = k + 1 := by simpa [Value.ownBlock] using e
        exact tell (k + 1) _ 3 h.b2 (fun x hx => by cases hx) e
  have keep : ∀ {u : Value} {bs : List Nat}, Rc.Lies W u bs → (bs ≠ [] → ∀ g, u.ownBlock = some g → ov.ownBlock ≠ some g) → Rc.Lies ((W3.setCell ⟨k, 0, none⟩ v').setCell ⟨k + 1, 0, none⟩ (.int .i64 t)) u bs := by
    intro u bs hl hne
    exact set2 (lies_keptN (hl.later hB) hg (fun g e => .inl (fun hn e2 => hne hn g e2 e))) (nbox hl)
  have newB : ∀ {u : Value} {bs : List Nat}, Rc.Lies W u bs → (bs ≠ [] → ∀ g, u.ownBlock = some g → ov.ownBlock ≠ some g) → bs ≠ [] → ∀ g, u.ownBlock = some g → v'.ownBlock ≠ some g := by
    intro u bs hl hne hn g hu hv
    rcases hs with hs | ⟨z, hs, hz⟩
    · exact hne hn g hu (hs ▸ hv)
    · rw [hs] at hv
      injection hv with hv
      subst hv
      obtain ⟨ao, cap, rfl, l1, l2, l3, l4⟩ := hl
      cases ao with
      | none => cases hu
      | some b =>
        obtain ⟨g', o, rfl, hgl, _⟩ := l4 b rfl hn
        have : g' = z := by simpa [Value.ownBlock] using hu
        have := hB.size
        omega
  have hLn : p.2 ≠ [] → ∀ g, (Value.slice a p.2.length c).ownBlock = some g → ov.ownBlock ≠ some g := fun _ g e => by
    cases a with
    | none => cases e
    | some ad =>
      have e : ad.block = g := by simpa [Value.ownBlock] using e
      subst e
      exact hfr ad rfl
  have hbelow : Below w.heap.size w ((W3.setCell ⟨k, 0, none⟩ v').setCell ⟨k + 1, 0, none⟩ (.int .i64 t)) := by
    have hb2 : Below w.heap.size w W2 := h.bel.trans (hB.mono h.bel.size)
    have hb3 : Below w.heap.size w W3 := hb2.grown hg hb2.size (fun g e => (own39 g e).1)
    exact (hb3.setCell (p := ⟨k, 0, none⟩) hk _).setCell (p := ⟨k + 1, 0, none⟩) (by show w.heap.size ≤ k + 1; omega) _
  refine ⟨q1, s2, ⟨vs ++ [Value.slice a p.2.length c], v', s4, ?_, ?_, by rw [List.length_append, h.len]; rfl, ?_, by rw [← ht]; exact s3, hbelow, by simpa [World.setCell] using hE3, ?_⟩, ?_, ?_⟩
  · refine ⟨ho.1, ?_⟩
    rcases ho.2 with q | ⟨g, cap, cur, e, hE, hb, q⟩
    · exact .inl q
    · refine .inr ⟨g, cap, cur, e, hE, (oth g (fun e1 => ?_) (fun e1 => ?_)).trans hb, q⟩
      · subst e1
        rw [q1] at hb
        injection hb with hb
        injection hb with _ hb _
        cases hb
      · subst e1
        rw [q2] at hb
        injection hb with hb
        injection hb with _ hb _
        cases hb
  · intro g e
    rcases hs with hs | ⟨z, hs, hz⟩
    · exact h.away g (hs ▸ e)
    · rw [hs] at e
      injection e with e
      have := hB.size
      have := h.size
      omega
  · intro j u pj hu hpj
    by_cases hj : j < vs.length
    · rw [List.getElem?_append_left hj] at hu
      obtain ⟨e1, e2⟩ := h.each j u pj hu hpj
      exact ⟨keep e1 e2, newB e1 e2⟩
    · have hj2 : j = vs.length := by
        have := (List.getElem?_eq_some_iff.1 hu).1
        simp at this
        omega
      subst hj2
      rw [List.getElem?_append_right (Nat.le_refl _), Nat.sub_self] at hu
      have hu : Value.slice a p.2.length c = u := by simpa using hu
      rw [h.len, List.getElem?_append_right (Nat.le_add_right _ _), Nat.add_sub_cancel_left, List.getElem?_map, hp] at hpj
      injection hpj with hpj
      subst hu hpj
      exact ⟨keep hL hLn, newB hL hLn⟩
  · intro D hD
    obtain ⟨m1, m2, m3⟩ := h.mks D hD
    have m4 := (hB.block D (Array.getElem?_eq_some_iff.1 m3).1).trans m3
    have m5 := (hg.block D (Array.getElem?_eq_some_iff.1 m4).1 (fun e => by
      obtain ⟨_, cs, hb⟩ := own39 D e.symm
      rw [m4] at hb
      cases hb)).trans m4
    refine ⟨m1, m2, (oth D (fun e => ?_) (fun e => ?_)).trans m5⟩
    · subst e; rw [q1] at m5; cases m5
    · subst e; rw [q2] at m5; cases m5
  · intro g hg1 hg2 o ho' hc
    have e1 := (hB.block g (Array.getElem?_eq_some_iff.1 ho').1).trans ho'
    have e2 := (hg.block g (Array.getElem?_eq_some_iff.1 e1).1 (fun e => by have := h.away g e.symm; omega)).trans e1
    exact (oth g (by omega) (by omega)).trans e2
  · exact ((hK0.trans (KeepsOthers.of_grownBy hg (fun j o e hj => by
      obtain ⟨_, cs, hb⟩ := own39 j e
      rw [hb] at hj
      injection hj with hj
      subst hj
      rfl))).trans (KeepsOthers.setCell _ _ _)).trans (KeepsOthers.setCell _ _ _)
/-! ### what the records say, where a box turns, or a mark is taken -/
theorem Says.box {W : World} {E q d : Nat} {v u : Value} {L : List (List Nat)} {a1 a2 a3 a4 : Int} (h : Says W E v L) (hq : W.heap[q]? = some (.cells #[pv d, .int .i64 a1, .int .i64 a2, .int .i64 a3, .int .i64 a4] 74 (0, 0))) : Says (W.setCell ⟨q, 4, none⟩ u) E v L := by
  obtain ⟨vs, h1, h2, h3⟩ := h
  have oth : ∀ g, g ≠ q → (W.setCell ⟨q, 4, none⟩ u).heap[g]? = W.heap[g]? := fun g hne => Below.heap_setCell W ⟨q, 4, none⟩ u g (fun e => hne e)
  refine ⟨vs, row_at h1 (fun g e => oth g (fun e2 => ?_)), h2, fun i x b hu hL => ?_⟩
  · rcases h1.2 with ⟨q', _⟩ | ⟨g', cap, cur, q', hE, hg, _⟩
    · rw [q'] at e; cases e
    · rw [q'] at e
      have e : g' = g := by simpa [Value.ownBlock] using e
      subst e
      rw [e2, hq] at hg
      injection hg with hg
      injection hg with _ hg _
      cases hg
  · have hl := h3 i x b hu hL
    refine lies_apart hl (by simp [World.setCell]) (fun hn g e hgl => oth g (fun e2 => ?_))
    exact lies_box hl hn hq (fun j x => by
      match j with
      | 0 => simp
      | 1 => simp
      | 2 => simp
      | 3 => simp
      | 4 => simp
      | j + 5 => simp) (by rw [← e2]; exact e)
theorem Says.mark {W : World} {E D : Nat} {v : Value} {o' : Obj} {L : List (List Nat)} (h : Says W E v L) (hD : W.heap[D]? = some (.deferred (some []))) : Says (W.putObj D o') E v L := by
  obtain ⟨vs, h1, h2, h3⟩ := h
  refine ⟨vs, row_at h1 (fun g e => World.putObj_heap_other (fun e2 => ?_)), h2, fun i x b hu hL => Rc.lies_putObj (h3 i x b hu hL) hD rfl⟩
  have hD2 : W.heap[g]? = some (.deferred (some [])) := by first | (rw [← e2]; exact hD) | (rw [e2]; exact hD)
  rcases h1.2 with ⟨q', _⟩ | ⟨g', cap, cur, q', hE, hg, _⟩
  · rw [q'] at e; cases e
  · rw [q'] at e
    have e : g' = g := by simpa [Value.ownBlock] using e
    subst e
    rw [hD2] at hg
    cases hg
theorem RL.says {w : World} {lo E k : Nat} {L : List (List Nat)} {rs : List (Nat × List Nat)} {ms : List Nat} {vs : List Value} {ov : Value} {W : World} (h : RL w lo E k L rs ms rs.length vs ov W) : Says W w.heap.size ov (L ++ rs.map (·.2)) :=
  ⟨vs, h.row, by rw [h.len, List.length_append, List.length_map], fun i u b hu hL => (h.each i u b hu hL).1⟩
/-! ### the marks of all rounds, taken -/
def mkd (D : Nat) : Deferred := { target := .collected D, args := #[] }
def shut (W : World) : List Nat → World
  | [] => W
  | D :: ms => shut (W.putObj D (.deferred none)) ms
theorem leaves_marks {F : Fence} {n : Nat} {fn : Func} {tmps : Array Value} {R : Ending → World → Prop} : ∀ (ms : List Nat) (W : World) (u : FrameMode), u ≠ .run → ms.Nodup → (∀ D ∈ ms, W.heap[D]? = some (.deferred (some []))) → LeavesInM F n Tryz.prog fn tmps R [] u (shut W ms) → LeavesInM F n Tryz.prog fn tmps R (ms.map mkd) u W
  | [], W, u, _, _, _, h => h
  | D :: ms, W, u, hu, hn, hm, h => by
    refine ⟨hu, .inl ⟨D, _, rfl, run_takeDeferred (hm D (List.mem_cons_self ..)), leaves_marks ms _ u hu (List.nodup_cons.1 hn).2 (fun D' hD' => ?_) h⟩⟩
    exact (World.putObj_heap_other (fun e => (List.nodup_cons.1 hn).1 (by first | exact e ▸ hD' | exact e.symm ▸ hD'))).trans (hm D' (List.mem_cons_of_mem _ hD'))
theorem shut_says {E : Nat} {v : Value} {L : List (List Nat)} : ∀ (ms : List Nat) (W : World), ms.Nodup → (∀ D ∈ ms, W.heap[D]? = some (.deferred (some []))) → Says W E v L → Says (shut W ms) E v L
  | [], W, _, _, h => h
  | D :: ms, W, hn, hm, h => shut_says ms _ (List.nodup_cons.1 hn).2 (fun D' hD' => (World.putObj_heap_other (fun e => (List.nodup_cons.1 hn).1 (by first | exact e ▸ hD' | exact e.symm ▸ hD'))).trans (hm D' (List.mem_cons_of_mem _ hD'))) (h.mark (hm D (List.mem_cons_self ..)))
theorem shut_far : ∀ (ms : List Nat) (W : World), Far (fun k => k ∈ ms) W (shut W ms)
  | [], W => Far.refl _ _
  | D :: ms, W => ((Far.of_grown (P := fun k => k ∈ D :: ms) (grownBy_putObj' W D (.deferred none)) (fun k e => by cases e; exact List.mem_cons_self ..))).trans (shut_far ms _) (fun k _ e => List.mem_cons_of_mem _ e)
end Go.Proofs.YtgbihpfpiaacfaaGreatDoor

set_option linter.unusedVariables false
set_option linter.unusedSimpArgs false
set_option maxRecDepth 100000
namespace Go.Proofs.YtgbihpfpiaacfaaGreatDoor
open Go.RowKit Go.Shelf Go.WideMaps Go.Maps

structure RHd (w : World) (k : Nat) (L : List (List Nat)) (ms : List Nat) (vs : List Value) (ov : Value) (x : Int) (W : World) : Prop where
  b1 : W.heap[k]? = some (.cells #[ov] 30 (0, 0))
  row : W.ownsRow w.heap.size 39 1 ov vs.length vs
  len : vs.length = L.length
  each : ∀ (j : Nat) u p, vs[j]? = some u → L[j]? = some p → Rc.Lies W u p ∧ (p ≠ [] → ∀ g, u.ownBlock = some g → ov.ownBlock ≠ some g)
  b2 : W.heap[k + 1]? = some (.cells #[.int .i64 x] 3 (0, 0))
  bel : Below w.heap.size w W
  mks : ∀ D ∈ ms, w.heap.size ≤ D ∧ W.heap[D]? = some (.deferred (some []))
theorem RHd.step {w W W' : World} {k : Nat} {L : List (List Nat)} {ms : List Nat} {vs : List Value} {ov : Value} {x : Int} (h : RHd w k L ms vs ov x W) (hb : Below W.heap.size W W') : RHd w k L ms vs ov x W' :=
  ⟨(hb.block _ (lt_of_block h.b1)).trans h.b1, own_belowK h.row hb, h.len, fun j u p hu hp => ⟨(h.each j u p hu hp).1.later hb, (h.each j u p hu hp).2⟩, (hb.block _ (lt_of_block h.b2)).trans h.b2, h.bel.trans (hb.mono h.bel.size),
   fun D hD => ⟨(h.mks D hD).1, (hb.block _ (Array.getElem?_eq_some_iff.1 (h.mks D hD).2).1).trans (h.mks D hD).2⟩⟩
theorem RHd.zero {w W : World} {k : Nat} {L : List (List Nat)} {ms : List Nat} {vs : List Value} {ov : Value} {x : Int} (h : RHd w k L ms vs ov x W) (hk : w.heap.size ≤ k + 1) : RHd w k L ms vs ov 0 (W.setCell ⟨k + 1, 0, none⟩ (.int .i64 0)) := by
  have oth : ∀ g, g ≠ k + 1 → (W.setCell ⟨k + 1, 0, none⟩ (.int .i64 0)).heap[g]? = W.heap[g]? := fun g hne => Below.heap_setCell W ⟨k + 1, 0, none⟩ (.int .i64 0) g (fun e => hne e)
  refine ⟨(oth k (by omega)).trans h.b1, row_at h.row (fun g e => oth g (fun e2 => ?_)), h.len, fun j u p hu hp => ⟨?_, (h.each j u p hu hp).2⟩, row_setC (j := 0) h.b2, h.bel.setCell (p := ⟨k + 1, 0, none⟩) hk _, fun D hD => ⟨(h.mks D hD).1, (oth D (fun e => ?_)).trans (h.mks D hD).2⟩⟩
  · rcases h.row.2 with ⟨q', _⟩ | ⟨g', cap, cur, q', hE, hg, _⟩
    · rw [q'] at e; cases e
    · rw [q'] at e
      have e : g' = g := by simpa [Value.ownBlock] using e
      subst e
      rw [e2, h.b2] at hg
      injection hg with hg
      injection hg with _ hg _
      cases hg
  · refine lies_apart (h.each j u p hu hp).1 (by simp [World.setCell]) (fun hn g e hgl => oth g (fun e2 => ?_))
    exact lies_box (h.each j u p hu hp).1 hn h.b2 (fun j x => by
      match j with
      | 0 => simp
      | j + 1 => simp) (by rw [← e2]; exact e)
  · have := (h.mks D hD).2
    rw [e, h.b2] at this
    cases this
theorem RHd.rl {w W W' : World} {k : Nat} {L : List (List Nat)} {rs : List (Nat × List Nat)} {ms : List Nat} {vs : List Value} {ov : Value} (h : RHd w k L ms vs ov 0 W) (hb : Below W.heap.size W W') : RL w W.heap.size W'.heap.size k L rs ms 0 vs ov W' := by
  have H := h.step hb
  refine ⟨H.b1, H.row, fun g e => ?_, by rw [H.len]; rfl, fun j u p hu hp => ?_, H.b2, H.bel, Nat.le_refl _, fun D hD => ⟨(H.mks D hD).1, (Array.getElem?_eq_some_iff.1 (h.mks D hD).2).1, (H.mks D hD).2⟩⟩
  · rcases h.row.2 with ⟨q', _⟩ | ⟨g', cap, cur, q', hE, hg, _⟩
    · rw [q'] at e; cases e
    · rw [q'] at e
      have e : g' = g := by simpa [Value.ownBlock] using e
      subst e
      exact .inl (lt_of_block hg)
  · have hj : j < L.length := by rw [← H.len]; exact (List.getElem?_eq_some_iff.1 hu).1
    rw [List.getElem?_append_left hj] at hp
    exact H.each j u p hu hp
theorem RL.hd {w : World} {lo E k D : Nat} {L : List (List Nat)} {rs : List (Nat × List Nat)} {ms : List Nat} {vs : List Value} {ov : Value} {W : World} (h : RL w lo E k L rs ms rs.length vs ov W) (hD : W.heap[D]? = some (.deferred (some []))) (hw : w.heap.size ≤ D) :
    RHd w k (L ++ rs.map (·.2)) (D :: ms) vs ov ((Rc.takes rs : Nat) : Int) W := by
  refine ⟨h.b1, h.row, by rw [h.len, List.length_append, List.length_map], h.each, ?_, h.bel, fun D' hD' => ?_⟩
  · have := h.b2
    rw [List.take_length] at this
    exact this
  · rcases List.mem_cons.1 hD' with rfl | e
    · exact ⟨hw, hD⟩
    · exact ⟨(h.mks D' e).1, (h.mks D' e).2.2⟩
/-! ### all that the segments say -/
def says1 (fb : Nat → List Nat) (n : Nat) : List (List Nat) := (Rc.recs (fb n)).map (·.2)
theorem takes_len : ∀ L : List (Nat × List Nat), L.length ≤ Rc.takes L
  | [] => Nat.zero_le _
  | x :: L => by have := takes_len L; show L.length + 1 ≤ x.2.length + 8 + Rc.takes L; omega
theorem flatS_len (fb : Nat → List Nat) : ∀ ns : List Nat, (∀ n ∈ ns, Rc.takes (Rc.recs (fb n)) = (fb n).length) → (ns.flatMap (says1 fb)).length ≤ (ns.map (fun n => (fb n).length)).sum
  | [], _ => Nat.zero_le _
  | n :: ns, h => by
    have h1 := flatS_len fb ns (fun m hm => h m (List.mem_cons_of_mem _ hm))
    have h2 := takes_len (Rc.recs (fb n))
    rw [h n (List.mem_cons_self ..)] at h2
    simp only [List.flatMap_cons, List.length_append, List.map_cons, List.sum_cons]
    have h3 : (says1 fb n).length = (Rc.recs (fb n)).length := List.length_map _
    omega
theorem sum_take (f : Nat → Nat) (ns : List Nat) (i : Nat) : ((ns.take i).map f).sum ≤ (ns.map f).sum := by
  have h1 := congrArg (fun l => (l.map f).sum) (List.take_append_drop i ns)
  simp only [List.map_append, List.sum_append] at h1
  omega
theorem sum_mem (f : Nat → Nat) : ∀ (ns : List Nat) (n : Nat), n ∈ ns → f n ≤ (ns.map f).sum
  | m :: ns, n, h => by
    simp only [List.map_cons, List.sum_cons]
    rcases List.mem_cons.1 h with rfl | e
    · omega
    · have := sum_mem f ns n e; omega
theorem flat_snoc {fb : Nat → List Nat} {ns : List Nat} {i n : Nat} (h : ns[i]? = some n) : (ns.take (i + 1)).flatMap (says1 fb) = (ns.take i).flatMap (says1 fb) ++ says1 fb n := by
  rw [List.take_add_one, h]
  simp
end Go.Proofs.YtgbihpfpiaacfaaGreatDoor

set_option linter.unusedVariables false
set_option linter.unusedSimpArgs false
set_option maxRecDepth 100000
namespace Go.Proofs.YtgbihpfpiaacfaaGreatDoor
open Go.RowKit Go.Shelf Go.WideMaps Go.Maps
attribute [local go_sem] Oper.semAt_some

/-- How many bytes the segment before the i-th has. -/
def ll (fb : Nat → List Nat) (ns : List Nat) (i : Nat) : Int := if i = 0 then 0 else (((fb ((ns[i - 1]?).getD 0)).length : Nat) : Int)
theorem ll_zero (fb : Nat → List Nat) (ns : List Nat) : ll fb ns 0 = 0 := rfl
theorem ll_up {fb : Nat → List Nat} {ns : List Nat} {i m : Nat} (h : ns[i]? = some m) : ll fb ns (i + 1) = ((fb m).length : Int) := by
  unfold ll
  rw [if_neg (by omega), Nat.add_sub_cancel, h]
  rfl
def muN (N : Nat) (a : Act) (_ : World) : Nat := match a.tmps[17]? with
  | some (Value.int _ i) => N - i.toNat
  | _ => 0
set_option maxHeartbeats 12800000 in
theorem read_many (n : Nat) (hn : 4 ≤ n) (w : World) (B q d : Nat) (s : DS) (most f sz : Int) (l : Nat) (h : JK w B q d s most f (l : Int) sz) (fb : Nat → List Nat) (ns : List Nat) (N : Nat) (hN : ns.length = N) (hN1 : 1 ≤ N) (hNb : N ≤ 1000) (hlast : ns[N - 1]? = some l) (hr : ∀ m ∈ ns, 1 ≤ m ∧ m < 100)
    (hf : ∀ m ∈ ns, fnd s (sg m) = 0 ∧ (fval s (sg m)).b = bi (fb m)) (hb : ∀ m ∈ ns, Rc.Byt (fb m)) (htot : (ns.map (fun m => (fb m).length)).sum ≤ 45000) (hw : ∀ m ∈ ns, Rc.takes (Rc.recs (fb m)) = (fb m).length) (hs : (fval s (sg l)).s = ((fb l).length : Int)) (hfs : ∀ x ∈ s.l, x.b.length ≤ 100000000)
    (g cap : Nat) (hg : ∀ (i m : Nat), ns[i]? = some m → w.cell? ⟨g, i, none⟩ = some (.int .i64 (m : Int))) :
    CallsIn Fence.wide n Tryz.prog 39 #[.pointer (some ⟨q, 0, none⟩), .slice (some ⟨g, 0, none⟩) N cap] w fun e w' => ∃ v, e = .returned (.tuple #[v, .int .i64 0]) ∧ Says w' w.heap.size v (ns.flatMap (says1 fb)) ∧ JK w' B q d s most f l (fb l).length ∧ Far (Lh d s q) w w' := by
  have h1 : 1 ≤ n := by omega
  have hro : Fence.wide.round = none := rfl
  obtain ⟨W0, hW0⟩ : ∃ z, (w.alloc (.cells #[.slice none 0 0] 30)).alloc (.cells #[.int .i64 0] 3) = z := ⟨_, rfl⟩
  have b1 := vstep w (.cells #[.slice none 0 0] 30)
  have b2 := vstep (w.alloc (.cells #[.slice none 0 0] 30)) (.cells #[.int .i64 0] 3)
  have n1 := heap_alloc_new w (.cells #[.slice none 0 0] 30)
  have n2 := heap_alloc_new (w.alloc (.cells #[.slice none 0 0] 30)) (.cells #[.int .i64 0] 3)
  have n1 := (b2.block _ (lt_of_block n1)).trans n1
  rw [World.size_alloc] at n2
  have B0 := Lib.hid (b1.trans (b2.mono b1.size))
  rw [hW0] at n1 n2 B0
  have N1 := Lib.hid n1
  have N2 := Lib.hid n2
  have HJ := Lib.hid h
  have HG := Lib.hid hg
  have HR := Lib.hid hr
  have HF := Lib.hid hf
  have HBY := Lib.hid hb
  have HTOT := Lib.hid htot
  have HWH := Lib.hid hw
  have HSU := Lib.hid hs
  have HFS := Lib.hid hfs
  have HNL := Lib.hid hN
  have HN1 := Lib.hid hN1
  have HLA := Lib.hid hlast
  have HNB := Lib.hid hNb
  have HW := Lib.hid hW0
  have k2 : W0.cell? ⟨w.heap.size + 1, 0, none⟩ = some (.int .i64 0) := (cell_of_row _ _ _ _ _ _ N2.out).trans rfl
  have z2 : W0.frozen? ⟨w.heap.size + 1, 0, none⟩ = false := frozen_of_row _ _ _ _ _ N2.out
  obtain ⟨I, hI⟩ : ∃ I : Act → World → Prop, I = fun a W => ∃ (i : Nat) (ms : List Nat) (vs : List Value) (ov : Value) (u2 u3 u9 u10 u11 u12 u13 u14 u18 u19 u20 u21 u22 u23 u24 u25 u26 u27 u28 u29 u30 u31 u32 u33 u34 u35 u36 u37 u38 u39 u40 u41 u42 u43 u44 u45 u46 u47 u48 u49 u50 u51 u52 u53 u54 u55 u56 u57 u58 u59 u60 u61 u62 u63 u64 u65 u66 u67 u68 : Value), a = { tmps := #[.pointer (some ⟨q, 0, none⟩), .slice (some ⟨g, 0, none⟩) N cap, u2, u3, .slice none 0 0, .int .i64 0, .pointer (some ⟨w.heap.size, 0, none⟩), .int .i64 (ll fb ns i), .pointer (some ⟨w.heap.size + 1, 0, none⟩), u9, u10, u11, u12, u13, u14, .slice (some ⟨g, 0, none⟩) N cap, .int .i64 (N : Int), .int .i64 (i : Int), u18, u19, u20, u21, u22, u23, u24, u25, u26, u27, u28, u29, u30, u31, u32, u33, u34, u35, u36, u37, u38, u39, u40, u41, u42, u43, u44, u45, u46, u47, u48, u49, u50, u51, u52, u53, u54, u55, u56, u57, u58, u59, u60, u61, u62, u63, u64, u65, u66, u67, u68], defers := ms.map mkd } ∧ i ≤ N ∧ ms.Nodup ∧ RHd w w.heap.size ((ns.take i).flatMap (says1 fb)) ms vs ov (ll fb ns i) W := ⟨_, rfl⟩
  have HI := Lib.hid hI
  have I0 := Lib.hid (show RHd w w.heap.size [] [] [] (.slice none 0 0) 0 W0 from ⟨N1.out, World.ownsRow_nil _ _ _ _, rfl, fun j u p hu _ => (by simp at hu), N2.out, B0.out, fun D hD => by cases hD⟩)
  clear b1 b2 n1 n2 hW0 h hg hr hf hb htot hw hs hfs hN hN1 hNb hlast hI
  refine callsIn_of_wp_marks Tryz.func39 rfl trivial ?_ hro
  simp only [Tryz.ntmps39, List.size_toArray, List.length_cons, List.length_nil, Nat.reduceAdd, Nat.reduceSub, Array.replicate_succ, Array.replicate_zero, List.push_toArray, List.append_toArray, List.nil_append, List.cons_append]
  gi_wp2_with fail
  rw [HW.out]
  have SS : W0.setCell ⟨w.heap.size + 1, 0, none⟩ (.int .i64 0) = W0 := by
    have := setRow_self W0 (w.heap.size + 1) #[.int .i64 0] 3 (0, 0) N2.out
    rw [setCell_eq_setRow W0 (w.heap.size + 1) 0 #[.int .i64 0] 3 (0, 0) (.int .i64 0) N2.out]
    exact this
  try rw [SS]
  clear SS k2 z2
  refine wpIn_loop I (muN N) ?h0 ?round
  case h0 =>
    rw [HI.out]
    exact ⟨0, [], [], .slice none 0 0, _, _, _, _, _, _, _, _, _, _, _, _, _, _, _, _, _, _, _, _, _, _, _, _, _, _, _, _, _, _, _, _, _, _, _, _, _, _, _, _, _, _, _, _, _, _, _, _, _, _, _, _, _, _, _, _, _, _, _, rfl, Nat.zero_le _, List.nodup_nil, I0.out⟩
  case round =>
    intro a W hIa
    rw [HI.out] at hIa
    obtain ⟨i, ms, vs, ov, u2, u3, u9, u10, u11, u12, u13, u14, u18, u19, u20, u21, u22, u23, u24, u25, u26, u27, u28, u29, u30, u31, u32, u33, u34, u35, u36, u37, u38, u39, u40, u41, u42, u43, u44, u45, u46, u47, u48, u49, u50, u51, u52, u53, u54, u55, u56, u57, u58, u59, u60, u61, u62, u63, u64, u65, u66, u67, u68, rfl, hiN, hnd, hH⟩ := hIa
    have HH := Lib.hid hH
    have HND := Lib.hid hnd
    have JW := Lib.hid (HJ.out.step HH.out.bel)
    clear hH hnd I0
    by_cases hlt : i < N
    · have hltI : (i : Int) < (N : Int) := by omega
      obtain ⟨m, hm⟩ : ∃ m, ns[i]? = some m := ⟨_, List.getElem?_eq_getElem (by rw [HNL.out]; exact hlt)⟩
      have HM := Lib.hid hm
      have MM := Lib.hid (List.mem_of_getElem? hm)
      have gi : W.cell? ⟨g, i, none⟩ = some (.int .i64 (m : Int)) := (HH.out.bel.cell (p := ⟨g, i, none⟩) (World.block_lt_of_cell? w _ (HG.out i m hm))).trans (HG.out i m hm)
      have NA := Lib.hid (fun W => callsIn_wide (n := n - 1).2 (name_any W m (HR.out m MM.out).2 (HR.out m MM.out).1))
      have RD := Lib.hid (fun W1 (hb : Below W.heap.size W W1) => callsIn_wide (n := n - 1).2 (read_any W1 B d s (JW.out.dk.step hb) (Nat.le_trans JW.out.size hb.size) (sg m) (by have := sg_size (HR.out m MM.out).2; unfold maxLen; omega) HFS.out))
      rw [(HF.out m MM.out).1, (HF.out m MM.out).2, bi_flat, bi_len] at RD
      have c0 : W.cell? ⟨q, 0, none⟩ = some (pv d) := (cell_of_row _ _ _ _ _ _ JW.out.box).trans rfl
      have HLT := Lib.hid hlt
      clear hm
      gi_wp2_with fail
      refine wpIn_mono (Q := fun ex a' w' => match ex with
        | .normal => ∃ ra rc, a' = { tmps := #[.pointer (some ⟨q, 0, none⟩), .slice (some ⟨g, 0, none⟩) N cap, u2, u3, .slice none 0 0, .int .i64 0, .pointer (some ⟨w.heap.size, 0, none⟩), .int .i64 (ll fb ns i), .pointer (some ⟨w.heap.size + 1, 0, none⟩), u9, .int .i64 (m : Int), .slice ra (fb m).length rc, .int .i64 0, u13, u14, .slice (some ⟨g, 0, none⟩) N cap, .int .i64 (N : Int), .int .i64 (i : Int), .bool true, .pointer (some ⟨g, i, none⟩), .int .i64 (m : Int), .tuple #[.slice ra (fb m).length rc, .int .i64 0], .pointer (some ⟨q, 0, none⟩), .pointer (some ⟨q, 0, none⟩), .pointer (some ⟨q, 0, none⟩), pv d, .int .i64 (m : Int), .string (sg m), .tuple #[.slice ra (fb m).length rc, .int .i64 0], .slice ra (fb m).length rc, .int .i64 0, u31, u32, u33, u34, u35, u36, u37, u38, u39, u40, u41, u42, u43, u44, u45, u46, u47, u48, u49, u50, u51, u52, u53, u54, u55, u56, u57, u58, u59, u60, u61, u62, u63, u64, u65, u66, u67, u68], defers := ms.map mkd } ∧ Hid (w'.ownsRow W.heap.size 5 1 (.slice ra (fb m).length rc) (fb m).length (Rc.u8s (fb m)) ∧ Below W.heap.size W w')
        | _ => False) ?_ (fun ex a' w6 hp => ?_)
      · gi_region_with (first
          | (refine ⟨trivial, ?_⟩; refine (NA.out _).mono ?_; rintro e wz ⟨rfl, hwz⟩; subst hwz)
          | (refine ⟨trivial, ?_⟩; refine (RD.out _ (by first | exact Below.refl _ _ | exact (Below.refl _ _).drew)).mono ?_; rintro e w6 ⟨rv, rfl, ho6, hb6⟩; obtain ⟨ra, rc, rfl⟩ := own_shapeK ho6; have H6 := Lib.hid (show w6.ownsRow W.heap.size 5 1 (.slice ra (fb m).length rc) (fb m).length (Rc.u8s (fb m)) ∧ Below W.heap.size W w6 from ⟨ho6, by first | exact hb6 | exact (Below.refl W.heap.size W).drew.trans hb6⟩); clear ho6 hb6))
        all_goals exact ⟨ra, rc, rfl, H6⟩
      cases ex with
      | normal =>
        obtain ⟨ra, rc, rfl, H6⟩ := hp
        have H6' := Lib.hid (HH.out.step H6.out.2)
        have HZ := Lib.hid (H6'.out.zero (by omega))
        have k26 : w6.cell? ⟨w.heap.size + 1, 0, none⟩ = some (.int .i64 (ll fb ns i)) := (cell_of_row _ _ _ _ _ _ H6'.out.b2).trans rfl
        have z26 : w6.frozen? ⟨w.heap.size + 1, 0, none⟩ = false := frozen_of_row _ _ _ _ _ H6'.out.b2
        have WK := Lib.hid (show w.heap.size + 1 < W.heap.size from lt_of_block HH.out.b2)
        have LB := Lib.hid (show Rc.Lies (w6.setCell ⟨w.heap.size + 1, 0, none⟩ (.int .i64 0)) (.slice ra (fb m).length rc) (fb m) from Rc.lies_set_far (Rc.own_lies H6.out.1) (fun ad nn cc e => by
          rcases H6.out.1.2 with ⟨q', _⟩ | ⟨g', cap', cur, q', hE, hg, _⟩
          · rw [q'] at e; cases e
          · rw [q'] at e
            injection e with e _ _
            injection e with e
            subst e
            have := WK.out
            show g' ≠ w.heap.size + 1
            omega))
        have BZ := Lib.hid (show Below w.heap.size w (w6.setCell ⟨w.heap.size + 1, 0, none⟩ (.int .i64 0)) from HZ.out.bel)
        obtain ⟨wz, hwz⟩ : ∃ z, w6.setCell ⟨w.heap.size + 1, 0, none⟩ (.int .i64 0) = z := ⟨_, rfl⟩
        have ez : w6.heap.size = wz.heap.size := by rw [← hwz]; simp [World.setCell]
        rw [hwz] at HZ LB BZ
        have HWZ := Lib.hid hwz
        have EZ := Lib.hid ez
        have LEN := Lib.hid (show (fb m).length ≤ 45000 from Nat.le_trans (sum_mem (fun m => (fb m).length) ns m MM.out) HTOT.out)
        have ALL := Lib.hid (callsIn_wide (n := n - 1).2 (Rc.all_any wz _ (fb m) LB.out (by have := LEN.out; omega)))
        have kq := fun W => func_nil12 wz.heap.size W
        clear c0 gi NA RD hwz ez
        gi_wp2_with fail
        rw [HWZ.out]
        refine ⟨trivial, ?_⟩
        refine ALL.out.mono ?_
        rintro e w7 ⟨r, rfl, hc, hLI, hs7, hb7⟩
        have hRd : Rc.Rd wz.heap.size w7.heap.size wz.heap.size (fb m) w7 := ⟨Nat.le_refl _, hs7, r, hc, hLI⟩
        have B7 := Lib.hid (BZ.out.trans (hb7.mono BZ.out.size))
        have RL0 := Lib.hid (HZ.out.rl (rs := Rc.recs (fb m)) hb7)
        have I0 : RM w wz.heap.size w7.heap.size w.heap.size ((ns.take i).flatMap (says1 fb)) (Rc.recs (fb m)) ms 0 w7 := ⟨vs, ov, RL0.out⟩
        have Z7 := Lib.hid (show wz.heap.size < w7.heap.size from hs7)
        have WZK := Lib.hid (show w.heap.size + 1 < wz.heap.size from by have := WK.out; have := H6.out.2.size; have := EZ.out; omega)
        have TK := Lib.hid (HWH.out m MM.out)
        have BYM := Lib.hid (HBY.out m MM.out)
        have LL := Lib.hid (show ((ns.take i).flatMap (says1 fb)).length ≤ 45000 from Nat.le_trans (flatS_len fb (ns.take i) (fun n hn => HWH.out n (List.mem_of_mem_take hn))) (Nat.le_trans (sum_take (fun m => (fb m).length) ns i) HTOT.out))
        clear ALL k26 z26 hc hLI hs7 hb7
        gi_wp2_with fail
        clear kq
        refine Rc.range_all (by omega) BYM.out (by have := LEN.out; omega) rfl hRd rfl (RM w wz.heap.size w7.heap.size w.heap.size ((ns.take i).flatMap (says1 fb)) (Rc.recs (fb m)) ms) (RM.own B7.out.size (Nat.le_of_lt Z7.out)) I0
          (fun kk vv => { tmps := #[.pointer (some ⟨q, 0, none⟩), .slice (some ⟨g, 0, none⟩) N cap, u2, u3, .slice none 0 0, .int .i64 0, .pointer (some ⟨w.heap.size, 0, none⟩), .int .i64 ((fb m).length : Int), .pointer (some ⟨w.heap.size + 1, 0, none⟩), u9, .int .i64 (m : Int), .slice ra (fb m).length rc, .int .i64 0, .int .i64 (kk : Int), vv, .slice (some ⟨g, 0, none⟩) N cap, .int .i64 (N : Int), .int .i64 (i : Int), .bool true, .pointer (some ⟨g, i, none⟩), .int .i64 (m : Int), .tuple #[.slice ra (fb m).length rc, .int .i64 0], .pointer (some ⟨q, 0, none⟩), .pointer (some ⟨q, 0, none⟩), .pointer (some ⟨q, 0, none⟩), pv d, .int .i64 (m : Int), .string (sg m), .tuple #[.slice ra (fb m).length rc, .int .i64 0], .slice ra (fb m).length rc, .int .i64 0, .int .i64 0, .bool false, u33, .slice ra (fb m).length rc, .int .i64 ((fb m).length : Int), .slice ra (fb m).length rc, .func (.func 72) #[] #[.pointer (some ⟨wz.heap.size, 0, none⟩)], .int .i64 (kk : Int), vv, u40, u41, u42, u43, u44, u45, u46, u47, u48, u49, u50, u51, u52, u53, u54, u55, u56, u57, u58, u59, u60, u61, u62, u63, u64, u65, u66, u67, u68], defers := [] }) ?assign ?body ?done
        case assign =>
          intro l2 kk v W K hK
          gi_wp2
          exact hK
        case body =>
          rintro l2 j p ao c W00 W1 hI0 hKc hfr hI1 hget hL
          obtain ⟨vs1, ov1, R1⟩ := hI1
          obtain ⟨vs0, ov0, R0⟩ := hI0
          have eo : ov0 = ov1 := by
            have := hKc _ _ R0.b1 rfl
            rw [R1.b1] at this
            injection this with this
            injection this with this _ _
            simpa using this.symm
          subst eo
          have hfr2 : ∀ ad, ao = some ad → ov0.ownBlock ≠ some ad.block := fun ad e e2 => by
            have h1 := (R0.row.lt _ e2).2
            have h2 := hfr ad e
            omega
          obtain ⟨oa, oc, eov⟩ := own_shapeK R1.row
          have RR := Lib.hid R1
          have HLx := Lib.hid hL
          have HFR := Lib.hid hfr2
          have HGT := Lib.hid hget
          have PA := Lib.hid (show p.1 = Rc.takes ((Rc.recs (fb m)).take j) from by have := rec_at _ 0 (fb m) j p hget; rw [Nat.zero_add] at this; exact this)
          have TS := Lib.hid (takes_snoc hget)
          have TL := Lib.hid (show Rc.takes ((Rc.recs (fb m)).take (j + 1)) ≤ 45000 from by
            have h1 := Rc.takes_append ((Rc.recs (fb m)).take (j + 1)) ((Rc.recs (fb m)).drop (j + 1))
            rw [List.take_append_drop, TK.out] at h1
            have := LEN.out
            omega)
          have LV := Lib.hid (show vs1.length ≤ 100000 from by
            rw [R1.len]
            have h3 := takes_len ((Rc.recs (fb m)).take (j + 1))
            rw [List.length_take] at h3
            have h4 := (List.getElem?_eq_some_iff.1 hget).1
            have := TL.out
            have := LL.out
            omega)
          have SZC := Lib.hid (fun W => CallsIn.inRound l2 (callsIn_wide (n := n - 1 - 1 - 1).2 (Rc.size_nat W p.2.length (by have := TL.out; have := TS.out; omega))))
          have x0 : W1.cell? ⟨w.heap.size, 0, none⟩ = some ov0 := (cell_of_row _ _ _ _ _ _ R1.b1).trans rfl
          rw [eov] at x0
          have HX := Lib.hid (heap_alloc_new W1 (.cells #[.slice ao p.2.length c] 39))
          have OX := Lib.hid (own_belowK R1.row (vstep W1 (.cells #[.slice ao p.2.length c] 39)))
          have EX := Lib.hid (show w.heap.size ≤ (W1.alloc (.cells #[.slice ao p.2.length c] 39)).heap.size from Nat.le_trans R1.bel.size (vstep W1 _).size)
          have TV : ((p.1 : Int) + ((p.2.length : Int) + 8)) = ((Rc.takes ((Rc.recs (fb m)).take (j + 1)) : Nat) : Int) := by rw [TS.out, PA.out]; omega
          have HTV := Lib.hid TV
          clear hKc hfr hL hget R1 R0 hfr2 hRd I0 TV
          have hd1 : 1 ≤ n - 1 - 1 := by omega
          gi_wp2_with (first
            | (gi_at_builtin; go_loud (refine wpListIn_pushV rfl (.tmp 40) (.tmp 42) rfl w.heap.size ov0 vs1 (.slice ao p.2.length c) W1.heap.size (by rw [eov]; rfl) rfl HX.out rfl OX.out (by have := LV.out; omega) EX.out ?_; intro v3 W3 hown hgr hsp; have RP := Lib.hid (RL.push (t := (p.1 : Int) + ((p.2.length : Int) + 8)) RR.out HGT.out (Nat.le_refl _) WZK.out B7.out.size (Nat.le_of_lt Z7.out) HLx.out HFR.out hown hgr hsp HTV.out); rw [show (vs1 ++ [Value.slice ao p.2.length c]).length = vs1.length + 1 from by simp] at hown; obtain ⟨va3, vc3, rfl⟩ := own_shapeK hown; have x3 := (cell_of_row _ _ _ _ _ _ RP.out.1).trans (show (#[ov0] : Array Value)[0]? = some ov0 from rfl); rw [eov] at x3; have f3 := frozen_of_row (j := 0) _ _ _ _ RP.out.1; have x4 := (cell_of_row _ _ _ _ _ _ RP.out.2.1).trans (show (#[Value.int .i64 ((Rc.takes ((Rc.recs (fb m)).take j) : Nat) : Int)] : Array Value)[0]? = some _ from rfl); have f4 := frozen_of_row (j := 0) _ _ _ _ RP.out.2.1; clear hown hgr hsp)))
          have hwv : wrap64 ((p.1 : Int) + ((p.2.length : Int) + 8)) = (p.1 : Int) + ((p.2.length : Int) + 8) := by
            have h1 := HTV.out
            have h2 := TL.out
            unfold wrap64
            omega
          have RQ := Lib.hid RP.out.2.2
          refine ⟨trivial, ?_⟩
          refine (SZC.out _).mono ?_
          rintro e W4 ⟨rfl, hW4⟩
          subst hW4
          gi_wp2
          exact ⟨RQ.out.2.2, RQ.out.2.1, RQ.out.1⟩
        case done =>
          rintro D W1 hD hI1 hK
          obtain ⟨vs1, ov1, R1⟩ := hI1
          have H1 := Lib.hid (show RHd w w.heap.size ((ns.take (i + 1)).flatMap (says1 fb)) (D :: ms) vs1 ov1 (ll fb ns (i + 1)) W1 from by
            have := R1.hd hK (Nat.le_trans B7.out.size hD)
            rw [TK.out] at this
            rw [flat_snoc HM.out, ll_up HM.out]
            exact this)
          have ND := Lib.hid (show (D :: ms).Nodup from List.nodup_cons.2 ⟨fun e => by have := (RL0.out.mks D e).2.1; have := Z7.out; omega, HND.out⟩)
          have EL := Lib.hid (ll_up (fb := fb) HM.out)
          have J1 := Lib.hid (HJ.out.step H1.out.bel)
          have c3 : W1.cell? ⟨q, 3, none⟩ = some (.int .i64 (l : Int)) := (cell_of_row _ _ _ _ _ _ J1.out.box).trans rfl
          have y1 : W1.cell? ⟨w.heap.size + 1, 0, none⟩ = some (.int .i64 ((fb m).length : Int)) := by rw [← EL.out]; exact (cell_of_row _ _ _ _ _ _ H1.out.b2).trans rfl
          have hff : ¬ (((fb m).length : Int) < ((fb m).length : Int)) := by omega
          have NL := Lib.hid (show N ≤ 100000 from Nat.le_trans HNB.out (by omega))
          have hwi : wrap64 ((i : Int) + 1) = ((i + 1 : Nat) : Int) := wrap_up HLT.out NL.out
          clear hRd I0 R1 hK
          by_cases hml : (m : Int) < (l : Int)
          all_goals gi_wp2
          all_goals (rw [HI.out, ← EL.out]; refine ⟨⟨i + 1, D :: ms, vs1, ov1, _, _, _, _, _, _, _, _, _, _, _, _, _, _, _, _, _, _, _, _, _, _, _, _, _, _, _, _, _, _, _, _, _, _, _, _, _, _, _, _, _, _, _, _, _, _, _, _, _, _, _, _, _, _, _, _, _, _, _, rfl, HLT.out, ND.out, H1.out⟩, ?_⟩)
          all_goals (show N - (((i + 1 : Nat) : Int)).toNat < N - ((i : Int)).toNat; have := HLT.out; omega)
      | ret => exact hp.elim
      | exit id => exact hp.elim
      | goto t => exact hp.elim
      | panic ch => exact hp.elim
      | outgrown => exact hp.elim
    · have hge : ¬ ((i : Int) < (N : Int)) := by omega
      obtain rfl : i = N := by omega
      have LLN : ll fb ns i = ((fb l).length : Int) := by
        have := ll_up (fb := fb) HLA.out
        rwa [Nat.sub_add_cancel HN1.out] at this
      have H2 := HH.out
      rw [LLN, List.take_of_length_le (by rw [HNL.out]; omega)] at H2
      rw [LLN]
      have HH2 := Lib.hid H2
      have ML := Lib.hid (List.mem_of_getElem? HLA.out)
      have FS := Lib.hid (fnd_some (HF.out l ML.out).1)
      obtain ⟨oa, oc, eov⟩ := own_shapeK HH2.out.row
      have y1 : W.cell? ⟨w.heap.size + 1, 0, none⟩ = some (.int .i64 ((fb l).length : Int)) := (cell_of_row _ _ _ _ _ _ HH2.out.b2).trans rfl
      have c4 : W.cell? ⟨q, 4, none⟩ = some (.int .i64 sz) := (cell_of_row _ _ _ _ _ _ JW.out.box).trans rfl
      have f4 := frozen_of_row (j := 4) _ _ _ _ JW.out.box
      have JS := Lib.hid (JW.out.sized ((fb l).length : Int))
      have hq : q ≠ w.heap.size := by have := HJ.out.lt; omega
      have hbox : (W.setCell ⟨q, 4, none⟩ (.int .i64 ((fb l).length : Int))).heap[w.heap.size]? = some (.cells #[ov] 30 (0, 0)) := (Below.heap_setCell W ⟨q, 4, none⟩ (.int .i64 ((fb l).length : Int)) w.heap.size (by show ¬ (w.heap.size = q); omega)).trans HH2.out.b1
      have y0 : (W.setCell ⟨q, 4, none⟩ (.int .i64 ((fb l).length : Int))).cell? ⟨w.heap.size, 0, none⟩ = some ov := (cell_of_row _ _ _ _ _ _ hbox).trans rfl
      rw [eov] at y0
      have SAY := Lib.hid (Says.box (u := .int .i64 ((fb l).length : Int)) (show Says W w.heap.size ov (ns.flatMap (says1 fb)) from ⟨vs, HH2.out.row, HH2.out.len, fun i u b hu hL => (HH2.out.each i u b hu hL).1⟩) JW.out.box)
      have MK := Lib.hid (show ∀ D ∈ ms, w.heap.size ≤ D ∧ (W.setCell ⟨q, 4, none⟩ (.int .i64 ((fb l).length : Int))).heap[D]? = some (.deferred (some [])) from fun D hD => ⟨(HH2.out.mks D hD).1, (Below.heap_setCell W ⟨q, 4, none⟩ (.int .i64 ((fb l).length : Int)) D (fun e => by
        have e : D = q := e
        have := (HH2.out.mks D hD).2
        rw [e, JW.out.box] at this
        cases this)).trans (HH2.out.mks D hD).2⟩)
      have EOV := Lib.hid eov
      have SE := Lib.hid (fun W' (hb : Below (W.setCell ⟨q, 4, none⟩ (.int .i64 ((fb l).length : Int))).heap.size (W.setCell ⟨q, 4, none⟩ (.int .i64 ((fb l).length : Int))) W') => callsIn_wide (n := n - 1).2 (settle_ok W' B q d s most f l (fb l).length (JS.out.step hb) (HR.out l ML.out) _ FS.out.1 HSU.out))
      clear hbox H2 LLN
      gi_wp2_with fail
      obtain ⟨W8, hW8⟩ : ∃ z, W.setCell ⟨q, 4, none⟩ (.int .i64 ((fb l).length : Int)) = z := ⟨_, rfl⟩
      have FW := Lib.hid (show Far (Lh d s q) w W8 from by
        rw [← hW8]
        exact (Far.of_below (P := Lh d s q) HH2.out.bel).trans (far_set W q 4 _) (fun _ _ e => .inr e))
      rw [hW8] at JS y0 SAY MK SE ⊢
      clear c4 f4 y1
      refine wpIn_mono (Q := fun ex a' w' => match ex with
        | .normal => (∀ W', (results Tryz.f39 a'.tmps).run Tryz.prog W' = .ok (.tuple #[ov, .int .i64 0]) W') ∧ a'.defers = ms.map mkd ∧ Hid (Below W8.heap.size W8 w')
        | _ => False) ?_ (fun ex a' w9 hp => ?_)
      · gi_region_with (refine ⟨trivial, ?_⟩; refine (SE.out _ (by first | exact Below.refl _ _ | exact (Below.refl _ _).drew)).mono ?_; rintro e wz ⟨rfl, hwz⟩; subst hwz)
        all_goals exact ⟨fun W' => by rw [EOV.out]; simp [results, Tryz.f39, go_sem, Act.put], rfl, Lib.hid (Below.refl _ _).drew⟩
      · cases ex with
        | normal =>
          obtain ⟨hr, hdf, hb9⟩ := hp
          obtain ⟨tm, df⟩ := a'
          dsimp only at hr hdf
          subst hdf
          gi_wp2
          have K9 := Lib.hid (show ∀ D ∈ ms, w9.heap[D]? = some (.deferred (some [])) from fun D hD => (hb9.out.block D (Array.getElem?_eq_some_iff.1 (MK.out D hD).2).1).trans (MK.out D hD).2)
          have JT := Lib.hid (JS.out.step hb9.out)
          refine leaves_marks ms _ _ (by simp) HND.out K9.out ?_
          have hfD := shut_far ms w9
          have hSY := shut_says ms w9 HND.out K9.out (SAY.out.step hb9.out)
          have hJX : JK (shut w9 ms) B q d s most f l (fb l).length := ⟨JT.out.dk.still hfD (fun k hk e => by have := (HJ.out.dk.base k hk).2; have := (MK.out k e).1; omega), (hfD.block q JT.out.lt (fun e => by have := HJ.out.lt; have := (MK.out q e).1; omega)).trans JT.out.box, JT.out.nq, JT.out.bq⟩
          exact ⟨_, hr _, ov, rfl, hSY, hJX, ((FW.out.trans (Far.of_below (P := fun _ => False) hb9.out) (fun _ _ e => e.elim)).trans hfD (fun k hk e => by have := (MK.out k e).1; omega))⟩
        | ret => exact hp.elim
        | exit id => exact hp.elim
        | goto t => exact hp.elim
        | panic ch => exact hp.elim
        | outgrown => exact hp.elim
end Go.Proofs.YtgbihpfpiaacfaaGreatDoor

set_option linter.unusedVariables false
set_option linter.unusedSimpArgs false
set_option maxRecDepth 100000
namespace Go.Proofs.YtgbihpfpiaacfaaGreatDoor
open Go.RowKit Go.Shelf Go.WideMaps Go.Maps

theorem sorted_range : ∀ (M f : Nat), (ints (List.range' f M)).Pairwise (fun x y => x ≤ y)
  | 0, f => List.Pairwise.nil
  | M + 1, f => by
    show (((f : Nat) : Int) :: ints (List.range' (f + 1) M)).Pairwise _
    refine List.pairwise_cons.2 ⟨fun x hx => ?_, sorted_range M (f + 1)⟩
    obtain ⟨m, hm, rfl⟩ := List.mem_map.1 hx
    have := List.mem_range'_1.1 hm
    omega
theorem enI_at (l : List Int) (i : Nat) (x : Int) (h : l[i]? = some x) : (l.flatMap enI)[i]? = some (.int .i64 x) := by
  rw [flat_I, List.getElem?_map, h]
  rfl
set_option maxHeartbeats 6400000 in
theorem open_many (w : World) (B d : Nat) (s : DS) (h : DK w B d s) (hB : B ≤ w.heap.size) (hd : s.dn = false) (most : Int) (hm : 16 ≤ most ∧ most ≤ 16777216) (ks : List Nat) (hks : nms s.l = ks.map sg) (f M : Nat) (hp : ks.Perm (List.range' f (M + 1))) (hf1 : 1 ≤ f) (hfM : f + M < 100)
    (fb : Nat → List Nat) (hF : ∀ m, f ≤ m → m ≤ f + M → fnd s (sg m) = 0 ∧ (fval s (sg m)).b = bi (fb m)) (hby : ∀ m, f ≤ m → m ≤ f + M → Rc.Byt (fb m)) (htot : ((List.range' f (M + 1)).map (fun m => (fb m).length)).sum ≤ 45000) (hw : ∀ m, f ≤ m → m ≤ f + M → Rc.takes (Rc.recs (fb m)) = (fb m).length) (hs : (fval s (sg (f + M))).s = ((fb (f + M)).length : Int)) (hfs : ∀ x ∈ s.l, x.b.length ≤ 100000000) :
    Calls Tryz.prog 11 #[pv d, .int .i64 most] w fun e w' => ∃ q sv, e = .returned (.tuple #[.pointer (some ⟨q, 0, none⟩), sv, .int .i64 0]) ∧ w.heap.size ≤ q ∧ JK w' B q d s most (f : Int) ((f + M : Nat) : Int) (fb (f + M)).length ∧ Says w' w.heap.size sv ((List.range' f (M + 1)).flatMap (says1 fb)) ∧ Far (Has d s) w w' := by
  have D := Lib.hid (down_any w B d s h)
  rw [hd] at D
  have inr : ∀ m, m ∈ List.range' f (M + 1) → f ≤ m ∧ m ≤ f + M := fun m hm => by have := List.mem_range'_1.1 hm; omega
  have SG := Lib.hid (segs_any w B d s h ks hks (fun n hn => by have := inr n (hp.mem_iff.1 hn); omega) (by rw [hp.length_eq, List.length_range']; omega))
  have HD := Lib.hid h
  have HF := Lib.hid hF
  have HBY := Lib.hid hby
  have HTOT := Lib.hid htot
  have HWH := Lib.hid hw
  have HSU := Lib.hid hs
  have HFS := Lib.hid hfs
  have HP := Lib.hid hp
  have HB := Lib.hid hB
  have INR := Lib.hid inr
  have HFM := Lib.hid (And.intro hf1 hfM)
  have hm1 : ¬ (most < 16) := by omega
  have hm2 : ¬ (16777216 < most) := by omega
  clear h hB hd hks hp hF hby htot hw hs hfs inr hf1 hfM
  go_enter Tryz.func11, Tryz.ntmps11
  go_wp2_with fail
  refine D.out.mono ?_
  rintro e w1 ⟨rfl, rfl⟩
  go_wp2_with fail
  refine SG.out.mono ?_
  rintro e w2 ⟨nv, kz, rfl, ho, hpz, hsz, hb2⟩
  have hk : kz = ints (List.range' f (M + 1)) := List.Perm.eq_of_pairwise (le := fun x y : Int => x ≤ y) (fun a b _ _ h1 h2 => by omega) hsz (sorted_range (M + 1) f) (hpz.trans (HP.out.map _))
  subst hk
  have hlen : (ints (List.range' f (M + 1))).length = M + 1 := by unfold ints; rw [List.length_map, List.length_range']
  rw [hlen] at ho
  obtain ⟨g, cap, rfl⟩ : ∃ g cap, nv = .slice (some ⟨g, 0, none⟩) (M + 1) cap := by
    rcases ho.2 with ⟨_, e⟩ | ⟨g, cap, _, e, _⟩
    · cases e
    · exact ⟨g, cap, e⟩
  have GC := Lib.hid (show ∀ W, Below w2.heap.size w2 W → ∀ (i m : Nat), (List.range' f (M + 1))[i]? = some m → W.cell? ⟨g, i, none⟩ = some (.int .i64 (m : Int)) from fun W hW i m hi => by
    have := (own_belowK ho hW).cells (g := g) rfl i (.int .i64 (m : Int)) (enI_at _ i _ (by unfold ints; rw [List.getElem?_map, hi]; rfl))
    rwa [rk_addr, Nat.zero_add] at this)
  have FT := Lib.hid (show Far (Has d s) w w2 from Far.of_below hb2)
  have D2 := Lib.hid (HD.out.step hb2)
  clear ho hpz hsz hb2 D SG hlen
  obtain ⟨WT, hWT⟩ : ∃ z, w2 = z := ⟨_, rfl⟩
  rw [hWT] at GC FT D2 ⊢
  clear hWT
  have R0 := Lib.hid (show (List.range' f (M + 1))[0]? = some f from by rw [List.getElem?_range' (by omega)]; simp)
  have RM0 := Lib.hid (show (List.range' f (M + 1))[M]? = some (f + M) from by rw [List.getElem?_range' (by omega)]; simp)
  have hn0 : ¬ (((M + 1 : Nat) : Int) = 0) := by omega
  have hn0' : ¬ ((M : Int) + 1 = 0) := by omega
  go_wp2_with fail
  have hg0 := GC.out WT (Below.refl _ _) 0 f R0.out
  have hgM := GC.out WT (Below.refl _ _) M (f + M) RM0.out
  have hwr : IntKind.i64.wrap ((M : Int) + 1 - 1) = (M : Int) := by have := HFM.out; rw [IntKind.wrap_i64]; omega
  have hwr2 : IntKind.i64.wrap (((M + 1 : Nat) : Int) - 1) = (M : Int) := by have := HFM.out; rw [IntKind.wrap_i64]; omega
  have hwM : IntKind.i64.wrap (M : Int) = (M : Int) := by have := HFM.out; rw [IntKind.wrap_i64]; omega
  have hwM2 : wrap64 (M : Int) = (M : Int) := by have := HFM.out; unfold wrap64; omega
  go_region
  have NB := Lib.hid (show ((WT.alloc (.cells #[pv d, .int .i64 most, .int .i64 (f : Int), .int .i64 ((f : Int) + (M : Int)), .int .i64 0] 74)).drew).heap[WT.heap.size]? = some (.cells #[pv d, .int .i64 most, .int .i64 (f : Int), .int .i64 ((f : Int) + (M : Int)), .int .i64 0] 74 (0, 0)) from heap_alloc_new WT _)
  have BA := Lib.hid (vstep WT (.cells #[pv d, .int .i64 most, .int .i64 (f : Int), .int .i64 ((f : Int) + (M : Int)), .int .i64 0] 74)).drew
  obtain ⟨WV, hWV⟩ : ∃ z, (WT.alloc (.cells #[pv d, .int .i64 most, .int .i64 (f : Int), .int .i64 ((f : Int) + (M : Int)), .int .i64 0] 74)).drew = z := ⟨_, rfl⟩
  rw [hWV] at NB BA ⊢
  obtain ⟨q, hq⟩ : ∃ z, WT.heap.size = z := ⟨_, rfl⟩
  have JV := Lib.hid (show JK WV B q d s most (f : Int) ((f + M : Nat) : Int) 0 from ⟨D2.out.step BA.out, by rw [← hq]; exact NB.out, fun e => by have := (D2.out.base _ e).2; omega, by have := HB.out; have := FT.out.size; omega⟩)
  have HQ := Lib.hid hq
  rw [hq] at BA ⊢
  clear NB hWV hq hg0 hgM
  have c2 : WV.cell? ⟨q, 2, none⟩ = some (.int .i64 (f : Int)) := (cell_of_row _ _ _ _ _ _ JV.out.box).trans rfl
  have c3 : WV.cell? ⟨q, 3, none⟩ = some (.int .i64 ((f : Int) + (M : Int))) := (cell_of_row _ _ _ _ _ _ JV.out.box).trans rfl
  have hwr3 : IntKind.i64.wrap ((f : Int) + (M : Int) - (f : Int)) = (M : Int) := by have := HFM.out; rw [IntKind.wrap_i64]; omega
  have hge1 : ¬ ((M : Int) + 1 ≤ (M : Int)) := by omega
  have hge2 : ¬ (((M + 1 : Nat) : Int) ≤ (M : Int)) := by omega
  go_wp2_with fail
  go_region
  have BX := Lib.hid (show Below WV.heap.size WV WV.drew from (Below.refl _ _).drew)
  obtain ⟨WX, hWX⟩ : ∃ z, WV.drew = z := ⟨_, rfl⟩
  rw [hWX] at BX ⊢
  clear hWX c2 c3
  have JX := Lib.hid (JV.out.step BX.out)
  have BAX := Lib.hid (show Below WT.heap.size WT WX from by rw [HQ.out]; exact BA.out.trans (BX.out.mono (by have := BA.out.size; have := HQ.out; omega)))
  have RR := Lib.hid (callsIn_wide.1 (read_many 4 (Nat.le_refl _) WX B q d s most (f : Int) 0 (f + M) JX.out fb (List.range' f (M + 1)) (M + 1) (List.length_range' ..) (by omega) (by have := HFM.out; omega) (by rw [Nat.add_sub_cancel]; exact RM0.out) (fun m hm => by have := INR.out m hm; have := HFM.out; omega)
    (fun m hm => HF.out m (INR.out m hm).1 (INR.out m hm).2) (fun m hm => HBY.out m (INR.out m hm).1 (INR.out m hm).2) HTOT.out (fun m hm => HWH.out m (INR.out m hm).1 (INR.out m hm).2) HSU.out HFS.out g cap (GC.out WX BAX.out)))
  go_wp2_with fail
  refine RR.out.mono ?_
  rintro e WY ⟨v, rfl, hsy, hjy, hfy⟩
  have EN := Lib.hid (And.intro hsy (And.intro hjy hfy))
  clear hsy hjy hfy RR
  go_wp2
  go_returns
  have hwx : w.heap.size ≤ WX.heap.size := Nat.le_trans FT.out.size (BAX.out.size)
  have hqw : w.heap.size ≤ q := by rw [← HQ.out]; exact FT.out.size
  obtain ⟨vs, h1, h2, h3⟩ := EN.out.1
  refine ⟨q, v, rfl, hqw, EN.out.2.1, ⟨vs, own_lower h1 hwx, h2, h3⟩, (FT.out.trans (Far.of_below (P := fun _ => False) BAX.out) (fun _ _ e => e.elim)).trans EN.out.2.2 ?_⟩
  rintro k hk (e | e)
  · exact e
  · omega
end Go.Proofs.YtgbihpfpiaacfaaGreatDoor

set_option linter.unusedVariables false
set_option linter.unusedSimpArgs false
set_option maxRecDepth 100000
namespace Go.Proofs.YtgbihpfpiaacfaaGreatDoor
open Go.RowKit Go.Shelf Go.WideMaps Go.Maps

set_option maxHeartbeats 3200000 in
theorem roll_ok (w : World) (B q d : Nat) (s : DS) (most f : Int) (l : Nat) (sz : Int) (h : JK w B q d s most f (l : Int) sz) (hl : l + 1 < 100) (hll : s.l.length < 1000) (hf : fnd s (sg (l + 1)) = 8) (ha : s.ar = false) :
    Calls Tryz.prog 16 #[.pointer (some ⟨q, 0, none⟩)] w fun e w' => e = .returned (.int .i64 0) ∧ ∃ m', JK w' B q d { s with l := setF s.l (zf (sg (l + 1))), m := m' } most f ((l + 1 : Nat) : Int) 0 ∧ Far (Lh d s q) w w' ∧ ∀ k, Has d { s with l := setF s.l (zf (sg (l + 1))), m := m' } k → Has d s k ∨ w.heap.size ≤ k := by
  have HJ := Lib.hid h
  have c0 : w.cell? ⟨q, 0, none⟩ = some (pv d) := (cell_of_row _ _ _ _ _ _ h.box).trans rfl
  have c3 : w.cell? ⟨q, 3, none⟩ = some (.int .i64 (l : Int)) := (cell_of_row _ _ _ _ _ _ h.box).trans rfl
  have hw1 : IntKind.i64.wrap ((l : Int) + 1) = ((l + 1 : Nat) : Int) := by rw [IntKind.wrap_i64]; omega
  have hw2 : wrap64 ((l : Int) + 1) = ((l + 1 : Nat) : Int) := by unfold wrap64; omega
  have NM := Lib.hid (fun W => name_any W (l + 1) hl (by omega))
  have CE : crE s (sg (l + 1)) = 0 ∧ crS s (sg (l + 1)) = { s with l := setF s.l (zf (sg (l + 1))) } := by
    unfold crE crS
    rw [hf, tk_un ha, aft_un ha]
    exact ⟨rfl, rfl⟩
  have CR := Lib.hid (show ∀ W, Below w.heap.size w W → Calls Tryz.prog 33 #[pv d, .string (sg (l + 1))] W (fun e w' => e = .returned (.int .i64 0) ∧ ∃ m', Out B d s { s with l := setF s.l (zf (sg (l + 1))), m := m' } W w') from fun W hb => by
    have := create_any W B d s (HJ.out.dk.step hb) (Nat.le_trans HJ.out.size hb.size) (sg (l + 1)) (by have := sg_size hl; unfold maxLen; omega) (by omega)
    rw [CE.1, CE.2] at this
    exact this)
  have DR := Lib.hid (fun n => (show Below w.heap.size w (w.drewN n) from ⟨rfl, rfl, rfl, Nat.le_refl _, fun _ _ => rfl⟩))
  clear h hll hf ha CE
  go_enter Tryz.func16, Tryz.ntmps16
  go_wp2_with fail
  go_region_with (first
    | (refine (NM.out _).mono ?_; rintro e wz ⟨rfl, hwz⟩; subst hwz)
    | (refine (CR.out _ (by first | exact Below.refl _ _ | exact (Below.refl _ _).drew)).mono ?_; rintro e w6 ⟨rfl, m', ho⟩; have HO := Lib.hid (show Out B d s { s with l := setF s.l (zf (sg (l + 1))), m := m' } w w6 from ⟨ho.dk, (Far.of_below (P := Has d s) (show Below w.heap.size w _ from by first | exact Below.refl _ _ | exact (Below.refl _ _).drew)).trans ho.far (fun _ _ e => e), ho.sub⟩); clear ho))
  all_goals have J6 := Lib.hid (HJ.out.out HO.out)
  all_goals have d3 : w6.cell? ⟨q, 3, none⟩ = some (.int .i64 (l : Int)) := (cell_of_row _ _ _ _ _ _ J6.out.box).trans rfl
  all_goals have f3 := frozen_of_row (j := 3) _ _ _ _ J6.out.box
  all_goals have X3 := Lib.hid (row_setC (j := 3) (u := .int .i64 ((l : Int) + 1)) J6.out.box)
  all_goals have d4 : (w6.setCell ⟨q, 3, none⟩ (.int .i64 ((l : Int) + 1))).cell? ⟨q, 4, none⟩ = some (.int .i64 sz) := (cell_of_row _ _ _ _ _ _ X3.out).trans rfl
  all_goals have f4 := frozen_of_row (j := 4) _ _ _ _ X3.out
  all_goals have X4 := Lib.hid (row_setC (j := 4) (u := .int .i64 0) X3.out)
  all_goals clear c0 c3
  all_goals go_wp2
  all_goals go_returns
  all_goals have far1 := far_set w6 q 3 (.int .i64 ((l : Int) + 1))
  all_goals have far2 := far_set (w6.setCell ⟨q, 3, none⟩ (.int .i64 ((l : Int) + 1))) q 4 (.int .i64 0)
  all_goals have far3 := far1.trans far2 (fun _ _ e => e)
  all_goals refine ⟨rfl, m', ⟨J6.out.dk.still far3 (fun k hk e => J6.out.nq (e ▸ hk)), X4.out, J6.out.nq, J6.out.bq⟩, ((Far.refl (Lh d s q) w).trans HO.out.far (fun _ _ e => .inl e)).trans far3 (fun _ _ e => .inr e), HO.out.sub⟩
end Go.Proofs.YtgbihpfpiaacfaaGreatDoor

set_option linter.unusedVariables false
set_option linter.unusedSimpArgs false
set_option maxRecDepth 100000
namespace Go.Proofs.YtgbihpfpiaacfaaGreatDoor
open Go.RowKit Go.Shelf Go.WideMaps Go.Maps

theorem used_zf (l : List Fl) (nm : ByteArray) : usedF (setF l (zf nm)) ≤ usedF l := by
  rw [usedF_set]
  have := usedF_filter l (fun x => !sameN x (zf nm))
  show 0 + _ ≤ _
  omega
theorem len_set (l : List Fl) (y : Fl) : (setF l y).length ≤ l.length + 1 := by
  rw [(set_perm y).length_eq, List.length_cons]
  have := List.length_filter_le (fun x => !sameN x y) l
  omega
set_option maxHeartbeats 6400000 in
theorem japp_full (w : World) (B q d : Nat) (s : DS) (most f : Int) (l : Nat) (sz : Int) (h : JK w B q d s most f l sz) (hl : 1 ≤ l ∧ l < 100) (hsz : 0 ≤ sz ∧ sz ≤ 100000000) (hll : s.l.length < 1000) (hf : fnd s (sg l) = 0) (ha : s.ar = false)
    (v : Value) (b : List Nat) (hv : Rc.Lies w v b) (hb : Rc.Byt b) (hbs : b.length ≤ 1000) (hfit : s.room - (usedF s.l : Int) < ((b.length + 8 : Nat) : Int)) :
    Calls Tryz.prog 14 #[.pointer (some ⟨q, 0, none⟩), v] w fun e w' => e = .returned (.int .i64 7) ∧ Below w.heap.size w w' := by
  have PU := Lib.hid (Rc.put_any w v b hv hb (by omega))
  have HJ := Lib.hid h
  have SN := Lib.hid (fnd_some hf)
  have HH := Lib.hid (And.intro hl (And.intro hsz (And.intro hll (And.intro hf ha))))
  have HB2 := Lib.hid (And.intro hbs hfit)
  have RL := Lib.hid (Rc.rec_length b)
  have BL := Lib.hid (bi_len (Rc.rec b))
  obtain ⟨va, vc, rfl, -⟩ := id hv
  clear hv h hsz hll hf ha hb
  go_enter Tryz.func14, Tryz.ntmps14
  go_wp2_with fail
  refine PU.out.mono ?_
  rintro e w1 ⟨r, rfl, hr, hb1⟩
  have J1 := Lib.hid (HJ.out.step hb1)
  have B1 := Lib.hid hb1
  have OR := Lib.hid (own_bi hr)
  have NV := Lib.hid (fun (j : Nat) (hj : r.ownBlock = some j) (hk : Has d s j) => (show False from by
    have h1 := (hr.lt j hj).1
    have h2 := (HJ.out.dk.base j hk).2
    omega))
  have LR := Lib.hid (own_liesK encB_len (own_bi hr))
  obtain ⟨ra, rc, rfl⟩ := own_shapeK hr
  obtain ⟨n, hn⟩ : ∃ n, b.length + 8 = n := ⟨_, rfl⟩
  have c0 : w1.cell? ⟨q, 0, none⟩ = some (pv d) := (cell_of_row _ _ _ _ _ _ J1.out.box).trans rfl
  have DW := Lib.hid (down_any w1 B d s J1.out.dk)
  rw [SN.out.2] at DW
  have FR := Lib.hid (free_any w1 B d s J1.out.dk)
  clear hr hb1 PU
  go_wp2_with fail
  refine DW.out.mono ?_
  rintro e w2 ⟨rfl, rfl⟩
  go_wp2_with fail
  refine FR.out.mono ?_
  rintro e w3 ⟨rfl, hb3⟩
  have J3 := Lib.hid (J1.out.step hb3)
  have B3 := Lib.hid (B1.out.trans (hb3.mono B1.out.size))
  have L3 := Lib.hid (LR.out.step hb3)
  have hgt : (s.room - (usedF s.l : Int)) < ((Rc.rec b).length : Int) := by have := HB2.out.2; have := RL.out; omega
  clear hb3 c0 FR DW LR
  go_wp2
  go_returns
  exact ⟨rfl, B3.out⟩
set_option maxHeartbeats 6400000 in
theorem japp_roll (w : World) (B q d : Nat) (s : DS) (most f : Int) (l : Nat) (sz : Int) (h : JK w B q d s most f l sz) (hl : 1 ≤ l ∧ l + 1 < 100) (hn8 : fnd s (sg (l + 1)) = 8) (hsz : 0 ≤ sz ∧ sz ≤ 100000000) (hll : s.l.length < 900) (hf : fnd s (sg l) = 0) (ha : s.ar = false)
    (v : Value) (b : List Nat) (hv : Rc.Lies w v b) (hb : Rc.Byt b) (hbs : b.length ≤ 1000) (hfit : ((b.length + 8 : Nat) : Int) ≤ s.room - (usedF s.l : Int)) (hm : 0 < sz ∧ most < sz + ((b.length + 8 : Nat) : Int)) :
    Calls Tryz.prog 14 #[.pointer (some ⟨q, 0, none⟩), v] w fun e w' => e = .returned (.int .i64 0) ∧ ∃ a' c' m', JK w' B q d { s with l := setF s.l ⟨sg (l + 1), a', c', bi (Rc.rec b), lenI (bi (Rc.rec b))⟩, m := m' } most f ((l + 1 : Nat) : Int) ((b.length + 8 : Nat) : Int) ∧ Far (Lh d s q) w w' := by
  have PU := Lib.hid (Rc.put_any w v b hv hb (by omega))
  have HJ := Lib.hid h
  have SN := Lib.hid (fnd_some hf)
  have H8 := Lib.hid hn8
  have HH := Lib.hid (And.intro hl (And.intro hsz (And.intro hll (And.intro hf ha))))
  have HB2 := Lib.hid (And.intro hbs (And.intro hfit hm))
  have RL := Lib.hid (Rc.rec_length b)
  have BL := Lib.hid (bi_len (Rc.rec b))
  obtain ⟨va, vc, rfl, -⟩ := id hv
  clear hv h hsz hll hf ha hb hn8
  go_enter Tryz.func14, Tryz.ntmps14
  go_wp2_with fail
  refine PU.out.mono ?_
  rintro e w1 ⟨r, rfl, hr, hb1⟩
  have J1 := Lib.hid (HJ.out.step hb1)
  have B1 := Lib.hid hb1
  have OR := Lib.hid (own_bi hr)
  have RLT := Lib.hid (fun (j : Nat) (hj : r.ownBlock = some j) => hr.lt j hj)
  have NV := Lib.hid (fun (j : Nat) (hj : r.ownBlock = some j) (hk : Has d s j) => (show False from by
    have h1 := (hr.lt j hj).1
    have h2 := (HJ.out.dk.base j hk).2
    omega))
  have LR := Lib.hid (own_liesK encB_len (own_bi hr))
  obtain ⟨ra, rc, rfl⟩ := own_shapeK hr
  obtain ⟨n, hn⟩ : ∃ n, b.length + 8 = n := ⟨_, rfl⟩
  have c0 : w1.cell? ⟨q, 0, none⟩ = some (pv d) := (cell_of_row _ _ _ _ _ _ J1.out.box).trans rfl
  have DW := Lib.hid (down_any w1 B d s J1.out.dk)
  rw [SN.out.2] at DW
  have FR := Lib.hid (free_any w1 B d s J1.out.dk)
  clear hr hb1 PU
  go_wp2_with fail
  refine DW.out.mono ?_
  rintro e w2 ⟨rfl, rfl⟩
  go_wp2_with fail
  refine FR.out.mono ?_
  rintro e w3 ⟨rfl, hb3⟩
  have J3 := Lib.hid (J1.out.step hb3)
  have B3 := Lib.hid (B1.out.trans (hb3.mono B1.out.size))
  have L3 := Lib.hid (LR.out.step hb3)
  have B13 := Lib.hid hb3
  have hgt : ¬ ((s.room - (usedF s.l : Int)) < ((Rc.rec b).length : Int)) := by have := HB2.out.2.1; have := RL.out; omega
  have RO := Lib.hid (fun (W : World) (hW : Below w3.heap.size w3 W) => roll_ok W B q d s most f l sz (J3.out.step hW) HH.out.1.2 (by have := HH.out.2.2.1; omega) H8.out HH.out.2.2.2.2)
  have EL := Lib.hid (show ((bi (Rc.rec b)).length : Int) = ((b.length + 8 : Nat) : Int) from by rw [BL.out, RL.out])
  have c4 : w3.cell? ⟨q, 4, none⟩ = some (.int .i64 sz) := (cell_of_row _ _ _ _ _ _ J3.out.box).trans rfl
  have c1 : w3.cell? ⟨q, 1, none⟩ = some (.int .i64 most) := (cell_of_row _ _ _ _ _ _ J3.out.box).trans rfl
  have DR := Lib.hid (fun n => (show Below w3.heap.size w3 (w3.drewN n) from ⟨rfl, rfl, rfl, Nat.le_refl _, fun _ _ => rfl⟩))
  obtain ⟨L, hL⟩ : ∃ L, (Rc.rec b).length = L := ⟨_, rfl⟩
  have HL := Lib.hid (show ((L : Nat) : Int) = ((b.length + 8 : Nat) : Int) from by rw [← hL, RL.out])
  rw [hL] at hgt NV RLT OR
  have HLL := Lib.hid hL
  try rw [hL]
  clear hb3 hL c0 FR DW LR
  go_upto_region 10 with (fail)
  have h0 : 0 < sz := HB2.out.2.2.1
  have hw : IntKind.i64.wrap (sz + (L : Int)) = sz + (L : Int) := by
    have := HL.out; have := HB2.out.1; have := HH.out.2.1
    rw [IntKind.wrap_i64]
    omega
  have hw2 : wrap64 (sz + (L : Int)) = sz + (L : Int) := by
    have := HL.out; have := HB2.out.1; have := HH.out.2.1
    unfold wrap64
    omega
  have hno : most < sz + (L : Int) := by have := HB2.out.2.2.2; have := HL.out; omega
  go_quiet (fail)
  go_wp2_with fail
  refine (RO.out _ (DR.out _)).mono ?_
  rintro e w5 ⟨rfl, m', hj, hfar, hsub⟩
  have J5 := Lib.hid hj
  have F5 := Lib.hid hfar
  have EZ := Lib.hid (show fnd { s with l := setF s.l (zf (sg (l + 1))), m := m' } (sg (l + 1)) = 0 ∧ fval { s with l := setF s.l (zf (sg (l + 1))), m := m' } (sg (l + 1)) = zf (sg (l + 1)) from by
    have hd := (fnd_some HH.out.2.2.2.1).2
    unfold fnd fval
    rw [show ({ s with l := setF s.l (zf (sg (l + 1))), m := m' } : DS).dn = false from hd, show getF ({ s with l := setF s.l (zf (sg (l + 1))), m := m' } : DS).l (sg (l + 1)) = some (zf (sg (l + 1))) from get_set s.l (zf (sg (l + 1)))]
    exact ⟨rfl, rfl⟩)
  have O5 := Lib.hid (hfar.row (own_belowK OR.out (B13.out.trans ((DR.out _).mono B13.out.size))) (fun j hj hk => hk.elim (NV.out j hj) (fun e => by have := (RLT.out j hj).1; have := HJ.out.lt; omega)))
  have UZ := Lib.hid (used_zf s.l (sg (l + 1)))
  have LZ2 := Lib.hid (len_set s.l (zf (sg (l + 1))))
  have HS := Lib.hid hsub
  have WR := Lib.hid (write_fit w5 B q d { s with l := setF s.l (zf (sg (l + 1))), m := m' } most f (l + 1) 0 J5.out ⟨by omega, HH.out.1.2⟩ (by omega) (by have := LZ2.out; have := HH.out.2.2.1; show (setF s.l (zf (sg (l + 1)))).length < 1000; omega) EZ.out.1 HH.out.2.2.2.2 (.slice ra L rc) (bi (Rc.rec b)) (own_liesK encB_len O5.out)
    (fun _ j hj hk => (hsub j hk).elim (NV.out j hj) (fun e => by have := (RLT.out j hj).2; have := B13.out.size; have e2 : w3.heap.size ≤ j := e; omega))
    (by have := BL.out; have := RL.out; have := HB2.out.1; omega) (by have := BL.out; have := RL.out; have := HB2.out.2.1; have := UZ.out; show ¬ (s.room - (usedF (setF s.l (zf (sg (l + 1)))) : Int) < _); omega))
  rw [EZ.out.2, EL.out] at WR
  clear hj hfar hsub RO
  go_wp2_with fail
  refine WR.out.mono ?_
  rintro e w6 ⟨rfl, a1, c1, hj, hfar⟩
  have FIN := Lib.hid (((Far.of_below (P := Lh d s q) (B3.out.trans ((DR.out _).mono B3.out.size))).trans F5.out (fun _ _ e => e)).trans hfar (fun k hk e => e.elim (fun e1 => (HS.out k e1).elim .inl (fun e2 => by have e3 : w3.heap.size ≤ k := e2; have := B3.out.size; omega)) .inr))
  have e1 : setF (setF s.l (zf (sg (l + 1)))) ⟨sg (l + 1), a1, c1, bi (Rc.rec b), lenI (bi (Rc.rec b))⟩ = setF s.l ⟨sg (l + 1), a1, c1, bi (Rc.rec b), lenI (bi (Rc.rec b))⟩ := set_set rfl
  have hj2 : JK w6 B q d { s with l := setF (setF s.l (zf (sg (l + 1)))) ⟨sg (l + 1), a1, c1, bi (Rc.rec b), lenI (bi (Rc.rec b))⟩, m := m' } most f ((l + 1 : Nat) : Int) (0 + ((b.length + 8 : Nat) : Int)) := hj
  rw [e1, Int.zero_add] at hj2
  have HJ2 := Lib.hid hj2
  clear hj hj2 hfar e1 WR
  go_wp2
  go_returns
  exact ⟨rfl, a1, c1, m', HJ2.out, FIN.out⟩
end Go.Proofs.YtgbihpfpiaacfaaGreatDoor

set_option linter.unusedVariables false
set_option linter.unusedSimpArgs false
set_option maxRecDepth 100000
namespace Go.Proofs.YtgbihpfpiaacfaaGreatDoor
open Go.RowKit Go.Shelf Go.WideMaps Go.Maps

/-! ### records, one behind the other -/
def cat (L : List (List Nat)) : List Nat := L.flatMap Rc.rec
theorem cat_snoc (L : List (List Nat)) (b : List Nat) : cat (L ++ [b]) = cat L ++ Rc.rec b := by simp [cat]
theorem recs_cat : ∀ (L : List (List Nat)) (at_ : Nat), (∀ b ∈ L, b.length ≤ 65536) → (Rc.recsAt at_ (cat L)).map (·.2) = L ∧ Rc.takes (Rc.recsAt at_ (cat L)) = (cat L).length
  | [], at_, _ => by
    show (Rc.recsAt at_ []).map _ = [] ∧ Rc.takes (Rc.recsAt at_ []) = 0
    rw [Rc.recs_nil]
    exact ⟨rfl, rfl⟩
  | b :: L, at_, h => by
    have e : cat (b :: L) = Rc.rec b ++ cat L := by simp [cat]
    rw [e, Rc.recs_one b (cat L) (h b (List.mem_cons_self ..)) at_]
    obtain ⟨h1, h2⟩ := recs_cat L (at_ + (b.length + 8)) (fun x hx => h x (List.mem_cons_of_mem _ hx))
    refine ⟨by rw [List.map_cons, h1], ?_⟩
    show b.length + 8 + Rc.takes _ = _
    rw [h2, List.length_append, Rc.rec_length]
theorem says_cat {gs : Nat → List (List Nat)} {n : Nat} (h : ∀ b ∈ gs n, b.length ≤ 65536) : says1 (fun m => cat (gs m)) n = gs n := (recs_cat (gs n) 0 h).1
theorem whole_cat {L : List (List Nat)} (h : ∀ b ∈ L, b.length ≤ 65536) : Rc.takes (Rc.recs (cat L)) = (cat L).length := (recs_cat L 0 h).2
theorem byt_cat {L : List (List Nat)} (h : ∀ b ∈ L, Rc.Byt b) : Rc.Byt (cat L) := by
  intro x hx
  obtain ⟨b, hb, hx⟩ := List.mem_flatMap.1 hx
  exact Rc.rec_byt (h b hb) x hx

/-! ### files, set -/
theorem get_off {l : List Fl} {y : Fl} {nm : ByteArray} (hr : Rise l) (hr2 : Rise (setF l y)) (h : nm ≠ y.n) : getF (setF l y) nm = getF l nm := by
  have mem : ∀ x : Fl, x.n ≠ y.n → (x ∈ setF l y ↔ x ∈ l) := fun x hx => by
    rw [(set_perm y).mem_iff, List.mem_cons, List.mem_filter]
    constructor
    · rintro (rfl | ⟨h1, _⟩)
      · exact absurd rfl hx
      · exact h1
    · intro h1
      exact .inr ⟨h1, by simp [sameN, hx]⟩
  cases hg : getF l nm with
  | some x =>
    have h1 := (get_some hr).1 hg
    exact (get_some hr2).2 ⟨(mem x (by rw [h1.2]; exact h)).2 h1.1, h1.2⟩
  | none =>
    refine get_none.2 (fun x hx e => ?_)
    exact get_none.1 hg x ((mem x (by rw [e]; exact h)).1 hx) e
theorem filter_new {l : List Fl} {y : Fl} (h : getF l y.n = none) : l.filter (fun x => !sameN x y) = l := by
  rw [List.filter_eq_self]
  intro x hx
  have := get_none.1 h x hx
  simp [sameN, this]
theorem perm_map_inv {α β : Type} {g : α → β} : ∀ {l m : List β}, l.Perm m → ∀ k : List α, m = k.map g → ∃ j : List α, l = j.map g ∧ j.Perm k := by
  intro l m h
  induction h with
  | nil => intro k e; have := List.map_eq_nil_iff.1 e.symm; subst this; exact ⟨[], rfl, List.Perm.nil⟩
  | cons x _ ih =>
    intro k e
    obtain ⟨a, k', rfl, rfl, e2⟩ := List.map_eq_cons_iff.1 e.symm
    obtain ⟨j, h1, h2⟩ := ih k' e2.symm
    exact ⟨a :: j, by rw [List.map_cons, h1], h2.cons a⟩
  | swap x y l =>
    intro k e
    obtain ⟨a, k', rfl, rfl, e2⟩ := List.map_eq_cons_iff.1 e.symm
    obtain ⟨b, k'', rfl, rfl, e3⟩ := List.map_eq_cons_iff.1 e2
    exact ⟨b :: a :: k'', by rw [List.map_cons, List.map_cons, e3], List.Perm.swap ..⟩
  | trans _ _ ih1 ih2 =>
    intro k e
    obtain ⟨j, h1, h2⟩ := ih2 k e
    obtain ⟨j2, h3, h4⟩ := ih1 j h1
    exact ⟨j2, h3, h4.trans h2⟩
theorem nms_new {l : List Fl} {y : Fl} (h : getF l y.n = none) : (nms (setF l y)).Perm (y.n :: nms l) := by
  have := (set_perm (l := l) y).map (·.n)
  rw [filter_new h] at this
  exact this
theorem nms_old {l : List Fl} {x y : Fl} (hr : Rise l) (hx : x ∈ l) (h : x.n = y.n) : (nms (setF l y)).Perm (nms l) := by
  have h1 := (set_perm (l := l) y).map (·.n)
  have h2 := (set_perm (l := l) x).map (·.n)
  have e : (fun z => !sameN z x) = fun z => !sameN z y := by funext z; simp [sameN, h]
  rw [e] at h2
  have h3 : setF l x = l := by
    obtain ⟨i, hi⟩ := List.mem_iff_getElem?.1 hx
    rw [set_at hr hi rfl]
    exact List.ext_getElem? (fun j => by
      by_cases e : i = j
      · subst e
        rw [List.getElem?_set_self (List.getElem?_eq_some_iff.1 hi).1, hi]
      · rw [List.getElem?_set_ne e])
  rw [h3] at h2
  rw [List.map_cons, h] at h2
  exact h1.trans h2.symm

/-- The segments f .. f + M of a disk, what each holds. -/
structure SG (s : DS) (f M : Nat) (fb : Nat → List Nat) : Prop where
  dn : s.dn = false
  ar : s.ar = false
  ks : ∃ ks : List Nat, nms s.l = ks.map sg ∧ ks.Perm (List.range' f (M + 1))
  at_ : ∀ m, f ≤ m → m ≤ f + M → ∃ x, getF s.l (sg m) = some x ∧ x.b = bi (fb m) ∧ x.s = ((fb m).length : Int)
theorem SG.fnd {s : DS} {f M : Nat} {fb : Nat → List Nat} (h : SG s f M fb) {m : Nat} (h1 : f ≤ m) (h2 : m ≤ f + M) : fnd s (sg m) = 0 ∧ (fval s (sg m)).b = bi (fb m) ∧ (fval s (sg m)).s = ((fb m).length : Int) := by
  obtain ⟨x, e1, e2, e3⟩ := h.at_ m h1 h2
  unfold _root_.Go.Proofs.YtgbihpfpiaacfaaGreatDoor.fnd fval
  rw [h.dn, e1]
  exact ⟨rfl, e2, e3⟩
theorem SG.new {s : DS} {f M : Nat} {fb : Nat → List Nat} (h : SG s f M fb) (hM : f + M + 1 < 100) : _root_.Go.Proofs.YtgbihpfpiaacfaaGreatDoor.fnd s (sg (f + M + 1)) = 8 := by
  obtain ⟨ks, h1, h2⟩ := h.ks
  have : getF s.l (sg (f + M + 1)) = none := get_none.2 (fun x hx e => by
    have hm : x.n ∈ nms s.l := List.mem_map.2 ⟨x, hx, rfl⟩
    rw [h1] at hm
    obtain ⟨k, hk, e2⟩ := List.mem_map.1 hm
    have hk2 := List.mem_range'_1.1 (h2.mem_iff.1 hk)
    have := sg_inj (m := k) (n := f + M + 1) (by omega) hM (e2.trans e)
    omega)
  unfold _root_.Go.Proofs.YtgbihpfpiaacfaaGreatDoor.fnd
  rw [h.dn, this]
  rfl
/-- One segment's bytes anew. -/
theorem SG.put {s : DS} {f M : Nat} {fb fb' : Nat → List Nat} (h : SG s f M fb) (hr : Rise s.l) (hM : f + M < 100) (a : Option Addr) (c : Nat) (n : Nat) (h1 : f ≤ n) (h2 : n ≤ f + M) (m' : Option Nat) (hfb : ∀ k, k ≠ n → fb' k = fb k) :
    SG { s with l := setF s.l ⟨sg n, a, c, bi (fb' n), lenI (bi (fb' n))⟩, m := m' } f M fb' := by
  obtain ⟨x, e1, -, -⟩ := h.at_ n h1 h2
  have hx := get_mem e1
  obtain ⟨ks, k1, k2⟩ := h.ks
  have hp := nms_old (y := ⟨sg n, a, c, bi (fb' n), lenI (bi (fb' n))⟩) hr hx.1 hx.2
  rw [k1] at hp
  obtain ⟨j, j1, j2⟩ := perm_map_inv hp ks rfl
  refine ⟨h.dn, h.ar, ⟨j, j1, j2.trans k2⟩, fun m m1 m2 => ?_⟩
  by_cases e : m = n
  · subst e
    exact ⟨_, get_set s.l ⟨sg m, a, c, bi (fb' m), lenI (bi (fb' m))⟩, rfl, by show lenI _ = _; unfold lenI; rw [bi_len]⟩
  · have hne : sg m ≠ sg n := fun e2 => e (sg_inj (by omega) (by omega) e2)
    have := get_off (y := ⟨sg n, a, c, bi (fb' n), lenI (bi (fb' n))⟩) hr (rise_set hr _) hne
    rw [hfb m e]
    obtain ⟨z, z1, z2⟩ := h.at_ m m1 m2
    exact ⟨z, this.trans z1, z2⟩
/-- Another segment. -/
theorem SG.add {s : DS} {f M : Nat} {fb fb' : Nat → List Nat} (h : SG s f M fb) (hr : Rise s.l) (hM : f + M + 1 < 100) (a : Option Addr) (c : Nat) (m' : Option Nat) (hfb : ∀ k, k ≤ f + M → fb' k = fb k) :
    SG { s with l := setF s.l ⟨sg (f + M + 1), a, c, bi (fb' (f + M + 1)), lenI (bi (fb' (f + M + 1)))⟩, m := m' } f (M + 1) fb' := by
  have hn := (fnd_none (h.new hM)).1
  obtain ⟨ks, k1, k2⟩ := h.ks
  have hp := nms_new (y := ⟨sg (f + M + 1), a, c, bi (fb' (f + M + 1)), lenI (bi (fb' (f + M + 1)))⟩) hn
  rw [k1] at hp
  obtain ⟨j, j1, j2⟩ := perm_map_inv (g := sg) hp ((f + M + 1) :: ks) rfl
  refine ⟨h.dn, h.ar, ⟨j, j1, j2.trans ?_⟩, fun m m1 m2 => ?_⟩
  · rw [List.range'_concat, Nat.one_mul]
    exact (k2.cons _).trans ((List.perm_append_singleton _ _).symm)
  by_cases e : m = f + M + 1
  · subst e
    exact ⟨_, get_set s.l ⟨sg (f + M + 1), a, c, bi (fb' (f + M + 1)), lenI (bi (fb' (f + M + 1)))⟩, rfl, by show lenI _ = _; unfold lenI; rw [bi_len]⟩
  · have hne : sg m ≠ sg (f + M + 1) := fun e2 => e (sg_inj (by omega) (by omega) e2)
    have := get_off (y := ⟨sg (f + M + 1), a, c, bi (fb' (f + M + 1)), lenI (bi (fb' (f + M + 1)))⟩) hr (rise_set hr _) hne
    rw [hfb m (by omega)]
    obtain ⟨z, z1, z2⟩ := h.at_ m m1 (by omega)
    exact ⟨z, this.trans z1, z2⟩
theorem DK.rise {w : World} {B d : Nat} {s : DS} (h : DK w B d s) : Rise s.l := by
  rcases h.map with ⟨_, h1⟩ | ⟨b, _, _, hb⟩
  · rw [h1]; exact List.Pairwise.nil
  · exact hb.rise
theorem SG.len {s : DS} {f M : Nat} {fb : Nat → List Nat} (h : SG s f M fb) : s.l.length = M + 1 := by
  obtain ⟨ks, k1, k2⟩ := h.ks
  have := congrArg List.length k1
  unfold nms at this
  rw [List.length_map, List.length_map, k2.length_eq, List.length_range'] at this
  exact this
end Go.Proofs.YtgbihpfpiaacfaaGreatDoor

set_option linter.unusedVariables false
set_option linter.unusedSimpArgs false
set_option maxRecDepth 100000
namespace Go.Proofs.YtgbihpfpiaacfaaGreatDoor
open Go.RowKit Go.Shelf Go.WideMaps Go.Maps

theorem cat_one (b : List Nat) : cat [b] = Rc.rec b := by simp [cat]
/-- All that a journal's segments hold. -/
def allP (gs : Nat → List (List Nat)) (f M : Nat) : List (List Nat) := (List.range' f (M + 1)).flatMap gs
theorem flat_same {gs gs' : Nat → List (List Nat)} : ∀ l : List Nat, (∀ k ∈ l, gs' k = gs k) → l.flatMap gs' = l.flatMap gs
  | [], _ => rfl
  | x :: l, h => by
    rw [List.flatMap_cons, List.flatMap_cons, h x (List.mem_cons_self ..), flat_same l (fun k hk => h k (List.mem_cons_of_mem _ hk))]
theorem allP_put {gs : Nat → List (List Nat)} {f M : Nat} {b : List Nat} : allP (fun m => if m = f + M then gs m ++ [b] else gs m) f M = allP gs f M ++ [b] := by
  unfold allP
  rw [List.range'_concat, Nat.one_mul, List.flatMap_append, List.flatMap_append, List.append_assoc]
  rw [flat_same (gs := gs) (List.range' f M) (fun k hk => by have := List.mem_range'_1.1 hk; rw [if_neg (by omega)])]
  simp
theorem allP_add {gs : Nat → List (List Nat)} {f M : Nat} {b : List Nat} : allP (fun m => if m = f + M + 1 then [b] else gs m) f (M + 1) = allP gs f M ++ [b] := by
  unfold allP
  rw [List.range'_concat (n := M + 1), Nat.one_mul, List.flatMap_append]
  rw [flat_same (gs := gs) (List.range' f (M + 1)) (fun k hk => by have := List.mem_range'_1.1 hk; rw [if_neg (by omega)])]
  simp [Nat.add_assoc]
/-- A journal over its segments f .. f + M, of records gs. -/
structure JS (w : World) (B q d : Nat) (s : DS) (most : Int) (f M : Nat) (gs : Nat → List (List Nat)) : Prop where
  jk : JK w B q d s most (f : Int) ((f + M : Nat) : Int) (((cat (gs (f + M))).length : Nat) : Int)
  sg : SG s f M (fun m => cat (gs m))
theorem JS.step {w w' : World} {B q d : Nat} {s : DS} {most : Int} {f M : Nat} {gs : Nat → List (List Nat)} (h : JS w B q d s most f M gs) (hb : Below w.heap.size w w') : JS w' B q d s most f M gs := ⟨h.jk.step hb, h.sg⟩
theorem used_put {l : List Fl} {x y : Fl} (hr : Rise l) (hx : x ∈ l) (h : x.n = y.n) {k : Nat} (hk : y.b.length = x.b.length + k) : usedF (setF l y) = usedF l + k := by
  have := (set_len (x := y) hr hx h).2
  omega
theorem used_add {l : List Fl} {y : Fl} (h : getF l y.n = none) : usedF (setF l y) = usedF l + y.b.length := by
  rw [usedF_set, filter_new h]
  omega
theorem jact (w : World) (B q d : Nat) (s : DS) (most : Int) (f M : Nat) (gs : Nat → List (List Nat)) (h : JS w B q d s most f M gs) (hf1 : 1 ≤ f) (hfM : f + M + 1 < 100) (v : Value) (b : List Nat) (hv : Rc.Lies w v b) (hb : Rc.Byt b) (hbs : b.length ≤ 1000) (hsz : (cat (gs (f + M))).length ≤ 100000000)
    (hfit : ((b.length + 8 : Nat) : Int) ≤ s.room - (usedF s.l : Int)) :
    Calls Tryz.prog 14 #[.pointer (some ⟨q, 0, none⟩), v] w fun e w' => e = .returned (.int .i64 0) ∧ ∃ s' M' gs', JS w' B q d s' most f M' gs' ∧ Far (Lh d s q) w w' ∧ M' ≤ M + 1 ∧ allP gs' f M' = allP gs f M ++ [b] ∧ s'.room = s.room ∧ usedF s'.l = usedF s.l + (b.length + 8) := by
  have hr := DK.rise h.jk.dk
  have hF := h.sg.fnd (m := f + M) (by omega) (by omega)
  have hl := h.sg.len
  have hx := get_mem (fnd_some hF.1).1
  have hxl : (fval s (sg (f + M))).b.length = (cat (gs (f + M))).length := by rw [hF.2.1, bi_len]
  by_cases hc : (((cat (gs (f + M))).length : Nat) : Int) = 0 ∨ (((cat (gs (f + M))).length : Nat) : Int) + ((b.length + 8 : Nat) : Int) ≤ most
  · refine (japp_fit w B q d s most f (f + M) _ h.jk ⟨by omega, by omega⟩ ⟨by omega, by omega⟩ (by omega) hF.1 h.sg.ar v b hv hb hbs hfit hc).mono ?_
    rintro e w' ⟨rfl, a', c', hj, hfar⟩
    rw [hF.2.1, ← bi_app, ← cat_snoc] at hj
    have eg : (fun m => if m = f + M then gs m ++ [b] else gs m) (f + M) = gs (f + M) ++ [b] := if_pos rfl
    have hput := SG.put (fb' := fun m => cat ((fun m => if m = f + M then gs m ++ [b] else gs m) m)) h.sg hr (by omega) a' c' (f + M) (by omega) (by omega) s.m (fun k hk => by dsimp only; rw [if_neg hk])
    dsimp only at hput
    rw [if_pos rfl] at hput
    refine ⟨rfl, _, M, fun m => if m = f + M then gs m ++ [b] else gs m, ⟨?_, hput⟩, hfar, by omega, allP_put, rfl, ?_⟩
    · have el : (((cat (gs (f + M))).length : Nat) : Int) + ((b.length + 8 : Nat) : Int) = (((cat ((fun m => if m = f + M then gs m ++ [b] else gs m) (f + M))).length : Nat) : Int) := by
        dsimp only
        rw [if_pos rfl, cat_snoc, List.length_append, Rc.rec_length]
        omega
      rw [← el]
      exact hj
    · refine used_put hr hx.1 hx.2 ?_
      show (bi (cat (gs (f + M) ++ [b]))).length = _
      rw [bi_len, cat_snoc, List.length_append, Rc.rec_length, hxl]
  · have h8 := h.sg.new hfM
    have hg := (fnd_none h8).1
    refine (japp_roll w B q d s most f (f + M) _ h.jk ⟨by omega, by omega⟩ h8 ⟨by omega, by omega⟩ (by omega) hF.1 h.sg.ar v b hv hb hbs hfit ⟨by omega, by omega⟩).mono ?_
    rintro e w' ⟨rfl, a', c', m', hj, hfar⟩
    have hadd := SG.add (fb' := fun m => cat ((fun m => if m = f + M + 1 then [b] else gs m) m)) h.sg hr hfM a' c' m' (fun k hk => by dsimp only; rw [if_neg (by omega)])
    dsimp only at hadd
    rw [if_pos rfl, cat_one] at hadd
    refine ⟨rfl, _, M + 1, fun m => if m = f + M + 1 then [b] else gs m, ⟨?_, hadd⟩, hfar, by omega, allP_add, rfl, ?_⟩
    · have el : ((b.length + 8 : Nat) : Int) = (((cat ((fun m => if m = f + M + 1 then [b] else gs m) (f + (M + 1)))).length : Nat) : Int) := by
        dsimp only
        rw [if_pos (by omega), cat_one, Rc.rec_length]
      rw [← el]
      exact hj
    · show usedF (setF s.l ⟨sg (f + M + 1), a', c', bi (Rc.rec b), lenI (bi (Rc.rec b))⟩) = _
      rw [used_add (y := ⟨sg (f + M + 1), a', c', bi (Rc.rec b), lenI (bi (Rc.rec b))⟩) hg]
      show usedF s.l + (bi (Rc.rec b)).length = _
      rw [bi_len, Rc.rec_length]
end Go.Proofs.YtgbihpfpiaacfaaGreatDoor

set_option linter.unusedVariables false
set_option linter.unusedSimpArgs false
set_option maxRecDepth 100000
namespace Go.Proofs.YtgbihpfpiaacfaaGreatDoor
open Go.RowKit Go.Shelf Go.WideMaps Go.Maps

theorem sum_cat (gs : Nat → List (List Nat)) : ∀ l : List Nat, (l.map (fun m => (cat (gs m)).length)).sum = (cat (l.flatMap gs)).length
  | [] => rfl
  | m :: l => by
    rw [List.map_cons, List.sum_cons, List.flatMap_cons, sum_cat gs l]
    unfold cat
    rw [List.flatMap_append, List.length_append]
theorem flat_says {gs : Nat → List (List Nat)} : ∀ l : List Nat, (∀ m ∈ l, ∀ b ∈ gs m, b.length ≤ 65536) → l.flatMap (says1 (fun m => cat (gs m))) = l.flatMap gs
  | [], _ => rfl
  | m :: l, h => by rw [List.flatMap_cons, List.flatMap_cons, says_cat (h m (List.mem_cons_self ..)), flat_says l (fun k hk => h k (List.mem_cons_of_mem _ hk))]
theorem jopen (w : World) (B d : Nat) (s : DS) (most : Int) (f M : Nat) (gs : Nat → List (List Nat)) (h : DK w B d s) (hB : B ≤ w.heap.size) (hsg : SG s f M (fun m => cat (gs m))) (hm : 16 ≤ most ∧ most ≤ 16777216) (hf1 : 1 ≤ f) (hfM : f + M < 100)
    (hb : ∀ b ∈ allP gs f M, Rc.Byt b ∧ b.length ≤ 65536) (htot : (cat (allP gs f M)).length ≤ 45000) :
    Calls Tryz.prog 11 #[pv d, .int .i64 most] w fun e w' => ∃ q sv, e = .returned (.tuple #[.pointer (some ⟨q, 0, none⟩), sv, .int .i64 0]) ∧ w.heap.size ≤ q ∧ JS w' B q d s most f M gs ∧ Says w' w.heap.size sv (allP gs f M) ∧ Far (Has d s) w w' := by
  obtain ⟨ks, k1, k2⟩ := hsg.ks
  have inb : ∀ m, f ≤ m → m ≤ f + M → ∀ b ∈ gs m, Rc.Byt b ∧ b.length ≤ 65536 := fun m h1 h2 b hm => hb b (List.mem_flatMap.2 ⟨m, List.mem_range'_1.2 ⟨h1, by omega⟩, hm⟩)
  refine (open_many w B d s h hB hsg.dn most hm ks k1 f M k2 hf1 hfM (fun m => cat (gs m)) (fun m h1 h2 => ⟨(hsg.fnd h1 h2).1, (hsg.fnd h1 h2).2.1⟩) (fun m h1 h2 => byt_cat (fun b hm => (inb m h1 h2 b hm).1)) (by rw [sum_cat]; exact htot)
    (fun m h1 h2 => whole_cat (fun b hm => (inb m h1 h2 b hm).2)) (hsg.fnd (by omega) (by omega)).2.2 (fun x hx => by have := usedF_mem hx; have := h.fits; have := h.roomok; omega)).mono ?_
  rintro e w' ⟨q, sv, rfl, hq, hj, hs, hfar⟩
  rw [flat_says _ (fun m hm b hb2 => by have := List.mem_range'_1.1 hm; exact (inb m this.1 (by omega) b hb2).2)] at hs
  exact ⟨q, sv, rfl, hq, ⟨hj, hsg⟩, hs, hfar⟩
/-- Of an empty disk. -/
theorem jopen_new (w : World) (B d : Nat) (s : DS) (h : DK w B d s) (hB : B ≤ w.heap.size) (hd : s.dn = false) (ha : s.ar = false) (most : Int) (hm : 16 ≤ most ∧ most ≤ 16777216) (hl : s.l = []) :
    Calls Tryz.prog 11 #[pv d, .int .i64 most] w fun e w' => ∃ q sv s', e = .returned (.tuple #[.pointer (some ⟨q, 0, none⟩), sv, .int .i64 0]) ∧ w.heap.size ≤ q ∧ JS w' B q d s' most 1 0 (fun _ => []) ∧ Says w' w.heap.size sv [] ∧ Far (Has d s) w w' ∧ s'.room = s.room ∧ usedF s'.l = 0 := by
  refine (open_new w B d s h hB hd ha most hm hl).mono ?_
  rintro e w' ⟨q, sv, m', rfl, hq, hj, hs, hfar⟩
  refine ⟨q, sv, _, rfl, hq, ⟨hj, ⟨hd, ha, ⟨[1], rfl, List.Perm.refl _⟩, fun m h1 h2 => ?_⟩⟩, hs, hfar, rfl, rfl⟩
  obtain rfl : m = 1 := by omega
  refine ⟨zf (sg 1), ?_, rfl, rfl⟩
  show getF [zf (sg 1)] (sg 1) = _
  unfold getF isN zf
  simp
/-- What there is no room for is refused. -/
theorem jfull (w : World) (B q d : Nat) (s : DS) (most : Int) (f M : Nat) (gs : Nat → List (List Nat)) (h : JS w B q d s most f M gs) (hf1 : 1 ≤ f) (hfM : f + M < 100) (v : Value) (b : List Nat) (hv : Rc.Lies w v b) (hb : Rc.Byt b) (hbs : b.length ≤ 1000) (hsz : (cat (gs (f + M))).length ≤ 100000000)
    (hfit : s.room - (usedF s.l : Int) < ((b.length + 8 : Nat) : Int)) :
    Calls Tryz.prog 14 #[.pointer (some ⟨q, 0, none⟩), v] w fun e w' => e = .returned (.int .i64 7) ∧ Below w.heap.size w w' :=
  japp_full w B q d s most f (f + M) _ h.jk ⟨by omega, by omega⟩ ⟨by omega, by omega⟩ (by have := h.sg.len; omega) (h.sg.fnd (m := f + M) (by omega) (by omega)).1 h.sg.ar v b hv hb hbs hfit
end Go.Proofs.YtgbihpfpiaacfaaGreatDoor

set_option linter.unusedVariables false
set_option linter.unusedSimpArgs false
set_option maxRecDepth 100000
namespace Go.Proofs.YtgbihpfpiaacfaaGreatDoor
open Go.RowKit Go.Shelf Go.WideMaps Go.Maps
namespace Rc
set_option maxHeartbeats 1000000 in
theorem same_q (w : World) (v1 v2 : Value) (l : List Nat) (h1 : Lies w v1 l) (h2 : Lies w v2 l) :
    Calls Tryz.prog 32 #[v1, v2] w fun e w' => e = .returned (.bool true) ∧ ∃ m, w' = w.drewN m := by
  have hlm : l.length ≤ maxLen := by obtain ⟨_, _, _, g1, g2, _⟩ := h1; omega
  unfold maxLen at hlm
  obtain ⟨a1, p1, rfl, _, _, n1, hc1⟩ := h1
  obtain ⟨a2, p2, rfl, _, _, n2, hc2⟩ := h2
  go_enter Tryz.func32, Tryz.ntmps32
  go_wp2
  go_loopw [5] (fun kv wr => ∃ k : Nat, kv = .int .i64 k ∧ k ≤ l.length ∧ ∃ n, wr = w.drewN n) (fun kv _ => l.length - (intOf kv).toNat)
  case atStart => exact ⟨0, rfl, Nat.zero_le _, 0, rfl⟩
  case round =>
    obtain ⟨k, rfl, hk, n, rfl⟩ := hrel
    by_cases hlt : k < l.length
    · obtain ⟨x, hx⟩ : ∃ x, l[k]? = some x := ⟨_, List.getElem?_eq_getElem hlt⟩
      cases a1 with
      | none => have := (n1 rfl).1; rw [this] at hlt; simp at hlt
      | some b1 =>
        cases a2 with
        | none => have := (n2 rfl).1; rw [this] at hlt; simp at hlt
        | some b2 =>
          obtain ⟨k1, o1, rfl, _, hc1⟩ := hc1 b1 rfl (ne_of_lt hlt)
          obtain ⟨k2, o2, rfl, _, hc2⟩ := hc2 b2 rfl (ne_of_lt hlt)
          have d1 := hc1 k x hx
          have d2 := hc2 k x hx
          clear hc1 hc2 n1 n2 hx
          go_wp2
          go_quiet (fail)
          go_wp2
          go_roundw
          case rel => exact ⟨k + 1, by go_num, by omega, _, rfl⟩
          case measure => simp [intOf]; omega
    · clear hc1 hc2 n1 n2
      go_wp2
      go_returns
      exact ⟨rfl, n, rfl⟩

end Rc
set_option maxHeartbeats 1600000 in
theorem same_says (w : World) (E1 E2 : Nat) (v1 v2 : Value) (L : List (List Nat)) (h1 : Says w E1 v1 L) (h2 : Says w E2 v2 L) (hL : L.length ≤ 100000) :
    Calls Tryz.prog 20 #[v1, v2] w fun e w' => e = .returned (.bool true) ∧ Below w.heap.size w w' := by
  obtain ⟨vs1, r1, l1, e1⟩ := h1
  obtain ⟨vs2, r2, l2, e2⟩ := h2
  obtain ⟨a1, p1, rfl⟩ := own_shapeK r1
  obtain ⟨a2, p2, rfl⟩ := own_shapeK r2
  rw [l1] at r1 ⊢
  rw [l2] at r2 ⊢
  have X1 := Lib.hid (And.intro l1 (And.intro r1 e1))
  have X2 := Lib.hid (And.intro l2 (And.intro r2 e2))
  clear r1 r2 e1 e2
  go_enter Tryz.func20, Tryz.ntmps20
  go_wp2_with fail
  go_loopw [5] (fun kv wr => ∃ k : Nat, kv = .int .i64 k ∧ k ≤ L.length ∧ Hid (Below w.heap.size w wr)) (fun kv _ => L.length - (intOf kv).toNat)
  case atStart => exact ⟨0, rfl, Nat.zero_le _, Lib.hid (Below.refl _ _)⟩
  case round =>
    obtain ⟨k, rfl, hk, hB⟩ := hrel
    by_cases hlt : k < L.length
    · obtain ⟨b, hb⟩ : ∃ b, L[k]? = some b := ⟨_, List.getElem?_eq_getElem hlt⟩
      obtain ⟨u1, hu1⟩ : ∃ u, vs1[k]? = some u := ⟨_, List.getElem?_eq_getElem (by rw [l1]; exact hlt)⟩
      obtain ⟨u2, hu2⟩ : ∃ u, vs2[k]? = some u := ⟨_, List.getElem?_eq_getElem (by rw [l2]; exact hlt)⟩
      have R1 := own_belowK X1.out.2.1 hB.out
      have R2 := own_belowK X2.out.2.1 hB.out
      obtain ⟨g1, rfl⟩ : ∃ g, a1 = some ⟨g, 0, none⟩ := by
        rcases R1.2 with ⟨e, e'⟩ | ⟨g, cap, _, e, _⟩
        · rw [e'] at hlt; exact absurd hlt (Nat.not_lt_zero _)
        · injection e with e _ _; exact ⟨g, e⟩
      obtain ⟨g2, rfl⟩ : ∃ g, a2 = some ⟨g, 0, none⟩ := by
        rcases R2.2 with ⟨e, e'⟩ | ⟨g, cap, _, e, _⟩
        · rw [e'] at hlt; exact absurd hlt (Nat.not_lt_zero _)
        · injection e with e _ _; exact ⟨g, e⟩
      have c1 : wr.cell? ⟨g1, k, none⟩ = some u1 := by
        have := R1.cells (g := g1) rfl k u1 hu1
        rwa [rk_addr, Nat.zero_add] at this
      have c2 : wr.cell? ⟨g2, k, none⟩ = some u2 := by
        have := R2.cells (g := g2) rfl k u2 hu2
        rwa [rk_addr, Nat.zero_add] at this
      have L1 := Lib.hid (X1.out.2.2 k u1 b hu1 hb)
      have L2 := Lib.hid (X2.out.2.2 k u2 b hu2 hb)
      obtain ⟨b1, q1, rfl⟩ := Rc.lies_shape L1.out
      obtain ⟨b2, q2, rfl⟩ := Rc.lies_shape L2.out
      have SQ := Lib.hid (fun W (hW : Below wr.heap.size wr W) => Rc.same_q W _ _ b (L1.out.later (hB.out.trans (hW.mono hB.out.size))) (L2.out.later (hB.out.trans (hW.mono hB.out.size))))
      clear R1 R2 hb hu1 hu2
      go_wp2_with fail
      go_region_with (refine (SQ.out _ (by first | exact Below.refl _ _ | exact (Below.refl _ _).drew)).mono ?_; rintro e wz ⟨rfl, mz, rfl⟩)
      all_goals go_wp2
      all_goals go_roundw
      all_goals first
        | exact ⟨k + 1, by go_num, by omega, Lib.hid (hB.out.trans ((show Below wr.heap.size wr (wr.drewN _) from ⟨rfl, rfl, rfl, Nat.le_refl _, fun _ _ => rfl⟩).mono hB.out.size))⟩
        | (simp [intOf]; omega)
    · go_wp2
      go_returns
      exact ⟨rfl, hB.out⟩
end Go.Proofs.YtgbihpfpiaacfaaGreatDoor

set_option linter.unusedVariables false
set_option linter.unusedSimpArgs false
set_option maxRecDepth 100000
namespace Go.Proofs.YtgbihpfpiaacfaaGreatDoor
open Go.RowKit Go.Shelf Go.WideMaps Go.Maps

structure Ac where
  k : Int
  n : Int
  v : Value
  b : List Nat
def encC (x : Ac) : List Value := [.int .i64 x.k, .int .i64 x.n, x.v]
structure AL (w : World) (v : Value) (l : List Ac) : Prop where
  row : LiesK encC 3 w v l
  each : ∀ x ∈ l, Rc.Lies w x.v x.b ∧ Rc.Byt x.b
theorem AL.step {w w' : World} {v : Value} {l : List Ac} (h : AL w v l) (hb : Below w.heap.size w w') : AL w' v l := ⟨h.row.step hb, fun x hx => ⟨(h.each x hx).1.later hb, (h.each x hx).2⟩⟩
set_option maxHeartbeats 1600000 in
theorem long_any (w : World) (v : Value) (l : List Ac) (h : AL w v l) : Calls Tryz.prog 9 #[v] w fun e w' => ∃ r, e = .returned (.bool r) ∧ (r = false → ∀ i x, i < 60 → l[i]? = some x → x.b.length ≤ 60) ∧ w = w' := by
  have HA := Lib.hid h
  obtain ⟨a1, c1, rfl⟩ := h.row.shape
  have hll : l.length ≤ maxLen := by have := h.row.len; unfold maxLen at *; omega
  unfold maxLen at hll
  clear h
  go_enter Tryz.func9, Tryz.ntmps9
  go_wp2_with fail
  go_loopw [3] (fun sv wr => ∃ i : Nat, sv = .int .i64 i ∧ i ≤ l.length ∧ wr = w ∧ Hid (∀ j x, j < i → l[j]? = some x → x.b.length ≤ 60)) (fun sv _ => l.length - (intOf sv).toNat)
  case atStart => exact ⟨0, rfl, Nat.zero_le _, rfl, Lib.hid (fun j x hj => absurd hj (Nat.not_lt_zero _))⟩
  case round =>
    obtain ⟨i, rfl, hi, rfl, hJ⟩ := hrel
    by_cases hlt : i < l.length
    · by_cases h60 : i < 60
      · obtain ⟨g, o, p, rfl, hx, hg, a0⟩ := HA.out.row.at' hlt
        have k2 := a0 2 p.v rfl
        have LP := (HA.out.each p (List.mem_of_getElem? hx)).1
        obtain ⟨va, vc, hv⟩ := Rc.lies_shape LP
        rw [hv] at k2
        have HX := Lib.hid hx
        have h60I : (i : Int) < 60 := by omega
        clear a0 LP hx
        by_cases hp : p.b.length ≤ 60
        · have hpI : ¬ (60 < (p.b.length : Int)) := by omega
          have JN := Lib.hid (show ∀ j x, j < i + 1 → l[j]? = some x → x.b.length ≤ 60 from fun j x hj hjx => by
            by_cases e : j = i
            · subst e; rw [HX.out] at hjx; injection hjx with hjx; subst hjx; exact hp
            · exact hJ.out j x (by omega) hjx)
          go_wp2
          go_roundw
          case rel => exact ⟨i + 1, by go_num, by omega, by first | rfl | trivial, JN⟩
          case measure => simp [intOf]; omega
        · have hpI : 60 < (p.b.length : Int) := by omega
          go_wp2
          go_returns
          first | exact ⟨true, rfl, (fun e => by cases e), rfl⟩ | exact .inr ⟨rfl, rfl⟩
      · have h60I : ¬ ((i : Int) < 60) := by omega
        go_wp2
        go_returns
        first | exact ⟨false, rfl, fun _ j x hj hx => hJ.out j x (by omega) hx, rfl⟩ | exact .inl ⟨rfl, fun j x hj hx => hJ.out j x (by omega) hx, rfl⟩
    · go_wp2
      go_returns
      first | exact ⟨false, rfl, fun _ j x hj hx => hJ.out j x (by have := (List.getElem?_eq_some_iff.1 hx).1; omega) hx, rfl⟩ | exact .inl ⟨rfl, fun j x hj hx => hJ.out j x (by have := (List.getElem?_eq_some_iff.1 hx).1; omega) hx, rfl⟩
end Go.Proofs.YtgbihpfpiaacfaaGreatDoor

set_option linter.unusedVariables false
set_option linter.unusedSimpArgs false
set_option maxRecDepth 100000
namespace Go.Proofs.YtgbihpfpiaacfaaGreatDoor
open Go.RowKit Go.Shelf Go.WideMaps Go.Maps

theorem wpList_pushVo {w : World} {ops : Array Oper} {rest : List Oper} {o : Oper} {a : Act} {Q : Exit → Act → World → Prop} (hgd : o.guard = none) (s x : Operand)
    (ho : o.op = .call { callee := .builtin .append, args := #[s, x], argTypes := #[30, 30] }) (base : Nat) (v : Value) (vs : List Value) (u : Value) (g : Nat) (hs : a.eval s = v) (hx : a.eval x = .slice (some ⟨g, 0, none⟩) 1 1) (hb : w.heap[g]? = some (.cells #[u] 39 (0, 0))) (hu : u.oneCell' = true)
    (hown : w.ownsRow base 39 1 v vs.length vs) (hl : vs.length ≤ 100000) (hbase : base ≤ w.heap.size)
    (h : ∀ v' w', w'.ownsRow base 39 1 v' (vs.length + 1) (vs ++ [u]) → w.grownBy w' v.ownBlock → wpList Tryz.prog ops Q rest (a.put o.dst v') w') : wpList Tryz.prog ops Q (o :: rest) a w := by
  obtain ⟨i0, hi9, hz0, hz1, hz2⟩ := info_parts info39
  have u30 : Tryz.prog.underlying 30 = some (.slice 39) := by kernel_rfl
  have hsrc : Src Tryz.prog 1 30 (.slice (some ⟨g, 0, none⟩) 1 1) 1 [u] w := by
    refine Src.ofSlice _ u30 _ _ _ _ rfl (fun j y hj => ?_) (fun y hy => by rw [List.mem_singleton.1 hy]; exact hu)
    have h0 : j = 0 := by have := (List.getElem?_eq_some_iff.1 hj).1; simp at this; exact this
    subst h0
    rw [rk_addr]
    exact (cell_of_row _ _ _ _ _ _ hb).trans (by simpa using hj)
  exact wpList_append_src_own hgd s x 30 30 ho base 39 i0 (.slice none 0 0) 1 24 u30 hi9 hz0 hz1 hz2 rfl (by omega) v vs.length vs hs hown _ 1 [u] hx hsrc (by unfold maxLen; omega) (by omega) hbase (fun v' w' h1 h2 _ => h v' w' h1 h2)
/-- A row of slices is no part of a disk. -/
theorem has39 {w : World} {B d : Nat} {s : DS} (h : DK w B d s) {k : Nat} {cs : Array Value} {fr : Nat × Nat} (hk : w.heap[k]? = some (.cells cs 39 fr)) : ¬ Has d s k := by
  rintro (rfl | e | ⟨x, hx, e⟩)
  · rw [h.box] at hk; injection hk with hk; injection hk with _ hk _; cases hk
  · rcases h.map with ⟨h0, _⟩ | ⟨b, h0, _, hb⟩
    · rw [h0] at e; cases e
    · rw [h0] at e
      injection e with e
      subst e
      obtain ⟨es, ⟨es', clock, hb', _⟩, _⟩ := hb
      rw [hb'] at hk
      cases hk
  · rcases (h.rows x hx).2 with ⟨q, _⟩ | ⟨g', cap, cur, q, _, hg, _⟩
    · rw [q] at e; cases e
    · rw [q] at e
      have e : g' = k := by simpa [Value.ownBlock] using e
      subst e
      rw [hg] at hk; injection hk with hk; injection hk with _ hk _; cases hk
theorem own39 {w : World} {E n : Nat} {v : Value} {xs : List Value} (h : w.ownsRow E 39 1 v n xs) {k : Nat} (hk : v.ownBlock = some k) : ∃ cs, w.heap[k]? = some (.cells cs 39 (0, 0)) := by
  rcases h.2 with ⟨q, _⟩ | ⟨g', cap, cur, q, _, hg, _⟩
  · rw [q] at hk; cases hk
  · rw [q] at hk
    have e : g' = k := by simpa [Value.ownBlock] using hk
    subst e
    exact ⟨cur, hg⟩
/-- What stands between two acts. -/
structure FI (w W : World) (d q : Nat) (room : Int) (i : Nat) (s : DS) (M : Nat) (gs : Nat → List (List Nat)) (av : Value) (vs : List Value) : Prop where
  js : JS W d q d s 64 1 M gs
  Mi : M ≤ i
  rm : s.room = room
  row : W.ownsRow d 39 1 av vs.length vs
  len : vs.length = (allP gs 1 M).length
  each : ∀ (j : Nat) u b, vs[j]? = some u → (allP gs 1 M)[j]? = some b → Rc.Lies w u b
  byt : ∀ b ∈ allP gs 1 M, Rc.Byt b ∧ b.length ≤ 60
  bel : Below d w W
  us : usedF s.l = (cat (allP gs 1 M)).length
theorem FI.step {w W W' : World} {d q : Nat} {room : Int} {i : Nat} {s : DS} {M : Nat} {gs : Nat → List (List Nat)} {av : Value} {vs : List Value} (h : FI w W d q room i s M gs av vs) (hb : Below W.heap.size W W') (hd : d ≤ W.heap.size) : FI w W' d q room i s M gs av vs :=
  ⟨h.js.step hb, h.Mi, h.rm, own_belowK h.row hb, h.len, h.each, h.byt, h.bel.trans (hb.mono hd), h.us⟩
theorem FI.up {w W : World} {d q : Nat} {room : Int} {i : Nat} {s : DS} {M : Nat} {gs : Nat → List (List Nat)} {av : Value} {vs : List Value} (h : FI w W d q room i s M gs av vs) : FI w W d q room (i + 1) s M gs av vs :=
  ⟨h.js, by have := h.Mi; omega, h.rm, h.row, h.len, h.each, h.byt, h.bel, h.us⟩
theorem FI.row5 {w W W5 : World} {d q : Nat} {room : Int} {i : Nat} {s : DS} {M : Nat} {gs : Nat → List (List Nat)} {av : Value} {vs : List Value} (h : FI w W d q room i s M gs av vs) (hfar : Far (Lh d s q) W W5) : W5.ownsRow d 39 1 av vs.length vs := by
  refine hfar.row h.row (fun j e hk => ?_)
  obtain ⟨cs, hc⟩ := own39 h.row e
  rcases hk with hk | rfl
  · exact has39 h.js.jk.dk hc hk
  · rw [h.js.jk.box] at hc; injection hc with hc; injection hc with _ hc _; cases hc
theorem FI.push {w W W5 W6 : World} {d q : Nat} {room : Int} {i : Nat} {s s' : DS} {M M' : Nat} {gs gs' : Nat → List (List Nat)} {av v' u : Value} {vs : List Value} {b : List Nat} (h : FI w W d q room i s M gs av vs) (hj : JS W5 d q d s' 64 1 M' gs') (hfar : Far (Lh d s q) W W5) (hM : M' ≤ M + 1)
    (hP : allP gs' 1 M' = allP gs 1 M ++ [b]) (hrm : s'.room = s.room) (hus : usedF s'.l = usedF s.l + (b.length + 8)) (hL : Rc.Lies w u b) (hb : Rc.Byt b ∧ b.length ≤ 60) (hrow : W6.ownsRow d 39 1 v' (vs.length + 1) (vs ++ [u])) (hgr : (W5.alloc (.cells #[u] 39)).grownBy W6 av.ownBlock) :
    FI w W6 d q room (i + 1) s' M' gs' v' (vs ++ [u]) := by
  have hB := vstep W5 (.cells #[u] 39)
  have r5 := h.row5 hfar
  have r6 := own_belowK r5 hB
  have j6 := hj.step hB
  have hd5 : d ≤ W5.heap.size := hj.jk.size
  have b5 : Below d w W5 := h.bel.trans (hfar.below h.js.jk.size (fun k hk => hk.elim (fun e => (h.js.jk.dk.base k e).1) (fun e => by rw [e]; exact h.js.jk.bq)))
  have b6 : Below d w (W5.alloc (.cells #[u] 39)) := b5.trans (hB.mono hd5)
  have b7 : Below d w W6 := b6.grown hgr (Nat.le_trans hd5 hB.size) (fun g e => (r6.lt g e).1)
  have fg : Far (fun k => av.ownBlock = some k) (W5.alloc (.cells #[u] 39)) W6 := Far.of_grown hgr (fun k e => e)
  have nh : ∀ k, Has d s' k → ¬ (av.ownBlock = some k) := fun k hk e => by
    obtain ⟨cs, hc⟩ := own39 r6 e
    exact has39 j6.jk.dk hc hk
  have nq : ¬ (av.ownBlock = some q) := fun e => by
    obtain ⟨cs, hc⟩ := own39 r6 e
    rw [j6.jk.box] at hc; injection hc with hc; injection hc with _ hc _; cases hc
  refine ⟨⟨⟨j6.jk.dk.still fg nh, (fg.block q j6.jk.lt nq).trans j6.jk.box, j6.jk.nq, j6.jk.bq⟩, j6.sg⟩, by have := h.Mi; omega, hrm.trans h.rm, by rw [List.length_append]; exact hrow, by rw [hP, List.length_append, List.length_append, h.len]; rfl, fun j x y hx hy => ?_, fun y hy => ?_, b7, ?_⟩
  · rw [hP] at hy
    by_cases hjl : j < vs.length
    · rw [List.getElem?_append_left hjl] at hx
      rw [List.getElem?_append_left (by rw [← h.len]; exact hjl)] at hy
      exact h.each j x y hx hy
    · have hj2 : j = vs.length := by
        have := (List.getElem?_eq_some_iff.1 hx).1
        simp at this
        omega
      subst hj2
      rw [List.getElem?_append_right (Nat.le_refl _), Nat.sub_self] at hx
      rw [h.len, List.getElem?_append_right (Nat.le_refl _), Nat.sub_self] at hy
      have hx : u = x := by simpa using hx
      have hy : b = y := by simpa using hy
      subst hx hy
      exact hL
  · rw [hP] at hy
    rcases List.mem_append.1 hy with hy | hy
    · exact h.byt y hy
    · rw [List.mem_singleton.1 hy]; exact hb
  · rw [hus, hP, cat_snoc, List.length_append, Rc.rec_length, h.us]
theorem part_len (gs : Nat → List (List Nat)) (f M : Nat) : (cat (gs (f + M))).length ≤ (cat (allP gs f M)).length := by
  unfold allP
  rw [List.range'_concat, Nat.one_mul, List.flatMap_append]
  unfold cat
  rw [List.flatMap_append, List.length_append]
  simp
end Go.Proofs.YtgbihpfpiaacfaaGreatDoor

set_option linter.unusedVariables false
set_option linter.unusedSimpArgs false
set_option maxRecDepth 100000
namespace Go.Proofs.YtgbihpfpiaacfaaGreatDoor
open Go.RowKit Go.Shelf Go.WideMaps Go.Maps

set_option maxHeartbeats 12800000 in
theorem full_any (w : World) (room : Int) (hroom : 0 ≤ room ∧ room ≤ 255) (v : Value) (l : List Ac) (h : AL w v l) (hlen : l.length ≤ 9223372036854775807) : Calls Tryz.prog 5 #[.int .u8 room, v] w fun e w' => e = .returned (.bool true) ∧ Below w.heap.size w w' := by
  have HA := Lib.hid h
  obtain ⟨a1, c1, rfl⟩ := h.row.shape
  have NW := Lib.hid (new_any w room (by omega))
  have AW := Lib.hid awake_any
  have HR := Lib.hid hroom
  clear h
  go_enter Tryz.func5, Tryz.ntmps5
  go_wp2_with fail
  refine NW.out.mono ?_
  rintro e w1 ⟨rfl, hd, hb1⟩
  have D1 := Lib.hid hd
  have B1 := Lib.hid hb1
  have LG := Lib.hid (long_any w1 _ l (HA.out.step hb1))
  obtain ⟨d, hdq⟩ : ∃ z, w.heap.size = z := ⟨_, rfl⟩
  rw [hdq] at D1 ⊢
  have HD1 := Lib.hid (show d ≤ w1.heap.size by have := B1.out.size; omega)
  have HDQ := Lib.hid hdq
  have OP := Lib.hid (jopen_new w1 d d ⟨none, room, [], false, 0, false⟩ D1.out HD1.out rfl rfl 64 (by omega) rfl)
  clear hd hb1 NW hdq
  go_wp2_with fail
  refine LG.out.mono ?_
  rintro e w2 ⟨r, rfl, hr, rfl⟩
  cases r with
  | true =>
    go_wp2_with fail
    refine (AW.out _).mono ?_
    rintro e w3 ⟨rfl, hb⟩
    have B3 := Lib.hid hb
    clear hb
    go_wp2
    go_returns
    exact ⟨rfl, by rw [HDQ.out]; exact (B1.out.mono (by have := HDQ.out; omega)).trans (B3.out.mono HD1.out)⟩
  | false =>
    have SH := Lib.hid (hr rfl)
    clear hr LG
    go_wp2_with fail
    refine OP.out.mono ?_
    rintro e w3 ⟨q, sv, s0, rfl, hq, hj, hsy, hfar, hrm, hus⟩
    have B3 := Lib.hid (show Below d w w3 from (B1.out.mono (by have := HDQ.out; omega)).trans (hfar.below HD1.out (fun k hk => (D1.out.base k hk).1)))
    have I0 := Lib.hid (show FI w w3 d q room 0 s0 0 (fun _ => []) (.slice none 0 0) [] from ⟨hj, Nat.le_refl _, hrm, World.ownsRow_nil _ _ _ _, rfl, fun j u b hu _ => (by simp at hu), fun b hb => (by simp [allP] at hb), B3.out, by rw [hus]; rfl⟩)
    clear hj hsy hfar hq hrm OP
    go_wp2_with fail
    go_loopw [10, 11, 12] (fun av uv iv wr => ∃ (i : Nat) (s : DS) (M : Nat) (gs : Nat → List (List Nat)) (vs : List Value), iv = .int .i64 (i : Int) ∧ i ≤ l.length ∧ i ≤ 40 ∧ uv = .int .i64 ((usedF s.l : Nat) : Int) ∧ Hid (FI w wr d q room i s M gs av vs)) (fun _ _ iv _ => l.length - (intOf iv).toNat)
    case atStart => exact ⟨0, s0, 0, fun _ => [], [], rfl, Nat.zero_le _, Nat.zero_le _, by rw [hus]; rfl, I0⟩
    case round =>
      obtain ⟨i, s, M, gs, vs, rfl, hi, h40, rfl, hF⟩ := hrel
      obtain ⟨oa, oc, rfl⟩ := own_shapeK hF.out.row
      have FF := Lib.hid hF.out
      have HD := Lib.hid (show d ≤ wr.heap.size from FF.out.js.jk.size)
      have UR := Lib.hid (show ((usedF s.l : Nat) : Int) ≤ 255 ∧ s.room = room from ⟨by have := FF.out.js.jk.dk.fits; have := FF.out.rm; have := HR.out; omega, FF.out.rm⟩)
      clear hF I0
      by_cases hlt : i < l.length ∧ i < 40
      · obtain ⟨hl1, hl2⟩ := hlt
        have hl2I : (i : Int) < 40 := by omega
        obtain ⟨g, o, p, rfl, hx, hg, a0⟩ := HA.out.row.at' hl1
        have k2 := a0 2 p.v rfl
        have LP := Lib.hid (HA.out.each p (List.mem_of_getElem? hx))
        obtain ⟨va, vc, hv⟩ := Rc.lies_shape LP.out.1
        have HV := Lib.hid hv
        have CU := Lib.hid (show ∀ W, Below d w W → W.cell? ⟨g, o + i * 3 + 2, none⟩ = some (.slice va p.b.length vc) from fun W hW => by
          have hW' : Below w.heap.size w W := by rw [HDQ.out]; exact hW
          rw [← HV.out]
          exact (hW'.cell (p := ⟨g, o + i * 3 + 2, none⟩) (World.block_lt_of_cell? w _ k2)).trans k2)
        have PB := Lib.hid (SH.out i p (by omega) hx)
        have LR := Lib.hid (show Rc.Lies wr p.v p.b from LP.out.1.later (by rw [HDQ.out]; exact FF.out.bel))
        have cw := CU.out wr FF.out.bel
        have hn : wrap64 ((p.b.length : Int) + 8) = (p.b.length : Int) + 8 := by have := PB.out; unfold wrap64; omega
        have hw : wrap64 (room - ((usedF s.l : Nat) : Int)) = room - ((usedF s.l : Nat) : Int) := by have := UR.out; have := HR.out; unfold wrap64; omega
        have HI2 := Lib.hid (And.intro hl1 hl2)
        have HSZ := Lib.hid (show (cat (gs (1 + M))).length ≤ 100000000 from by have := part_len gs 1 M; have := FF.out.us; have := UR.out.1; omega)
        clear a0 hx hg k2 hv
        by_cases hfit : ((p.b.length + 8 : Nat) : Int) ≤ s.room - (usedF s.l : Int)
        · have JA := Lib.hid (jact wr d q d s 64 1 M gs FF.out.js (Nat.le_refl _) (by have := FF.out.Mi; omega) p.v p.b LR.out LP.out.2 (by have := PB.out; omega) HSZ.out hfit)
          rw [HV.out] at JA
          have hc : ¬ (room - ((usedF s.l : Nat) : Int) < (p.b.length : Int) + 8) := by have := UR.out.2; omega
          have hw2 : wrap64 (((usedF s.l : Nat) : Int) + ((p.b.length : Int) + 8)) = ((usedF s.l : Nat) : Int) + ((p.b.length : Int) + 8) := by have := UR.out; have := PB.out; unfold wrap64; omega
          go_wp2_with fail
          refine JA.out.mono ?_
          rintro e w5 ⟨rfl, s', M', gs', hj, hfar, hM, hP, hrm2, hus2⟩
          have J5 := Lib.hid (And.intro hj (And.intro hfar (And.intro hM (And.intro hP (And.intro hrm2 hus2)))))
          have B5 := Lib.hid (show Below d w w5 from FF.out.bel.trans (hfar.below HD.out (fun k hk => hk.elim (fun e => (FF.out.js.jk.dk.base k e).1) (fun e => by rw [e]; exact FF.out.js.jk.bq))))
          have R5 := Lib.hid (FF.out.row5 hfar)
          have cw5 := CU.out w5 B5.out
          have HX := Lib.hid (heap_alloc_new w5 (.cells #[.slice va p.b.length vc] 39))
          have OX := Lib.hid (own_belowK R5.out (vstep w5 (.cells #[.slice va p.b.length vc] 39)))
          have EX := Lib.hid (show d ≤ (w5.alloc (.cells #[.slice va p.b.length vc] 39)).heap.size from Nat.le_trans J5.out.1.jk.size (vstep w5 _).size)
          have LV := Lib.hid (show vs.length ≤ 100000 from by
            have h1 := FF.out.len
            have h2 : ∀ L : List (List Nat), L.length ≤ (cat L).length := fun L => by
              induction L with
              | nil => exact Nat.zero_le _
              | cons x L ih =>
                have e : cat (x :: L) = Rc.rec x ++ cat L := by simp [cat]
                rw [e, List.length_append, Rc.rec_length, List.length_cons]
                omega
            have h3 := h2 (allP gs 1 M)
            have h4 := FF.out.us
            have h5 := UR.out.1
            omega)
          have EU := Lib.hid (show ((usedF s'.l : Nat) : Int) = ((usedF s.l : Nat) : Int) + ((p.b.length : Int) + 8) from by rw [hus2]; omega)
          have LP2 := Lib.hid (show Rc.Lies w (.slice va p.b.length vc) p.b from by have := LP.out.1; rw [HV.out] at this; exact this)
          clear hj hfar hM hP hrm2 hus2 JA cw
          go_wp2_with (at_builtin; go_loud (refine wpList_pushVo rfl (.tmp 80) (.tmp 86) rfl d _ vs (.slice va p.b.length vc) w5.heap.size rfl rfl HX.out rfl OX.out (by have := LV.out; omega) EX.out ?_; intro v6 w6 hown hgr; have F6 := Lib.hid (FF.out.push J5.out.1 J5.out.2.1 J5.out.2.2.1 J5.out.2.2.2.1 J5.out.2.2.2.2.1 J5.out.2.2.2.2.2 LP2.out ⟨LP.out.2, PB.out⟩ hown hgr); obtain ⟨va6, vc6, rfl⟩ := own_shapeK hown; have US := Lib.hid (used_any w6 d d s' F6.out.js.jk.dk); rw [EU.out] at US; clear hown hgr))
          refine US.out.mono ?_
          rintro e w7 ⟨rfl, hb7⟩
          have F7 := Lib.hid (F6.out.step hb7 F6.out.js.jk.size)
          clear hb7 US
          go_wp2
          go_roundw
          case rel => exact ⟨i + 1, s', M', gs', _, by go_num, by have := HI2.out; omega, by have := HI2.out; omega, by rw [EU.out], F7⟩
          case measure => simp [intOf]; have := HI2.out; omega
        · have JF := Lib.hid (jfull wr d q d s 64 1 M gs FF.out.js (Nat.le_refl _) (by have := FF.out.Mi; omega) p.v p.b LR.out LP.out.2 (by have := PB.out; omega) HSZ.out (by omega))
          rw [HV.out] at JF
          have hc : room - ((usedF s.l : Nat) : Int) < (p.b.length : Int) + 8 := by have := UR.out.2; omega
          go_wp2_with fail
          refine JF.out.mono ?_
          rintro e w5 ⟨rfl, hb5⟩
          have F5 := Lib.hid (FF.out.step hb5 HD.out)
          have US := Lib.hid (used_any w5 d d s F5.out.js.jk.dk)
          clear hb5 JF
          go_wp2_with fail
          refine US.out.mono ?_
          rintro e w7 ⟨rfl, hb7⟩
          have F7 := Lib.hid ((F5.out.step hb7 F5.out.js.jk.size).up)
          clear hb7 US
          go_wp2
          go_roundw
          case rel => exact ⟨i + 1, s, M, gs, vs, by go_num, by have := HI2.out; omega, by have := HI2.out; omega, by first | rfl | trivial, F7⟩
          case measure => simp [intOf]; have := HI2.out; omega
      · have LN := Lib.hid (show (allP gs 1 M).length ≤ 100000 from by
          have h2 : ∀ L : List (List Nat), L.length ≤ (cat L).length := fun L => by
            induction L with
            | nil => exact Nat.zero_le _
            | cons x L ih =>
              have e : cat (x :: L) = Rc.rec x ++ cat L := by simp [cat]
              rw [e, List.length_append, Rc.rec_length, List.length_cons]
              omega
          have h3 := h2 (allP gs 1 M)
          have h4 := FF.out.us
          have h5 := UR.out.1
          omega)
        have OPN := Lib.hid (jopen wr d d s 64 1 M gs FF.out.js.jk.dk HD.out FF.out.js.sg (by omega) (Nat.le_refl _) (by have := FF.out.Mi; omega) (fun b hb => ⟨(FF.out.byt b hb).1, by have := (FF.out.byt b hb).2; omega⟩) (by have := FF.out.us; have := UR.out.1; omega))
        by_cases h1 : i < l.length
        · have hno : ¬ ((i : Int) < 40) := by omega
          go_wp2_with fail
          refine OPN.out.mono ?_
          rintro e w5 ⟨q5, sv5, rfl, -, -, hsy, hfar⟩
          have B5 := Lib.hid (show Below d w w5 from FF.out.bel.trans (hfar.below HD.out (fun k hk => (FF.out.js.jk.dk.base k hk).1)))
          have SM := Lib.hid (same_says w5 wr.heap.size d sv5 _ (allP gs 1 M) hsy ⟨vs, FF.out.row5 ((Far.refl (Lh d s q) wr).trans hfar (fun _ _ e => .inl e)), FF.out.len, fun i u b hu hb => (FF.out.each i u b hu hb).later (by rw [HDQ.out]; exact B5.out)⟩ LN.out)
          have D5 := Lib.hid (show d ≤ w5.heap.size from Nat.le_trans HD.out hfar.size)
          clear hsy hfar OPN
          go_wp2_with fail
          refine SM.out.mono ?_
          rintro e w6 ⟨rfl, hb6⟩
          have B6 := Lib.hid (B5.out.trans (hb6.mono D5.out))
          have D6 := Lib.hid (Nat.le_trans D5.out hb6.size)
          clear hb6 SM
          go_wp2_with fail
          refine (AW.out _).mono ?_
          rintro e w7 ⟨rfl, hb7⟩
          have B7 := Lib.hid (B6.out.trans (hb7.mono D6.out))
          clear hb7
          go_wp2
          go_returns
          exact ⟨rfl, by rw [HDQ.out]; exact B7.out⟩
        · have hno : ¬ ((i : Int) < (l.length : Int)) := by omega
          go_wp2_with fail
          refine OPN.out.mono ?_
          rintro e w5 ⟨q5, sv5, rfl, -, -, hsy, hfar⟩
          have B5 := Lib.hid (show Below d w w5 from FF.out.bel.trans (hfar.below HD.out (fun k hk => (FF.out.js.jk.dk.base k hk).1)))
          have SM := Lib.hid (same_says w5 wr.heap.size d sv5 _ (allP gs 1 M) hsy ⟨vs, FF.out.row5 ((Far.refl (Lh d s q) wr).trans hfar (fun _ _ e => .inl e)), FF.out.len, fun i u b hu hb => (FF.out.each i u b hu hb).later (by rw [HDQ.out]; exact B5.out)⟩ LN.out)
          have D5 := Lib.hid (show d ≤ w5.heap.size from Nat.le_trans HD.out hfar.size)
          clear hsy hfar OPN
          go_wp2_with fail
          refine SM.out.mono ?_
          rintro e w6 ⟨rfl, hb6⟩
          have B6 := Lib.hid (B5.out.trans (hb6.mono D5.out))
          have D6 := Lib.hid (Nat.le_trans D5.out hb6.size)
          clear hb6 SM
          go_wp2_with fail
          refine (AW.out _).mono ?_
          rintro e w7 ⟨rfl, hb7⟩
          have B7 := Lib.hid (B6.out.trans (hb7.mono D6.out))
          clear hb7
          go_wp2
          go_returns
          exact ⟨rfl, by rw [HDQ.out]; exact B7.out⟩
end Go.Proofs.YtgbihpfpiaacfaaGreatDoor

set_option linter.unusedVariables false
namespace Go.Proofs.YtgbihpfpiaacfaaGreatDoor
open Go.ChangeShapes Go.WideShapes Go.ChangeAt Go.RowKit Go.Joins Go.Deep

theorem end_add (a : Addr) (i j : Nat) : (a.add i).add j = a.add (i + j) := by
  obtain ⟨g, o, s⟩ := a
  unfold Addr.add
  repeat' split
  all_goals simp_all
  all_goals omega
theorem end_addr (k o j : Nat) : (⟨k, o, none⟩ : Addr).add j = ⟨k, o + j, none⟩ := by
  unfold Addr.add
  repeat' split
  all_goals simp_all
theorem end_choose {α : Type} [Inhabited α] {n : Nat} {P : Nat → α → Prop} (h : ∀ i, i < n → ∃ a, P i a) : ∃ f : Nat → α, ∀ i, i < n → P i (f i) := by
  refine ⟨fun i => if h1 : i < n then Classical.choose (h i h1) else default, fun i hi => ?_⟩
  simp only [dif_pos hi]
  exact Classical.choose_spec (h i hi)
theorem field_at {fs : Array Field} {i o t : Nat} (h : fs[i]?.map (fun f => (f.offset, f.type)) = some (o, t)) : ∃ f, fs[i]? = some f ∧ f.offset = o ∧ f.type = t := by
  cases hf : fs[i]? with
  | none => rw [hf] at h; simp at h
  | some f => rw [hf] at h; simp at h; exact ⟨f, rfl, h.1, h.2⟩
set_option maxRecDepth 100000 in
/-- A slice that came in, its elements opened one by one. -/
theorem view_slice {H : Type} {enc : TypeId × Value → H} {W : World} {α : Type} [Inhabited α] {t e : TypeId} {size : Nat} (hu : Tryz.prog.underlying t = some (.slice e)) (hce : Tryz.prog.cellsOf e = size) (hs : 0 < size) (Q : α → Prop) (en : α → List Value)
    (op : ∀ {fuel : Nat} {cs : List Value} {x : DataW H × List MemPlace}, DataW.trod enc Tryz.prog W 0 (fun _ => true) true fuel e cs = some x → ∃ p, Q p ∧ cs = en p)
    {v : Value} {d : DataW H} {ps : List MemPlace} {b0 : Nat} {r : Go.Reach} (hv : Value.okWide Tryz.prog W r b0 t v) (h : DataW.Trod enc Tryz.prog W 0 (fun _ => true) true t v d ps) :
    ∃ ao cap l, v = .slice ao l.length cap ∧ l.length ≤ cap ∧ cap ≤ maxLen ∧ (ao = none → l = [] ∧ cap = 0) ∧ (∀ b, ao = some b → l ≠ [] → ∃ g k, b = ⟨g, k, none⟩ ∧ g < W.heap.size ∧ ∀ (j : Nat) (p : α), l[j]? = some p → ∀ (i : Nat) (u : Value), (en p)[i]? = some u → W.cell? ⟨g, k + j * size + i, none⟩ = some u) ∧ ∀ p ∈ l, Q p := by
  obtain ⟨a0, len, cap, rfl⟩ := okWide_slice hu hv
  obtain ⟨fuel, hf⟩ := h
  rcases open_slice hu hf with ⟨hcs, hx⟩ | ⟨a, len', cap', m, n, D, Pl, hcs, _, hl, hm, hmm, hx, hel⟩
  · simp [Value.cells] at hcs
    obtain ⟨rfl, rfl, rfl⟩ := hcs
    exact ⟨none, 0, [], rfl, Nat.le_refl _, Nat.zero_le _, fun _ => ⟨rfl, rfl⟩, (fun b hb => by cases hb), (fun p hp => by cases hp)⟩
  · simp [Value.cells] at hcs
    obtain ⟨rfl, rfl, rfl⟩ := hcs
    simp only [if_true] at hmm
    subst hmm
    have each : ∀ i, i < len → ∃ p : α, Q p ∧ ∀ (r : Nat) (u : Value), (en p)[r]? = some u → W.cell? (a.add (i * size + r)) = some u := by
      intro i hi
      obtain ⟨cs', hc, ht⟩ := hel i (by omega)
      obtain ⟨p, hp, hcs⟩ := op ht
      rw [hce] at hc
      obtain ⟨_, hcl, hat⟩ := World.cells?_some hc
      refine ⟨p, hp, fun r u hr => ?_⟩
      have hrl : r < (en p).length := (List.getElem?_eq_some_iff.1 hr).1
      have hlen : cs'.length = size := by first | exact hcl | (rw [← hcl]) | simpa using hcl
      have := hat r (by rw [← hcs, hlen] at hrl; exact hrl)
      rw [end_add, hcs, hr] at this
      exact this
    obtain ⟨f, hf2⟩ := end_choose each
    have hlen : ((List.range len).map f).length = len := by simp
    refine ⟨some a, _, (List.range len).map f, by rw [hlen], by rw [hlen]; exact hl, hm, (fun e => by cases e), fun b hb hne => ?_, fun p hp => ?_⟩
    rotate_left 1
    · obtain ⟨i, hi, rfl⟩ := List.mem_map.1 hp
      exact (hf2 i (List.mem_range.1 hi)).1
    cases hb
    have hpos : 0 < len := by
      rcases Nat.eq_zero_or_pos len with h0 | h0
      · subst h0; exact absurd rfl hne
      · exact h0
    obtain ⟨g, off, spot⟩ := a
    have h00 : ∃ u, W.cell? (⟨g, off, spot⟩ : Addr) = some u := by
      obtain ⟨cs', hc, ht⟩ := hel 0 (by omega)
      rw [hce] at hc
      obtain ⟨_, hcl, hat⟩ := World.cells?_some hc
      have hlen2 : cs'.length = size := by first | exact hcl | (rw [← hcl]) | simpa using hcl
      have h0 := hat 0 (by omega)
      rw [end_add] at h0
      have hz : (⟨g, off, spot⟩ : Addr).add (0 * size + 0) = ⟨g, off, spot⟩ := by simp [Addr.add]; try (cases spot <;> simp)
      rw [hz] at h0
      exact ⟨_, h0.trans (List.getElem?_eq_getElem (by omega))⟩
    obtain ⟨u00, h00⟩ := h00
    have hspot : spot = none := by simpa using World.cell?_spot h00
    subst hspot
    have hgl : g < W.heap.size := by simpa using World.block_lt_of_cell? W _ h00
    refine ⟨g, off, rfl, hgl, fun j p hp i u hi => ?_⟩
    have hil : j < len := by
      have := (List.getElem?_eq_some_iff.1 hp).1
      rwa [hlen] at this
    have hfp : f j = p := by simpa [hil] using hp
    have q := (hf2 j hil).2 i u (by rw [hfp]; exact hi)
    rw [end_addr] at q
    rw [Nat.add_assoc]
    exact q
set_option maxRecDepth 100000 in
/-- A slice that lies in a cell, its elements opened one by one. -/
theorem view_cells {H : Type} {enc : TypeId × Value → H} {W : World} {α : Type} [Inhabited α] {t e : TypeId} {size : Nat} (hu : Tryz.prog.underlying t = some (.slice e)) (hce : Tryz.prog.cellsOf e = size) (hs : 0 < size) (Q : α → Prop) (en : α → List Value)
    (op : ∀ {fuel : Nat} {cs : List Value} {x : DataW H × List MemPlace}, DataW.trod enc Tryz.prog W 0 (fun _ => true) true fuel e cs = some x → ∃ p, Q p ∧ cs = en p)
    {fuel : Nat} {cs : List Value} {x : DataW H × List MemPlace} (hf : DataW.trod enc Tryz.prog W 0 (fun _ => true) true fuel t cs = some x) :
    ∃ ao cap l, cs = [.slice ao l.length cap] ∧ l.length ≤ cap ∧ cap ≤ maxLen ∧ (ao = none → l = [] ∧ cap = 0) ∧ (∀ b, ao = some b → l ≠ [] → ∃ g k, b = ⟨g, k, none⟩ ∧ g < W.heap.size ∧ ∀ (j : Nat) (p : α), l[j]? = some p → ∀ (i : Nat) (u : Value), (en p)[i]? = some u → W.cell? ⟨g, k + j * size + i, none⟩ = some u) ∧ ∀ p ∈ l, Q p := by
  rcases open_slice hu hf with ⟨hcs, hx⟩ | ⟨a, len, cap, m, n, D, Pl, hcs, _, hl, hm, hmm, hx, hel⟩
  · subst hcs
    exact ⟨none, 0, [], rfl, Nat.le_refl _, Nat.zero_le _, fun _ => ⟨rfl, rfl⟩, (fun b hb => by cases hb), (fun p hp => by cases hp)⟩
  · subst hcs
    simp only [if_true] at hmm
    subst hmm
    have each : ∀ i, i < len → ∃ p : α, Q p ∧ ∀ (r : Nat) (u : Value), (en p)[r]? = some u → W.cell? (a.add (i * size + r)) = some u := by
      intro i hi
      obtain ⟨cs', hc, ht⟩ := hel i (by omega)
      obtain ⟨p, hp, hcs⟩ := op ht
      rw [hce] at hc
      obtain ⟨_, hcl, hat⟩ := World.cells?_some hc
      refine ⟨p, hp, fun r u hr => ?_⟩
      have hrl : r < (en p).length := (List.getElem?_eq_some_iff.1 hr).1
      have hlen : cs'.length = size := by first | exact hcl | (rw [← hcl]) | simpa using hcl
      have := hat r (by rw [← hcs, hlen] at hrl; exact hrl)
      rw [end_add, hcs, hr] at this
      exact this
    obtain ⟨f, hf2⟩ := end_choose each
    have hlen : ((List.range len).map f).length = len := by simp
    refine ⟨some a, _, (List.range len).map f, by rw [hlen], by rw [hlen]; exact hl, hm, (fun e => by cases e), fun b hb hne => ?_, fun p hp => ?_⟩
    rotate_left 1
    · obtain ⟨i, hi, rfl⟩ := List.mem_map.1 hp
      exact (hf2 i (List.mem_range.1 hi)).1
    cases hb
    have hpos : 0 < len := by
      rcases Nat.eq_zero_or_pos len with h0 | h0
      · subst h0; exact absurd rfl hne
      · exact h0
    obtain ⟨g, off, spot⟩ := a
    have h00 : ∃ u, W.cell? (⟨g, off, spot⟩ : Addr) = some u := by
      obtain ⟨cs', hc, ht⟩ := hel 0 (by omega)
      rw [hce] at hc
      obtain ⟨_, hcl, hat⟩ := World.cells?_some hc
      have hlen2 : cs'.length = size := by first | exact hcl | (rw [← hcl]) | simpa using hcl
      have h0 := hat 0 (by omega)
      rw [end_add] at h0
      have hz : (⟨g, off, spot⟩ : Addr).add (0 * size + 0) = ⟨g, off, spot⟩ := by simp [Addr.add]; try (cases spot <;> simp)
      rw [hz] at h0
      exact ⟨_, h0.trans (List.getElem?_eq_getElem (by omega))⟩
    obtain ⟨u00, h00⟩ := h00
    have hspot : spot = none := by simpa using World.cell?_spot h00
    subst hspot
    have hgl : g < W.heap.size := by simpa using World.block_lt_of_cell? W _ h00
    refine ⟨g, off, rfl, hgl, fun j p hp i u hi => ?_⟩
    have hil : j < len := by
      have := (List.getElem?_eq_some_iff.1 hp).1
      rwa [hlen] at this
    have hfp : f j = p := by simpa [hil] using hp
    have q := (hf2 j hil).2 i u (by rw [hfp]; exact hi)
    rw [end_addr] at q
    rw [Nat.add_assoc]
    exact q
theorem open_u8s {H : Type} {enc : TypeId × Value → H} {W : World} {fuel : Nat} {cs : List Value} {x : DataW H × List MemPlace} (h : DataW.trod enc Tryz.prog W 0 (fun _ => true) true fuel 39 cs = some x) :
    ∃ v b, Rc.Lies W v b ∧ Rc.Byt b ∧ cs = [v] := by
  obtain ⟨ao, cap, l, h1, h2, h3, h4, h5, h6⟩ := view_cells (show Tryz.prog.underlying 39 = some (.slice 5) by kernel_rfl) (show Tryz.prog.cellsOf 5 = 1 by kernel_rfl) (Nat.succ_pos _) (fun (p : Nat) => p < 256) (fun p => [Value.int .u8 (p : Int)]) (fun h => by
    obtain ⟨a, ha, _, w⟩ := DataW.trod_int (show Tryz.prog.underlying 5 = some (.int .u8) by kernel_rfl) h
    simp [Lit.wf, IntKind.min, IntKind.max, IntKind.bits, IntKind.signed] at w
    exact ⟨a.toNat, by omega, by rw [Int.toNat_of_nonneg (by omega)]; exact ha⟩) h
  refine ⟨.slice ao l.length cap, l, ⟨ao, cap, rfl, h2, h3, h4, fun b hb hn => ?_⟩, h6, h1⟩
  obtain ⟨g, k, e, hg, hc⟩ := h5 b hb hn
  refine ⟨g, k, e, hg, fun j x hj => ?_⟩
  have := hc j x hj 0 (.int .u8 (x : Int)) rfl
  simpa using this
noncomputable def fs41 : Array Field := match Tryz.prog.underlying 41 with | some (.struct f) => f | _ => #[]
theorem und41 : Tryz.prog.underlying 41 = some (.struct fs41) := by kernel_rfl
theorem cel41 : Tryz.prog.cellsOf 41 = 3 := by kernel_rfl
theorem f41_0 : fs41[0]?.map (fun f => (f.offset, f.type)) = some (0, 3) := by kernel_rfl
theorem f41_1 : fs41[1]?.map (fun f => (f.offset, f.type)) = some (1, 3) := by kernel_rfl
theorem f41_2 : fs41[2]?.map (fun f => (f.offset, f.type)) = some (2, 39) := by kernel_rfl
set_option maxRecDepth 100000 in
theorem open_act {H : Type} {enc : TypeId × Value → H} {W : World} {fuel : Nat} {cs : List Value} {x : DataW H × List MemPlace} (h : DataW.trod enc Tryz.prog W 0 (fun _ => true) true fuel 41 cs = some x) :
    ∃ p : Ac, (Rc.Lies W p.v p.b ∧ Rc.Byt p.b) ∧ cs = encC p := by
  obtain ⟨xs, n, _, _, hlen, hxl, hf⟩ := DataW.trod_struct und41 h
  rw [cel41] at hlen
  match cs, hlen with
  | [u0, u1, u2], _ =>
    obtain ⟨g0, e0, o0, t0⟩ := field_at f41_0
    have k0 := hf 0 g0 e0
    obtain ⟨g1, e1, o1, t1⟩ := field_at f41_1
    have k1 := hf 1 g1 e1
    obtain ⟨g2, e2, o2, t2⟩ := field_at f41_2
    have k2 := hf 2 g2 e2
    have hs : xs.length = 3 := by rw [hxl]; kernel_rfl
    rw [o0, t0, (show Tryz.prog.cellsOf 3 = 1 by kernel_rfl), List.getElem?_eq_getElem (by omega)] at k0
    obtain ⟨a0, ha0, _, w0⟩ := DataW.trod_int (show Tryz.prog.underlying 3 = some (.int .i64) by kernel_rfl) k0
    simp at ha0
    rw [o1, t1, (show Tryz.prog.cellsOf 3 = 1 by kernel_rfl), List.getElem?_eq_getElem (by omega)] at k1
    obtain ⟨a1, ha1, _, w1⟩ := DataW.trod_int (show Tryz.prog.underlying 3 = some (.int .i64) by kernel_rfl) k1
    simp at ha1
    rw [o2, t2, (show Tryz.prog.cellsOf 39 = 1 by kernel_rfl), List.getElem?_eq_getElem (by omega)] at k2
    obtain ⟨b1, b2, hb1, hb2, ha2⟩ := open_u8s k2
    simp at ha2
    exact ⟨⟨a0, a1, b1, b2⟩, ⟨hb1, hb2⟩, by simp [encC, *]⟩
section
variable {H : Type} {enc : TypeId × Value → H} {W : World}
set_option maxRecDepth 100000 in
theorem view_acts {v : Value} {d : DataW H} {ps : List MemPlace} {b0 : Nat} {r : Go.Reach} (hv : Value.okWide Tryz.prog W r b0 22 v) (h : DataW.Trod enc Tryz.prog W 0 (fun _ => true) true 22 v d ps) :
    ∃ l, AL W v l := by
  letI : Inhabited Ac := ⟨⟨0, 0, .bool false, []⟩⟩
  obtain ⟨ao, cap, l, h1, h2, h3, h4, h5, h6⟩ := view_slice (show Tryz.prog.underlying 22 = some (.slice 41) by kernel_rfl) cel41 (Nat.succ_pos _) (fun (x : Ac) => Rc.Lies W x.v x.b ∧ Rc.Byt x.b) encC (fun h => open_act h) hv h
  exact ⟨l, ⟨ao, cap, h1, h2, h3, h4, h5⟩, h6⟩
set_option maxRecDepth 100000 in
theorem view_byte {v : Value} {d : DataW H} {ps : List MemPlace} {b0 : Nat} {r : Go.Reach} (hv : Value.okWide Tryz.prog W r b0 5 v) (h : DataW.Trod enc Tryz.prog W 0 (fun _ => true) true 5 v d ps) :
    ∃ n : Nat, v = .int .u8 (n : Int) ∧ n ≤ 255 := by
  obtain ⟨fuel, hf⟩ := h
  obtain ⟨a, ha, _, wa⟩ := DataW.trod_int (show Tryz.prog.underlying 5 = some (.int .u8) by kernel_rfl) hf
  have hv1 : ∃ n : Int, v = .int .u8 n := by
    obtain ⟨n, e⟩ := okWide_int (show Tryz.prog.underlying 5 = some (.int .u8) by kernel_rfl) hv
    exact ⟨n, e⟩
  obtain ⟨n, rfl⟩ := hv1
  have e : n = a := by simpa [Value.cells] using ha
  subst e
  have h := wa
  simp [Lit.wf, IntKind.min, IntKind.max, IntKind.bits, IntKind.signed] at h
  exact ⟨n.toNat, by rw [Int.toNat_of_nonneg (by omega)], by omega⟩
end
end Go.Proofs.YtgbihpfpiaacfaaGreatDoor
