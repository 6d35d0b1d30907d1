/- Slices of stamps. -/
import Derived.Test.YthpolhlhpdhomaaDoorLsM
import Derived.Test.YthpolhlhpdhomaaDoorAwake
import Derived.Test.YthpolhlhpdhomaaDoorOwn
import Derived.Test.YthpolhlhpdhomaaDoorLater
import Derived.Laws.Rows
import Derived.LoopTactic
import Derived.Deep.QuietTactic
set_option linter.unusedVariables false
namespace Go.Proofs.YthpolhlhpdhomaaDoor
open Go.RowKit

theorem Tryd.info23 : (Tryd.prog.info? 23).map (fun i => (i.zero, i.size, i.bytes)) = some (some (.agg #[.int .i64 0, .int .i64 0]), 2, 16) := by kernel_rfl
theorem Tryd.u35 : Tryd.prog.underlying 35 = some (.slice 23) := by kernel_rfl
/-- Stamps as cells. -/
def cs2 : List St → List Value
  | [] => []
  | p :: r => .int .i64 p.1 :: .int .i64 p.2 :: cs2 r
theorem cs2_length : ∀ l : List St, (cs2 l).length = l.length * 2
  | [] => rfl
  | p :: r => by show (cs2 r).length + 1 + 1 = (r.length + 1) * 2; rw [cs2_length r]; omega
theorem cs2_append : ∀ l m : List St, cs2 (l ++ m) = cs2 l ++ cs2 m
  | [], m => rfl
  | p :: r, m => by show _ :: _ :: cs2 (r ++ m) = _ :: _ :: (cs2 r ++ cs2 m); rw [cs2_append r m]
theorem cs2_one : ∀ (l : List St), ∀ u ∈ cs2 l, u.oneCell' = true
  | [], u, h => by cases h
  | p :: r, u, h => by
    rcases List.mem_cons.1 h with rfl | h
    · rfl
    · rcases List.mem_cons.1 h with rfl | h
      · rfl
      · exact cs2_one r u h
theorem cs2_get : ∀ (l : List St) (j : Nat) (p : St), l[j]? = some p → (cs2 l)[j * 2]? = some (.int .i64 p.1) ∧ (cs2 l)[j * 2 + 1]? = some (.int .i64 p.2)
  | [], j, p, h => by cases h
  | q :: r, 0, p, h => by injection h with h; subst h; exact ⟨rfl, rfl⟩
  | q :: r, j + 1, p, h => by
    have ih := cs2_get r j p (by simpa using h)
    rw [show (j + 1) * 2 = j * 2 + 1 + 1 by omega]
    exact ih
theorem cs2_at : ∀ (l : List St) (i : Nat) (u : Value), (cs2 l)[i]? = some u → ∃ j p, l[j]? = some p ∧ ((i = j * 2 ∧ u = .int .i64 p.1) ∨ (i = j * 2 + 1 ∧ u = .int .i64 p.2))
  | [], i, u, h => by cases h
  | q :: r, 0, u, h => ⟨0, q, rfl, .inl ⟨rfl, by injection h with h; exact h.symm⟩⟩
  | q :: r, 1, u, h => ⟨0, q, rfl, .inr ⟨rfl, by injection h with h; exact h.symm⟩⟩
  | q :: r, i + 2, u, h => by
    obtain ⟨j, p, hj, hh⟩ := cs2_at r i u (by simpa [cs2] using h)
    refine ⟨j + 1, p, by simpa using hj, ?_⟩
    rcases hh with ⟨rfl, e⟩ | ⟨rfl, e⟩
    · exact .inl ⟨by omega, e⟩
    · exact .inr ⟨by omega, e⟩

/-- A slice that holds these stamps, wherever. -/
def LiesS (w : World) (v : Value) (l : List St) : Prop := ∃ ao cap, v = .slice ao l.length cap ∧ l.length ≤ cap ∧ cap ≤ maxLen ∧ (ao = none → l = [] ∧ cap = 0) ∧
  ∀ b, ao = some b → l ≠ [] → ∃ k o, b = ⟨k, o, none⟩ ∧ k < w.heap.size ∧ ∀ (j : Nat) p, l[j]? = some p → w.cell? ⟨k, o + j * 2, none⟩ = some (.int .i64 p.1) ∧ w.cell? ⟨k, o + j * 2 + 1, none⟩ = some (.int .i64 p.2)
theorem LiesS.nil (w : World) : LiesS w (.slice none 0 0) [] := ⟨none, 0, rfl, Nat.le_refl _, Nat.zero_le _, fun _ => ⟨rfl, rfl⟩, fun b hb => by cases hb⟩
theorem LiesS.later {w w' : World} {v : Value} {l : List St} (h : LiesS w v l) (hb : Below w.heap.size w w') : LiesS w' v l := by
  obtain ⟨ao, cap, rfl, hn, hm, h0, hc⟩ := h
  refine ⟨ao, cap, rfl, hn, hm, h0, fun b hbb hne => ?_⟩
  obtain ⟨k, o, rfl, hk, hc⟩ := hc b hbb hne
  exact ⟨k, o, rfl, Nat.lt_of_lt_of_le hk hb.size, fun j p hj => ⟨(hb.cell (p := ⟨k, o + j * 2, none⟩) hk).trans (hc j p hj).1, (hb.cell (p := ⟨k, o + j * 2 + 1, none⟩) hk).trans (hc j p hj).2⟩⟩
theorem LiesS.shape {w : World} {v : Value} {l : List St} (h : LiesS w v l) : ∃ ao cap, v = .slice ao l.length cap := by
  obtain ⟨ao, cap, e, _⟩ := h; exact ⟨ao, cap, e⟩
theorem add_addr (k o j : Nat) : (⟨k, o, none⟩ : Addr).add j = ⟨k, o + j, none⟩ := by
  unfold Addr.add; split <;> simp_all
theorem ne_of_lt {l : List St} {i : Nat} (h : i < l.length) : l ≠ [] := by rintro rfl; simp at h
theorem LiesS.src {w : World} {v : Value} {l : List St} (h : LiesS w v l) : Src Tryd.prog 2 35 v l.length (cs2 l) w := by
  obtain ⟨ao, cap, rfl, hn, _, h0, hc⟩ := h
  cases ao with
  | none =>
    obtain ⟨rfl, rfl⟩ := h0 rfl
    exact Src.ofNil _ Tryd.u35 0
  | some b =>
    refine Src.ofSlice _ Tryd.u35 _ _ _ _ (cs2_length l) (fun i u hi => ?_) (cs2_one l)
    obtain ⟨j, p, hj, hh⟩ := cs2_at l i u hi
    obtain ⟨k, o, rfl, _, hc⟩ := hc b rfl (ne_of_lt (List.getElem?_eq_some_iff.1 hj).1)
    rw [add_addr]
    rcases hh with ⟨rfl, rfl⟩ | ⟨rfl, rfl⟩
    · exact (hc j p hj).1
    · rw [← Nat.add_assoc]; exact (hc j p hj).2
theorem own_shape {w : World} {B e size n : Nat} {v : Value} {xs : List Value} (h : w.ownsRow B e size v n xs) : ∃ ao cap, v = .slice ao n cap := by
  rcases h.2 with ⟨rfl, rfl⟩ | ⟨g, cap, cur, rfl, _⟩
  · exact ⟨_, _, rfl⟩
  · exact ⟨_, _, rfl⟩
theorem own_liesS {w : World} {B : Nat} {v : Value} {l : List St} (h : w.ownsRow B 23 2 v l.length (cs2 l)) : LiesS w v l := by
  rcases h.2 with ⟨rfl, hn⟩ | ⟨g, cap, cur, rfl, hB, hg, hn, hm, hs, ht⟩
  · have : l = [] := List.eq_nil_of_length_eq_zero hn
    subst this
    exact LiesS.nil w
  · refine ⟨_, cap, rfl, hn, hm, (fun h => by cases h), fun b hb _ => ?_⟩
    cases hb
    refine ⟨g, 0, rfl, (Array.getElem?_eq_some_iff.1 hg).1, fun j p hj => ?_⟩
    obtain ⟨c0, c1⟩ := cs2_get l j p hj
    have h0 := h.cells (g := g) rfl _ _ c0
    have h1 := h.cells (g := g) rfl _ _ c1
    rw [add_addr] at h0 h1
    rw [Nat.zero_add] at h0 h1 ⊢
    exact ⟨h0, h1⟩
/-- A part of it. -/
theorem LiesS.take {w : World} {ao : Option Addr} {n cap : Nat} {l : List St} (h : LiesS w (.slice ao n cap) l) (k : Nat) (hk : k ≤ n) : LiesS w (.slice ao k cap) (l.take k) := by
  obtain ⟨ao', cap', e, hn, hm, h0, hc⟩ := h
  injection e with e1 e2 e3
  subst e1 e2 e3
  have hl : (l.take k).length = k := by rw [List.length_take]; omega
  refine ⟨ao, cap, by rw [hl], by rw [hl]; omega, hm, fun e => ?_, fun b hb hne => ?_⟩
  · obtain ⟨rfl, h2⟩ := h0 e
    exact ⟨by simp, h2⟩
  · obtain ⟨k', o, rfl, hk', hc⟩ := hc b hb (fun e => hne (by rw [e]; simp))
    refine ⟨k', o, rfl, hk', fun j x hj => hc j x ?_⟩
    rw [List.getElem?_take] at hj
    split at hj
    · exact hj
    · cases hj
/-- What stands behind a place, by one run equation. -/
theorem slice_tailS {w : World} {ra : Option Addr} {n rc at_ : Nat} {l : List St} (h : LiesS w (.slice ra n rc) l) (hat : at_ ≤ n) :
    ∃ A, (∀ W, (Instr.slice 35 (.slice ra n rc) (some (.int .i64 (at_ : Int))) none none).run Tryd.prog W = .ok (.slice A (n - at_) (rc - at_)) W) ∧ LiesS w (.slice A (n - at_) (rc - at_)) (l.drop at_) := by
  refine ⟨if rc = at_ then ra else ra.map (·.add (at_ * 2)), fun W => ?_, ?_⟩
  · rw [run_slice_l (P := Tryd.prog) (ht := Tryd.u35) (h0 := by omega) (h1 := by omega)]
    show _ = Result.ok (Value.slice (if rc = at_ then ra else ra.map (·.add (at_ * 2))) (n - at_) (rc - at_)) W
    rfl
  · obtain ⟨ao, cap, e, h1, h2, h3, h4⟩ := h
    injection e with e1 e2 e3
    subst e1 e2 e3
    have hdl : (l.drop at_).length = l.length - at_ := List.length_drop
    by_cases hrc : rc = at_
    · rw [if_pos hrc]
      have e0 : l.drop at_ = [] := List.eq_nil_of_length_eq_zero (by omega)
      rw [e0]
      exact ⟨_, _, by rw [show l.length - at_ = 0 by omega]; rfl, Nat.zero_le _, by omega, (fun e => ⟨rfl, by omega⟩), fun b hb hne => absurd rfl hne⟩
    · rw [if_neg hrc]
      refine ⟨_, rc - at_, by rw [hdl], by rw [hdl]; omega, by omega, fun e => ?_, fun b hb hne => ?_⟩
      · cases ra with
        | none => have := h3 rfl; exact ⟨by rw [this.1]; simp, by omega⟩
        | some b => cases e
      · cases ra with
        | none => cases hb
        | some b0 =>
          obtain ⟨k, o, rfl, hk, hc⟩ := h4 b0 rfl (fun e => hne (by rw [e]; simp))
          injection hb with hb
          subst hb
          refine ⟨k, o + at_ * 2, by show (⟨k, o, none⟩ : Addr).add (at_ * 2) = _; rw [add_addr], hk, fun j p hj => ?_⟩
          rw [List.getElem?_drop] at hj
          have := hc _ p hj
          rw [show o + at_ * 2 + j * 2 = o + (at_ + j) * 2 by omega]
          exact this
/-- What a call leaves that hands back a row of its own. -/
def RowS (w w' : World) (r : Value) (l : List St) : Prop := w'.ownsRow w.heap.size 23 2 r l.length (cs2 l) ∧ Below w.heap.size w w'
theorem own_kept {w w' : World} {B e n size : Nat} {v : Value} {xs : List Value} (h : w.ownsRow B e size v n xs) (hb : Below w.heap.size w w') : w'.ownsRow B e size v n xs :=
  h.kept (row := none) ⟨hb.os, hb.tape, hb.output, hb.size, fun k hk _ => hb.block k hk⟩ (by cases h : v.ownBlock <;> simp)
theorem take_snoc' {α : Type} (l : List α) (i : Nat) (p : α) (h : l[i]? = some p) : l.take (i + 1) = l.take i ++ [p] := by
  obtain ⟨hl, he⟩ := List.getElem?_eq_some_iff.1 h
  rw [List.take_succ_eq_append_getElem hl, he]
theorem src_st (w : World) (p : St) : Src Tryd.prog 2 35 (.slice (some ⟨w.heap.size, 0, none⟩) 1 1) 1 (cs2 [p]) (w.alloc (.cells #[.int .i64 p.1, .int .i64 p.2] 23)) := by
  have hg := heap_alloc_new w (.cells #[.int .i64 p.1, .int .i64 p.2] 23)
  refine Src.ofSlice _ Tryd.u35 _ _ _ _ rfl ?_ (cs2_one _)
  intro j u hj
  rw [add_addr, Nat.zero_add, cell_of_row _ _ _ _ _ _ hg]
  match j, hj with
  | 0, hj => injection hj with hj; subst hj; rfl
  | 1, hj => injection hj with hj; subst hj; rfl
  | j + 2, hj => simp [cs2] at hj
theorem box_step {w w' : World} {b : Nat} {c : Array Value} {T : TypeId} (g : w.heap[b]? = some (.cells c T (0, 0))) (hb : Below w.heap.size w w') : w'.heap[b]? = some (.cells c T (0, 0)) :=
  (hb.block b (Array.getElem?_eq_some_iff.1 g).1).trans g

/-- The cells of an element. -/
theorem LiesS.at {w : World} {ao : Option Addr} {n cap : Nat} {l : List St} (h : LiesS w (.slice ao n cap) l) {i : Nat} {p : St} (hp : l[i]? = some p) :
    ∃ k o, ao = some ⟨k, o, none⟩ ∧ w.cell? ⟨k, o + i * 2, none⟩ = some (.int .i64 p.1) ∧ w.cell? ⟨k, o + i * 2 + 1, none⟩ = some (.int .i64 p.2) := by
  obtain ⟨ao', cap', e, h1, h2, h3, h4⟩ := h
  injection e with e1 e2 e3
  subst e1
  cases ao with
  | none => have := (h3 rfl).1; subst this; cases hp
  | some b =>
    obtain ⟨k, o, rfl, _, hc⟩ := h4 b rfl (ne_of_lt (List.getElem?_eq_some_iff.1 hp).1)
    exact ⟨k, o, rfl, hc i p hp⟩
end Go.Proofs.YthpolhlhpdhomaaDoor
