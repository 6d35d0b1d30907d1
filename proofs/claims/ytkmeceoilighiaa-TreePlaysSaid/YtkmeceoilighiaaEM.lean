/- The tree, plain: ops done and undone upon a table; the log. -/
import Derived.Test.YtkmeceoilighiaaMU
import Derived.Test.YtkmeceoilighiaaES
import Derived.Test.YtkmeceoilighiaaOS
set_option linter.unusedVariables false
set_option linter.unusedSimpArgs false
namespace Go.Proofs.Ytkmeceoilighiaa
open Go.RowKit
open Tb (Rw setF dropF getF aboveF Rise ltR ltS sameN isN stOf nodesF)

def rwO (o : O) : Rw := ⟨o.nt, o.nr, o.pt, o.pr, o.nm, o.d⟩
def skipF (T : List Rw) (o : O) : Bool := decide (o.nt = o.pt ∧ o.nr = o.pr) || aboveF T o.nt o.nr T.length o.pt o.pr
def doF (T : List Rw) (o : O) : List Rw := if skipF T o = true then T else setF T (rwO o)
def playF (T : List Rw) (L : List O) : List Rw := L.foldl doF T
def wasF (T : List Rw) (t r : Int) : Rw := match getF T t r with | some x => ⟨t, r, x.pt, x.pr, x.nm, x.d⟩ | none => ⟨t, r, 0, 0, ⟨#[]⟩, false⟩
def stepF (T : List Rw) (o : O) : Stp := if skipF T o = true then ⟨o, false, false, 0, 0, ⟨#[]⟩, false⟩
  else ⟨o, true, (getF T o.nt o.nr).isSome, (wasF T o.nt o.nr).pt, (wasF T o.nt o.nr).pr, (wasF T o.nt o.nr).nm, (wasF T o.nt o.nr).d⟩
def stepsF (T : List Rw) : List O → List Stp
  | [] => []
  | o :: L => stepF T o :: stepsF (doF T o) L
def undoF (s : Stp) (T : List Rw) : List Rw := if s.did = true then (if s.had = true then setF T ⟨s.o.nt, s.o.nr, s.wt, s.wr, s.wn, s.wd⟩ else dropF T s.o.nt s.o.nr) else T
theorem do_rise {T : List Rw} (h : Rise T) (o : O) : Rise (doF T o) := by
  unfold doF
  split
  · exact h
  · exact Tb.rise_set h _
theorem play_rise : ∀ (L : List O) {T : List Rw}, Rise T → Rise (playF T L)
  | [], _, h => h
  | o :: L, _, h => play_rise L (do_rise h o)
theorem play_append (T : List Rw) (A B : List O) : playF T (A ++ B) = playF (playF T A) B := List.foldl_append
theorem steps_append : ∀ (A B : List O) (T : List Rw), stepsF T (A ++ B) = stepsF T A ++ stepsF (playF T A) B
  | [], _, _ => rfl
  | o :: A, B, T => by
    show stepF T o :: stepsF (doF T o) (A ++ B) = _
    rw [steps_append A B (doF T o)]
    rfl
theorem steps_len : ∀ (L : List O) (T : List Rw), (stepsF T L).length = L.length
  | [], _ => rfl
  | o :: L, T => by show (stepsF (doF T o) L).length + 1 = _; rw [steps_len L]; rfl
theorem step_o (T : List Rw) (o : O) : (stepF T o).o = o := by unfold stepF; split <;> rfl
theorem steps_o : ∀ (L : List O) (T : List Rw), (stepsF T L).map (·.o) = L
  | [], _ => rfl
  | o :: L, T => by show (stepF T o).o :: (stepsF (doF T o) L).map (·.o) = _; rw [steps_o L, step_o]
theorem undo_do {T : List Rw} (h : Rise T) (o : O) : undoF (stepF T o) (doF T o) = T := by
  unfold stepF doF
  by_cases hs : skipF T o = true
  · rw [if_pos hs, if_pos hs]; rfl
  · rw [if_neg hs, if_neg hs]
    unfold undoF
    rw [if_pos rfl]
    cases hg : getF T o.nt o.nr with
    | none =>
      rw [if_neg (by simp)]
      have hn := Tb.get_none.1 hg
      refine Tb.rise_ext ((Tb.rise_set h _).filter _) h (fun y => ?_)
      show y ∈ (setF T (rwO o)).filter (fun y => !isN o.nt o.nr y) ↔ _
      rw [List.mem_filter, Tb.mem_set]
      have hny : isN o.nt o.nr y = sameN y (rwO o) := rfl
      constructor
      · rintro ⟨h1 | h1, h2⟩
        · subst h1; rw [hny] at h2; unfold sameN at h2; simp at h2
        · exact h1.1
      · intro hy
        have := hn y hy
        have hs : sameN y (rwO o) = false := by unfold sameN rwO; exact decide_eq_false this
        exact ⟨.inr ⟨hy, hs⟩, by rw [hny, hs]; rfl⟩
    | some x =>
      rw [if_pos (by simp)]
      obtain ⟨hx, e1, e2⟩ := (Tb.get_some h).1 hg
      have hw : wasF T o.nt o.nr = x := by
        unfold wasF; rw [hg]
        exact Tb.Rw.ext' e1.symm e2.symm rfl rfl rfl rfl
      have he : (⟨o.nt, o.nr, (wasF T o.nt o.nr).pt, (wasF T o.nt o.nr).pr, (wasF T o.nt o.nr).nm, (wasF T o.nt o.nr).d⟩ : Rw) = x := by
        rw [hw]; exact Tb.Rw.ext' e1.symm e2.symm rfl rfl rfl rfl
      show setF (setF T (rwO o)) ⟨o.nt, o.nr, (wasF T o.nt o.nr).pt, (wasF T o.nt o.nr).pr, (wasF T o.nt o.nr).nm, (wasF T o.nt o.nr).d⟩ = T
      rw [he]
      refine Tb.rise_ext (Tb.rise_set (Tb.rise_set h _) _) h (fun y => ?_)
      rw [Tb.mem_set, Tb.mem_set]
      have hsx : ∀ z : Rw, sameN z x = sameN z (rwO o) := fun z => by unfold sameN rwO; rw [e1, e2]
      constructor
      · rintro (h1 | ⟨h1 | h1, h2⟩)
        · rw [h1]; exact hx
        · rw [h1, hsx] at h2; unfold sameN at h2; simp at h2
        · exact h1.1
      · intro hy
        cases hq : sameN y x with
        | true => exact .inl (Tb.rise_one h hy hx hq)
        | false => exact .inr ⟨.inr ⟨hy, by rw [← hsx]; exact hq⟩, rfl⟩
theorem back_play : ∀ (L : List O) {T : List Rw}, Rise T → (stepsF T L).foldr undoF (playF T L) = T
  | [], _, _ => rfl
  | o :: L, T, h => by
    show undoF (stepF T o) ((stepsF (doF T o) L).foldr undoF (playF (doF T o) L)) = T
    rw [back_play L (do_rise h o), undo_do h]
/-! ### up -/
inductive Anc (T : List Rw) : Int × Int → Int × Int → Prop
  | one {s : Int × Int} {x : Rw} : getF T s.1 s.2 = some x → Anc T s (x.pt, x.pr)
  | more {s n : Int × Int} {x : Rw} : getF T s.1 s.2 = some x → Anc T (x.pt, x.pr) n → Anc T s n
theorem Anc.trans {T : List Rw} {a b c : Int × Int} (h1 : Anc T a b) (h2 : Anc T b c) : Anc T a c := by
  induction h1 with
  | one h => exact .more h h2
  | more h _ ih => exact .more h (ih h2)
theorem above_anc {T : List Rw} {nt nr : Int} : ∀ (k : Nat) (t r : Int), aboveF T nt nr k t r = true → Anc T (t, r) (nt, nr)
  | 0, _, _, h => by cases h
  | k + 1, t, r, h => by
    unfold aboveF at h
    cases hg : getF T t r with
    | none => rw [hg] at h; cases h
    | some x =>
      rw [hg] at h
      dsimp only at h
      split at h
      · rename_i e
        have := Anc.one (T := T) (s := (t, r)) hg
        rwa [e.1, e.2] at this
      · exact .more (s := (t, r)) hg (above_anc k _ _ h)
def upF (T : List Rw) (s : Int × Int) : Int × Int := match getF T s.1 s.2 with | some x => (x.pt, x.pr) | none => s
def nthF (T : List Rw) : Nat → Int × Int → Int × Int
  | 0, s => s
  | i + 1, s => nthF T i (upF T s)
theorem nth_add (T : List Rw) : ∀ (a b : Nat) (s : Int × Int), nthF T (a + b) s = nthF T b (nthF T a s)
  | 0, b, s => by rw [Nat.zero_add]; rfl
  | a + 1, b, s => by
    rw [Nat.add_right_comm]
    exact nth_add T a b (upF T s)
theorem above_nth (l : List Rw) : ∀ (k i : Nat) (s : Int × Int), 1 ≤ i → i ≤ k → (∀ j, j < i → ∃ x, getF l (nthF l j s).1 (nthF l j s).2 = some x) → aboveF l (nthF l i s).1 (nthF l i s).2 k s.1 s.2 = true
  | 0, i, s, h1, h2, _ => by omega
  | k + 1, i, s, h1, h2, h3 => by
    obtain ⟨x, hx⟩ := h3 0 (by omega)
    have hx : getF l s.1 s.2 = some x := hx
    have hu : upF l s = (x.pt, x.pr) := by unfold upF; rw [hx]
    show (match getF l s.1 s.2 with | none => false | some x => if x.pt = (nthF l i s).1 ∧ x.pr = (nthF l i s).2 then true else aboveF l (nthF l i s).1 (nthF l i s).2 k x.pt x.pr) = true
    rw [hx]
    by_cases hq : x.pt = (nthF l i s).1 ∧ x.pr = (nthF l i s).2
    · simp only [if_pos hq]
    · simp only [if_neg hq]
      obtain ⟨i', rfl⟩ : ∃ i', i = i' + 1 := ⟨i - 1, by omega⟩
      have hi' : 1 ≤ i' := by
        rcases Nat.eq_zero_or_pos i' with e | e
        · subst e
          exact absurd (show x.pt = (upF l s).1 ∧ x.pr = (upF l s).2 by rw [hu]; exact ⟨rfl, rfl⟩) hq
        · exact e
      have := above_nth l k i' (upF l s) hi' (by omega) (fun j hj => h3 (j + 1) (by omega))
      rw [hu] at this
      show aboveF l (nthF l i' (upF l s)).1 (nthF l i' (upF l s)).2 k x.pt x.pr = true
      rw [hu]
      exact this
def Reach (T : List Rw) (s n : Int × Int) (i : Nat) : Prop := 1 ≤ i ∧ nthF T i s = n ∧ ∀ j, j < i → ∃ x, getF T (nthF T j s).1 (nthF T j s).2 = some x
theorem anc_reach {T : List Rw} {s n : Int × Int} (h : Anc T s n) : ∃ i, Reach T s n i := by
  induction h with
  | one h =>
    refine ⟨1, Nat.le_refl _, ?_, fun j hj => ?_⟩
    · show upF T _ = _; unfold upF; rw [h]
    · have : j = 0 := by omega
      subst this; exact ⟨_, h⟩
  | @more s n x h _ ih =>
    obtain ⟨i, h1, h2, h3⟩ := ih
    have hu : upF T s = (x.pt, x.pr) := by unfold upF; rw [h]
    refine ⟨i + 1, by omega, ?_, fun j hj => ?_⟩
    · show nthF T i (upF T s) = n; rw [hu, h2]
    · cases j with
      | zero => exact ⟨_, h⟩
      | succ j => have := h3 j (by omega); show ∃ y, getF T (nthF T j (upF T s)).1 (nthF T j (upF T s)).2 = some y; rw [hu]; exact this
theorem reach_short {T : List Rw} (hr : Rise T) {s n : Int × Int} : ∀ i, Reach T s n i → ∃ i, i ≤ T.length ∧ Reach T s n i := by
  intro i
  induction i using Nat.strongRecOn with
  | _ i ih =>
    intro h
    by_cases hi : i ≤ T.length
    · exact ⟨i, hi, h⟩
    · obtain ⟨h1, h2, h3⟩ := h
      have hnd : ¬ ((List.range i).map (fun j => nthF T j s)).Nodup := fun hn => by
        have hs : ((List.range i).map (fun j => nthF T j s)) ⊆ nodesF T := fun y hy => by
          obtain ⟨j, hj, rfl⟩ := List.mem_map.1 hy
          obtain ⟨x, hx⟩ := h3 j (List.mem_range.1 hj)
          obtain ⟨hm, e1, e2⟩ := (Tb.get_some hr).1 hx
          exact List.mem_map.2 ⟨x, hm, Prod.ext e1 e2⟩
        have := List.Nodup.length_le_of_subset hn hs
        rw [List.length_map, List.length_range] at this
        unfold nodesF at this
        rw [List.length_map] at this
        omega
      have hex : ∃ a b, a < b ∧ b < i ∧ nthF T a s = nthF T b s := by
        refine Classical.byContradiction (fun hc => hnd ?_)
        unfold List.Nodup
        rw [List.pairwise_map]
        refine List.Pairwise.imp_of_mem (R := fun a b => a < b) (fun {a b} ha hb hab he => hc ⟨a, b, hab, List.mem_range.1 hb, he⟩) List.pairwise_lt_range
      obtain ⟨a, b, hab, hb, he⟩ := hex
      have key : ∀ m, nthF T (b + m) s = nthF T (a + m) s := fun m => by rw [nth_add, nth_add, he]
      refine ih (i - (b - a)) (by omega) ⟨by omega, ?_, fun j hj => ?_⟩
      · have := key (i - b)
        rw [show b + (i - b) = i by omega] at this
        rw [show i - (b - a) = a + (i - b) by omega, ← this, h2]
      · by_cases hja : j < a
        · exact h3 j (by omega)
        · have := key (j - a)
          rw [show a + (j - a) = j by omega] at this
          rw [← this]
          exact h3 _ (by omega)
theorem anc_above {T : List Rw} (hr : Rise T) {t r nt nr : Int} (h : Anc T (t, r) (nt, nr)) : aboveF T nt nr T.length t r = true := by
  obtain ⟨i, hi⟩ := anc_reach h
  obtain ⟨i, hl, h1, h2, h3⟩ := reach_short hr i hi
  have := above_nth T T.length i (t, r) h1 hl h3
  rw [h2] at this
  exact this
def Acyc (T : List Rw) : Prop := ∀ s, ¬ Anc T s s
theorem get_set {T : List Rw} (hr : Rise T) (x : Rw) (t r : Int) : getF (setF T x) t r = if t = x.t ∧ r = x.r then some x else getF T t r := by
  split
  · rename_i h
    rw [h.1, h.2]
    exact (Tb.get_some (Tb.rise_set hr x)).2 ⟨Tb.mem_set.2 (.inl rfl), rfl, rfl⟩
  · rename_i h
    cases hg : getF T t r with
    | none =>
      refine Tb.get_none.2 (fun y hy e => ?_)
      rcases Tb.mem_set.1 hy with rfl | hy
      · exact h ⟨e.1.symm, e.2.symm⟩
      · exact Tb.get_none.1 hg y hy.1 e
    | some y =>
      obtain ⟨h1, h2, h3⟩ := (Tb.get_some hr).1 hg
      refine (Tb.get_some (Tb.rise_set hr x)).2 ⟨Tb.mem_set.2 (.inr ⟨h1, ?_⟩), h2, h3⟩
      unfold sameN
      exact decide_eq_false (fun e => h ⟨by rw [← h2]; exact e.1, by rw [← h3]; exact e.2⟩)
theorem anc_set {T : List Rw} (hr : Rise T) (x : Rw) {s m : Int × Int} (h : Anc (setF T x) s m) : Anc T s m ∨ ((s = (x.t, x.r) ∨ Anc T s (x.t, x.r)) ∧ (m = (x.pt, x.pr) ∨ Anc T (x.pt, x.pr) m)) := by
  induction h with
  | @one s y hg =>
    rw [get_set hr] at hg
    split at hg
    · rename_i e
      injection hg with hg; subst hg
      exact .inr ⟨.inl (Prod.ext e.1 e.2), .inl rfl⟩
    · exact .inl (.one hg)
  | @more s m y hg _ ih =>
    rw [get_set hr] at hg
    split at hg
    · rename_i e
      injection hg with hg; subst hg
      refine .inr ⟨.inl (Prod.ext e.1 e.2), ?_⟩
      rcases ih with ih | ⟨_, ih⟩
      · exact .inr ih
      · exact ih
    · rcases ih with ih | ⟨i1, i2⟩
      · exact .inl (.more hg ih)
      · refine .inr ⟨.inr ?_, i2⟩
        rcases i1 with i1 | i1
        · have := Anc.one hg; rwa [i1] at this
        · exact .more hg i1
theorem do_acyc {T : List Rw} (hr : Rise T) (h : Acyc T) (o : O) : Acyc (doF T o) := by
  unfold doF
  split
  · exact h
  · rename_i hs
    have hs : skipF T o = false := by simpa using hs
    unfold skipF at hs
    obtain ⟨h1, h2⟩ := Bool.or_eq_false_iff.1 hs
    have h1 : ¬ (o.nt = o.pt ∧ o.nr = o.pr) := of_decide_eq_false h1
    have h2 : ¬ Anc T (o.pt, o.pr) (o.nt, o.nr) := fun hc => by rw [anc_above hr hc] at h2; cases h2
    intro s hc
    rcases anc_set hr (rwO o) hc with hc | ⟨c1, c2⟩
    · exact h s hc
    · rcases c1 with c1 | c1
      · rcases c2 with c2 | c2
        · rw [c1] at c2; injection c2 with e1 e2; exact h1 ⟨e1, e2⟩
        · rw [c1] at c2; exact h2 c2
      · rcases c2 with c2 | c2
        · rw [c2] at c1; exact h2 c1
        · exact h2 (c2.trans c1)
theorem play_acyc : ∀ (L : List O) {T : List Rw}, Rise T → Acyc T → Acyc (playF T L)
  | [], _, _, h => h
  | o :: L, _, hr, h => play_acyc L (do_rise hr o) (do_acyc hr h o)
theorem acyc_nil : Acyc [] := fun s h => by cases h with | one h => cases h | more h _ => cases h
end Go.Proofs.Ytkmeceoilighiaa
