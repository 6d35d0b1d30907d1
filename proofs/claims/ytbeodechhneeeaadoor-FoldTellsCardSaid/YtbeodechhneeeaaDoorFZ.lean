/- Merged by tools/merge.py: FP, FQ, FS. -/
import Derived.Test.YtbeodechhneeeaaDoorFJ
import Derived.Test.YtbeodechhneeeaaDoorFK
import Derived.Test.YtbeodechhneeeaaDoorFN
import Derived.Test.YtbeodechhneeeaaDoorFO
import Derived.Deep.RegionHeld3
import Derived.Laws.StructEq

set_option linter.unusedVariables false
set_option linter.unusedSimpArgs false
set_option maxRecDepth 100000
namespace Go.Proofs.YtbeodechhneeeaaDoor
open Go.RowKit Go.Shelf
open Tb (Rw setF getF aboveF Rise TabI TM LiesK LiesR ltS encS Sp)
open Vx (zs zs_len)

/-- Sorted: nothing behind comes ahead. -/
def SrtP (S : List O) : Prop := S.Pairwise (fun a b => lessO b a = false)
theorem set_srt (l : List O) : SrtP (setO l) := by
  have := (srt_ok (uniqF l) [] List.Pairwise.nil).1
  exact this.imp (fun {a b} h => by rw [← lt_cf]; exact h)
theorem less_no {a b : O} (h : lessO b a = false) : a.t < b.t ∨ (a.t = b.t ∧ a.r ≤ b.r) := by
  rw [less_dec] at h
  have := of_decide_eq_false h
  omega
theorem max_le {S : List O} {m : Int} (h0 : 0 ≤ m) (h : ∀ x ∈ S, x.t ≤ m) : maxF S ≤ m := by
  have key : ∀ (L : List O) (a : Int), a ≤ m → (∀ x ∈ L, x.t ≤ m) → L.foldl (fun m o => if m < o.t then o.t else m) a ≤ m := by
    intro L
    induction L with
    | nil => intro a ha _; exact ha
    | cons x L ih =>
      intro a ha hx
      refine ih _ ?_ (fun y hy => hx y (List.mem_cons_of_mem _ hy))
      show (if a < x.t then x.t else a) ≤ m
      split
      · exact hx x (List.mem_cons_self ..)
      · exact ha
  exact key S 0 h0 h
theorem max_time {S : List O} (hs : SrtP S) (h0 : ∀ x ∈ S, 0 ≤ x.t) : maxF S = timeO S := by
  rcases List.eq_nil_or_concat S with rfl | ⟨L, x, rfl⟩
  · rfl
  · rw [List.concat_eq_append] at *
    have hx := h0 x (by simp)
    have e : timeO (L ++ [x]) = x.t := by unfold timeO; simp
    rw [e]
    have hL : ∀ y ∈ L, y.t ≤ x.t := fun y hy => by
      have := (List.pairwise_append.1 hs).2.2 y hy x (by simp)
      have := less_no this
      omega
    have hm := max_le hx hL
    unfold maxF at hm ⊢
    rw [List.foldl_append]
    show (if _ < x.t then x.t else _) = x.t
    split
    · rfl
    · omega
theorem right_t {x : O} (h : rO x = true) : 0 ≤ x.t := by
  unfold rO rB St.rightB St.rT at h
  simp only [Bool.and_eq_true, decide_eq_true_eq] at h
  omega
theorem time_same (l : List O) : maxF (setO l) = timeO (setO l) :=
  max_time (set_srt l) (fun x hx => right_t ((uniq_is l).right x (srt_mem hx)))
/-! ### Honest -/
theorem ins_perm (x : O) : ∀ u : List O, (ins x u).Perm (x :: u)
  | [] => List.Perm.refl _
  | y :: u => by
    unfold ins
    split
    · exact List.Perm.refl _
    · exact ((ins_perm x u).cons y).trans (List.Perm.swap x y u)
theorem srt_perm (l : List O) : (srtO l).Perm l := by
  have key : ∀ (l u : List O), (l.foldl (fun u x => insO x u) u).Perm (u ++ l) := by
    intro l
    induction l with
    | nil => intro u; simp
    | cons x l ih =>
      intro u
      refine (ih (insO x u)).trans ?_
      rw [insO_ins]
      refine ((ins_perm x u).append_right l).trans ?_
      exact (List.perm_middle (a := x) (l₁ := u) (l₂ := l)).symm
  simpa [srtO] using key l []
/-- Two ops that may lie together. -/
def RP (a b : O) : Prop := ¬ (a.t = b.t ∧ a.r = b.r) ∧ (a.r = b.r → a.q ≠ b.q ∧ (b.q < a.q ↔ b.t < a.t))
theorem RP.symm {a b : O} (h : RP a b) : RP b a := by
  obtain ⟨h1, h2⟩ := h
  refine ⟨fun e => h1 ⟨e.1.symm, e.2.symm⟩, fun e => ?_⟩
  obtain ⟨h3, h4⟩ := h2 e.symm
  refine ⟨fun q => h3 q.symm, ?_⟩
  have h5 : a.t ≠ b.t := fun q => h1 ⟨q, e.symm⟩
  constructor
  · intro q
    have : ¬ b.t < a.t := fun z => by have := h4.2 z; omega
    omega
  · intro q
    have : ¬ b.q < a.q := fun z => by have := h4.1 z; omega
    omega
theorem okP_iff (x y : O) : okP x y = true ↔ RP x y := by
  unfold okP RP
  by_cases h1 : y.t = x.t ∧ y.r = x.r
  · rw [decide_eq_true h1]
    exact ⟨fun h => (by cases h), fun h => absurd ⟨h1.1.symm, h1.2.symm⟩ h.1⟩
  · rw [decide_eq_false h1]
    have e1 : ¬ (x.t = y.t ∧ x.r = y.r) := fun q => h1 ⟨q.1.symm, q.2.symm⟩
    by_cases h2 : y.r = x.r
    · rw [decide_eq_true h2]
      by_cases h3 : y.q = x.q
      · rw [decide_eq_true h3]
        exact ⟨fun h => (by cases h), fun h => absurd h3.symm (h.2 h2.symm).1⟩
      · rw [decide_eq_false h3]
        by_cases h4 : y.q < x.q <;> by_cases h5 : y.t < x.t <;> simp [h4, h5, e1] <;> omega
    · rw [decide_eq_false h2]
      exact ⟨fun _ => ⟨e1, fun q => absurd q.symm h2⟩, fun _ => rfl⟩
theorem uq_full : ∀ (m u : List O), (m.foldl uqO u).length ≤ u.length + m.length ∧ ((m.foldl uqO u).length = u.length + m.length → m.foldl uqO u = u ++ m)
  | [], u => ⟨Nat.le_refl _, fun _ => by simp⟩
  | o :: m, u => by
    obtain ⟨h1, h2⟩ := uq_full m (uqO u o)
    show (m.foldl uqO (uqO u o)).length ≤ _ ∧ ((m.foldl uqO (uqO u o)).length = _ → m.foldl uqO (uqO u o) = _)
    rw [List.length_cons]
    unfold uqO at h1 h2 ⊢
    by_cases hc : rO o = true ∧ hasO u o.t o.r = false
    · rw [if_pos hc] at h1 h2 ⊢
      rw [List.length_append] at h1 h2
      exact ⟨by simp at h1; omega, fun h => by rw [h2 (by simp; omega)]; simp⟩
    · rw [if_neg hc] at h1 h2 ⊢
      exact ⟨by omega, fun h => by omega⟩
theorem uq_all : ∀ (m u : List O), (∀ o ∈ m, rO o = true) → (u ++ m).Pairwise (fun a b => ¬ (a.t = b.t ∧ a.r = b.r)) → m.foldl uqO u = u ++ m
  | [], u, _, _ => by simp
  | o :: m, u, h1, h2 => by
    have hn : hasO u o.t o.r = false := by
      cases hq : hasO u o.t o.r with
      | false => rfl
      | true =>
        obtain ⟨y, hy, hz⟩ := List.any_eq_true.1 hq
        exact absurd (of_decide_eq_true hz) ((List.pairwise_append.1 h2).2.2 y hy o (List.mem_cons_self ..))
    have e : uqO u o = u ++ [o] := if_pos ⟨h1 o (List.mem_cons_self ..), hn⟩
    show m.foldl uqO (uqO u o) = _
    rw [e, uq_all m (u ++ [o]) (fun x hx => h1 x (List.mem_cons_of_mem _ hx)) (by simpa using h2)]
    simp
theorem rise_iff : ∀ (S : List O) (v : List Int), v.length = 64 → (∀ x ∈ S, 0 ≤ x.r ∧ x.r < 64) → (riseQ v S = true ↔ (∀ x ∈ S, v.getD x.r.toNat 0 < x.q) ∧ S.Pairwise (fun a b => a.r = b.r → a.q < b.q))
  | [], v, _, _ => ⟨fun _ => ⟨fun x hx => (by cases hx), List.Pairwise.nil⟩, fun _ => rfl⟩
  | o :: L, v, hv, hr => by
    have ho := hr o (List.mem_cons_self ..)
    have ih := rise_iff L (v.set o.r.toNat o.q) (by rw [List.length_set]; exact hv) (fun x hx => hr x (List.mem_cons_of_mem _ hx))
    have hg : ∀ x ∈ L, (v.set o.r.toNat o.q).getD x.r.toNat 0 = if x.r = o.r then o.q else v.getD x.r.toNat 0 := fun x hx => by
      have hx := hr x (List.mem_cons_of_mem _ hx)
      rw [List.getD_eq_getElem?_getD, List.getElem?_set]
      by_cases e : x.r = o.r
      · rw [if_pos e, if_pos (by rw [e]), if_pos (by rw [hv]; omega)]; rfl
      · rw [if_neg e, if_neg (by omega), ← List.getD_eq_getElem?_getD]
    show (if o.q ≤ v.getD o.r.toNat 0 then false else riseQ (v.set o.r.toNat o.q) L) = true ↔ _
    rw [List.pairwise_cons]
    by_cases hq : o.q ≤ v.getD o.r.toNat 0
    · rw [if_pos hq]
      exact ⟨fun h => (by cases h), fun h => by have := h.1 o (List.mem_cons_self ..); omega⟩
    · rw [if_neg hq, ih]
      constructor
      · rintro ⟨h1, h2⟩
        refine ⟨fun x hx => ?_, fun x hx e => ?_, h2⟩
        · rcases List.mem_cons.1 hx with rfl | hx
          · omega
          · have := h1 x hx
            rw [hg x hx] at this
            split at this
            · rename_i e; rw [e]; omega
            · exact this
        · have := h1 x hx
          rw [hg x hx, if_pos e.symm] at this
          exact this
      · rintro ⟨h1, h2, h3⟩
        refine ⟨fun x hx => ?_, h3⟩
        rw [hg x hx]
        split
        · rename_i e; exact h2 x hx e.symm
        · exact h1 x (List.mem_cons_of_mem _ hx)
theorem g_is (a b : Int) : ∀ (L : List O) (g : GF), L.Pairwise (fun a b => ¬ (a.t = b.t ∧ a.r = b.r)) → (∀ y ∈ L, isMk y → y.t = a → y.r = b → (L.foldl gx g) a b = some y) ∧ ((∀ y ∈ L, ¬ (isMk y ∧ y.t = a ∧ y.r = b)) → (L.foldl gx g) a b = g a b)
  | [], g, _ => ⟨fun y hy => (by cases hy), fun _ => rfl⟩
  | x :: L, g, hp => by
    obtain ⟨p1, p2⟩ := List.pairwise_cons.1 hp
    obtain ⟨h1, h2⟩ := g_is a b L (gx g x) p2
    show (∀ y ∈ x :: L, isMk y → y.t = a → y.r = b → (L.foldl gx (gx g x)) a b = some y) ∧ (_ → (L.foldl gx (gx g x)) a b = g a b)
    refine ⟨fun y hy hm e1 e2 => ?_, fun hn => ?_⟩
    · rcases List.mem_cons.1 hy with rfl | hy
      · rw [h2 (fun z hz q => p1 z hz ⟨e1.trans q.2.1.symm, e2.trans q.2.2.symm⟩)]
        unfold gx
        rw [if_pos hm]
        exact if_pos ⟨e1.symm, e2.symm⟩
      · exact h1 y hy hm e1 e2
    · rw [h2 (fun z hz => hn z (List.mem_cons_of_mem _ hz))]
      unfold gx
      split
      · rename_i hm
        exact if_neg (fun q => hn x (List.mem_cons_self ..) ⟨hm, q.1.symm, q.2.symm⟩)
      · rfl
theorem g_md {S l : List O} (hp : S.Perm l) (hd : S.Pairwise (fun a b => ¬ (a.t = b.t ∧ a.r = b.r))) (a b : Int) (d : Bool) : ((gF S a b).isSome && (((gF S a b).getD O0).d == d)) = mdB l a b d := by
  obtain ⟨h1, h2⟩ := g_is a b S (fun _ _ => none) hd
  by_cases h : ∃ y ∈ S, isMk y ∧ y.t = a ∧ y.r = b
  · obtain ⟨y, hy, hm, e1, e2⟩ := h
    have e : gF S a b = some y := h1 y hy hm e1 e2
    rw [e]
    show (true && (y.d == d)) = _
    rw [Bool.true_and]
    cases hq : (y.d == d) with
    | true =>
      refine (List.any_eq_true.2 ⟨y, hp.mem_iff.1 hy, ?_⟩).symm
      rw [decide_eq_true ⟨e1, e2⟩, decide_eq_true (show y.nt = a ∧ y.nr = b from ⟨hm.1.symm.trans e1, hm.2.symm.trans e2⟩), hq]
      rfl
    | false =>
      refine (Bool.eq_false_iff.2 fun q => ?_).symm
      obtain ⟨z, hz, hw⟩ := List.any_eq_true.1 q
      simp only [Bool.and_eq_true, decide_eq_true_eq] at hw
      obtain ⟨⟨z1, z2⟩, ⟨z3, z4⟩, z5⟩ := hw
      have := h1 z (hp.mem_iff.2 hz) ⟨z1.trans z3.symm, z2.trans z4.symm⟩ z1 z2
      have e' := e.symm.trans this
      injection e' with e'
      subst e'
      rw [z5] at hq
      cases hq
  · have e : gF S a b = none := h2 (fun y hy q => h ⟨y, hy, q⟩)
    rw [e]
    show false = _
    refine (Bool.eq_false_iff.2 fun q => ?_).symm
    obtain ⟨z, hz, hw⟩ := List.any_eq_true.1 q
    simp only [Bool.and_eq_true, decide_eq_true_eq] at hw
    obtain ⟨⟨z1, z2⟩, ⟨z3, z4⟩, z5⟩ := hw
    exact h ⟨z, hp.mem_iff.2 hz, ⟨z1.trans z3.symm, z2.trans z4.symm⟩, z1, z2⟩
theorem right_q {x : O} (h : rO x = true) : 1 ≤ x.q := by
  unfold rO rB at h
  simp only [Bool.and_eq_true, decide_eq_true_eq] at h
  exact h.2.1
theorem hon_same (l : List O) : honR l = honestP l := by
  have hP := srt_perm (uniqF l)
  have key : honR l = true ↔ honestP l = true := by
    constructor
    · intro h
      have h : ∀ i, okI l i := @of_decide_eq_true _ (Classical.propDecidable _) h
      have hr : ∀ o ∈ l, rO o = true := fun o ho => by
        obtain ⟨i, hi, e⟩ := List.mem_iff_getElem.1 ho
        have := (h i o (by rw [List.getElem?_eq_getElem hi, e])).1
        unfold okA at this
        simp only [Bool.and_eq_true] at this
        exact this.1
      have hpr : l.Pairwise RP := List.pairwise_iff_getElem.2 fun i j hi hj hij => (okP_iff _ _).1 ((h i _ (List.getElem?_eq_getElem hi)).2 j _ (List.getElem?_eq_getElem hj) (by omega))
      have hu : uniqF l = l := by
        have := uq_all l [] hr (by simpa using hpr.imp (fun {a b} q => q.1))
        simpa [uniqF] using this
      rw [hu] at hP
      have hS : (srtO l).Pairwise RP := (hP.pairwise_iff (fun {a b} q => RP.symm q)).2 hpr
      have hq : setO l = srtO l := by unfold setO; rw [hu]
      unfold honestP
      rw [hq]
      rw [decide_eq_true (srtO_len l), Bool.true_and, Bool.and_eq_true]
      have hrs : ∀ x ∈ srtO l, rO x = true := fun x hx => hr x (srt_mem hx)
      refine ⟨(rise_iff (srtO l) zs zs_len (fun x hx => rO_rep (hrs x hx))).2 ⟨fun x hx => ?_, ?_⟩, List.all_eq_true.2 fun x hx => ?_⟩
      · have h1 := right_q (hrs x hx)
        have h2 := rO_rep (hrs x hx)
        have : zs.getD x.r.toNat 0 = 0 := by
          show (List.replicate 64 (0 : Int)).getD x.r.toNat 0 = 0
          rw [List.getD_eq_getElem?_getD, List.getElem?_replicate]
          split <;> rfl
        omega
      · have hs := set_srt l
        rw [hq] at hs
        refine (hs.and hS).imp (fun {a b} q e => ?_)
        obtain ⟨q1, q2, q3⟩ := q
        obtain ⟨q4, q5⟩ := q3 e
        have q6 := less_no q1
        have : ¬ b.t < a.t := by omega
        have : ¬ b.q < a.q := fun z => this (q5.1 z)
        omega
      · obtain ⟨i, hi, e⟩ := List.mem_iff_getElem.1 (srt_mem hx)
        have := (h i x (by rw [List.getElem?_eq_getElem hi, e])).1
        unfold okA at this
        rw [hr x (srt_mem hx), Bool.true_and] at this
        have hd := hS.imp (fun {a b} q => q.1)
        unfold okR
        rw [g_md hP hd x.nt x.nr x.d]
        have g2 := g_md hP hd x.pt x.pr true
        rw [show (((gF (srtO l) x.pt x.pr).getD O0).d == true) = ((gF (srtO l) x.pt x.pr).getD O0).d from by cases ((gF (srtO l) x.pt x.pr).getD O0).d <;> rfl] at g2
        rw [g2]
        exact this
    · intro h
      unfold honestP at h
      simp only [Bool.and_eq_true, decide_eq_true_eq] at h
      obtain ⟨h1, h2, h3⟩ := h
      have hu : uniqF l = l := by
        have := (uq_full l []).2 (by
          have e : (setO l).length = (uniqF l).length := srtO_len _
          have e2 : (l.foldl uqO []).length = l.length := e.symm.trans h1
          rw [e2]; simp)
        simpa [uniqF] using this
      have hq : setO l = srtO l := by unfold setO; rw [hu]
      have hU := uniq_is l
      rw [hu] at hU hP
      rw [hq] at h2 h3
      have hr : ∀ o ∈ l, rO o = true := hU.right
      have hrs : ∀ x ∈ srtO l, rO x = true := fun x hx => hr x (srt_mem hx)
      have hd : (srtO l).Pairwise (fun a b => ¬ (a.t = b.t ∧ a.r = b.r)) := (hP.pairwise_iff (fun {a b} q e => q ⟨e.1.symm, e.2.symm⟩)).2 hU.one
      have hri := ((rise_iff (srtO l) zs zs_len (fun x hx => rO_rep (hrs x hx))).1 h2).2
      have hs := set_srt l
      rw [hq] at hs
      have hS : (srtO l).Pairwise RP := ((hs.and hd).and hri).imp (fun {a b} q => by
        obtain ⟨⟨q1, q2⟩, q3⟩ := q
        refine ⟨q2, fun e => ?_⟩
        have q6 := less_no q1
        have q4 := q3 e
        have q5 : a.t ≠ b.t := fun z => q2 ⟨z, e⟩
        omega)
      have hpr : l.Pairwise RP := (hP.pairwise_iff (fun {a b} q => RP.symm q)).1 hS
      refine @decide_eq_true _ (Classical.propDecidable _) (fun i x hx => ⟨?_, fun j y hy hn => ?_⟩)
      · have hx := List.mem_of_getElem? hx
        have := List.all_eq_true.1 h3 x (hP.mem_iff.2 hx)
        unfold okA
        rw [hr x hx, Bool.true_and]
        unfold okR at this
        rw [g_md hP hd x.nt x.nr x.d] at this
        have g2 := g_md hP hd x.pt x.pr true
        rw [show (((gF (srtO l) x.pt x.pr).getD O0).d == true) = ((gF (srtO l) x.pt x.pr).getD O0).d from by cases ((gF (srtO l) x.pt x.pr).getD O0).d <;> rfl] at g2
        rw [g2] at this
        exact this
      · obtain ⟨hi, ei⟩ := List.getElem?_eq_some_iff.1 hx
        obtain ⟨hj, ej⟩ := List.getElem?_eq_some_iff.1 hy
        rw [okP_iff]
        have hh := List.pairwise_iff_getElem.1 hpr
        rcases Nat.lt_or_ge i j with q | q
        · have := hh i j hi hj q
          rwa [ei, ej] at this
        · have := hh j i hj hi (by omega)
          rw [ei, ej] at this
          exact this.symm
  cases h1 : honR l <;> cases h2 : honestP l <;> simp_all
end Go.Proofs.YtbeodechhneeeaaDoor

set_option linter.unusedVariables false
namespace Go.Proofs.YtbeodechhneeeaaDoor
open Go.RowKit
open Vx

theorem boxes (w : World) (A B : Array Value) (ty : TypeId) :
    Below w.heap.size w ((w.alloc (.cells A ty)).alloc (.cells B ty)) ∧ ((w.alloc (.cells A ty)).alloc (.cells B ty)).heap[w.heap.size]? = some (.cells A ty (0, 0)) ∧ ((w.alloc (.cells A ty)).alloc (.cells B ty)).heap[w.heap.size + 1]? = some (.cells B ty (0, 0)) := by
  have h1 := (Below.refl w.heap.size w).alloc (Nat.le_refl _) (.cells A ty)
  refine ⟨h1.alloc (by simp) _, ?_, ?_⟩
  · exact (((Below.refl _ (w.alloc (.cells A ty))).alloc (Nat.le_refl _) (.cells B ty)).block w.heap.size (by simp)).trans (heap_alloc_new w (.cells A ty))
  · have := heap_alloc_new (w.alloc (.cells A ty)) (.cells B ty)
    rw [World.size_alloc] at this
    exact this

theorem take_snoc' {α : Type} (l : List α) (i : Nat) (p : α) (h : l[i]? = some p) : l.take (i + 1) = l.take i ++ [p] := by
  obtain ⟨hl, he⟩ := List.getElem?_eq_some_iff.1 h
  rw [List.take_succ_eq_append_getElem hl, he]
/-- A slice of the law's pairs. -/
def LiesO (w : World) (v : Value) (l : List (Nat × Int)) : Prop := ∃ ao cap, v = .slice ao l.length cap ∧ l.length ≤ 9223372036854775807 ∧ (ao = none → l = []) ∧
  ∀ b, ao = some b → l ≠ [] → ∃ k o, b = ⟨k, o, none⟩ ∧ k < w.heap.size ∧ ∀ (j : Nat) p, l[j]? = some p → p.1 < 256 ∧ w.cell? ⟨k, o + j * 2, none⟩ = some (.int .u8 (p.1 : Int)) ∧ w.cell? ⟨k, o + j * 2 + 1, none⟩ = some (.int .i64 p.2)
theorem LiesO.later {w w' : World} {v : Value} {l : List (Nat × Int)} (h : LiesO w v l) (hb : Below w.heap.size w w') : LiesO w' v l := by
  obtain ⟨ao, cap, rfl, hn, h0, hc⟩ := h
  refine ⟨ao, cap, rfl, hn, h0, fun b hbb hne => ?_⟩
  obtain ⟨k, o, rfl, hk, hc⟩ := hc b hbb hne
  exact ⟨k, o, rfl, Nat.lt_of_lt_of_le hk hb.size, fun j p hj => ⟨(hc j p hj).1, (hb.cell (p := ⟨k, o + j * 2, none⟩) hk).trans (hc j p hj).2.1, (hb.cell (p := ⟨k, o + j * 2 + 1, none⟩) hk).trans (hc j p hj).2.2⟩⟩
theorem LiesO.at {w : World} {ao : Option Addr} {n cap : Nat} {l : List (Nat × Int)} (h : LiesO w (.slice ao n cap) l) {i : Nat} {p : Nat × Int} (hp : l[i]? = some p) :
    ∃ k o, ao = some ⟨k, o, none⟩ ∧ p.1 < 256 ∧ w.cell? ⟨k, o + i * 2, none⟩ = some (.int .u8 (p.1 : Int)) ∧ w.cell? ⟨k, o + i * 2 + 1, none⟩ = some (.int .i64 p.2) ∧ k < w.heap.size := by
  obtain ⟨ao', cap', e, h1, h3, h4⟩ := h
  injection e with e1 e2 e3
  subst e1
  cases ao with
  | none => have := h3 rfl; subst this; cases hp
  | some b =>
    obtain ⟨k, o, rfl, hk, hc⟩ := h4 b rfl (by rintro rfl; cases hp)
    exact ⟨k, o, rfl, (hc i p hp).1, (hc i p hp).2.1, (hc i p hp).2.2, hk⟩
theorem LiesO.shape {w : World} {v : Value} {l : List (Nat × Int)} (h : LiesO w v l) : ∃ ao cap, v = .slice ao l.length cap := by
  obtain ⟨ao, cap, e, _⟩ := h; exact ⟨ao, cap, e⟩
def putO (v : List Int) (p : Nat × Int) : List Int := v.set (p.1 % 64) p.2
def madeF (l : List (Nat × Int)) : List Int := (l.take 200).foldl putO zs
theorem putO_len (v : List Int) (p : Nat × Int) : (putO v p).length = v.length := by unfold putO; exact List.length_set
theorem foldP_len : ∀ (l : List (Nat × Int)) (v : List Int), (l.foldl putO v).length = v.length
  | [], v => rfl
  | p :: r, v => by rw [List.foldl_cons, foldP_len r, putO_len]
theorem madeF_len (l : List (Nat × Int)) : (madeF l).length = 64 := by unfold madeF; rw [foldP_len, zs_len]

set_option maxRecDepth 100000 in
set_option maxHeartbeats 1600000 in
theorem Made_any (w : World) (v : Value) (l : List (Nat × Int)) (h : LiesO w v l) :
    Calls Tryd.prog 7 #[v] w fun e w' => e = .returned (vw (madeF l)) ∧ Below w.heap.size w w' := by
  have X := Lib.hid (boxes w (va zs) (va zs) 27)
  have AZ := Lib.hid (alloc_va z24 w)
  have AY := Lib.hid (alloc_va z24 (w.alloc (.cells (va zs) 27)))
  rw [World.size_alloc] at AY
  have LD := Lib.hid (fun W (l' : List Int) (h1 : l'.length = 64) (h : W.heap[w.heap.size + 1]? = some (.cells (va l') 27 (0, 0))) => load_va v24 W (w.heap.size + 1) l' h1 h)
  have ST := Lib.hid (fun W (l' : List Int) (h1 : l'.length = 64) (h : W.heap[w.heap.size]? = some (.cells (va zs) 27 (0, 0))) => store_va v24 W w.heap.size (va zs) (by rw [va_size, zs_len]) l' h1 h)
  have H := Lib.hid h
  have hlm : l.length ≤ 9223372036854775807 := by obtain ⟨_, _, _, g1, _⟩ := h; exact g1
  obtain ⟨ao, cap, rfl⟩ := h.shape
  generalize hW1 : w.alloc (.cells (va zs) 27) = W1 at *
  generalize hW : W1.alloc (.cells (va zs) 27) = W at *
  clear hW hW1 h
  go_enter Tryd.func7, Tryd.ntmps7
  go_wp2_with (first | refine wpList_alloc_arr rfl 27 rfl _ _ AZ.out ?_ | refine wpList_alloc_arr rfl 27 rfl _ _ AY.out ?_)
  go_loopw [4] (fun iv wr => ∃ (i : Nat) (cur : List Int), iv = .int .i64 i ∧ i ≤ l.length ∧ i ≤ 200 ∧ Hid (cur = (l.take i).foldl putO zs ∧ wr.heap[w.heap.size]? = some (.cells (va zs) 27 (0, 0)) ∧ wr.heap[w.heap.size + 1]? = some (.cells (va cur) 27 (0, 0)) ∧ Below w.heap.size w wr)) (fun iv _ => 200 - (intOf iv).toNat)
  case atStart => exact ⟨0, zs, rfl, Nat.zero_le _, Nat.zero_le _, Lib.hid ⟨rfl, X.out.2.1, X.out.2.2, X.out.1⟩⟩
  case round =>
    obtain ⟨i, cur, rfl, hil, hi2, hI⟩ := hrel
    have HCL := Lib.hid (show cur.length = 64 by rw [hI.out.1, foldP_len, zs_len])
    by_cases hlt : i < l.length ∧ i < 200
    · obtain ⟨hl1, hl2⟩ := hlt
      obtain ⟨p, hp⟩ : ∃ p, l[i]? = some p := ⟨_, List.getElem?_eq_getElem hl1⟩
      obtain ⟨k, o, e1, hp256, d0, d1, hk⟩ := H.out.at hp
      subst e1
      have d0 := (hI.out.2.2.2.cell (p := ⟨k, o + i * 2, none⟩) hk).trans d0
      have d1 := (hI.out.2.2.2.cell (p := ⟨k, o + i * 2 + 1, none⟩) hk).trans d1
      have hkn : k ≠ w.heap.size + 1 := by omega
      have hkn2 : w.heap.size + 1 ≠ k := by omega
      obtain ⟨p1, p2⟩ := p
      dsimp only at d0 d1 hp256
      obtain ⟨m, hm⟩ : ∃ m, m = p1 % 64 := ⟨_, rfl⟩
      have hm64 : m < 64 := by omega
      obtain ⟨x, hx⟩ := va_len cur HCL.out m hm64
      have g := cell_va hI.out.2.2.1 hx
      have f := frozen_of_row _ _ m _ _ hI.out.2.2.1
      have HN : Hid (cur.set m p2 = (l.take (i + 1)).foldl putO zs) := Lib.hid (by rw [take_snoc' l i _ hp, List.foldl_append, ← hI.out.1, hm]; rfl)
      have R1 := Lib.hid (show (wr.setCell ⟨w.heap.size + 1, m, none⟩ (.int .i64 p2)).drew.heap[w.heap.size + 1]? = some (.cells (va (cur.set m p2)) 27 (0, 0)) from set_va hI.out.2.2.1 m p2)
      have R2 := Lib.hid (show (wr.setCell ⟨w.heap.size + 1, m, none⟩ (.int .i64 p2)).drew.heap[w.heap.size]? = some (.cells (va zs) 27 (0, 0)) from (Below.heap_setCell _ _ _ _ (by show w.heap.size ≠ w.heap.size + 1; omega)).trans hI.out.2.1)
      have BY := Lib.hid ((hI.out.2.2.2.setCell (p := ⟨w.heap.size + 1, m, none⟩) (by show w.heap.size ≤ w.heap.size + 1; omega) (.int .i64 p2)).drew)
      have hm0 : (0 : Int) ≤ (m : Int) := by omega
      have hm1 : (m : Int) < 64 := by omega
      have q1 : IntKind.i64.wrap (p1 : Int) = (p1 : Int) := by rw [IntKind.wrap_i64]; omega
      have q2 : (p1 : Int) % 64 = (m : Int) := by omega
      have q3 : IntKind.i64.wrap (m : Int) = (m : Int) := by rw [IntKind.wrap_i64]; omega
      have q4 : Int.tmod (p1 : Int) 64 = (m : Int) := by rw [Int.tmod_eq_emod_of_nonneg (by omega)]; omega
      clear hp hx hm
      go_wp2
      go_region_held3 (fun w' => w'.cell? ⟨k, o + i * 2, none⟩ = some (.int .u8 (p1 : Int)) ∧ w'.cell? ⟨k, o + i * 2 + 1, none⟩ = some (.int .i64 p2)) (go_keep) (fail)
      go_wp2
      go_roundw
      case rel => exact ⟨i + 1, cur.set m p2, by go_num, by omega, by omega, Lib.hid ⟨HN.out, R2.out, R1.out, BY.out⟩⟩
      case measure => simp [intOf]; omega
    · have hie : l.take i = l.take 200 := by
        by_cases h : i < l.length
        · rw [show i = 200 by omega]
        · rw [List.take_of_length_le (by omega), List.take_of_length_le (by omega)]
      have HE : Hid (cur = madeF l) := Lib.hid (by rw [hI.out.1, hie]; rfl)
      have hd : (¬ i < l.length) ∨ (i < l.length ∧ ¬ i < 200) := by
        by_cases h : i < l.length
        · exact .inr ⟨h, fun h2 => hlt ⟨h, h2⟩⟩
        · exact .inl h
      clear hie hlt
      rcases hd with hd | ⟨hd, hd2⟩
      all_goals
        go_wp2_with (first | refine wpList_load_arr rfl (.tmp 3) 27 rfl _ _ rfl (LD.out _ _ HCL.out hI.out.2.2.1) ?_ | refine wpList_store_arr rfl (.tmp 2) (.tmp 28) 27 rfl _ _ rfl rfl _ (ST.out _ _ HCL.out hI.out.2.1) ?_)
        refine bodyPost_ret (ret_va (b := w.heap.size) rfl v24 HCL.out rfl (setRow_heap _ _ _ _ _ _ hI.out.2.1)) rfl ⟨by rw [HE.out], below_setRow hI.out.2.2.2 (Nat.le_refl _) _⟩
end Go.Proofs.YtbeodechhneeeaaDoor

set_option linter.unusedVariables false
namespace Go.Proofs.YtbeodechhneeeaaDoor.Vx
open Go.RowKit

theorem all_range_int : ∀ (xs ys : List Int), xs.length = ys.length → ((List.range xs.length).all fun i => xs.getD i 0 == ys.getD i 0) = (xs == ys)
  | [], [], _ => rfl
  | x :: xs, y :: ys, h => by
    have ih := all_range_int xs ys (by simpa using h)
    rw [List.length_cons, List.range_succ_eq_map, List.all_cons, List.all_map]
    simp only [List.getD_cons_zero, Function.comp_def, List.getD_cons_succ, ih]
    simp [List.cons_beq_cons]
  | [], _ :: _, h => by simp at h
  | _ :: _, [], h => by simp at h
theorem size3 (w : World) : (sizeOf 3).run Tryd.prog w = .ok 1 w := by
  cases hq : Tryd.prog.info? 3 with
  | none => have := elem24; rw [hq] at this; simp at this
  | some j =>
    have hs : j.size = 1 := by have := elem24; rw [hq] at this; simpa using this
    simp [sizeOf, typeInfo, hq, hs]
theorem equalIn_va (w : World) (d : Nat) (xs ys : List Int) (hx : xs.length = 64) (hy : ys.length = 64) :
    (Op.equalIn (d + 2) 27 (.agg (va xs)) (.agg (va ys))).run Tryd.prog w = .ok (xs == ys) w := by
  have ht : Tryd.prog.underlying 27 = some (.array 64 3) := by kernel_rfl
  have he : Tryd.prog.underlying 3 = some (.int .i64) := by kernel_rfl
  rw [← all_range_int xs ys (hx.trans hy.symm), hx, List.range_eq_range', Op.equalIn]
  simp only [Sem.run_bind, run_underlying ht, Result.andThen_ok, size3, Std.Legacy.Range.forIn_eq_forIn_range', Std.Legacy.Range.size, Nat.sub_zero, Nat.add_sub_cancel, Nat.div_one]
  have hl : ∀ i ∈ List.range' 0 64 1, i < 64 := fun i hi => by simpa using (List.mem_range'_1.1 hi).2
  generalize List.range' 0 64 1 = l at hl ⊢
  induction l with
  | nil => simp
  | cons i l ih =>
    have hi : i < 64 := hl i (by simp)
    have px : (part 3 (va xs) (i * 1)).run Tryd.prog w = .ok (.int .i64 (xs.getD i 0)) w := by
      simp [va, part, isAgg, run_underlying he, List.getD, List.getElem?_eq_getElem (show i < xs.length by omega)]
    have py : (part 3 (va ys) (i * 1)).run Tryd.prog w = .ok (.int .i64 (ys.getD i 0)) w := by
      simp [va, part, isAgg, run_underlying he, List.getD, List.getElem?_eq_getElem (show i < ys.length by omega)]
    have pe : (Op.equalIn (d + 1) 3 (.int .i64 (xs.getD i 0)) (.int .i64 (ys.getD i 0))).run Tryd.prog w = .ok (xs.getD i 0 == ys.getD i 0) w := run_equalIn_int w d 3 .i64 .i64 _ _ he
    simp only [List.forIn_cons, Sem.run_bind, px, py, pe, Result.andThen_ok, List.all_cons]
    cases hb : (xs.getD i 0 == ys.getD i 0)
    · simp
    · simp only [Bool.not_true, Bool.false_eq_true, if_false, Sem.run_pure, Result.andThen_ok, Bool.true_and]
      exact ih fun j hj => hl j (by simp [hj])
theorem eql_va (w : World) (xs ys : List Int) (hx : xs.length = 64) (hy : ys.length = 64) :
    (binOp .eql 27 (.agg (va xs)) (.agg (va ys))).run Tryd.prog w = .ok (.bool (xs == ys)) w := by
  rw [run_eql_struct, equalIn_va w 9998 xs ys hx hy]
  rfl
theorem eqs_vec (w : World) (xs : List Int) (hx : xs.length = 64) : (binOp .eql 27 (.agg (va xs)) (.agg (va xs))).run Tryd.prog w = .ok (.bool true) w := by
  rw [eql_va w xs xs hx hx]
  simp
end Go.Proofs.YtbeodechhneeeaaDoor.Vx
set_option linter.unusedVariables false
set_option linter.unusedSimpArgs false
set_option maxRecDepth 100000
namespace Go.Proofs.YtbeodechhneeeaaDoor
open Go.RowKit Go.Shelf
open Tb (Rw setF getF aboveF Rise TabI TM LiesK LiesR ltS encS Sp)
open Vx (va vw zs zs_len va_len va_size cell_va set_va alloc_va load_va store_va z24 v24 v26)

theorem same_go (w : World) (v1 v2 : Value) (l : List O) (h1 : OLies w v1 l) (h2 : OLies w v2 l) : Calls Tryd.prog 8 #[v1, v2] w fun e w' => e = .returned (.bool true) ∧ Below w.heap.size w w' :=
  (rsameO_any w v1 v2 l l h1 h2).mono (by rintro e w' ⟨rfl, hb⟩; exact ⟨by rw [sameO_self], hb⟩)

theorem geqV (x y : Operand) (a b : Array Value) (w : World) : (eqGuard .eql 27 x y (.agg a) (.agg b)).run Tryd.prog w = .ok () w := run_eqGuard_agg w .eql 27 x y _ _ (by kernel_rfl)
theorem eq3s (a : Int) (W : World) : (binOp .eql 3 (.int .i64 a) (.int .i64 a)).run Tryd.prog W = .ok (.bool true) W := by go_simp
theorem geq3 (x y : Operand) (a b : Int) (w : World) : (eqGuard .eql 3 x y (.int .i64 a) (.int .i64 b)).run Tryd.prog w = .ok () w := rfl
theorem eq4s (a : Bool) (W : World) : (binOp .eql 4 (.bool a) (.bool a)).run Tryd.prog W = .ok (.bool true) W := by cases a <;> kernel_rfl
set_option maxHeartbeats 12800000 in
theorem tells_law (w : World) (v v1 : Value) (l : List O) (ls : List (Nat × Int)) (h : OLies w v l) (hok : ∀ o ∈ l, OkO o) (hs1 : LiesO w v1 ls) :
    Calls Tryd.prog 3 #[v, v1] w fun e w' => e = .returned (.bool true) ∧ Below w.heap.size w w' := by
  have H := Lib.hid h
  have HOK := Lib.hid hok
  have LG := Lib.hid (long_any w v l h)
  have AW := Lib.hid (fun W => awake_any W)
  have MD := Lib.hid (Made_any w v1 ls hs1)
  have HV := Lib.hid (madeF_len ls)
  obtain ⟨ao, cap, rfl⟩ := h.shape
  obtain ⟨ao1, cap1, rfl⟩ := hs1.shape
  obtain ⟨V, hVm⟩ : ∃ z, madeF ls = z := ⟨_, rfl⟩
  rw [hVm] at MD HV
  clear h hok hs1 hVm
  obtain ⟨lb, hlb⟩ : ∃ z, longB l = z := ⟨_, rfl⟩
  rw [hlb] at LG
  go_enter Tryd.func3, Tryd.ntmps3
  go_wp2_with fail
  refine LG.out.mono ?_
  rintro e w0 ⟨rfl, hw⟩
  subst hw
  clear LG
  cases lb with
  | true =>
    clear MD
    go_wp2_with fail
    refine (AW.out w).mono ?_
    rintro e w1 ⟨rfl, hb⟩
    have HB := Lib.hid hb
    clear hb AW
    go_wp2
    go_returns
    exact ⟨rfl, HB.out⟩
  | false =>
    have hf := long_f hlb
    have HSZ := Lib.hid (show ∀ o ∈ l, o.nm.size ≤ 9223372036854775807 from fun o ho => by have := hf.2 o ho; omega)
    have HUL := Lib.hid (show (uniqF l).length ≤ 79 from by have := (uniq_is l).len; have := hf.1; omega)
    have HLL := Lib.hid (show l.length ≤ 1000 from by have := hf.1; omega)
    clear hf hlb
    go_wp2_with fail
    refine MD.out.mono ?_
    rintro e w1 ⟨rfl, hb⟩
    have AX := Lib.hid (alloc_va z24 w1)
    have SX := Lib.hid (store_va v24 (w1.alloc (.cells (va zs) 27)) w1.heap.size (va zs) (by rw [va_size, zs_len]) V HV.out (heap_alloc_new w1 _))
    rw [World.setRow_alloc_new] at SX
    have B2 := Lib.hid (hb.trans ((pl_vstep w1 (.cells (va V) 27)).mono hb.size))
    have N2 := Lib.hid (heap_alloc_new w1 (.cells (va V) 27))
    clear hb MD
    unfold vw
    go_upto_region 4 with (first
      | (refine Vx.wpList_alloc_arr rfl 27 rfl _ _ AX.out ?_)
      | (refine Vx.wpList_store_arr rfl (.tmp 5) (.tmp 10) 27 rfl _ _ rfl rfl _ SX.out ?_))
    obtain ⟨w2, hw2⟩ : ∃ z, w1.alloc (.cells (va V) 27) = z := ⟨_, rfl⟩
    obtain ⟨vb, hvb⟩ : ∃ z, w1.heap.size = z := ⟨_, rfl⟩
    rw [hw2] at B2 N2
    rw [hvb] at N2
    rw [hw2]
    try rw [hvb]
    clear AX SX
    clear hw2 hvb
    have HO := Lib.hid (H.out.step B2.out)
    have LV := Lib.hid (fun W (hW : Below w2.heap.size w2 W) => load_va v24 W vb V HV.out ((hW.block _ (pl_lt N2.out)).trans N2.out))
    have C9 := Lib.hid (fun W (hW : Below w2.heap.size w2 W) => fset_any W _ l (HO.out.step hW) HOK.out HSZ.out HLL.out HUL.out)
    have C10 := Lib.hid (fun W (hW : Below w2.heap.size w2 W) => rsetO_any W _ l (HO.out.step hW) HSZ.out HLL.out HUL.out)
    have C11 := Lib.hid (fun W (hW : Below w2.heap.size w2 W) => fknown_any W _ l V HV.out (HO.out.step hW) HOK.out HSZ.out HLL.out HUL.out)
    have C12 := Lib.hid (fun W (hW : Below w2.heap.size w2 W) => rknown_any W _ l V HV.out (HO.out.step hW) HSZ.out HLL.out HUL.out)
    have C13 := Lib.hid (fun W (hW : Below w2.heap.size w2 W) => fvec_any W _ l (HO.out.step hW) HOK.out HSZ.out HLL.out HUL.out)
    have C14 := Lib.hid (fun W (hW : Below w2.heap.size w2 W) => rvec_any W _ l (HO.out.step hW) HSZ.out HLL.out HUL.out)
    have C15 := Lib.hid (fun W (hW : Below w2.heap.size w2 W) => ftime_any W _ l (HO.out.step hW) HOK.out HSZ.out HLL.out HUL.out)
    have C16 := Lib.hid (fun W (hW : Below w2.heap.size w2 W) => rtime_op W _ l (HO.out.step hW) HSZ.out HLL.out HUL.out)
    have C17 := Lib.hid (fun W (hW : Below w2.heap.size w2 W) => fhonest_any W _ l (HO.out.step hW) HOK.out HSZ.out HLL.out HUL.out)
    have C18 := Lib.hid (fun W (hW : Below w2.heap.size w2 W) => rhonest_any W _ l (HO.out.step hW) HSZ.out HLL.out)
    simp only [time_same] at C16
    simp only [hon_same] at C18
    unfold vw at C11 C12 C13 C14
    have EV := Lib.hid (fun W => Vx.eqs_vec W (vecO (setO l)) (vecO_len _))
    obtain ⟨VA, hVA⟩ : ∃ z, va V = z := ⟨_, rfl⟩
    obtain ⟨VO, hVO⟩ : ∃ z, va (vecO (setO l)) = z := ⟨_, rfl⟩
    obtain ⟨TO, hTO⟩ : ∃ z, timeO (setO l) = z := ⟨_, rfl⟩
    obtain ⟨hp, hhp⟩ : ∃ z, honestP l = z := ⟨_, rfl⟩
    obtain ⟨S1, hS1⟩ : ∃ z, setO l = z := ⟨_, rfl⟩
    simp only [hVA] at LV C11 C12
    simp only [hVO] at C13 C14 EV
    simp only [hTO] at C15 C16
    simp only [hhp] at C17 C18
    simp only [hS1] at C9 C10 C11 C12
    obtain ⟨K1, hK1⟩ : ∃ z, S1.filter (keepB V) = z := ⟨_, rfl⟩
    simp only [hK1] at C11 C12
    clear hVA hVO hTO hhp hS1 hK1
    have ET := Lib.hid (fun W => eq3s TO W)
    have EH := Lib.hid (fun W => eq4s hp W)
    refine wp_region_held_drew (S := fun w' => Below w2.heap.size w2 w') (by kernel_rfl) (Below.refl _ _).drew (fun hHeld => ?_)
    have BV := Lib.hid (show Below w2.heap.size w2 w2.drew from (Below.refl _ _).drew)
    clear hHeld
    refine take_at (i := 0) 11 ?_ rfl rfl (by kernel_rfl) (by kernel_rfl) (by kernel_rfl) (fun _ _ _ h => h) (.inl ⟨rfl, ?_⟩) BV.out ?_
    rotate_left 1
    · intro w hSw; go_simp; try with_reducible rfl
    simp only [Act.put, List.setIfInBounds_toArray, List.set_cons_zero, List.set_cons_succ]
    refine take_at (i := 2) 13 ?_ rfl rfl (by kernel_rfl) (by kernel_rfl) (by kernel_rfl) (fun _ _ _ h => h) (.inl ⟨rfl, ?_⟩) BV.out ?_
    rotate_left 1
    · intro w hSw; go_simp; try with_reducible rfl
    simp only [Act.put, List.setIfInBounds_toArray, List.set_cons_zero, List.set_cons_succ]
    refine wpAnyH_ready (rs := [1]) (by kernel_rfl) (by simp) (br_call (i := 1) 12 9 #[.slice ao l.length cap] rfl rfl rfl (by go_simp) ((C9.out _ BV.out).mono ?_) AllReadyH.nil)
    rintro e v1 ⟨r1, rfl, ho, hb⟩
    have BV := Lib.hid (BV.out.trans (hb.mono BV.out.size))
    have Z1 := Lib.hid (own_olies ho)
    clear ho
    clear hb
    refine ⟨_, rfl, BV.out, fun _ => ?_⟩
    simp only [Act.put, List.setIfInBounds_toArray, List.set_cons_zero, List.set_cons_succ]
    refine wpAnyH_ready (rs := [3]) (by kernel_rfl) (by simp) (br_call (i := 3) 14 10 #[.slice ao l.length cap] rfl rfl rfl (by go_simp) ((C10.out _ BV.out).mono ?_) AllReadyH.nil)
    rintro e v2 ⟨r2, rfl, ho, hb, -⟩
    have BV := Lib.hid (BV.out.trans (hb.mono BV.out.size))
    have Z1 := Lib.hid (Z1.out.step hb)
    have Z2 := Lib.hid ho
    clear ho
    clear hb
    refine ⟨_, rfl, BV.out, fun _ => ?_⟩
    simp only [Act.put, List.setIfInBounds_toArray, List.set_cons_zero, List.set_cons_succ]
    refine wpAnyH_ready (rs := [4]) (by kernel_rfl) (by simp) (br_call (i := 4) 15 8 #[r1, r2] rfl rfl rfl (by go_simp) ((same_go _ r1 r2 S1 Z1.out Z2.out).mono ?_) AllReadyH.nil)
    rintro e v3 ⟨rfl, hb⟩
    have BV := Lib.hid (BV.out.trans (hb.mono BV.out.size))
    have Z1 := Lib.hid (Z1.out.step hb)
    have Z2 := Lib.hid (Z2.out.step hb)
    clear hb
    refine ⟨_, rfl, BV.out, fun _ => ?_⟩
    simp only [Act.put, List.setIfInBounds_toArray, List.set_cons_zero, List.set_cons_succ]
    refine take_at (i := 5) 16 ?_ rfl rfl (by kernel_rfl) (by kernel_rfl) (by kernel_rfl) (fun _ _ _ h => h) (.inl ⟨rfl, ?_⟩) BV.out ?_
    rotate_left 1
    · intro w hSw; go_simp; try with_reducible rfl
    simp only [Act.put, List.setIfInBounds_toArray, List.set_cons_zero, List.set_cons_succ]
    refine take_at (i := 6) 17 ?_ rfl rfl (by kernel_rfl) (by kernel_rfl) (by kernel_rfl) (fun _ _ _ h => h) (.inl ⟨rfl, ?_⟩) BV.out ?_
    rotate_left 1
    · intro w hSw; go_simp; try with_reducible rfl
    simp only [Act.put, List.setIfInBounds_toArray, List.set_cons_zero, List.set_cons_succ]
    refine take_at (i := 7) 18 (.agg VA) rfl rfl (by kernel_rfl) (by kernel_rfl) (by kernel_rfl) (fun _ _ _ h => h) (yields_ld (.tmp 5) 27 (.pointer (some ⟨vb, 0, none⟩)) _ LV.out rfl rfl rfl) BV.out ?_
    simp only [Act.put, List.setIfInBounds_toArray, List.set_cons_zero, List.set_cons_succ]
    refine take_at (i := 9) 20 ?_ rfl rfl (by kernel_rfl) (by kernel_rfl) (by kernel_rfl) (fun _ _ _ h => h) (.inl ⟨rfl, ?_⟩) BV.out ?_
    rotate_left 1
    · intro w hSw; go_simp; try with_reducible rfl
    simp only [Act.put, List.setIfInBounds_toArray, List.set_cons_zero, List.set_cons_succ]
    refine take_at (i := 10) 21 (.agg VA) rfl rfl (by kernel_rfl) (by kernel_rfl) (by kernel_rfl) (fun _ _ _ h => h) (yields_ld (.tmp 5) 27 (.pointer (some ⟨vb, 0, none⟩)) _ LV.out rfl rfl rfl) BV.out ?_
    simp only [Act.put, List.setIfInBounds_toArray, List.set_cons_zero, List.set_cons_succ]
    refine wpAnyH_ready (rs := [8]) (by kernel_rfl) (by simp) (br_call (i := 8) 19 11 #[.slice ao l.length cap, .agg VA] rfl rfl rfl (by go_simp) ((C11.out _ BV.out).mono ?_) AllReadyH.nil)
    rintro e v4 ⟨r3, rfl, ho, hb⟩
    have BV := Lib.hid (BV.out.trans (hb.mono BV.out.size))
    have Z1 := Lib.hid (Z1.out.step hb)
    have Z2 := Lib.hid (Z2.out.step hb)
    have Z3 := Lib.hid ho
    clear ho
    clear hb
    refine ⟨_, rfl, BV.out, fun _ => ?_⟩
    simp only [Act.put, List.setIfInBounds_toArray, List.set_cons_zero, List.set_cons_succ]
    refine wpAnyH_ready (rs := [11]) (by kernel_rfl) (by simp) (br_call (i := 11) 22 12 #[.slice ao l.length cap, .agg VA] rfl rfl rfl (by go_simp) ((C12.out _ BV.out).mono ?_) AllReadyH.nil)
    rintro e v5 ⟨r4, rfl, ho, hb⟩
    have BV := Lib.hid (BV.out.trans (hb.mono BV.out.size))
    have Z1 := Lib.hid (Z1.out.step hb)
    have Z2 := Lib.hid (Z2.out.step hb)
    have Z3 := Lib.hid (Z3.out.step hb)
    have Z4 := Lib.hid ho
    clear ho
    clear hb
    refine ⟨_, rfl, BV.out, fun _ => ?_⟩
    simp only [Act.put, List.setIfInBounds_toArray, List.set_cons_zero, List.set_cons_succ]
    refine wpAnyH_ready (rs := [12]) (by kernel_rfl) (by simp) (br_call (i := 12) 23 8 #[r3, r4] rfl rfl rfl (by go_simp) ((same_go _ r3 r4 K1 Z3.out Z4.out).mono ?_) AllReadyH.nil)
    rintro e v6 ⟨rfl, hb⟩
    have BV := Lib.hid (BV.out.trans (hb.mono BV.out.size))
    have Z1 := Lib.hid (Z1.out.step hb)
    have Z2 := Lib.hid (Z2.out.step hb)
    have Z3 := Lib.hid (Z3.out.step hb)
    have Z4 := Lib.hid (Z4.out.step hb)
    clear hb
    refine ⟨_, rfl, BV.out, fun _ => ?_⟩
    simp only [Act.put, List.setIfInBounds_toArray, List.set_cons_zero, List.set_cons_succ]
    refine take_at (i := 13) 24 ?_ rfl rfl (by kernel_rfl) (by kernel_rfl) (by kernel_rfl) (fun _ _ _ h => h) (.inl ⟨rfl, ?_⟩) BV.out ?_
    rotate_left 1
    · intro w hSw; go_simp; try with_reducible rfl
    simp only [Act.put, List.setIfInBounds_toArray, List.set_cons_zero, List.set_cons_succ]
    refine take_at (i := 14) 25 ?_ rfl rfl (by kernel_rfl) (by kernel_rfl) (by kernel_rfl) (fun _ _ _ h => h) (.inl ⟨rfl, ?_⟩) BV.out ?_
    rotate_left 1
    · intro w hSw; go_simp; try with_reducible rfl
    simp only [Act.put, List.setIfInBounds_toArray, List.set_cons_zero, List.set_cons_succ]
    refine take_at (i := 15) 26 ?_ rfl rfl (by kernel_rfl) (by kernel_rfl) (by kernel_rfl) (fun _ _ _ h => h) (.inl ⟨rfl, ?_⟩) BV.out ?_
    rotate_left 1
    · intro w hSw; go_simp; try with_reducible rfl
    simp only [Act.put, List.setIfInBounds_toArray, List.set_cons_zero, List.set_cons_succ]
    refine take_at (i := 17) 28 ?_ rfl rfl (by kernel_rfl) (by kernel_rfl) (by kernel_rfl) (fun _ _ _ h => h) (.inl ⟨rfl, ?_⟩) BV.out ?_
    rotate_left 1
    · intro w hSw; go_simp; try with_reducible rfl
    simp only [Act.put, List.setIfInBounds_toArray, List.set_cons_zero, List.set_cons_succ]
    refine wpAnyH_ready (rs := [16]) (by kernel_rfl) (by simp) (br_call (i := 16) 27 13 #[.slice ao l.length cap] rfl rfl rfl (by go_simp) ((C13.out _ BV.out).mono ?_) AllReadyH.nil)
    rintro e v7 ⟨rfl, hb⟩
    have BV := Lib.hid (BV.out.trans (hb.mono BV.out.size))
    have Z1 := Lib.hid (Z1.out.step hb)
    have Z2 := Lib.hid (Z2.out.step hb)
    have Z3 := Lib.hid (Z3.out.step hb)
    have Z4 := Lib.hid (Z4.out.step hb)
    clear hb
    refine ⟨_, rfl, BV.out, fun _ => ?_⟩
    simp only [Act.put, List.setIfInBounds_toArray, List.set_cons_zero, List.set_cons_succ]
    refine wpAnyH_ready (rs := [18]) (by kernel_rfl) (by simp) (br_call (i := 18) 29 14 #[.slice ao l.length cap] rfl rfl rfl (by go_simp) ((C14.out _ BV.out).mono ?_) AllReadyH.nil)
    rintro e v8 ⟨rfl, hb⟩
    have BV := Lib.hid (BV.out.trans (hb.mono BV.out.size))
    have Z1 := Lib.hid (Z1.out.step hb)
    have Z2 := Lib.hid (Z2.out.step hb)
    have Z3 := Lib.hid (Z3.out.step hb)
    have Z4 := Lib.hid (Z4.out.step hb)
    clear hb
    refine ⟨_, rfl, BV.out, fun _ => ?_⟩
    simp only [Act.put, List.setIfInBounds_toArray, List.set_cons_zero, List.set_cons_succ]
    refine take_at (i := 19) 30 (.bool true) rfl rfl (by kernel_rfl) (by kernel_rfl) (by kernel_rfl) (fun _ _ _ h => h) (yields_bin .eql (.tmp 27) (.tmp 29) 27 27 (.agg VO) (.agg VO) _ EV.out (geqV _ _ _ _) rfl rfl rfl rfl) BV.out ?_
    simp only [Act.put, List.setIfInBounds_toArray, List.set_cons_zero, List.set_cons_succ]
    refine take_at (i := 20) 31 ?_ rfl rfl (by kernel_rfl) (by kernel_rfl) (by kernel_rfl) (fun _ _ _ h => h) (.inl ⟨rfl, ?_⟩) BV.out ?_
    rotate_left 1
    · intro w hSw; go_simp; try with_reducible rfl
    simp only [Act.put, List.setIfInBounds_toArray, List.set_cons_zero, List.set_cons_succ]
    refine take_at (i := 21) 32 ?_ rfl rfl (by kernel_rfl) (by kernel_rfl) (by kernel_rfl) (fun _ _ _ h => h) (.inl ⟨rfl, ?_⟩) BV.out ?_
    rotate_left 1
    · intro w hSw; go_simp; try with_reducible rfl
    simp only [Act.put, List.setIfInBounds_toArray, List.set_cons_zero, List.set_cons_succ]
    refine take_at (i := 22) 33 ?_ rfl rfl (by kernel_rfl) (by kernel_rfl) (by kernel_rfl) (fun _ _ _ h => h) (.inl ⟨rfl, ?_⟩) BV.out ?_
    rotate_left 1
    · intro w hSw; go_simp; try with_reducible rfl
    simp only [Act.put, List.setIfInBounds_toArray, List.set_cons_zero, List.set_cons_succ]
    refine take_at (i := 24) 35 ?_ rfl rfl (by kernel_rfl) (by kernel_rfl) (by kernel_rfl) (fun _ _ _ h => h) (.inl ⟨rfl, ?_⟩) BV.out ?_
    rotate_left 1
    · intro w hSw; go_simp; try with_reducible rfl
    simp only [Act.put, List.setIfInBounds_toArray, List.set_cons_zero, List.set_cons_succ]
    refine wpAnyH_ready (rs := [23]) (by kernel_rfl) (by simp) (br_call (i := 23) 34 15 #[.slice ao l.length cap] rfl rfl rfl (by go_simp) ((C15.out _ BV.out).mono ?_) AllReadyH.nil)
    rintro e v9 ⟨rfl, hb⟩
    have BV := Lib.hid (BV.out.trans (hb.mono BV.out.size))
    have Z1 := Lib.hid (Z1.out.step hb)
    have Z2 := Lib.hid (Z2.out.step hb)
    have Z3 := Lib.hid (Z3.out.step hb)
    have Z4 := Lib.hid (Z4.out.step hb)
    clear hb
    refine ⟨_, rfl, BV.out, fun _ => ?_⟩
    simp only [Act.put, List.setIfInBounds_toArray, List.set_cons_zero, List.set_cons_succ]
    refine wpAnyH_ready (rs := [25]) (by kernel_rfl) (by simp) (br_call (i := 25) 36 16 #[.slice ao l.length cap] rfl rfl rfl (by go_simp) ((C16.out _ BV.out).mono ?_) AllReadyH.nil)
    rintro e v10 ⟨rfl, hb⟩
    have BV := Lib.hid (BV.out.trans (hb.mono BV.out.size))
    have Z1 := Lib.hid (Z1.out.step hb)
    have Z2 := Lib.hid (Z2.out.step hb)
    have Z3 := Lib.hid (Z3.out.step hb)
    have Z4 := Lib.hid (Z4.out.step hb)
    clear hb
    refine ⟨_, rfl, BV.out, fun _ => ?_⟩
    simp only [Act.put, List.setIfInBounds_toArray, List.set_cons_zero, List.set_cons_succ]
    refine take_at (i := 26) 37 (.bool true) rfl rfl (by kernel_rfl) (by kernel_rfl) (by kernel_rfl) (fun _ _ _ h => h) (yields_bin .eql (.tmp 34) (.tmp 36) 3 3 (.int .i64 TO) (.int .i64 TO) _ ET.out (geq3 _ _ _ _) rfl rfl rfl rfl) BV.out ?_
    simp only [Act.put, List.setIfInBounds_toArray, List.set_cons_zero, List.set_cons_succ]
    refine take_at (i := 27) 38 ?_ rfl rfl (by kernel_rfl) (by kernel_rfl) (by kernel_rfl) (fun _ _ _ h => h) (.inl ⟨rfl, ?_⟩) BV.out ?_
    rotate_left 1
    · intro w hSw; go_simp; try with_reducible rfl
    simp only [Act.put, List.setIfInBounds_toArray, List.set_cons_zero, List.set_cons_succ]
    refine take_at (i := 28) 39 ?_ rfl rfl (by kernel_rfl) (by kernel_rfl) (by kernel_rfl) (fun _ _ _ h => h) (.inl ⟨rfl, ?_⟩) BV.out ?_
    rotate_left 1
    · intro w hSw; go_simp; try with_reducible rfl
    simp only [Act.put, List.setIfInBounds_toArray, List.set_cons_zero, List.set_cons_succ]
    refine take_at (i := 29) 40 ?_ rfl rfl (by kernel_rfl) (by kernel_rfl) (by kernel_rfl) (fun _ _ _ h => h) (.inl ⟨rfl, ?_⟩) BV.out ?_
    rotate_left 1
    · intro w hSw; go_simp; try with_reducible rfl
    simp only [Act.put, List.setIfInBounds_toArray, List.set_cons_zero, List.set_cons_succ]
    refine take_at (i := 31) 42 ?_ rfl rfl (by kernel_rfl) (by kernel_rfl) (by kernel_rfl) (fun _ _ _ h => h) (.inl ⟨rfl, ?_⟩) BV.out ?_
    rotate_left 1
    · intro w hSw; go_simp; try with_reducible rfl
    simp only [Act.put, List.setIfInBounds_toArray, List.set_cons_zero, List.set_cons_succ]
    refine wpAnyH_ready (rs := [30]) (by kernel_rfl) (by simp) (br_call (i := 30) 41 17 #[.slice ao l.length cap] rfl rfl rfl (by go_simp) ((C17.out _ BV.out).mono ?_) AllReadyH.nil)
    rintro e v11 ⟨rfl, hb⟩
    have BV := Lib.hid (BV.out.trans (hb.mono BV.out.size))
    have Z1 := Lib.hid (Z1.out.step hb)
    have Z2 := Lib.hid (Z2.out.step hb)
    have Z3 := Lib.hid (Z3.out.step hb)
    have Z4 := Lib.hid (Z4.out.step hb)
    clear hb
    refine ⟨_, rfl, BV.out, fun _ => ?_⟩
    simp only [Act.put, List.setIfInBounds_toArray, List.set_cons_zero, List.set_cons_succ]
    refine wpAnyH_ready (rs := [32]) (by kernel_rfl) (by simp) (br_call (i := 32) 43 18 #[.slice ao l.length cap] rfl rfl rfl (by go_simp) ((C18.out _ BV.out).mono ?_) AllReadyH.nil)
    rintro e v12 ⟨rfl, hb⟩
    have BV := Lib.hid (BV.out.trans (hb.mono BV.out.size))
    have Z1 := Lib.hid (Z1.out.step hb)
    have Z2 := Lib.hid (Z2.out.step hb)
    have Z3 := Lib.hid (Z3.out.step hb)
    have Z4 := Lib.hid (Z4.out.step hb)
    clear hb
    refine ⟨_, rfl, BV.out, fun _ => ?_⟩
    simp only [Act.put, List.setIfInBounds_toArray, List.set_cons_zero, List.set_cons_succ]
    refine take_at (i := 33) 44 (.bool true) rfl rfl (by kernel_rfl) (by kernel_rfl) (by kernel_rfl) (fun _ _ _ h => h) (yields_bin .eql (.tmp 41) (.tmp 43) 4 4 (.bool hp) (.bool hp) _ EH.out (geq4 _ _ _ _) rfl rfl rfl rfl) BV.out ?_
    simp only [Act.put, List.setIfInBounds_toArray, List.set_cons_zero, List.set_cons_succ]
    refine take_at (i := 34) 45 ?_ rfl rfl (by kernel_rfl) (by kernel_rfl) (by kernel_rfl) (fun _ _ _ h => h) (.inl ⟨rfl, ?_⟩) BV.out ?_
    rotate_left 1
    · intro w hSw; go_simp; try with_reducible rfl
    simp only [Act.put, List.setIfInBounds_toArray, List.set_cons_zero, List.set_cons_succ]
    refine take_at (i := 35) 46 ?_ rfl rfl (by kernel_rfl) (by kernel_rfl) (by kernel_rfl) (fun _ _ _ h => h) (.inl ⟨rfl, ?_⟩) BV.out ?_
    rotate_left 1
    · intro w hSw; go_simp; try with_reducible rfl
    simp only [Act.put, List.setIfInBounds_toArray, List.set_cons_zero, List.set_cons_succ]
    refine wpAnyH_ready (rs := [36]) (by kernel_rfl) (by simp) (br_call (i := 36) 47 6 #[] rfl rfl rfl (by go_simp) ((AW.out _).mono ?_) AllReadyH.nil)
    rintro e v13 ⟨rfl, hb⟩
    have BV := Lib.hid (BV.out.trans (hb.mono BV.out.size))
    have Z1 := Lib.hid (Z1.out.step hb)
    have Z2 := Lib.hid (Z2.out.step hb)
    have Z3 := Lib.hid (Z3.out.step hb)
    have Z4 := Lib.hid (Z4.out.step hb)
    clear hb
    refine ⟨_, rfl, BV.out, fun _ => ?_⟩
    simp only [Act.put, List.setIfInBounds_toArray, List.set_cons_zero, List.set_cons_succ]
    refine take_at (i := 37) 48 ?_ rfl rfl (by kernel_rfl) (by kernel_rfl) (by kernel_rfl) (fun _ _ _ h => h) (.inl ⟨rfl, ?_⟩) BV.out ?_
    rotate_left 1
    · intro w hSw; go_simp; try with_reducible rfl
    simp only [Act.put, List.setIfInBounds_toArray, List.set_cons_zero, List.set_cons_succ]
    refine take_at (i := 38) 4 ?_ rfl rfl (by kernel_rfl) (by kernel_rfl) (by kernel_rfl) (fun _ _ _ h => h) (.inl ⟨rfl, ?_⟩) BV.out ?_
    rotate_left 1
    · intro w hSw; go_simp; try with_reducible rfl
    simp only [Act.put, List.setIfInBounds_toArray, List.set_cons_zero, List.set_cons_succ]
    refine wpAnyH_done (by kernel_rfl) ?_ _
    have FB := Lib.hid (B2.out.trans (BV.out.mono B2.out.size))
    clear BV
    go_wp2
    go_returns
    exact ⟨rfl, FB.out⟩
end Go.Proofs.YtbeodechhneeeaaDoor
