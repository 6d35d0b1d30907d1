/- Merged by tools/merge.py: FZ, GA. -/
import Derived.Test.YtbeodechhneeeaaGreatDoorFJ
import Derived.Test.YtbeodechhneeeaaGreatDoorFK
import Derived.Deep.RegionHeld3
import Derived.Laws.StructEq

set_option linter.unusedVariables false
set_option linter.unusedSimpArgs false
set_option maxRecDepth 100000
namespace Go.Proofs.YtbeodechhneeeaaGreatDoor
open Go.RowKit Go.Shelf
open Tb (Rw setF getF aboveF Rise TabI TM LiesK LiesR ltS encS Sp)
open Vx (zs zs_len)

/-- Sorted: nothing behind comes ahead. -/
def SrtP (S : List O) : Prop := S.Pairwise (fun a b => lessO b a = false)
theorem set_srt (l : List O) : SrtP (setO l) := by
  have := (srt_ok (uniqF l) [] List.Pairwise.nil).1
  exact this.imp (fun {a b} h => by rw [← lt_cf]; exact h)
theorem less_no {a b : O} (h : lessO b a = false) : a.t < b.t ∨ (a.t = b.t ∧ a.r ≤ b.r) := by
  rw [less_dec] at h
  have := of_decide_eq_false h
  omega
theorem max_le {S : List O} {m : Int} (h0 : 0 ≤ m) (h : ∀ x ∈ S, x.t ≤ m) : maxF S ≤ m := by
  have key : ∀ (L : List O) (a : Int), a ≤ m → (∀ x ∈ L, x.t ≤ m) → L.foldl (fun m o => if m < o.t then o.t else m) a ≤ m := by
    intro L
    induction L with
    | nil => intro a ha _; exact ha
    | cons x L ih =>
      intro a ha hx
      refine ih _ ?_ (fun y hy => hx y (List.mem_cons_of_mem _ hy))
      show (if a < x.t then x.t else a) ≤ m
      split
      · exact hx x (List.mem_cons_self ..)
      · exact ha
  exact key S 0 h0 h
theorem max_time {S : List O} (hs : SrtP S) (h0 : ∀ x ∈ S, 0 ≤ x.t) : maxF S = timeO S := by
  rcases List.eq_nil_or_concat S with rfl | ⟨L, x, rfl⟩
  · rfl
  · rw [List.concat_eq_append] at *
    have hx := h0 x (by simp)
    have e : timeO (L ++ [x]) = x.t := by unfold timeO; simp
    rw [e]
    have hL : ∀ y ∈ L, y.t ≤ x.t := fun y hy => by
      have := (List.pairwise_append.1 hs).2.2 y hy x (by simp)
      have := less_no this
      omega
    have hm := max_le hx hL
    unfold maxF at hm ⊢
    rw [List.foldl_append]
    show (if _ < x.t then x.t else _) = x.t
    split
    · rfl
    · omega
theorem right_t {x : O} (h : rO x = true) : 0 ≤ x.t := by
  unfold rO rB St.rightB St.rT at h
  simp only [Bool.and_eq_true, decide_eq_true_eq] at h
  omega
theorem time_same (l : List O) : maxF (setO l) = timeO (setO l) :=
  max_time (set_srt l) (fun x hx => right_t ((uniq_is l).right x (srt_mem hx)))
/-! ### Honest -/
theorem ins_perm (x : O) : ∀ u : List O, (ins x u).Perm (x :: u)
  | [] => List.Perm.refl _
  | y :: u => by
    unfold ins
    split
    · exact List.Perm.refl _
    · exact ((ins_perm x u).cons y).trans (List.Perm.swap x y u)
theorem srt_perm (l : List O) : (srtO l).Perm l := by
  have key : ∀ (l u : List O), (l.foldl (fun u x => insO x u) u).Perm (u ++ l) := by
    intro l
    induction l with
    | nil => intro u; simp
    | cons x l ih =>
      intro u
      refine (ih (insO x u)).trans ?_
      rw [insO_ins]
      refine ((ins_perm x u).append_right l).trans ?_
      exact (List.perm_middle (a := x) (l₁ := u) (l₂ := l)).symm
  simpa [srtO] using key l []
/-- Two ops that may lie together. -/
def RP (a b : O) : Prop := ¬ (a.t = b.t ∧ a.r = b.r) ∧ (a.r = b.r → a.q ≠ b.q ∧ (b.q < a.q ↔ b.t < a.t))
theorem RP.symm {a b : O} (h : RP a b) : RP b a := by
  obtain ⟨h1, h2⟩ := h
  refine ⟨fun e => h1 ⟨e.1.symm, e.2.symm⟩, fun e => ?_⟩
  obtain ⟨h3, h4⟩ := h2 e.symm
  refine ⟨fun q => h3 q.symm, ?_⟩
  have h5 : a.t ≠ b.t := fun q => h1 ⟨q, e.symm⟩
  constructor
  · intro q
    have : ¬ b.t < a.t := fun z => by have := h4.2 z; omega
    omega
  · intro q
    have : ¬ b.q < a.q := fun z => by have := h4.1 z; omega
    omega
theorem okP_iff (x y : O) : okP x y = true ↔ RP x y := by
  unfold okP RP
  by_cases h1 : y.t = x.t ∧ y.r = x.r
  · rw [decide_eq_true h1]
    exact ⟨fun h => (by cases h), fun h => absurd ⟨h1.1.symm, h1.2.symm⟩ h.1⟩
  · rw [decide_eq_false h1]
    have e1 : ¬ (x.t = y.t ∧ x.r = y.r) := fun q => h1 ⟨q.1.symm, q.2.symm⟩
    by_cases h2 : y.r = x.r
    · rw [decide_eq_true h2]
      by_cases h3 : y.q = x.q
      · rw [decide_eq_true h3]
        exact ⟨fun h => (by cases h), fun h => absurd h3.symm (h.2 h2.symm).1⟩
      · rw [decide_eq_false h3]
        by_cases h4 : y.q < x.q <;> by_cases h5 : y.t < x.t <;> simp [h4, h5, e1] <;> omega
    · rw [decide_eq_false h2]
      exact ⟨fun _ => ⟨e1, fun q => absurd q.symm h2⟩, fun _ => rfl⟩
theorem uq_full : ∀ (m u : List O), (m.foldl uqO u).length ≤ u.length + m.length ∧ ((m.foldl uqO u).length = u.length + m.length → m.foldl uqO u = u ++ m)
  | [], u => ⟨Nat.le_refl _, fun _ => by simp⟩
  | o :: m, u => by
    obtain ⟨h1, h2⟩ := uq_full m (uqO u o)
    show (m.foldl uqO (uqO u o)).length ≤ _ ∧ ((m.foldl uqO (uqO u o)).length = _ → m.foldl uqO (uqO u o) = _)
    rw [List.length_cons]
    unfold uqO at h1 h2 ⊢
    by_cases hc : rO o = true ∧ hasO u o.t o.r = false
    · rw [if_pos hc] at h1 h2 ⊢
      rw [List.length_append] at h1 h2
      exact ⟨by simp at h1; omega, fun h => by rw [h2 (by simp; omega)]; simp⟩
    · rw [if_neg hc] at h1 h2 ⊢
      exact ⟨by omega, fun h => by omega⟩
theorem uq_all : ∀ (m u : List O), (∀ o ∈ m, rO o = true) → (u ++ m).Pairwise (fun a b => ¬ (a.t = b.t ∧ a.r = b.r)) → m.foldl uqO u = u ++ m
  | [], u, _, _ => by simp
  | o :: m, u, h1, h2 => by
    have hn : hasO u o.t o.r = false := by
      cases hq : hasO u o.t o.r with
      | false => rfl
      | true =>
        obtain ⟨y, hy, hz⟩ := List.any_eq_true.1 hq
        exact absurd (of_decide_eq_true hz) ((List.pairwise_append.1 h2).2.2 y hy o (List.mem_cons_self ..))
    have e : uqO u o = u ++ [o] := if_pos ⟨h1 o (List.mem_cons_self ..), hn⟩
    show m.foldl uqO (uqO u o) = _
    rw [e, uq_all m (u ++ [o]) (fun x hx => h1 x (List.mem_cons_of_mem _ hx)) (by simpa using h2)]
    simp
theorem rise_iff : ∀ (S : List O) (v : List Int), v.length = 64 → (∀ x ∈ S, 0 ≤ x.r ∧ x.r < 64) → (riseQ v S = true ↔ (∀ x ∈ S, v.getD x.r.toNat 0 < x.q) ∧ S.Pairwise (fun a b => a.r = b.r → a.q < b.q))
  | [], v, _, _ => ⟨fun _ => ⟨fun x hx => (by cases hx), List.Pairwise.nil⟩, fun _ => rfl⟩
  | o :: L, v, hv, hr => by
    have ho := hr o (List.mem_cons_self ..)
    have ih := rise_iff L (v.set o.r.toNat o.q) (by rw [List.length_set]; exact hv) (fun x hx => hr x (List.mem_cons_of_mem _ hx))
    have hg : ∀ x ∈ L, (v.set o.r.toNat o.q).getD x.r.toNat 0 = if x.r = o.r then o.q else v.getD x.r.toNat 0 := fun x hx => by
      have hx := hr x (List.mem_cons_of_mem _ hx)
      rw [List.getD_eq_getElem?_getD, List.getElem?_set]
      by_cases e : x.r = o.r
      · rw [if_pos e, if_pos (by rw [e]), if_pos (by rw [hv]; omega)]; rfl
      · rw [if_neg e, if_neg (by omega), ← List.getD_eq_getElem?_getD]
    show (if o.q ≤ v.getD o.r.toNat 0 then false else riseQ (v.set o.r.toNat o.q) L) = true ↔ _
    rw [List.pairwise_cons]
    by_cases hq : o.q ≤ v.getD o.r.toNat 0
    · rw [if_pos hq]
      exact ⟨fun h => (by cases h), fun h => by have := h.1 o (List.mem_cons_self ..); omega⟩
    · rw [if_neg hq, ih]
      constructor
      · rintro ⟨h1, h2⟩
        refine ⟨fun x hx => ?_, fun x hx e => ?_, h2⟩
        · rcases List.mem_cons.1 hx with rfl | hx
          · omega
          · have := h1 x hx
            rw [hg x hx] at this
            split at this
            · rename_i e; rw [e]; omega
            · exact this
        · have := h1 x hx
          rw [hg x hx, if_pos e.symm] at this
          exact this
      · rintro ⟨h1, h2, h3⟩
        refine ⟨fun x hx => ?_, h3⟩
        rw [hg x hx]
        split
        · rename_i e; exact h2 x hx e.symm
        · exact h1 x (List.mem_cons_of_mem _ hx)
theorem g_is (a b : Int) : ∀ (L : List O) (g : GF), L.Pairwise (fun a b => ¬ (a.t = b.t ∧ a.r = b.r)) → (∀ y ∈ L, isMk y → y.t = a → y.r = b → (L.foldl gx g) a b = some y) ∧ ((∀ y ∈ L, ¬ (isMk y ∧ y.t = a ∧ y.r = b)) → (L.foldl gx g) a b = g a b)
  | [], g, _ => ⟨fun y hy => (by cases hy), fun _ => rfl⟩
  | x :: L, g, hp => by
    obtain ⟨p1, p2⟩ := List.pairwise_cons.1 hp
    obtain ⟨h1, h2⟩ := g_is a b L (gx g x) p2
    show (∀ y ∈ x :: L, isMk y → y.t = a → y.r = b → (L.foldl gx (gx g x)) a b = some y) ∧ (_ → (L.foldl gx (gx g x)) a b = g a b)
    refine ⟨fun y hy hm e1 e2 => ?_, fun hn => ?_⟩
    · rcases List.mem_cons.1 hy with rfl | hy
      · rw [h2 (fun z hz q => p1 z hz ⟨e1.trans q.2.1.symm, e2.trans q.2.2.symm⟩)]
        unfold gx
        rw [if_pos hm]
        exact if_pos ⟨e1.symm, e2.symm⟩
      · exact h1 y hy hm e1 e2
    · rw [h2 (fun z hz => hn z (List.mem_cons_of_mem _ hz))]
      unfold gx
      split
      · rename_i hm
        exact if_neg (fun q => hn x (List.mem_cons_self ..) ⟨hm, q.1.symm, q.2.symm⟩)
      · rfl
theorem g_md {S l : List O} (hp : S.Perm l) (hd : S.Pairwise (fun a b => ¬ (a.t = b.t ∧ a.r = b.r))) (a b : Int) (d : Bool) : ((gF S a b).isSome && (((gF S a b).getD O0).d == d)) = mdB l a b d := by
  obtain ⟨h1, h2⟩ := g_is a b S (fun _ _ => none) hd
  by_cases h : ∃ y ∈ S, isMk y ∧ y.t = a ∧ y.r = b
  · obtain ⟨y, hy, hm, e1, e2⟩ := h
    have e : gF S a b = some y := h1 y hy hm e1 e2
    rw [e]
    show (true && (y.d == d)) = _
    rw [Bool.true_and]
    cases hq : (y.d == d) with
    | true =>
      refine (List.any_eq_true.2 ⟨y, hp.mem_iff.1 hy, ?_⟩).symm
      rw [decide_eq_true ⟨e1, e2⟩, decide_eq_true (show y.nt = a ∧ y.nr = b from ⟨hm.1.symm.trans e1, hm.2.symm.trans e2⟩), hq]
      rfl
    | false =>
      refine (Bool.eq_false_iff.2 fun q => ?_).symm
      obtain ⟨z, hz, hw⟩ := List.any_eq_true.1 q
      simp only [Bool.and_eq_true, decide_eq_true_eq] at hw
      obtain ⟨⟨z1, z2⟩, ⟨z3, z4⟩, z5⟩ := hw
      have := h1 z (hp.mem_iff.2 hz) ⟨z1.trans z3.symm, z2.trans z4.symm⟩ z1 z2
      have e' := e.symm.trans this
      injection e' with e'
      subst e'
      rw [z5] at hq
      cases hq
  · have e : gF S a b = none := h2 (fun y hy q => h ⟨y, hy, q⟩)
    rw [e]
    show false = _
    refine (Bool.eq_false_iff.2 fun q => ?_).symm
    obtain ⟨z, hz, hw⟩ := List.any_eq_true.1 q
    simp only [Bool.and_eq_true, decide_eq_true_eq] at hw
    obtain ⟨⟨z1, z2⟩, ⟨z3, z4⟩, z5⟩ := hw
    exact h ⟨z, hp.mem_iff.2 hz, ⟨z1.trans z3.symm, z2.trans z4.symm⟩, z1, z2⟩
theorem right_q {x : O} (h : rO x = true) : 1 ≤ x.q := by
  unfold rO rB at h
  simp only [Bool.and_eq_true, decide_eq_true_eq] at h
  exact h.2.1
theorem hon_same (l : List O) : honR l = honestP l := by
  have hP := srt_perm (uniqF l)
  have key : honR l = true ↔ honestP l = true := by
    constructor
    · intro h
      have h : ∀ i, okI l i := @of_decide_eq_true _ (Classical.propDecidable _) h
      have hr : ∀ o ∈ l, rO o = true := fun o ho => by
        obtain ⟨i, hi, e⟩ := List.mem_iff_getElem.1 ho
        have := (h i o (by rw [List.getElem?_eq_getElem hi, e])).1
        unfold okA at this
        simp only [Bool.and_eq_true] at this
        exact this.1
      have hpr : l.Pairwise RP := List.pairwise_iff_getElem.2 fun i j hi hj hij => (okP_iff _ _).1 ((h i _ (List.getElem?_eq_getElem hi)).2 j _ (List.getElem?_eq_getElem hj) (by omega))
      have hu : uniqF l = l := by
        have := uq_all l [] hr (by simpa using hpr.imp (fun {a b} q => q.1))
        simpa [uniqF] using this
      rw [hu] at hP
      have hS : (srtO l).Pairwise RP := (hP.pairwise_iff (fun {a b} q => RP.symm q)).2 hpr
      have hq : setO l = srtO l := by unfold setO; rw [hu]
      unfold honestP
      rw [hq]
      rw [decide_eq_true (srtO_len l), Bool.true_and, Bool.and_eq_true]
      have hrs : ∀ x ∈ srtO l, rO x = true := fun x hx => hr x (srt_mem hx)
      refine ⟨(rise_iff (srtO l) zs zs_len (fun x hx => rO_rep (hrs x hx))).2 ⟨fun x hx => ?_, ?_⟩, List.all_eq_true.2 fun x hx => ?_⟩
      · have h1 := right_q (hrs x hx)
        have h2 := rO_rep (hrs x hx)
        have : zs.getD x.r.toNat 0 = 0 := by
          show (List.replicate 64 (0 : Int)).getD x.r.toNat 0 = 0
          rw [List.getD_eq_getElem?_getD, List.getElem?_replicate]
          split <;> rfl
        omega
      · have hs := set_srt l
        rw [hq] at hs
        refine (hs.and hS).imp (fun {a b} q e => ?_)
        obtain ⟨q1, q2, q3⟩ := q
        obtain ⟨q4, q5⟩ := q3 e
        have q6 := less_no q1
        have : ¬ b.t < a.t := by omega
        have : ¬ b.q < a.q := fun z => this (q5.1 z)
        omega
      · obtain ⟨i, hi, e⟩ := List.mem_iff_getElem.1 (srt_mem hx)
        have := (h i x (by rw [List.getElem?_eq_getElem hi, e])).1
        unfold okA at this
        rw [hr x (srt_mem hx), Bool.true_and] at this
        have hd := hS.imp (fun {a b} q => q.1)
        unfold okR
        rw [g_md hP hd x.nt x.nr x.d]
        have g2 := g_md hP hd x.pt x.pr true
        rw [show (((gF (srtO l) x.pt x.pr).getD O0).d == true) = ((gF (srtO l) x.pt x.pr).getD O0).d from by cases ((gF (srtO l) x.pt x.pr).getD O0).d <;> rfl] at g2
        rw [g2]
        exact this
    · intro h
      unfold honestP at h
      simp only [Bool.and_eq_true, decide_eq_true_eq] at h
      obtain ⟨h1, h2, h3⟩ := h
      have hu : uniqF l = l := by
        have := (uq_full l []).2 (by
          have e : (setO l).length = (uniqF l).length := srtO_len _
          have e2 : (l.foldl uqO []).length = l.length := e.symm.trans h1
          rw [e2]; simp)
        simpa [uniqF] using this
      have hq : setO l = srtO l := by unfold setO; rw [hu]
      have hU := uniq_is l
      rw [hu] at hU hP
      rw [hq] at h2 h3
      have hr : ∀ o ∈ l, rO o = true := hU.right
      have hrs : ∀ x ∈ srtO l, rO x = true := fun x hx => hr x (srt_mem hx)
      have hd : (srtO l).Pairwise (fun a b => ¬ (a.t = b.t ∧ a.r = b.r)) := (hP.pairwise_iff (fun {a b} q e => q ⟨e.1.symm, e.2.symm⟩)).2 hU.one
      have hri := ((rise_iff (srtO l) zs zs_len (fun x hx => rO_rep (hrs x hx))).1 h2).2
      have hs := set_srt l
      rw [hq] at hs
      have hS : (srtO l).Pairwise RP := ((hs.and hd).and hri).imp (fun {a b} q => by
        obtain ⟨⟨q1, q2⟩, q3⟩ := q
        refine ⟨q2, fun e => ?_⟩
        have q6 := less_no q1
        have q4 := q3 e
        have q5 : a.t ≠ b.t := fun z => q2 ⟨z, e⟩
        omega)
      have hpr : l.Pairwise RP := (hP.pairwise_iff (fun {a b} q => RP.symm q)).1 hS
      refine @decide_eq_true _ (Classical.propDecidable _) (fun i x hx => ⟨?_, fun j y hy hn => ?_⟩)
      · have hx := List.mem_of_getElem? hx
        have := List.all_eq_true.1 h3 x (hP.mem_iff.2 hx)
        unfold okA
        rw [hr x hx, Bool.true_and]
        unfold okR at this
        rw [g_md hP hd x.nt x.nr x.d] at this
        have g2 := g_md hP hd x.pt x.pr true
        rw [show (((gF (srtO l) x.pt x.pr).getD O0).d == true) = ((gF (srtO l) x.pt x.pr).getD O0).d from by cases ((gF (srtO l) x.pt x.pr).getD O0).d <;> rfl] at g2
        rw [g2] at this
        exact this
      · obtain ⟨hi, ei⟩ := List.getElem?_eq_some_iff.1 hx
        obtain ⟨hj, ej⟩ := List.getElem?_eq_some_iff.1 hy
        rw [okP_iff]
        have hh := List.pairwise_iff_getElem.1 hpr
        rcases Nat.lt_or_ge i j with q | q
        · have := hh i j hi hj q
          rwa [ei, ej] at this
        · have := hh j i hj hi (by omega)
          rw [ei, ej] at this
          exact this.symm
  cases h1 : honR l <;> cases h2 : honestP l <;> simp_all
end Go.Proofs.YtbeodechhneeeaaGreatDoor

set_option linter.unusedVariables false
namespace Go.Proofs.YtbeodechhneeeaaGreatDoor
open Go.RowKit
open Vx

theorem boxes (w : World) (A B : Array Value) (ty : TypeId) :
    Below w.heap.size w ((w.alloc (.cells A ty)).alloc (.cells B ty)) ∧ ((w.alloc (.cells A ty)).alloc (.cells B ty)).heap[w.heap.size]? = some (.cells A ty (0, 0)) ∧ ((w.alloc (.cells A ty)).alloc (.cells B ty)).heap[w.heap.size + 1]? = some (.cells B ty (0, 0)) := by
  have h1 := (Below.refl w.heap.size w).alloc (Nat.le_refl _) (.cells A ty)
  refine ⟨h1.alloc (by simp) _, ?_, ?_⟩
  · exact (((Below.refl _ (w.alloc (.cells A ty))).alloc (Nat.le_refl _) (.cells B ty)).block w.heap.size (by simp)).trans (heap_alloc_new w (.cells A ty))
  · have := heap_alloc_new (w.alloc (.cells A ty)) (.cells B ty)
    rw [World.size_alloc] at this
    exact this

theorem take_snoc' {α : Type} (l : List α) (i : Nat) (p : α) (h : l[i]? = some p) : l.take (i + 1) = l.take i ++ [p] := by
  obtain ⟨hl, he⟩ := List.getElem?_eq_some_iff.1 h
  rw [List.take_succ_eq_append_getElem hl, he]
/-- A slice of the law's pairs. -/
def LiesO (w : World) (v : Value) (l : List (Nat × Int)) : Prop := ∃ ao cap, v = .slice ao l.length cap ∧ l.length ≤ 9223372036854775807 ∧ (ao = none → l = []) ∧
  ∀ b, ao = some b → l ≠ [] → ∃ k o, b = ⟨k, o, none⟩ ∧ k < w.heap.size ∧ ∀ (j : Nat) p, l[j]? = some p → p.1 < 256 ∧ w.cell? ⟨k, o + j * 2, none⟩ = some (.int .u8 (p.1 : Int)) ∧ w.cell? ⟨k, o + j * 2 + 1, none⟩ = some (.int .i64 p.2)
theorem LiesO.later {w w' : World} {v : Value} {l : List (Nat × Int)} (h : LiesO w v l) (hb : Below w.heap.size w w') : LiesO w' v l := by
  obtain ⟨ao, cap, rfl, hn, h0, hc⟩ := h
  refine ⟨ao, cap, rfl, hn, h0, fun b hbb hne => ?_⟩
  obtain ⟨k, o, rfl, hk, hc⟩ := hc b hbb hne
  exact ⟨k, o, rfl, Nat.lt_of_lt_of_le hk hb.size, fun j p hj => ⟨(hc j p hj).1, (hb.cell (p := ⟨k, o + j * 2, none⟩) hk).trans (hc j p hj).2.1, (hb.cell (p := ⟨k, o + j * 2 + 1, none⟩) hk).trans (hc j p hj).2.2⟩⟩
theorem LiesO.at {w : World} {ao : Option Addr} {n cap : Nat} {l : List (Nat × Int)} (h : LiesO w (.slice ao n cap) l) {i : Nat} {p : Nat × Int} (hp : l[i]? = some p) :
    ∃ k o, ao = some ⟨k, o, none⟩ ∧ p.1 < 256 ∧ w.cell? ⟨k, o + i * 2, none⟩ = some (.int .u8 (p.1 : Int)) ∧ w.cell? ⟨k, o + i * 2 + 1, none⟩ = some (.int .i64 p.2) ∧ k < w.heap.size := by
  obtain ⟨ao', cap', e, h1, h3, h4⟩ := h
  injection e with e1 e2 e3
  subst e1
  cases ao with
  | none => have := h3 rfl; subst this; cases hp
  | some b =>
    obtain ⟨k, o, rfl, hk, hc⟩ := h4 b rfl (by rintro rfl; cases hp)
    exact ⟨k, o, rfl, (hc i p hp).1, (hc i p hp).2.1, (hc i p hp).2.2, hk⟩
theorem LiesO.shape {w : World} {v : Value} {l : List (Nat × Int)} (h : LiesO w v l) : ∃ ao cap, v = .slice ao l.length cap := by
  obtain ⟨ao, cap, e, _⟩ := h; exact ⟨ao, cap, e⟩
def putO (v : List Int) (p : Nat × Int) : List Int := v.set (p.1 % 64) p.2
def madeF (l : List (Nat × Int)) : List Int := (l.take 200).foldl putO zs
theorem putO_len (v : List Int) (p : Nat × Int) : (putO v p).length = v.length := by unfold putO; exact List.length_set
theorem foldP_len : ∀ (l : List (Nat × Int)) (v : List Int), (l.foldl putO v).length = v.length
  | [], v => rfl
  | p :: r, v => by rw [List.foldl_cons, foldP_len r, putO_len]
theorem madeF_len (l : List (Nat × Int)) : (madeF l).length = 64 := by unfold madeF; rw [foldP_len, zs_len]

end Go.Proofs.YtbeodechhneeeaaGreatDoor

set_option linter.unusedVariables false
namespace Go.Proofs.YtbeodechhneeeaaGreatDoor.Vx
open Go.RowKit

theorem all_range_int : ∀ (xs ys : List Int), xs.length = ys.length → ((List.range xs.length).all fun i => xs.getD i 0 == ys.getD i 0) = (xs == ys)
  | [], [], _ => rfl
  | x :: xs, y :: ys, h => by
    have ih := all_range_int xs ys (by simpa using h)
    rw [List.length_cons, List.range_succ_eq_map, List.all_cons, List.all_map]
    simp only [List.getD_cons_zero, Function.comp_def, List.getD_cons_succ, ih]
    simp [List.cons_beq_cons]
  | [], _ :: _, h => by simp at h
  | _ :: _, [], h => by simp at h
theorem size3 (w : World) : (sizeOf 3).run Tryz.prog w = .ok 1 w := by
  cases hq : Tryz.prog.info? 3 with
  | none => have := elem24; rw [hq] at this; simp at this
  | some j =>
    have hs : j.size = 1 := by have := elem24; rw [hq] at this; simpa using this
    simp [sizeOf, typeInfo, hq, hs]
theorem equalIn_va (w : World) (d : Nat) (xs ys : List Int) (hx : xs.length = 64) (hy : ys.length = 64) :
    (Op.equalIn (d + 2) 52 (.agg (va xs)) (.agg (va ys))).run Tryz.prog w = .ok (xs == ys) w := by
  have ht : Tryz.prog.underlying 52 = some (.array 64 3) := by kernel_rfl
  have he : Tryz.prog.underlying 3 = some (.int .i64) := by kernel_rfl
  rw [← all_range_int xs ys (hx.trans hy.symm), hx, List.range_eq_range', Op.equalIn]
  simp only [Sem.run_bind, run_underlying ht, Result.andThen_ok, size3, Std.Legacy.Range.forIn_eq_forIn_range', Std.Legacy.Range.size, Nat.sub_zero, Nat.add_sub_cancel, Nat.div_one]
  have hl : ∀ i ∈ List.range' 0 64 1, i < 64 := fun i hi => by simpa using (List.mem_range'_1.1 hi).2
  generalize List.range' 0 64 1 = l at hl ⊢
  induction l with
  | nil => simp
  | cons i l ih =>
    have hi : i < 64 := hl i (by simp)
    have px : (part 3 (va xs) (i * 1)).run Tryz.prog w = .ok (.int .i64 (xs.getD i 0)) w := by
      simp [va, part, isAgg, run_underlying he, List.getD, List.getElem?_eq_getElem (show i < xs.length by omega)]
    have py : (part 3 (va ys) (i * 1)).run Tryz.prog w = .ok (.int .i64 (ys.getD i 0)) w := by
      simp [va, part, isAgg, run_underlying he, List.getD, List.getElem?_eq_getElem (show i < ys.length by omega)]
    have pe : (Op.equalIn (d + 1) 3 (.int .i64 (xs.getD i 0)) (.int .i64 (ys.getD i 0))).run Tryz.prog w = .ok (xs.getD i 0 == ys.getD i 0) w := run_equalIn_int w d 3 .i64 .i64 _ _ he
    simp only [List.forIn_cons, Sem.run_bind, px, py, pe, Result.andThen_ok, List.all_cons]
    cases hb : (xs.getD i 0 == ys.getD i 0)
    · simp
    · simp only [Bool.not_true, Bool.false_eq_true, if_false, Sem.run_pure, Result.andThen_ok, Bool.true_and]
      exact ih fun j hj => hl j (by simp [hj])
theorem eql_va (w : World) (xs ys : List Int) (hx : xs.length = 64) (hy : ys.length = 64) :
    (binOp .eql 52 (.agg (va xs)) (.agg (va ys))).run Tryz.prog w = .ok (.bool (xs == ys)) w := by
  rw [run_eql_struct, equalIn_va w 9998 xs ys hx hy]
  rfl
theorem eqs_vec (w : World) (xs : List Int) (hx : xs.length = 64) : (binOp .eql 52 (.agg (va xs)) (.agg (va xs))).run Tryz.prog w = .ok (.bool true) w := by
  rw [eql_va w xs xs hx hx]
  simp
end Go.Proofs.YtbeodechhneeeaaGreatDoor.Vx
set_option linter.unusedVariables false
set_option linter.unusedSimpArgs false
set_option maxRecDepth 100000
namespace Go.Proofs.YtbeodechhneeeaaGreatDoor
open Go.RowKit Go.Shelf
open Tb (Rw setF getF aboveF Rise TabI TM LiesK LiesR ltS encS Sp)
open Vx (va vw zs zs_len va_len va_size cell_va set_va alloc_va load_va store_va z24 v24 v26)

theorem same_go (w : World) (v1 v2 : Value) (l : List O) (h1 : OLies w v1 l) (h2 : OLies w v2 l) : Calls Tryz.prog 17 #[v1, v2] w fun e w' => e = .returned (.bool true) ∧ Below w.heap.size w w' :=
  (rsameO_any w v1 v2 l l h1 h2).mono (by rintro e w' ⟨rfl, hb⟩; exact ⟨by rw [sameO_self], hb⟩)

theorem geqV (x y : Operand) (a b : Array Value) (w : World) : (eqGuard .eql 52 x y (.agg a) (.agg b)).run Tryz.prog w = .ok () w := run_eqGuard_agg w .eql 52 x y _ _ (by kernel_rfl)
theorem eq3s (a : Int) (W : World) : (binOp .eql 3 (.int .i64 a) (.int .i64 a)).run Tryz.prog W = .ok (.bool true) W := by go_simp
theorem geq3 (x y : Operand) (a b : Int) (w : World) : (eqGuard .eql 3 x y (.int .i64 a) (.int .i64 b)).run Tryz.prog w = .ok () w := rfl
theorem eq4s (a : Bool) (W : World) : (binOp .eql 4 (.bool a) (.bool a)).run Tryz.prog W = .ok (.bool true) W := by cases a <;> kernel_rfl
end Go.Proofs.YtbeodechhneeeaaGreatDoor


set_option linter.unusedVariables false
set_option linter.unusedSimpArgs false
set_option maxRecDepth 100000
namespace Go.Proofs.YtbeodechhneeeaaGreatDoor
open Go.RowKit Go.Shelf
open Tb (Rw setF getF aboveF Rise ltS Sp)

theorem uq_has : ∀ (m u : List O) (x : O), (hasO u x.t x.r = true ∨ (x ∈ m ∧ rO x = true)) → hasO (m.foldl uqO u) x.t x.r = true
  | [], u, x, h => h.elim id (fun q => by cases q.1)
  | o :: m, u, x, h => by
    refine uq_has m (uqO u o) x ?_
    by_cases hc : rO o = true ∧ hasO u o.t o.r = false
    · have e : uqO u o = u ++ [o] := if_pos hc
      rw [e]
      rcases h with h | ⟨h, hr⟩
      · left; unfold hasO at *; rw [List.any_append, h]; rfl
      · rcases List.mem_cons.1 h with rfl | h
        · left; unfold hasO; rw [List.any_append]; simp
        · exact .inr ⟨h, hr⟩
    · have e : uqO u o = u := if_neg hc
      rw [e]
      rcases h with h | ⟨h, hr⟩
      · exact .inl h
      · rcases List.mem_cons.1 h with rfl | h
        · left
          cases hq : hasO u x.t x.r with
          | true => rfl
          | false => exact absurd ⟨hr, hq⟩ hc
        · exact .inr ⟨h, hr⟩
theorem one_of : ∀ {S : List O} {x y : O}, S.Pairwise (fun a b => ¬ (a.t = b.t ∧ a.r = b.r)) → x ∈ S → y ∈ S → x.t = y.t → x.r = y.r → x = y
  | [], _, _, _, hx, _, _, _ => by cases hx
  | a :: S, x, y, h, hx, hy, h1, h2 => by
    obtain ⟨p1, p2⟩ := List.pairwise_cons.1 h
    rcases List.mem_cons.1 hx with ex | kx
    · rcases List.mem_cons.1 hy with ey | ky
      · rw [ex, ey]
      · rw [ex] at h1 h2
        exact absurd ⟨h1, h2⟩ (p1 y ky)
    · rcases List.mem_cons.1 hy with ey | ky
      · rw [ey] at h1 h2
        exact absurd ⟨h1.symm, h2.symm⟩ (p1 x kx)
      · exact one_of p2 kx ky h1 h2
theorem less_asym {a b : O} (h : lessO a b = true) (h' : lessO b a = true) : False := by
  rw [less_dec, decide_eq_true_eq] at h h'
  omega
theorem ss_eq : ∀ {A B : List O}, A.Pairwise (fun a b => lessO a b = true) → B.Pairwise (fun a b => lessO a b = true) → (∀ x, x ∈ A ↔ x ∈ B) → A = B
  | [], [], _, _, _ => rfl
  | [], b :: B, _, _, h => by have := (h b).2 (List.mem_cons_self ..); cases this
  | a :: A, [], _, _, h => by have := (h a).1 (List.mem_cons_self ..); cases this
  | a :: A, b :: B, h1, h2, h => by
    obtain ⟨a1, a2⟩ := List.pairwise_cons.1 h1
    obtain ⟨b1, b2⟩ := List.pairwise_cons.1 h2
    have e : a = b := by
      rcases List.mem_cons.1 ((h a).1 (List.mem_cons_self ..)) with e | q1
      · exact e
      · rcases List.mem_cons.1 ((h b).2 (List.mem_cons_self ..)) with e | q2
        · exact e.symm
        · exact (less_asym (b1 a q1) (a1 b q2)).elim
    subst e
    rw [ss_eq a2 b2 (fun x => ⟨fun hx => ?_, fun hx => ?_⟩)]
    · rcases List.mem_cons.1 ((h x).1 (List.mem_cons_of_mem _ hx)) with rfl | q
      · exact (less_asym (a1 x hx) (a1 x hx)).elim
      · exact q
    · rcases List.mem_cons.1 ((h x).2 (List.mem_cons_of_mem _ hx)) with rfl | q
      · exact (less_asym (b1 x hx) (b1 x hx)).elim
      · exact q
theorem set_one (l : List O) : (setO l).Pairwise (fun a b => ¬ (a.t = b.t ∧ a.r = b.r)) :=
  ((srt_perm (uniqF l)).pairwise_iff (fun {a b} q e => q ⟨e.1.symm, e.2.symm⟩)).2 (uniq_is l).one
theorem set_ss (l : List O) : (setO l).Pairwise (fun a b => lessO a b = true) := by
  refine ((set_srt l).and (set_one l)).imp (fun {a b} q => ?_)
  have h1 := less_no q.1
  have h2 := q.2
  rw [less_dec, decide_eq_true_eq]
  omega
theorem set_sub {l : List O} {x : O} (h : x ∈ setO l) : x ∈ l ∧ rO x = true := ⟨(uniq_is l).mem x (srt_mem h), (uniq_is l).right x (srt_mem h)⟩
theorem set_eq {l a : List O} (h1 : ∀ x ∈ a, x ∈ setO l) (h2 : ∀ x ∈ setO l, x ∈ a) : setO a = setO l := by
  refine ss_eq (set_ss a) (set_ss l) (fun x => ⟨fun hx => h1 x (set_sub hx).1, fun hx => ?_⟩)
  have hr := (set_sub hx).2
  have hh := uq_has a [] x (.inr ⟨h2 x hx, hr⟩)
  obtain ⟨y, hy, hz⟩ := List.any_eq_true.1 hh
  have hz := of_decide_eq_true hz
  have hya : y ∈ setO l := h1 y ((uniq_is a).mem y hy)
  have e := one_of (set_one l) hya hx hz.1 hz.2
  subst e
  exact (srt_perm (uniqF a)).mem_iff.2 hy
/-- What FoldOrder tells anew: picks, then all backwards. -/
def pickF (m : List O) (ord : List Nat) : List O := ord.filterMap (fun k => m[k % m.length]?)
def othF (m : List O) (ord : List Nat) : List O := pickF m (ord.take 60) ++ m.reverse
theorem oth_set (l : List O) (ord : List Nat) : setO (othF (setO l) ord) = setO l := by
  refine set_eq (fun x hx => ?_) (fun x hx => List.mem_append_right _ (List.mem_reverse.2 hx))
  rcases List.mem_append.1 hx with hx | hx
  · obtain ⟨k, _, hk⟩ := List.mem_filterMap.1 hx
    exact List.mem_of_getElem? hk
  · exact List.mem_reverse.1 hx
theorem pick_len (m : List O) (ord : List Nat) : (pickF m ord).length ≤ ord.length := List.length_filterMap_le ..
theorem oth_len (m : List O) (ord : List Nat) : (othF m ord).length ≤ 60 + m.length := by
  unfold othF
  have := pick_len m (ord.take 60)
  rw [List.length_take] at this
  rw [List.length_append, List.length_reverse]
  omega
theorem pick_snoc {m : List O} {ord : List Nat} {i k : Nat} {x : O} (h : ord[i]? = some k) (hx : m[k % m.length]? = some x) : pickF m (ord.take (i + 1)) = pickF m (ord.take i) ++ [x] := by
  obtain ⟨hlt, e⟩ := List.getElem?_eq_some_iff.1 h
  unfold pickF
  rw [List.take_succ_eq_append_getElem hlt, List.filterMap_append, e]
  simp [hx]
theorem pick_nil (ord : List Nat) : pickF [] ord = [] := by
  unfold pickF
  induction ord with
  | nil => rfl
  | cons a l ih => simp
theorem back_snoc {m : List O} {i : Nat} {x : O} (h : m[i]? = some x) : (m.drop i).reverse = (m.drop (i + 1)).reverse ++ [x] := by
  obtain ⟨hlt, e⟩ := List.getElem?_eq_some_iff.1 h
  rw [List.drop_eq_getElem_cons hlt, List.reverse_cons, e]

/-! ### FoldHonest -/
theorem mem_do {T : List Rw} {o : O} {z : Rw} (h : z ∈ doF T o) : z = rwO o ∨ z ∈ T := by
  unfold doF at h
  split at h
  · exact .inr h
  · rcases Tb.mem_set.1 h with rfl | h
    · exact .inl rfl
    · exact .inr h.1
theorem mem_play : ∀ {L : List O} {T : List Rw} {z : Rw}, z ∈ playF T L → (∃ o ∈ L, z = rwO o) ∨ z ∈ T
  | [], _, _, h => .inr h
  | o :: L, T, z, h => by
    rcases mem_play (L := L) (T := doF T o) h with ⟨x, hx, e⟩ | h
    · exact .inl ⟨x, List.mem_cons_of_mem _ hx, e⟩
    · rcases mem_do h with e | h
      · exact .inl ⟨o, List.mem_cons_self .., e⟩
      · exact .inr h
def hasT (T : List Rw) (t r : Int) : Prop := ∃ z ∈ T, z.t = t ∧ z.r = r
theorem do_has {T : List Rw} {o : O} {t r : Int} (h : hasT T t r) : hasT (doF T o) t r := by
  unfold doF
  split
  · exact h
  · obtain ⟨z, hz, h1, h2⟩ := h
    cases hs : Tb.sameN z (rwO o) with
    | false => exact ⟨z, Tb.mem_set.2 (.inr ⟨hz, hs⟩), h1, h2⟩
    | true =>
      unfold Tb.sameN at hs
      simp only [Bool.and_eq_true, decide_eq_true_eq, beq_iff_eq] at hs
      exact ⟨rwO o, Tb.mem_set.2 (.inl rfl), hs.1.symm.trans h1, hs.2.symm.trans h2⟩
theorem play_has : ∀ {L : List O} {T : List Rw} {t r : Int}, hasT T t r → hasT (playF T L) t r
  | [], _, _, _, h => h
  | o :: L, T, _, _, h => play_has (L := L) (T := doF T o) (do_has h)
theorem above_has {T : List Rw} {nt nr : Int} : ∀ {k : Nat} {t r : Int}, aboveF T nt nr k t r = true → ∃ z ∈ T, z.pt = nt ∧ z.pr = nr
  | 0, _, _, h => by cases h
  | k + 1, t, r, h => by
    unfold Tb.aboveF at h
    cases hg : getF T t r with
    | none => rw [hg] at h; cases h
    | some x =>
      rw [hg] at h
      have hm : x ∈ T := List.mem_of_find?_eq_some hg
      replace h : (if x.pt = nt ∧ x.pr = nr then true else aboveF T nt nr k x.pt x.pr) = true := h
      by_cases e : x.pt = nt ∧ x.pr = nr
      · exact ⟨x, hm, e.1, e.2⟩
      · rw [if_neg e] at h
        exact above_has h
theorem right_par {x : O} (h : rO x = true) (h0 : resB x.pt x.pr = false) : lessO ⟨x.pt, x.pr, 0, 0, 0, 0, 0, ⟨#[]⟩, false⟩ x = true ∧ ¬ (x.pt = x.nt ∧ x.pr = x.nr) := by
  unfold resB at h0
  simp only [Bool.or_eq_false_iff, decide_eq_false_iff_not] at h0
  unfold rO rB rpB at h
  rw [if_neg h0.1, if_neg h0.2.1] at h
  simp only [Bool.and_eq_true, Bool.not_eq_true', decide_eq_true_eq, decide_eq_false_iff_not] at h
  obtain ⟨_, _, _, _, _, ⟨_, h1, h2⟩, _⟩ := h
  refine ⟨?_, h2⟩
  unfold lessO
  show St.lessB x.pt x.pr x.t x.r = true
  rcases St.cmp_less x.pt x.pr x.t x.r with ⟨q, _⟩ | ⟨_, _, q⟩ | ⟨_, _, q⟩
  · exact q
  · rw [q] at h1; omega
  · rw [q] at h1; omega
theorem right_node {x : O} (h : rO x = true) : 1 ≤ x.nt := by
  unfold rO rB St.rightB St.rT at h
  simp only [Bool.and_eq_true, decide_eq_true_eq] at h
  obtain ⟨_, _, _, ⟨⟨h1, _⟩, _⟩, _⟩ := h
  exact h1
theorem res_time {t r : Int} (h : 1 ≤ t) : resB t r = false := by
  unfold resB
  simp only [Bool.or_eq_false_iff, decide_eq_false_iff_not]
  refine ⟨by omega, by omega, by omega⟩
/-- What makes a node is never passed over. -/
theorem mk_done {S A B : List O} {m : O} (hS : S = A ++ m :: B) (hss : S.Pairwise (fun a b => lessO a b = true)) (hr : ∀ x ∈ S, rO x = true) (hm : isMk m) : skipF (playF [] A) m = false := by
  have hrm : rO m = true := hr m (by rw [hS]; simp)
  have hn1 := right_node hrm
  obtain ⟨m1, m2⟩ := hm
  unfold skipF
  rw [Bool.or_eq_false_iff]
  constructor
  · refine decide_eq_false (fun e => ?_)
    have h0 : resB m.pt m.pr = false := res_time (by omega)
    exact (right_par hrm h0).2 ⟨e.1.symm, e.2.symm⟩
  · cases hq : aboveF (playF [] A) m.nt m.nr (playF [] A).length m.pt m.pr with
    | false => rfl
    | true =>
      obtain ⟨z, hz, h1, h2⟩ := above_has hq
      rcases mem_play hz with ⟨o, ho, e⟩ | h
      · subst e
        have h1 : o.pt = m.nt := h1
        have h2 : o.pr = m.nr := h2
        have hp := (right_par (hr o (by rw [hS]; exact List.mem_append_left _ ho)) (res_time (by omega))).1
        have hl : lessO o m = true := by
          rw [hS] at hss
          exact (List.pairwise_append.1 hss).2.2 o ho m (List.mem_cons_self ..)
        rw [less_dec, decide_eq_true_eq] at hp hl
        simp only at hp
        omega
      · cases h
theorem mk_has {S : List O} {m : O} (hmem : m ∈ S) (hss : S.Pairwise (fun a b => lessO a b = true)) (hr : ∀ x ∈ S, rO x = true) (hm : isMk m) : hasT (playF [] S) m.t m.r := by
  obtain ⟨A, B, hS⟩ := List.append_of_mem hmem
  have hd := mk_done hS hss hr hm
  rw [hS, play_append]
  show hasT (playF (doF (playF [] A) m) B) m.t m.r
  refine play_has ?_
  unfold doF
  rw [hd]
  exact ⟨rwO m, Tb.mem_set.2 (.inl rfl), hm.1.symm, hm.2.symm⟩
theorem g_some {S : List O} {a b : Int} {y : O} (hd : S.Pairwise (fun a b => ¬ (a.t = b.t ∧ a.r = b.r))) (h : gF S a b = some y) : y ∈ S ∧ isMk y ∧ y.t = a ∧ y.r = b := by
  obtain ⟨h1, h2⟩ := g_is a b S (fun _ _ => none) hd
  by_cases q : ∃ y ∈ S, isMk y ∧ y.t = a ∧ y.r = b
  · obtain ⟨z, hz, hm, e1, e2⟩ := q
    have e : gF S a b = some z := h1 z hz hm e1 e2
    rw [h] at e
    injection e with e
    subst e
    exact ⟨hz, hm, e1, e2⟩
  · have e : gF S a b = none := h2 (fun y hy z => q ⟨y, hy, z⟩)
    rw [h] at e
    cases e
/-- Honest ops: each entry's parent has an entry, and is a directory; no op says otherwise of what a node is. -/
theorem hon_tab {l : List O} (h : honestP l = true) {z : Rw} (hz : z ∈ playF [] (setO l)) :
    (0 < z.pt → ∃ p, getF (playF [] (setO l)) z.pt z.pr = some p ∧ p.d = true) ∧ ∀ o ∈ l, o.nt = z.t → o.nr = z.r → o.d = z.d := by
  unfold honestP at h
  simp only [Bool.and_eq_true, decide_eq_true_eq] at h
  obtain ⟨h1, _, h3⟩ := h
  have hu : uniqF l = l := by
    have := (uq_full l []).2 (by
      have e : (setO l).length = (uniqF l).length := srtO_len _
      have e2 : (l.foldl uqO []).length = l.length := e.symm.trans h1
      rw [e2]; simp)
    simpa [uniqF] using this
  have hd := set_one l
  have hss := set_ss l
  have hr : ∀ x ∈ setO l, rO x = true := fun x hx => (set_sub hx).2
  have hl : ∀ x ∈ l, x ∈ setO l := fun x hx => (srt_perm (uniqF l)).mem_iff.2 (by rw [hu]; exact hx)
  -- what an op says of its node
  have key : ∀ x ∈ setO l, ∃ m, gF (setO l) x.nt x.nr = some m ∧ m.d = x.d := fun x hx => by
    have := List.all_eq_true.1 h3 x hx
    unfold okR at this
    simp only [Bool.and_eq_true] at this
    obtain ⟨⟨a1, a2⟩, _⟩ := this
    cases hg : gF (setO l) x.nt x.nr with
    | none => rw [hg] at a1; cases a1
    | some m =>
      rw [hg] at a2
      exact ⟨m, rfl, by simpa using a2⟩
  rcases mem_play hz with ⟨o, ho, e⟩ | q
  · subst e
    constructor
    · intro hp
      have hp : 0 < o.pt := hp
      have := List.all_eq_true.1 h3 o ho
      unfold okR at this
      rw [res_time (r := o.pr) (show (1 : Int) ≤ o.pt by omega), Bool.false_or] at this
      simp only [Bool.and_eq_true] at this
      obtain ⟨_, a1, a2⟩ := this
      cases hg : gF (setO l) o.pt o.pr with
      | none => rw [hg] at a1; cases a1
      | some m =>
        rw [hg] at a2
        have a2 : m.d = true := a2
        obtain ⟨g1, g2, g3, g4⟩ := g_some hd hg
        obtain ⟨p, hp1, hp2, hp3⟩ := mk_has g1 hss hr g2
        refine ⟨p, (Tb.get_some (play_rise (setO l) (T := []) List.Pairwise.nil)).2 ⟨hp1, hp2.trans g3, hp3.trans g4⟩, ?_⟩
        rcases mem_play hp1 with ⟨o', ho', e'⟩ | q
        · subst e'
          obtain ⟨m', k1, k2⟩ := key o' ho'
          have e1 : o'.nt = o.pt := hp2.trans g3
          have e2 : o'.nr = o.pr := hp3.trans g4
          rw [e1, e2, hg] at k1
          injection k1 with k1
          subst k1
          exact k2.symm.trans a2
        · cases q
    · intro x hx e1 e2
      obtain ⟨m, k1, k2⟩ := key x (hl x hx)
      obtain ⟨m', k3, k4⟩ := key o ho
      rw [show x.nt = o.nt from e1, show x.nr = o.nr from e2, k3] at k1
      injection k1 with k1
      subst k1
      exact k2.symm.trans k4
  · cases q
end Go.Proofs.YtbeodechhneeeaaGreatDoor
