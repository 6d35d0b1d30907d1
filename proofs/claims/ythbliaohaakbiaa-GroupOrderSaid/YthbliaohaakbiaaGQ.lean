/- Groups of items, plain: both ways come to one. -/
import Derived.Test.YthbliaohaakbiaaGP
set_option linter.unusedVariables false
set_option linter.unusedSimpArgs false
set_option maxRecDepth 100000
namespace Go.Proofs.Ythbliaohaakbiaa
open Go.RowKit Go.Sort

/-! ### stamps that rise -/
def UpS (l : List Sp) : Prop := l.Pairwise (fun a b => ltP a b = true)
theorem upS_nodup {l : List Sp} (h : UpS l) : l.Nodup := h.imp (fun {a b} hab e => by subst e; rw [ltP_irr] at hab; cases hab)
theorem upS_ext {a b : List Sp} (ha : UpS a) (hb : UpS b) (h : ∀ y, y ∈ a ↔ y ∈ b) : a = b :=
  List.Perm.eq_of_pairwise (le := fun x y => ltP x y = true) (fun x y _ _ q1 q2 => by rw [ltP_not q1] at q2; cases q2) ha hb ((List.perm_ext_iff_of_nodup (upS_nodup ha) (upS_nodup hb)).2 h)
theorem putF_done : ∀ (l : List Sp) (s : Sp), putF true l s = l.filter (fun x => decide (x ≠ s))
  | [], s => rfl
  | x :: r, s => by
    rw [putF_cons, Bool.true_or, putF_done r s]
    by_cases h : x = s
    · simp [h]
    · simp [h]
theorem mem_put : ∀ (l : List Sp) (s z : Sp), z ∈ putF false l s ↔ z = s ∨ z ∈ l
  | [], s, z => by simp [putF]
  | x :: r, s, z => by
    rw [putF_cons]
    cases hx : ltP x s with
    | true =>
      have hne : x ≠ s := fun e => by rw [e, ltP_irr] at hx; cases hx
      have ih := mem_put r s z
      simp [hne, ih]
      constructor
      · rintro (h | h | h)
        · exact .inr (.inl h)
        · exact .inl h
        · exact .inr (.inr h)
      · rintro (h | h | h)
        · exact .inr (.inl h)
        · exact .inl h
        · exact .inr (.inr h)
    | false =>
      rw [show (false || !false) = true from rfl, putF_done]
      by_cases e : x = s
      · subst e
        simp
        constructor
        · rintro (h | ⟨h, _⟩)
          · exact .inl h
          · exact .inr h
        · rintro (h | h)
          · exact .inl h
          · by_cases q : z = x
            · exact .inl q
            · exact .inr ⟨h, q⟩
      · simp [e]
        constructor
        · rintro (h | h | ⟨h, _⟩)
          · exact .inl h
          · exact .inr (.inl h)
          · exact .inr (.inr h)
        · rintro (h | h | h)
          · exact .inl h
          · exact .inr (.inl h)
          · by_cases q : z = s
            · exact .inl q
            · exact .inr (.inr ⟨h, q⟩)
theorem put_up : ∀ (l : List Sp) (s : Sp), UpS l → UpS (putF false l s)
  | [], s, _ => List.pairwise_singleton _ _
  | x :: r, s, h => by
    have hr := (List.pairwise_cons.1 h).1
    rw [putF_cons]
    cases hx : ltP x s with
    | true =>
      have hne : x ≠ s := fun e => by rw [e, ltP_irr] at hx; cases hx
      simp only [Bool.not_true, Bool.and_false, Bool.false_eq_true, if_false, List.nil_append, if_pos hne, Bool.or_false]
      refine List.pairwise_cons.2 ⟨fun z hz => ?_, put_up r s (List.pairwise_cons.1 h).2⟩
      rcases (mem_put r s z).1 hz with rfl | hz
      · exact hx
      · exact hr z hz
    | false =>
      rw [show (false || !false) = true from rfl, putF_done]
      have hsy : ∀ y ∈ r, ltP s y = true := fun y hy => by
        by_cases e : x = s
        · rw [← e]; exact hr y hy
        · cases q : ltP s x with
          | true => exact ltP_tr q (hr y hy)
          | false => exact absurd (ltP_tot hx q) e
      have hf : r.filter (fun y => decide (y ≠ s)) = r := by
        rw [List.filter_eq_self]
        intro y hy
        have := hsy y hy
        have hne : y ≠ s := fun e => by rw [e, ltP_irr] at this; cases this
        simpa using hne
      rw [hf]
      by_cases e : x = s
      · subst e
        simpa [UpS] using h
      · simp only [Bool.not_false, Bool.and_self, if_true, if_pos e]
        refine List.pairwise_cons.2 ⟨fun z hz => ?_, h⟩
        rcases List.mem_cons.1 hz with rfl | hz
        · cases q : ltP s z with
          | true => rfl
          | false => exact absurd (ltP_tot hx q) e
        · exact hsy z hz
theorem fold_up : ∀ (l acc : List Sp), UpS acc → UpS (l.foldl (fun acc x => putF false acc x) acc)
  | [], acc, h => h
  | x :: r, acc, h => fold_up r _ (put_up acc x h)
theorem sort_up (l : List Sp) : UpS (sortF l) := fold_up l [] List.Pairwise.nil
theorem mem_fold : ∀ (l acc : List Sp) (z : Sp), z ∈ l.foldl (fun acc x => putF false acc x) acc ↔ z ∈ l ∨ z ∈ acc
  | [], acc, z => by simp
  | x :: r, acc, z => by
    rw [List.foldl_cons, mem_fold r _ z, mem_put, List.mem_cons]
    constructor
    · rintro (h | h | h)
      · exact .inl (.inr h)
      · exact .inl (.inl h)
      · exact .inr h
    · rintro ((h | h) | h)
      · exact .inr (.inl h)
      · exact .inl h
      · exact .inr (.inr h)
theorem mem_sort (l : List Sp) (z : Sp) : z ∈ sortF l ↔ z ∈ l := by unfold sortF; rw [mem_fold]; simp
theorem sort_len (l : List Sp) : (sortF l).length ≤ l.length := List.Nodup.length_le_of_subset (upS_nodup (sort_up l)) (fun z hz => (mem_sort l z).1 hz)
/-! ### items that rise -/
def RiseI (l : List It) : Prop := (l.map ndI).Pairwise (fun a b => ltP a b = true)
theorem rise_of_sorted {l s : List It} (hu : Unlike l) (hp : s.Perm l) (hs : s.Pairwise (fun x y => ltP (ndI y) (ndI x) = false)) : RiseI s := by
  unfold RiseI
  have hn : (s.map ndI).Nodup := (hp.map ndI).nodup_iff.2 hu
  rw [List.pairwise_map]
  have hn' : s.Pairwise (fun a b => ndI a ≠ ndI b) := List.pairwise_map.1 hn
  refine (hs.and hn').imp (fun {a b} h => ?_)
  cases q : ltP (ndI a) (ndI b) with
  | true => rfl
  | false => exact absurd (ltP_tot q h.1) h.2
theorem rise_ext {a b : List It} (ha : RiseI a) (hb : RiseI b) (hp : a.Perm b) : a = b := by
  refine List.Perm.eq_of_pairwise (le := fun x y => ltP (ndI x) (ndI y) = true) (fun x y _ _ q1 q2 => ?_) (List.pairwise_map.1 ha) (List.pairwise_map.1 hb) hp
  rw [ltP_not q1] at q2; cases q2
theorem mates_perm {a b : List It} (hp : a.Perm b) (n : ByteArray) : (mates a n).Perm (mates b n) := (hp.filter _).map _
theorem mates_up {s : List It} (hs : RiseI s) (n : ByteArray) : UpS (mates s n) := by
  unfold mates UpS
  exact List.Pairwise.sublist (List.Sublist.map ndI List.filter_sublist) hs
theorem mates_sorted {l s : List It} (hp : s.Perm l) (hs : RiseI s) (n : ByteArray) : sortF (mates l n) = mates s n :=
  upS_ext (sort_up _) (mates_up hs n) (fun y => by rw [mem_sort]; exact ((mates_perm hp n).mem_iff).symm)
theorem grp_one {l s : List It} (hp : s.Perm l) (hs : RiseI s) (x : It) : grpBy sortF l x = grpBy id s x := by
  unfold grpBy
  rw [mates_sorted hp hs]
  rfl
/-! ### groups that rise -/
def UpG (l : List Gp) : Prop := l.Pairwise (fun a b => ltG a.key b.key = true)
theorem ltG_not {a b : ByteArray × List Sp} (h : ltG a b = true) : ltG b a = false := by
  cases h2 : ltG b a with
  | false => rfl
  | true => have := ltG_tr h h2; rw [ltG_irr] at this; cases this
theorem upG_ext {a b : List Gp} (ha : UpG a) (hb : UpG b) (h : ∀ y, y ∈ a ↔ y ∈ b) : a = b := by
  have nd : ∀ {l : List Gp}, UpG l → l.Nodup := fun h => h.imp (fun {a b} hab e => by subst e; rw [ltG_irr] at hab; cases hab)
  exact List.Perm.eq_of_pairwise (le := fun (x y : Gp) => ltG x.key y.key = true) (fun x y _ _ q1 q2 => by rw [ltG_not q1] at q2; cases q2) ha hb ((List.perm_ext_iff_of_nodup (nd ha) (nd hb)).2 h)
structure Fine (l : List It) (gs : List Gp) : Prop where
  ne : ∀ g ∈ gs, g.l ≠ [] ∧ h1 g.l ∈ l.map ndI
  ap : gs.Pairwise (fun a b => h1 a.l ≠ h1 b.l)
  du : gs.Pairwise (fun a b => ¬ (a.d = true ∧ b.d = true ∧ a.n = b.n))
theorem h1_app {l : List Sp} (h : l ≠ []) (m : List Sp) : h1 (l ++ m) = h1 l := by cases l with | nil => exact absurd rfl h | cons => rfl
theorem fine_snoc {l : List It} {gs : List Gp} (h : Fine l gs) (x : It) (hx : ndI x ∉ l.map ndI) : Fine (l ++ [x]) (gput gs x) := by
  unfold gput
  split
  · refine ⟨fun g hg => ?_, ?_, ?_⟩
    · obtain ⟨y, hy, rfl⟩ := List.mem_map.1 hg
      have := h.ne y hy
      split
      · exact ⟨by simp, by rw [h1_app this.1, List.map_append]; exact List.mem_append.2 (.inl this.2)⟩
      · exact ⟨this.1, by rw [List.map_append]; exact List.mem_append.2 (.inl this.2)⟩
    · rw [List.pairwise_map]
      refine List.Pairwise.imp_of_mem (fun {a b} ha hb hab => ?_) h.ap
      have e : ∀ y ∈ gs, h1 (if y.d && decide (y.n = x.n) then (⟨y.n, y.d, y.l ++ [ndI x]⟩ : Gp) else y).l = h1 y.l := fun y hy => by
        split
        · exact h1_app (h.ne y hy).1 _
        · rfl
      rw [e a ha, e b hb]
      exact hab
    · rw [List.pairwise_map]
      refine h.du.imp (fun {a b} hab => ?_)
      have e1 : ∀ y : Gp, (if y.d && decide (y.n = x.n) then (⟨y.n, y.d, y.l ++ [ndI x]⟩ : Gp) else y).d = y.d := fun y => by split <;> rfl
      have e2 : ∀ y : Gp, (if y.d && decide (y.n = x.n) then (⟨y.n, y.d, y.l ++ [ndI x]⟩ : Gp) else y).n = y.n := fun y => by split <;> rfl
      rw [e1, e1, e2, e2]
      exact hab
  · rename_i hq
    refine ⟨fun g hg => ?_, ?_, ?_⟩
    · rcases List.mem_append.1 hg with hg | hg
      · exact ⟨(h.ne g hg).1, by rw [List.map_append]; exact List.mem_append.2 (.inl (h.ne g hg).2)⟩
      · rw [List.mem_singleton] at hg
        subst hg
        exact ⟨by simp, by rw [List.map_append]; exact List.mem_append.2 (.inr (by simp [h1]))⟩
    · rw [List.pairwise_append]
      refine ⟨h.ap, List.pairwise_singleton _ _, fun a ha b hb => ?_⟩
      rw [List.mem_singleton] at hb
      subst hb
      intro e
      exact hx (by have := (h.ne a ha).2; rw [e] at this; exact this)
    · rw [List.pairwise_append]
      refine ⟨h.du, List.pairwise_singleton _ _, fun a ha b hb => ?_⟩
      rw [List.mem_singleton] at hb
      subst hb
      rintro ⟨q1, q2, q3⟩
      apply hq
      dsimp only at q2 q3
      rw [q2, Bool.true_and, List.any_eq_true]
      exact ⟨a, ha, by rw [q1, q3]; simp⟩
theorem fine_gOf (l : List It) (hu : Unlike l) : Fine l (gOf l) := by
  induction l using snoc_rec with
  | nil => exact ⟨fun g hg => (by cases hg), List.Pairwise.nil, List.Pairwise.nil⟩
  | snoc l x ih =>
    unfold Unlike at hu
    rw [List.map_append, List.nodup_append] at hu
    rw [gOf_snoc]
    exact fine_snoc (ih hu.1) x (fun hm => hu.2.2 _ hm _ (by simp) rfl)
/-- What the program's Of tells: the groups of the items, sorted. -/
def IsOf (l : List It) (G : List Gp) : Prop := ∃ s, s.Perm l ∧ RiseI s ∧ G.Perm (gOf s) ∧ UpG G
theorem up_of_sorted {s : List It} {G : List Gp} (hu : Unlike s) (hp : G.Perm (gOf s)) (hs : G.Pairwise (fun x y => ltG y.key x.key = false)) : UpG G := by
  have hf := (fine_gOf s hu).ap
  have hg : G.Pairwise (fun a b => h1 a.l ≠ h1 b.l) := (hp.pairwise_iff (fun {a b} h => fun e => h e.symm)).2 hf
  refine (hs.and hg).imp (fun {a b} h => ?_)
  cases q : ltG a.key b.key with
  | true => rfl
  | false => exact absurd (ltG_tot q h.1).2 h.2
theorem of_mem {l : List It} {G : List Gp} (h : IsOf l G) (y : Gp) : y ∈ G ↔ ∃ x ∈ l, y = grpBy sortF l x := by
  obtain ⟨s, hp, hr, hg, _⟩ := h
  rw [hg.mem_iff, mem_gOf]
  constructor
  · rintro ⟨x, hx, rfl⟩
    exact ⟨x, hp.mem_iff.1 hx, (grp_one hp hr x).symm⟩
  · rintro ⟨x, hx, rfl⟩
    exact ⟨x, hp.mem_iff.2 hx, grp_one hp hr x⟩
/-- It hangs on no order. -/
theorem of_perm {l m : List It} {G H : List Gp} (hp : l.Perm m) (h : IsOf l G) (k : IsOf m H) : G = H := by
  obtain ⟨s, hs, hr, hg, hu⟩ := h
  obtain ⟨t, ht, hr', hg', hu'⟩ := k
  have : s = t := rise_ext hr hr' ((hs.trans hp).trans ht.symm)
  subst this
  exact upG_ext hu hu' (fun y => by rw [hg.mem_iff, hg'.mem_iff])
/-! ### the reference's way -/
def insG (g : Gp) : Bool → List Gp → List Gp
  | dn, [] => if dn then [] else [g]
  | dn, x :: r => (if !dn && ltG g.key x.key then [g] else []) ++ [x] ++ insG g (dn || ltG g.key x.key) r
theorem insG_cons (g : Gp) (dn : Bool) (x : Gp) (r : List Gp) : insG g dn (x :: r) = (if !dn && ltG g.key x.key then [g] else []) ++ [x] ++ insG g (dn || ltG g.key x.key) r := rfl
theorem insG_true (g : Gp) : ∀ l, insG g true l = l
  | [] => rfl
  | x :: r => by rw [insG_cons, Bool.true_or, insG_true g r]; rfl
theorem mem_insG (g : Gp) : ∀ (l : List Gp) (z : Gp), z ∈ insG g false l ↔ z = g ∨ z ∈ l
  | [], z => by simp [insG]
  | x :: r, z => by
    rw [insG_cons]
    cases h : ltG g.key x.key with
    | true => rw [show (false || true) = true from rfl, insG_true]; simp
    | false =>
      have ih := mem_insG g r z
      simp [ih]
      constructor
      · rintro (h | h | h)
        · exact .inr (.inl h)
        · exact .inl h
        · exact .inr (.inr h)
      · rintro (h | h | h)
        · exact .inr (.inl h)
        · exact .inl h
        · exact .inr (.inr h)
theorem insG_up (g : Gp) : ∀ (l : List Gp), UpG l → (∀ y ∈ l, h1 y.l ≠ h1 g.l) → UpG (insG g false l)
  | [], _, _ => List.pairwise_singleton _ _
  | x :: r, h, hne => by
    have hr := (List.pairwise_cons.1 h).1
    rw [insG_cons]
    cases hx : ltG g.key x.key with
    | true =>
      rw [show (false || true) = true from rfl, insG_true]
      simp only [Bool.not_false, Bool.and_self, if_true]
      refine List.pairwise_cons.2 ⟨fun z hz => ?_, h⟩
      rcases List.mem_cons.1 hz with rfl | hz
      · exact hx
      · exact ltG_tr hx (hr z hz)
    | false =>
      have hxg : ltG x.key g.key = true := by
        cases q : ltG x.key g.key with
        | true => rfl
        | false => exact absurd (ltG_tot q hx).2 (hne x (List.mem_cons_self ..))
      simp only [Bool.not_false, Bool.and_false, Bool.false_eq_true, if_false, List.nil_append, Bool.or_false]
      refine List.pairwise_cons.2 ⟨fun z hz => ?_, insG_up g r (List.pairwise_cons.1 h).2 (fun y hy => hne y (List.mem_cons_of_mem _ hy))⟩
      rcases (mem_insG g r z).1 hz with rfl | hz
      · exact hxg
      · exact hr z hz
def rput (l : List It) (out : List Gp) (x : It) : List Gp := if h1 (grpBy sortF l x).l = ndI x then insG (grpBy sortF l x) false out else out
def rOf (l p : List It) : List Gp := p.foldl (rput l) []
theorem rOf_snoc (l p : List It) (x : It) : rOf l (p ++ [x]) = rput l (rOf l p) x := by unfold rOf; rw [List.foldl_append]; rfl
theorem rOf_is (l : List It) (p : List It) (hu : Unlike p) : UpG (rOf l p) ∧ ∀ y, y ∈ rOf l p ↔ ∃ x ∈ p, h1 (grpBy sortF l x).l = ndI x ∧ y = grpBy sortF l x := by
  induction p using snoc_rec with
  | nil => exact ⟨List.Pairwise.nil, fun y => by simp [rOf]⟩
  | snoc p x ih =>
    unfold Unlike at hu
    rw [List.map_append, List.nodup_append] at hu
    obtain ⟨i1, i2⟩ := ih hu.1
    rw [rOf_snoc]
    unfold rput
    by_cases e : h1 (grpBy sortF l x).l = ndI x
    · rw [if_pos e]
      refine ⟨insG_up _ _ i1 (fun y hy => ?_), fun y => ?_⟩
      · obtain ⟨z, hz, hz1, rfl⟩ := (i2 y).1 hy
        rw [hz1, e]
        intro q
        exact hu.2.2 _ (List.mem_map.2 ⟨z, hz, q⟩) _ (by simp) rfl
      · rw [mem_insG, i2]
        constructor
        · rintro (rfl | ⟨z, hz, q⟩)
          · exact ⟨x, by simp, e, rfl⟩
          · exact ⟨z, by simp [hz], q⟩
        · rintro ⟨z, hz, q⟩
          rcases List.mem_append.1 hz with hz | hz
          · exact .inr ⟨z, hz, q⟩
          · rw [List.mem_singleton] at hz
            subst hz
            exact .inl q.2
    · rw [if_neg e]
      refine ⟨i1, fun y => ?_⟩
      rw [i2]
      constructor
      · rintro ⟨z, hz, q⟩
        exact ⟨z, by simp [hz], q⟩
      · rintro ⟨z, hz, q⟩
        rcases List.mem_append.1 hz with hz | hz
        · exact ⟨z, hz, q⟩
        · rw [List.mem_singleton] at hz
          subst hz
          exact absurd q.1 e
theorem of_ref {l : List It} {G : List Gp} (hu : Unlike l) (h : IsOf l G) : G = rOf l l := by
  obtain ⟨r1, r2⟩ := rOf_is l l hu
  have hm := of_mem h
  obtain ⟨s, _, _, _, hg⟩ := h
  refine upG_ext hg r1 (fun y => ?_)
  rw [hm, r2]
  constructor
  · rintro ⟨x, hx, rfl⟩
    cases hd : x.d with
    | false => exact ⟨x, hx, by unfold grpBy; rw [hd]; rfl, rfl⟩
    | true =>
      have hne : sortF (mates l x.n) ≠ [] := fun e => by
        have : ndI x ∈ sortF (mates l x.n) := (mem_sort _ _).2 (by unfold mates; exact List.mem_map.2 ⟨x, List.mem_filter.2 ⟨hx, by unfold isD; rw [hd]; simp⟩, rfl⟩)
        rw [e] at this
        cases this
      have hh : h1 (sortF (mates l x.n)) ∈ mates l x.n := by
        rw [← mem_sort]
        cases q : sortF (mates l x.n) with
        | nil => exact absurd q hne
        | cons a b => exact List.mem_cons_self ..
      unfold mates at hh
      obtain ⟨z, hz, hz2⟩ := List.mem_map.1 hh
      obtain ⟨hz1, hz3⟩ := List.mem_filter.1 hz
      unfold isD at hz3
      simp only [Bool.and_eq_true, decide_eq_true_eq] at hz3
      have e : grpBy sortF l x = grpBy sortF l z := by unfold grpBy; rw [hd, hz3.1, hz3.2]; simp
      refine ⟨z, hz1, ?_, e⟩
      rw [← e, hz2]
      unfold grpBy mates
      rw [hd]
      rfl
  · rintro ⟨x, hx, _, rfl⟩
    exact ⟨x, hx, rfl⟩
/-! ### the items of groups -/
def itemsOf (gs : List Gp) : List It := gs.flatMap (fun g => g.l.map (fun p => ⟨p.1, p.2, g.n, g.d⟩))
theorem items_gput {gs : List Gp} (hdu : gs.Pairwise (fun a b => ¬ (a.d = true ∧ b.d = true ∧ a.n = b.n))) (x : It) : (itemsOf (gput gs x)).Perm (itemsOf gs ++ [x]) := by
  unfold gput
  split
  · rename_i hq
    simp only [Bool.and_eq_true] at hq
    obtain ⟨hd, ha⟩ := hq
    induction gs with
    | nil => simp at ha
    | cons g r ih =>
      obtain ⟨h1, h2⟩ := List.pairwise_cons.1 hdu
      rw [List.map_cons]
      by_cases e : (g.d && decide (g.n = x.n)) = true
      · rw [if_pos e]
        simp only [Bool.and_eq_true, decide_eq_true_eq] at e
        have hr : r.map (fun g => if g.d && decide (g.n = x.n) then (⟨g.n, g.d, g.l ++ [ndI x]⟩ : Gp) else g) = r := by
          conv => rhs; rw [← List.map_id r]
          refine List.map_congr_left (fun y hy => ?_)
          have := h1 y hy
          rw [if_neg]
          · rfl
          · intro q
            simp only [Bool.and_eq_true, decide_eq_true_eq] at q
            exact this ⟨e.1, q.1, e.2.trans q.2.symm⟩
        rw [hr]
        unfold itemsOf
        rw [List.flatMap_cons, List.flatMap_cons, List.map_append]
        have hx : ([ndI x].map (fun p => (⟨p.1, p.2, g.n, g.d⟩ : It))) = [x] := by
          simp only [List.map_cons, List.map_nil, ndI]
          rw [e.1, e.2, ← hd]
        dsimp only
        rw [hx, List.append_assoc, List.append_assoc]
        exact List.Perm.append_left _ List.perm_append_comm
      · rw [if_neg e]
        have := ih h2 (by
          rw [List.any_cons] at ha
          simp only [Bool.or_eq_true] at ha
          exact ha.resolve_left e)
        unfold itemsOf at this ⊢
        rw [List.flatMap_cons, List.flatMap_cons, List.append_assoc]
        exact this.append_left _
  · unfold itemsOf
    rw [List.flatMap_append]
    exact List.Perm.refl _
theorem items_gOf (l : List It) (hu : Unlike l) : (itemsOf (gOf l)).Perm l := by
  induction l using snoc_rec with
  | nil => exact List.Perm.refl _
  | snoc l x ih =>
    have hu' := hu
    unfold Unlike at hu
    rw [List.map_append, List.nodup_append] at hu
    rw [gOf_snoc]
    exact (items_gput (fine_gOf l hu.1).du x).trans ((ih hu.1).append_right _)
theorem items_of {l : List It} {G : List Gp} (hu : Unlike l) (h : IsOf l G) : (itemsOf G).Perm l := by
  obtain ⟨s, hp, hr, hg, _⟩ := h
  have : Unlike s := (hp.map ndI).nodup_iff.2 hu
  exact ((hg.flatMap_right _).trans (items_gOf s this)).trans hp
end Go.Proofs.Ythbliaohaakbiaa
