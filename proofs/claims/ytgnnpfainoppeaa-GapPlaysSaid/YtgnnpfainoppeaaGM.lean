/- Ops that wait, plain: by replicas and numbers; put, ready, lacked. -/
import Derived.Test.YtgnnpfainoppeaaOJ
set_option linter.unusedSimpArgs false
set_option linter.unusedVariables false
namespace Go.Proofs.Ytgnnpfainoppeaa

def ltG (x y : O) : Bool := if x.r = y.r then decide (x.q < y.q) else decide (x.r < y.r)
def eqG (x y : O) : Bool := decide (x.r = y.r ∧ x.q = y.q)
def isG (r q : Int) (x : O) : Bool := decide (x.r = r ∧ x.q = q)
def RiseG (l : List O) : Prop := l.Pairwise (fun x y => ltG x y = true)
theorem ltg_tri (x y : O) : (ltG x y = true ∧ eqG x y = false ∧ ltG y x = false) ∨ (ltG x y = false ∧ eqG x y = true ∧ ltG y x = false) ∨ (ltG x y = false ∧ eqG x y = false ∧ ltG y x = true) := by
  unfold ltG eqG
  by_cases h : x.r = y.r
  · have h' := h.symm
    simp only [h, if_true]
    by_cases a : x.q < y.q
    · left; simp [a]; omega
    · by_cases b : y.q < x.q
      · right; right; simp [a, b]; omega
      · right; left; simp [a, b]; omega
  · have h' : ¬ y.r = x.r := fun e => h e.symm
    simp only [h, h', if_false]
    by_cases a : x.r < y.r
    · left; simp [a]; omega
    · right; right; simp [a]; omega
theorem ltg_trans {x y z : O} (h1 : ltG x y = true) (h2 : ltG y z = true) : ltG x z = true := by
  unfold ltG at *
  split at h1 <;> split at h2 <;> split <;> simp at * <;> omega
theorem ltg_irr (x : O) : ltG x x = false := by unfold ltG; simp
/-- what stands behind a key's setting. -/
def setG (l : List O) (x : O) : List O := l.filter (fun y => ltG y x) ++ x :: l.filter (fun y => ltG x y)
def atG (l : List O) (r q : Int) : Bool := l.any (isG r q)
def getG (l : List O) (r q : Int) : Option O := l.find? (isG r q)
/-- The reference's insertion. -/
def insS (o : O) (s : List O × Bool) (x : O) : List O × Bool := if !s.2 && ltG o x then (s.1 ++ [o] ++ [x], true) else (s.1 ++ [x], s.2)
def insE (o : O) (s : List O × Bool) : List O := if s.2 then s.1 else s.1 ++ [o]
def insG (l : List O) (o : O) : List O := insE o (l.foldl (insS o) ([], false))
theorem insS_low (o : O) : ∀ (l : List O) (a : List O), (∀ x ∈ l, ltG o x = false) → l.foldl (insS o) (a, false) = (a ++ l, false)
  | [], a, _ => by simp
  | x :: l, a, h => by
    have := h x (List.mem_cons_self ..)
    rw [List.foldl_cons]
    have e : insS o (a, false) x = (a ++ [x], false) := by unfold insS; simp [this]
    rw [e, insS_low o l _ (fun x hx => h x (List.mem_cons_of_mem _ hx))]
    simp
theorem insS_done (o : O) : ∀ (l : List O) (a : List O), l.foldl (insS o) (a, true) = (a ++ l, true)
  | [], a => by simp
  | x :: l, a => by
    rw [List.foldl_cons]
    have e : insS o (a, true) x = (a ++ [x], true) := by unfold insS; simp
    rw [e, insS_done o l]
    simp
theorem ins_parts (o : O) (a b : List O) (ha : ∀ x ∈ a, ltG o x = false) (hb : ∀ x ∈ b, ltG o x = true) : insG (a ++ b) o = a ++ o :: b := by
  unfold insG
  rw [List.foldl_append, insS_low o a [] ha, List.nil_append]
  cases b with
  | nil => simp [insE]
  | cons x b =>
    rw [List.foldl_cons]
    have e : insS o (a, false) x = (a ++ [o] ++ [x], true) := by
      unfold insS; have := hb x (List.mem_cons_self ..); simp [this]
    rw [e, insS_done]
    simp [insE]
theorem rise_split {l : List O} (h : RiseG l) (o : O) (hn : atG l o.r o.q = false) : l = l.filter (fun y => ltG y o) ++ l.filter (fun y => ltG o y) := by
  induction l with
  | nil => rfl
  | cons a l ih =>
    obtain ⟨h1, h2⟩ := List.pairwise_cons.1 h
    have hna : isG o.r o.q a = false ∧ atG l o.r o.q = false := by
      unfold atG at hn ⊢
      rw [List.any_cons, Bool.or_eq_false_iff] at hn
      exact hn
    have hne : eqG a o = false := hna.1
    have ih := ih h2 hna.2
    rcases ltg_tri a o with ⟨q1, q2, q3⟩ | ⟨q1, q2, q3⟩ | ⟨q1, q2, q3⟩
    · rw [List.filter_cons_of_pos (by simpa using q1), List.filter_cons_of_neg (by simp [q3]), List.cons_append, ← ih]
    · rw [q2] at hne; cases hne
    · have e1 : l.filter (fun y => ltG y o) = [] := by
        apply List.filter_eq_nil_iff.2
        intro y hy
        have := ltg_trans q3 (h1 y hy)
        rcases ltg_tri o y with ⟨p1, p2, p3⟩ | ⟨p1, p2, p3⟩ | ⟨p1, p2, p3⟩ <;> simp [p1, p3] at this ⊢
      rw [List.filter_cons_of_neg (by simp [q1]), List.filter_cons_of_pos (by simpa using q3), e1, List.nil_append]
      rw [e1, List.nil_append] at ih
      rw [← ih]
theorem ins_set {l : List O} (h : RiseG l) (o : O) (hn : atG l o.r o.q = false) : insG l o = setG l o := by
  conv => lhs; rw [rise_split h o hn]
  rw [ins_parts]
  · rfl
  · intro x hx
    have := (List.mem_filter.1 hx).2
    rcases ltg_tri o x with ⟨p1, p2, p3⟩ | ⟨p1, p2, p3⟩ | ⟨p1, p2, p3⟩ <;> simp_all
  · intro x hx
    exact (List.mem_filter.1 hx).2
theorem rise_set {l : List O} (h : RiseG l) (x : O) : RiseG (setG l x) := by
  unfold RiseG setG
  refine List.pairwise_append.2 ⟨h.filter _, List.pairwise_cons.2 ⟨fun y hy => (List.mem_filter.1 hy).2, h.filter _⟩, fun y hy z hz => ?_⟩
  have h1 := (List.mem_filter.1 hy).2
  rcases List.mem_cons.1 hz with rfl | hz
  · exact h1
  · exact ltg_trans h1 (List.mem_filter.1 hz).2
theorem rise_one {l : List O} (h : RiseG l) {x y : O} (hx : x ∈ l) (hy : y ∈ l) (hs : eqG x y = true) : x = y := by
  induction l with
  | nil => cases hx
  | cons a l ih =>
    obtain ⟨h1, h2⟩ := List.pairwise_cons.1 h
    have hs' : eqG y x = true := by unfold eqG at *; simp at *; omega
    rcases List.mem_cons.1 hx with e1 | m1
    · rcases List.mem_cons.1 hy with e2 | m2
      · rw [e1, e2]
      · have := h1 _ m2
        rw [e1] at hs hs'
        rcases ltg_tri a y with ⟨q1, q2, q3⟩ | ⟨q1, q2, q3⟩ | ⟨q1, q2, q3⟩ <;> simp_all
    · rcases List.mem_cons.1 hy with e2 | m2
      · have := h1 _ m1
        rw [e2] at hs hs'
        rcases ltg_tri a x with ⟨q1, q2, q3⟩ | ⟨q1, q2, q3⟩ | ⟨q1, q2, q3⟩ <;> simp_all
      · exact ih h2 m1 m2
theorem at_iff {l : List O} {r q : Int} : atG l r q = true ↔ ∃ x ∈ l, x.r = r ∧ x.q = q := by
  unfold atG isG
  rw [List.any_eq_true]
  simp
theorem rise_nodup {l : List O} (h : RiseG l) : l.Nodup := h.imp (fun {a b} hab e => by subst e; rw [ltg_irr] at hab; cases hab)
/-! ### Ready -/
/-- all numbers behind what is known, ahead of an op, are there -/
def whole (l : List O) (k : Int) (r q : Int) : Prop := ∀ n : Int, k < n → n < q → atG l r n = true
noncomputable def turn (l : List O) (k : Int → Int) (o : O) : Bool := @decide (k o.r < o.q ∧ whole l (k o.r) o.r o.q) (Classical.propDecidable _)
theorem turn_iff {l : List O} {k : Int → Int} {o : O} : turn l k o = true ↔ k o.r < o.q ∧ whole l (k o.r) o.r o.q := by unfold turn; simp
/-- The reference's round. -/
noncomputable def rdyS (l : List O) (k : Int → Int) (most : Int) (s : List O × List O) (o : O) : List O × List O :=
  if o.q ≤ k o.r then s else if turn l k o = true ∧ (s.2.length : Int) < most then (s.1, s.2 ++ [o]) else (s.1 ++ [o], s.2)
noncomputable def rdyR (l : List O) (k : Int → Int) (most : Int) : List O × List O := l.foldl (rdyS l k most) ([], [])
noncomputable def turns (l : List O) (k : Int → Int) : List O := l.filter (turn l k)
def fresh (k : Int → Int) (l : List O) : List O := l.filter (fun o => decide (k o.r < o.q))
/-- What the reference comes to, told by what is taken: the first of those whose turn it is. -/
theorem rdy_fold (L : List O) (k : Int → Int) (most : Int) : ∀ (l : List O) (w u : List O), (L ⊇ l) → l.Nodup → (∀ x ∈ l, x ∉ u) →
    l.foldl (rdyS L k most) (w, u) = (w ++ (fresh k l).filter (fun o => @decide (o ∉ (l.filter (turn L k)).take (most.toNat - u.length)) (Classical.propDecidable _)), u ++ (l.filter (turn L k)).take (most.toNat - u.length))
  | [], w, u, _, _, _ => by simp [fresh]
  | o :: l, w, u, hL, hnd, hu => by
    obtain ⟨hno, hnd'⟩ := List.nodup_cons.1 hnd
    have hL' : L ⊇ l := fun x hx => hL (List.mem_cons_of_mem _ hx)
    have hu' : ∀ x ∈ l, x ∉ u := fun x hx => hu x (List.mem_cons_of_mem _ hx)
    rw [List.foldl_cons]
    by_cases h1 : o.q ≤ k o.r
    · have e : rdyS L k most (w, u) o = (w, u) := if_pos h1
      have ht : turn L k o = false := by
        cases h : turn L k o with
        | false => rfl
        | true => have := (turn_iff.1 h).1; omega
      rw [e, rdy_fold L k most l w u hL' hnd' hu']
      have e2 : fresh k (o :: l) = fresh k l := by unfold fresh; rw [List.filter_cons_of_neg (by simp; omega)]
      rw [e2, List.filter_cons_of_neg (by simp [ht])]
    · have e2 : fresh k (o :: l) = o :: fresh k l := by unfold fresh; rw [List.filter_cons_of_pos (by simp; omega)]
      by_cases h2 : turn L k o = true ∧ (u.length : Int) < most
      · have e : rdyS L k most (w, u) o = (w, u ++ [o]) := by
          show (if _ then _ else if _ then _ else _) = _
          rw [if_neg h1, if_pos h2]
        have hm : most.toNat - u.length = (most.toNat - (u ++ [o]).length) + 1 := by rw [List.length_append, List.length_singleton]; omega
        rw [e, rdy_fold L k most l w (u ++ [o]) hL' hnd' (fun x hx => by
          rw [List.mem_append, List.mem_singleton]
          rintro (h | rfl)
          · exact hu' x hx h
          · exact hno hx)]
        rw [e2, List.filter_cons_of_pos h2.1, hm, List.take_succ_cons]
        have hin : o ∈ o :: (l.filter (turn L k)).take (most.toNat - (u ++ [o]).length) := List.mem_cons_self ..
        rw [List.filter_cons_of_neg (by simp), List.append_assoc, List.singleton_append]
        refine Prod.ext ?_ rfl
        refine congrArg (w ++ ·) ?_
        apply List.filter_congr
        intro x hx
        have hxl : x ∈ l := (List.mem_filter.1 hx).1
        have hxo : x ≠ o := fun e => hno (e ▸ hxl)
        simp [hxo]
      · have e : rdyS L k most (w, u) o = (w ++ [o], u) := by
          show (if _ then _ else if _ then _ else _) = _
          rw [if_neg h1, if_neg h2]
        rw [e, rdy_fold L k most l (w ++ [o]) u hL' hnd' hu', e2]
        have hno2 : o ∉ ((o :: l).filter (turn L k)).take (most.toNat - u.length) := by
          cases ht : turn L k o with
          | true =>
            rw [show most.toNat - u.length = 0 by
              have : ¬ ((u.length : Int) < most) := fun h => h2 ⟨ht, h⟩
              omega]
            simp
          | false =>
            rw [List.filter_cons_of_neg (by simp [ht])]
            intro h
            exact hno (List.mem_filter.1 (List.mem_of_mem_take h)).1
        have e3 : (l.filter (turn L k)).take (most.toNat - u.length) = ((o :: l).filter (turn L k)).take (most.toNat - u.length) := by
          cases ht : turn L k o with
          | true =>
            rw [show most.toNat - u.length = 0 by
              have : ¬ ((u.length : Int) < most) := fun h => h2 ⟨ht, h⟩
              omega]
            simp
          | false => rw [List.filter_cons_of_neg (by simp [ht])]
        generalize ((o :: l).filter (turn L k)).take (most.toNat - u.length) = T at *
        rw [e3, List.filter_cons_of_pos (by simpa using hno2), List.append_assoc, List.singleton_append]
theorem rdy_eq {l : List O} (h : RiseG l) (k : Int → Int) (most : Int) :
    rdyR l k most = ((fresh k l).filter (fun o => @decide (o ∉ (turns l k).take most.toNat) (Classical.propDecidable _)), (turns l k).take most.toNat) := by
  unfold rdyR
  rw [rdy_fold l k most l [] [] (fun x hx => hx) (rise_nodup h) (fun x _ => by simp)]
  simp only [List.nil_append, List.length_nil, Nat.sub_zero]
  rfl
/-! ### what the program's Ready comes to -/
noncomputable def left (l : List O) (k : Int → Int) (j : Nat) : List O := (fresh k l).filter (fun o => @decide (o ∉ (turns l k).take j) (Classical.propDecidable _))
def dropG (l : List O) (r q : Int) : List O := l.filter (fun y => !isG r q y)
structure RI (l : List O) (k : Int → Int) (most : Int) (rep last : Int) (j : Nat) : Prop where
  le : j ≤ (turns l k).length
  mo : j ≤ most.toNat
  ge : j = most.toNat ∨ ∀ o ∈ (turns l k).drop j, rep < o.r ∨ (o.r = rep ∧ last < o.q)
  ru : ∀ n, k rep < n → n ≤ last → atG l rep n = true
  be : ∀ o ∈ (turns l k).take j, o.r < rep ∨ (o.r = rep ∧ o.q ≤ last)
theorem mem_left {l : List O} {k : Int → Int} {j : Nat} {o : O} : o ∈ left l k j ↔ o ∈ l ∧ k o.r < o.q ∧ o ∉ (turns l k).take j := by
  unfold left fresh
  rw [List.mem_filter, List.mem_filter]
  simp [and_assoc]
theorem turns_rise {l : List O} (h : RiseG l) (k : Int → Int) : RiseG (turns l k) := h.filter _
theorem left_rise {l : List O} (h : RiseG l) (k : Int → Int) (j : Nat) : RiseG (left l k j) := (h.filter _).filter _
theorem left_zero (l : List O) (k : Int → Int) : left l k 0 = fresh k l := by
  unfold left
  rw [List.take_zero]
  apply List.filter_eq_self.2
  intro o _
  simp
theorem get_some {l : List O} {r q : Int} {o : O} (h : getG l r q = some o) : o ∈ l ∧ o.r = r ∧ o.q = q := by
  unfold getG at h
  have h1 := List.mem_of_find?_eq_some h
  have h2 := List.find?_some h
  unfold isG at h2
  exact ⟨h1, by simpa using h2⟩
theorem get_none {l : List O} {r q : Int} (h : getG l r q = none) : ∀ o ∈ l, ¬ (o.r = r ∧ o.q = q) := by
  unfold getG at h
  intro o ho
  have := List.find?_eq_none.1 h o ho
  unfold isG at this
  simpa using this
theorem ri_start (l : List O) (k : Int → Int) (most : Int) (hr : ∀ o ∈ l, 0 ≤ o.r) : RI l k most 0 (k 0) 0 := by
  refine ⟨Nat.zero_le _, Nat.zero_le _, .inr fun o ho => ?_, (fun n h1 h2 => by omega), (fun o ho => by rw [List.take_zero] at ho; cases ho)⟩
  rw [List.drop_zero] at ho
  have h1 := (List.mem_filter.1 ho).1
  have h2 := (turn_iff.1 (List.mem_filter.1 ho).2).1
  have := hr o h1
  by_cases e : o.r = 0
  · rw [e] at h2; exact .inr ⟨e, h2⟩
  · exact .inl (by omega)
theorem ri_found {l : List O} (h : RiseG l) {k : Int → Int} {most rep last : Int} {j : Nat} (hi : RI l k most rep last j) (hj : (j : Int) < most) (hk : k rep ≤ last) {o : O} (hg : getG (left l k j) rep (last + 1) = some o) :
    (turns l k).take (j + 1) = (turns l k).take j ++ [o] ∧ left l k (j + 1) = dropG (left l k j) rep (last + 1) ∧ RI l k most rep (last + 1) (j + 1) := by
  obtain ⟨hm, hr, hq⟩ := get_some hg
  obtain ⟨hl, hkq, hnt⟩ := mem_left.1 hm
  have hat : atG l rep (last + 1) = true := at_iff.2 ⟨o, hl, hr, hq⟩
  have ht : turn l k o = true := turn_iff.2 ⟨hkq, fun n h1 h2 => by rw [hr] at h1 ⊢; exact hi.ru n h1 (by omega)⟩
  have hT : o ∈ turns l k := List.mem_filter.2 ⟨hl, ht⟩
  have hge := hi.ge.resolve_left (by omega)
  have hd : o ∈ (turns l k).drop j := by
    have : o ∈ (turns l k).take j ++ (turns l k).drop j := by rw [List.take_append_drop]; exact hT
    exact (List.mem_append.1 this).resolve_left hnt
  have hjl : j < (turns l k).length := by
    rcases Nat.lt_or_ge j (turns l k).length with h | h
    · exact h
    · rw [List.drop_eq_nil_of_le h] at hd; cases hd
  have hdc := List.drop_eq_getElem_cons hjl
  have hrs := turns_rise h k
  have hrd : RiseG ((turns l k).drop j) := hrs.sublist (List.drop_sublist _ _)
  rw [hdc] at hd hrd hge
  obtain ⟨hr1, hr2⟩ := List.pairwise_cons.1 hrd
  have hoj : o = (turns l k)[j] := by
    rcases List.mem_cons.1 hd with e | hd
    · exact e
    · have h1 := hr1 o hd
      have h2 := hge _ (List.mem_cons_self ..)
      unfold ltG at h1
      split at h1 <;> simp at h1 <;> omega
  have htk : (turns l k).take (j + 1) = (turns l k).take j ++ [o] := by
    rw [hoj, List.take_append_getElem hjl]
  refine ⟨htk, ?_, by omega, by omega, .inr fun x hx => ?_, fun n h1 h2 => ?_, fun x hx => ?_⟩
  · unfold left dropG
    rw [List.filter_filter]
    apply List.filter_congr
    intro x hx
    have hxl : x ∈ l := (List.mem_filter.1 hx).1
    rw [htk]
    have e : isG rep (last + 1) x = @decide (x = o) (Classical.propDecidable _) := by
      unfold isG
      by_cases e : x = o
      · subst e; simp [hr, hq]
      · simp only [e, decide_false, decide_eq_false_iff_not]
        rintro ⟨h1, h2⟩
        exact e (rise_one h hxl hl (by unfold eqG; simp [h1, h2, hr, hq]))
    rw [e]
    by_cases e : x = o
    · simp [e]
    · simp [e]
  · have h1 := hr1 x (hx)
    rw [← hoj] at h1
    unfold ltG at h1
    split at h1 <;> simp at h1 <;> omega
  · by_cases e : n = last + 1
    · rw [e]; exact hat
    · exact hi.ru n h1 (by omega)
  · rw [htk] at hx
    rcases List.mem_append.1 hx with hx | hx
    · rcases hi.be x hx with h | ⟨h1, h2⟩
      · exact .inl h
      · exact .inr ⟨h1, by omega⟩
    · rw [List.mem_singleton.1 hx]; exact .inr ⟨hr, by omega⟩
theorem ri_none {l : List O} {k : Int → Int} {most rep last : Int} {j : Nat} (hi : RI l k most rep last j) (hj : (j : Int) < most) (hk : k rep ≤ last) (hg : getG (left l k j) rep (last + 1) = none) : RI l k most (rep + 1) (k (rep + 1)) j := by
  refine ⟨hi.le, hi.mo, .inr fun o ho => ?_, (fun n h1 h2 => by omega), (fun o ho => by rcases hi.be o ho with h | ⟨h, _⟩ <;> exact .inl (by omega))⟩
  have hge := hi.ge.resolve_left (by omega) o ho
  have hT := List.mem_of_mem_drop ho
  have hl := (List.mem_filter.1 hT).1
  obtain ⟨h1, h2⟩ := turn_iff.1 (List.mem_filter.1 hT).2
  have hnot : ¬ (o.r = rep) := fun e => by
    rw [e] at h1 h2
    have hq : last < o.q := by omega
    have hat : ∃ x ∈ l, x.r = rep ∧ x.q = last + 1 := by
      by_cases e2 : o.q = last + 1
      · exact ⟨o, hl, e, e2⟩
      · exact at_iff.1 (h2 (last + 1) (by omega) (by omega))
    obtain ⟨x, hx, hxr, hxq⟩ := hat
    by_cases hin : x ∈ (turns l k).take j
    · rcases hi.be x hin with h | ⟨_, h⟩ <;> omega
    · exact get_none hg x (mem_left.2 ⟨hx, by rw [hxr, hxq]; omega, hin⟩) ⟨hxr, hxq⟩
  by_cases e : o.r = rep + 1
  · rw [e] at h1; exact .inr ⟨e, h1⟩
  · exact .inl (by omega)
theorem ri_full {l : List O} {k : Int → Int} {most rep last : Int} {j : Nat} (hi : RI l k most rep last j) (hj : ¬ (j : Int) < most) (hk : k rep ≤ last) : RI l k most (rep + 1) (k (rep + 1)) j := by
  have := hi.mo
  exact ⟨hi.le, hi.mo, .inl (by omega), (fun n h1 h2 => by omega), (fun o ho => by rcases hi.be o ho with h | ⟨h, _⟩ <;> exact .inl (by omega))⟩
theorem ri_end {l : List O} {k : Int → Int} {most last : Int} {j : Nat} (hi : RI l k most 64 last j) (hr : ∀ o ∈ l, o.r < 64) : (turns l k).take j = (turns l k).take most.toNat := by
  rcases hi.ge with h | h
  · rw [h]
  · have : (turns l k).drop j = [] := by
      apply List.eq_nil_iff_forall_not_mem.2
      intro o ho
      have h1 := h o ho
      have h2 := hr o (List.mem_filter.1 (List.mem_of_mem_drop ho)).1
      omega
    have h2 := List.drop_eq_nil_iff.1 this
    rw [List.take_of_length_le h2, List.take_of_length_le (Nat.le_trans h2 hi.mo)]
theorem ri_rdy {l : List O} (h : RiseG l) {k : Int → Int} {most last : Int} {j : Nat} (hi : RI l k most 64 last j) (hr : ∀ o ∈ l, o.r < 64) : rdyR l k most = (left l k j, (turns l k).take j) := by
  rw [rdy_eq h, ← ri_end hi hr]
  rfl
/-! ### Lacks -/
abbrev Rg := Int × Int × Int
/-- numbers cur+1 .. cur+n -/
def nums (cur : Int) (n : Nat) : List Int := (List.range n).map (fun (i : Nat) => cur + 1 + (i : Int))
theorem nums_succ (cur : Int) (n : Nat) : nums cur (n + 1) = nums cur n ++ [cur + 1 + (n : Int)] := by unfold nums; rw [List.range_succ, List.map_append]; rfl
theorem nums_add (cur : Int) (a b : Nat) : nums cur (a + b) = nums cur a ++ nums (cur + a) b := by
  unfold nums
  rw [List.range_add, List.map_append, List.map_map]
  congr 1
  apply List.map_congr_left
  intro i _
  simp only [Function.comp]
  omega
def setTo (out : List Rg) (n : Int) : List Rg := match out.getLast? with | none => out | some p => out.dropLast ++ [(p.1, p.2.1, n)]
theorem setTo_snoc (out : List Rg) (p : Rg) (n : Int) : setTo (out ++ [p]) n = out ++ [(p.1, p.2.1, n)] := by unfold setTo; rw [List.getLast?_concat]; simp
def scanS (l : List O) (rep : Int) (s : List Rg × Bool) (n : Int) : List Rg × Bool := if atG l rep n then (s.1, false) else if s.2 then (setTo s.1 n, true) else (s.1 ++ [(rep, n, n)], true)
def lastG (l : List O) (rep : Int) : Int := l.foldl (fun m o => if o.r = rep ∧ m < o.q then o.q else m) 0
def scanR (l : List O) (ks : Int → Int) (out : List Rg) (rep : Nat) : List Rg := ((nums (ks rep) (lastG l rep - ks rep).toNat).foldl (scanS l rep) (out, false)).1
def lckR (l : List O) (ks : Int → Int) : List Rg := (List.range 64).foldl (scanR l ks) []
def gapQ (rep : Int) : Int → List Int → List Rg
  | _, [] => []
  | cur, q :: qs => (if cur + 1 < q then [(rep, cur + 1, q - 1)] else []) ++ gapQ rep q qs
theorem scan_none (l : List O) (rep cur : Int) (out : List Rg) : ∀ m : Nat, (∀ i : Nat, i < m → atG l rep (cur + 1 + (i : Int)) = false) → (nums cur m).foldl (scanS l rep) (out, false) = if m = 0 then (out, false) else (out ++ [(rep, cur + 1, cur + (m : Int))], true)
  | 0, _ => rfl
  | m + 1, h => by
    rw [nums_succ, List.foldl_append, scan_none l rep cur out m (fun i hi => h i (by omega))]
    have hm := h m (by omega)
    simp only [List.foldl_cons, List.foldl_nil]
    unfold scanS
    rw [if_neg (by rw [hm]; simp)]
    by_cases e : m = 0
    · subst e; simp
    · rw [if_neg e, if_pos (show true = true from rfl), if_neg (by omega)]
      dsimp only
      rw [setTo_snoc]
      refine Prod.ext ?_ rfl
      refine congrArg (out ++ [·]) ?_
      refine Prod.ext rfl (Prod.ext rfl ?_)
      show cur + 1 + (m : Int) = cur + ((m + 1 : Nat) : Int)
      omega
theorem scan_run (l : List O) (rep : Int) : ∀ (qs : List Int) (cur last : Int) (out : List Rg), qs.Pairwise (· < ·) → (∀ q ∈ qs, cur < q) → (∀ n, cur < n → (atG l rep n = true ↔ n ∈ qs)) → (∀ q ∈ qs.getLast?, q = last) → (qs = [] → last ≤ cur) →
    ((nums cur (last - cur).toNat).foldl (scanS l rep) (out, false)).1 = out ++ gapQ rep cur qs
  | [], cur, last, out, _, _, _, _, hz => by
    rw [show (last - cur).toNat = 0 by have := hz rfl; omega]
    simp [nums, gapQ]
  | q :: qs, cur, last, out, hp, hq, hat, hl, _ => by
    obtain ⟨p1, p2⟩ := List.pairwise_cons.1 hp
    have hcq := hq q (List.mem_cons_self ..)
    have hql : q ≤ last := by
      cases hqs : qs.getLast? with
      | none =>
        have : qs = [] := List.getLast?_eq_none_iff.1 hqs
        subst this
        have := hl q (by simp)
        omega
      | some z =>
        have hz : (q :: qs).getLast? = some z := by
          cases qs with
          | nil => cases hqs
          | cons a qs => rw [List.getLast?_cons_cons]; exact hqs
        have := hl z (by rw [hz]; rfl)
        have := p1 z (List.mem_of_getLast? hqs)
        omega
    obtain ⟨m, hm⟩ : ∃ m : Nat, q = cur + 1 + (m : Int) := ⟨(q - cur - 1).toNat, by omega⟩
    have e : (last - cur).toNat = m + (1 + (last - q).toNat) := by omega
    have hn : ∀ i : Nat, i < m → atG l rep (cur + 1 + (i : Int)) = false := by
      intro i hi
      cases h : atG l rep (cur + 1 + (i : Int)) with
      | false => rfl
      | true =>
        have := (hat _ (by omega)).1 h
        rcases List.mem_cons.1 this with h | h
        · omega
        · have := p1 _ h; omega
    have hq1 : nums (cur + m) (1 + (last - q).toNat) = q :: nums q (last - q).toNat := by
      rw [nums_add]
      have : nums (cur + m) 1 = [q] := by unfold nums; simp; omega
      rw [this, show cur + (m : Int) + ((1 : Nat) : Int) = q by omega]
      rfl
    rw [e, nums_add, List.foldl_append, scan_none l rep cur out m hn, hq1, List.foldl_cons]
    have hatq : atG l rep q = true := (hat q hcq).2 (List.mem_cons_self ..)
    have hs : ∀ s, scanS l rep s q = (s.1, false) := fun s => by unfold scanS; rw [if_pos hatq]
    rw [hs, scan_run l rep qs q last _ p2 p1 (fun n hn => by
        rw [hat n (by omega), List.mem_cons]
        constructor
        · rintro (h | h)
          · omega
          · exact h
        · exact .inr) (fun z hz => hl z (by
        cases qs with
        | nil => cases hz
        | cons a qs => rw [List.getLast?_cons_cons]; exact hz)) (fun h => by
        subst h
        have := hl q (by simp)
        omega)]
    rw [show gapQ rep cur (q :: qs) = (if cur + 1 < q then [(rep, cur + 1, q - 1)] else []) ++ gapQ rep q qs from rfl]
    by_cases e0 : m = 0
    · rw [if_pos e0, if_neg (by omega)]; rfl
    · rw [if_neg e0, if_pos (by omega)]
      rw [show q - 1 = cur + (m : Int) by omega]
      simp
def qsOf (l : List O) (rep : Int) (k : Int) : List Int := ((l.filter (fun o => decide (o.r = rep))).map (·.q)).filter (fun q => decide (k < q))
/-! the program's -/
def lckS (s : List Int × List Rg) (o : O) : List Int × List Rg :=
  if o.q ≤ s.1.getD o.r.toNat 0 then s else (s.1.set o.r.toNat o.q, if s.1.getD o.r.toNat 0 + 1 < o.q then s.2 ++ [(o.r, s.1.getD o.r.toNat 0 + 1, o.q - 1)] else s.2)
def lckP (l : List O) (ks : List Int) : List Rg := (l.foldl lckS (ks, [])).2
theorem getD_set {ks : List Int} {i : Nat} {x : Int} (h : i < ks.length) : (ks.set i x).getD i 0 = x := by rw [List.getD_eq_getElem?_getD, List.getElem?_set, if_pos rfl, if_pos h]; rfl
theorem getD_set_ne {ks : List Int} {i j : Nat} {x : Int} (h : i ≠ j) : (ks.set i x).getD j 0 = ks.getD j 0 := by rw [List.getD_eq_getElem?_getD, List.getElem?_set, if_neg h, List.getD_eq_getElem?_getD]
/-- The ops of one replica. -/
theorem lck_one (k : Nat) : ∀ (l : List O) (ks : List Int) (out : List Rg), k < ks.length → (∀ o ∈ l, o.r = (k : Int)) → (l.map (·.q)).Pairwise (· < ·) →
    ∃ ks', l.foldl lckS (ks, out) = (ks', out ++ gapQ k (ks.getD k 0) ((l.map (·.q)).filter (fun q => decide (ks.getD k 0 < q)))) ∧ ks'.length = ks.length ∧ ∀ j, j ≠ k → ks'.getD j 0 = ks.getD j 0
  | [], ks, out, _, _, _ => ⟨ks, by simp [gapQ], rfl, fun _ _ => rfl⟩
  | o :: l, ks, out, hk, hr, hp => by
    have ho := hr o (List.mem_cons_self ..)
    obtain ⟨p1, p2⟩ := List.pairwise_cons.1 hp
    have e1 : o.r.toNat = k := by omega
    rw [List.foldl_cons, List.map_cons]
    by_cases h : o.q ≤ ks.getD k 0
    · have e : lckS (ks, out) o = (ks, out) := by unfold lckS; rw [e1, if_pos h]
      rw [e, List.filter_cons_of_neg (by rw [decide_eq_true_eq]; omega)]
      exact lck_one k l ks out hk (fun x hx => hr x (List.mem_cons_of_mem _ hx)) p2
    · have e : lckS (ks, out) o = (ks.set k o.q, if ks.getD k 0 + 1 < o.q then out ++ [((k : Int), ks.getD k 0 + 1, o.q - 1)] else out) := by unfold lckS; rw [e1, if_neg h, ho]
      obtain ⟨ks', h1, h2, h3⟩ := lck_one k l (ks.set k o.q) (if ks.getD k 0 + 1 < o.q then out ++ [((k : Int), ks.getD k 0 + 1, o.q - 1)] else out) (by rw [List.length_set]; exact hk) (fun x hx => hr x (List.mem_cons_of_mem _ hx)) p2
      refine ⟨ks', ?_, by rw [h2, List.length_set], fun j hj => by rw [h3 j hj, getD_set_ne (fun e => hj e.symm)]⟩
      rw [e, h1, getD_set hk, List.filter_cons_of_pos (by simpa using h)]
      refine Prod.ext rfl ?_
      show _ = out ++ (_ ++ gapQ _ _ _)
      have e3 : (l.map (·.q)).filter (fun q => decide (o.q < q)) = (l.map (·.q)).filter (fun q => decide (ks.getD k 0 < q)) := by
        apply List.filter_congr
        intro q hq
        have := p1 q hq
        rw [decide_eq_true (show o.q < q from this), decide_eq_true (show ks.getD k 0 < q by have : o.q < q := this; omega)]
      rw [e3]
      by_cases h4 : ks.getD k 0 + 1 < o.q
      · rw [if_pos h4, if_pos h4, List.append_assoc]
      · rw [if_neg h4, if_neg h4]; rfl
theorem rise_parts {l : List O} (h : RiseG l) (hr : ∀ o ∈ l, 0 ≤ o.r ∧ o.r < 64) : ∀ n : Nat, l.filter (fun o => decide (o.r < (n : Int))) = (List.range n).flatMap (fun (k : Nat) => l.filter (fun o => decide (o.r = (k : Int))))
  | 0 => by
    rw [List.filter_eq_nil_iff.2]
    · rfl
    · intro o ho; have := hr o ho; simp; omega
  | n + 1 => by
    rw [List.range_succ, List.flatMap_append, ← rise_parts h hr n]
    simp only [List.flatMap_cons, List.flatMap_nil, List.append_nil]
    clear hr
    induction l with
    | nil => rfl
    | cons a l ih =>
      obtain ⟨h1, h2⟩ := List.pairwise_cons.1 h
      have ih := ih h2
      have e0 : ¬ a.r < (n : Int) → l.filter (fun o => decide (o.r < (n : Int))) = [] := fun c => by
        apply List.filter_eq_nil_iff.2
        intro o ho
        have := h1 o ho
        unfold ltG at this
        split at this <;> simp at this ⊢ <;> omega
      have f1 : decide (a.r < ((n + 1 : Nat) : Int)) = (decide (a.r < (n : Int)) || decide (a.r = (n : Int))) := by
        by_cases c : a.r < (n : Int)
        · rw [decide_eq_true c, decide_eq_true (by omega)]; rfl
        · by_cases c2 : a.r = (n : Int)
          · rw [decide_eq_false c, decide_eq_true c2, decide_eq_true (by omega)]; rfl
          · rw [decide_eq_false c, decide_eq_false c2, decide_eq_false (by omega)]; rfl
      by_cases c : a.r < (n : Int)
      · have c2 : ¬ a.r = (n : Int) := by omega
        simp only [List.filter_cons, f1, decide_eq_true c, decide_eq_false c2, Bool.true_or, if_true, Bool.false_eq_true, if_false, ih, List.cons_append]
      · have e0 := e0 c
        rw [e0, List.nil_append] at ih
        by_cases c2 : a.r = (n : Int)
        · simp only [List.filter_cons, f1, decide_eq_false c, decide_eq_true c2, Bool.or_true, if_true, Bool.false_eq_true, if_false, ih, e0, List.nil_append]
        · simp only [List.filter_cons, f1, decide_eq_false c, decide_eq_false c2, Bool.or_false, Bool.false_eq_true, if_false, ih, e0, List.nil_append]
theorem last_max (l : List O) (rep : Int) : ∀ (m : Int), m ≤ l.foldl (fun m o => if o.r = rep ∧ m < o.q then o.q else m) m ∧ (∀ o ∈ l, o.r = rep → o.q ≤ l.foldl (fun m o => if o.r = rep ∧ m < o.q then o.q else m) m) ∧ (l.foldl (fun m o => if o.r = rep ∧ m < o.q then o.q else m) m = m ∨ ∃ o ∈ l, o.r = rep ∧ o.q = l.foldl (fun m o => if o.r = rep ∧ m < o.q then o.q else m) m) := by
  induction l with
  | nil => intro m; exact ⟨Int.le_refl _, (fun o ho => by cases ho), .inl rfl⟩
  | cons a l ih =>
    intro m
    rw [List.foldl_cons]
    by_cases c : a.r = rep ∧ m < a.q
    · rw [if_pos c]
      obtain ⟨h1, h2, h3⟩ := ih a.q
      refine ⟨by omega, fun o ho hr => ?_, ?_⟩
      · rcases List.mem_cons.1 ho with rfl | ho
        · exact h1
        · exact h2 o ho hr
      · rcases h3 with h3 | ⟨o, ho, h4, h5⟩
        · exact .inr ⟨a, List.mem_cons_self .., c.1, by rw [h3]⟩
        · exact .inr ⟨o, List.mem_cons_of_mem _ ho, h4, h5⟩
    · rw [if_neg c]
      obtain ⟨h1, h2, h3⟩ := ih m
      refine ⟨h1, fun o ho hr => ?_, ?_⟩
      · rcases List.mem_cons.1 ho with rfl | ho
        · have : ¬ m < o.q := fun q => c ⟨hr, q⟩
          omega
        · exact h2 o ho hr
      · rcases h3 with h3 | ⟨o, ho, h4, h5⟩
        · exact .inl h3
        · exact .inr ⟨o, List.mem_cons_of_mem _ ho, h4, h5⟩
theorem one_rise {l : List O} (h : RiseG l) (rep : Int) : ((l.filter (fun o => decide (o.r = rep))).map (·.q)).Pairwise (· < ·) := by
  rw [List.pairwise_map]
  have h2 : (l.filter (fun o => decide (o.r = rep))).Pairwise (fun x y => ltG x y = true) := h.filter _
  refine List.Pairwise.imp_of_mem (fun {a b} ha hb hab => ?_) h2
  have ha := (List.mem_filter.1 ha).2
  have hb := (List.mem_filter.1 hb).2
  simp only [decide_eq_true_eq] at ha hb
  unfold ltG at hab
  rw [if_pos (by rw [ha, hb])] at hab
  simpa using hab
theorem scanR_eq {l : List O} (h : RiseG l) (ks : Int → Int) (out : List Rg) (k : Nat) (hk0 : 0 ≤ ks k) : scanR l ks out k = out ++ gapQ k (ks k) (qsOf l k (ks k)) := by
  unfold scanR
  obtain ⟨h1, h2, h3⟩ := last_max l (k : Int) 0
  have hmem : ∀ n, n ∈ qsOf l k (ks k) ↔ atG l k n = true ∧ ks k < n := fun n => by
    unfold qsOf
    rw [List.mem_filter, List.mem_map, at_iff]
    simp only [List.mem_filter, decide_eq_true_eq]
    constructor
    · rintro ⟨⟨o, ⟨a, b⟩, c⟩, d⟩; exact ⟨⟨o, a, b, c⟩, d⟩
    · rintro ⟨⟨o, a, b, c⟩, d⟩; exact ⟨⟨o, ⟨a, b⟩, c⟩, d⟩
  refine scan_run l k _ (ks k) (lastG l k) out ((one_rise h k).filter _) (fun q hq => ((hmem q).1 hq).2) (fun n hn => ?_) (fun q hq => ?_) (fun he => ?_)
  · rw [hmem]; simp [hn]
  · have hq1 := (hmem q).1 (List.mem_of_getLast? hq)
    obtain ⟨o, ho, ho1, ho2⟩ := at_iff.1 hq1.1
    have hle : q ≤ lastG l k := by rw [← ho2]; exact h2 o ho ho1
    rcases h3 with h3 | ⟨x, hx, hx1, hx2⟩
    · have : lastG l k = 0 := h3
      omega
    · have hx3 : lastG l k ∈ qsOf l k (ks k) := (hmem _).2 ⟨at_iff.2 ⟨x, hx, hx1, hx2⟩, by omega⟩
      obtain ⟨ys, hys⟩ := List.getLast?_eq_some_iff.1 hq
      rw [hys] at hx3
      have hpw : (qsOf l k (ks k)).Pairwise (· < ·) := (one_rise h k).filter _
      rw [hys] at hpw
      rcases List.mem_append.1 hx3 with hx3 | hx3
      · have := (List.pairwise_append.1 hpw).2.2 _ hx3 q (by simp); omega
      · exact (List.mem_singleton.1 hx3).symm
  · rcases h3 with h3 | ⟨x, hx, hx1, hx2⟩
    · have : lastG l k = 0 := h3
      omega
    · have : ¬ ks k < lastG l k := fun q => by
        have : lastG l k ∈ qsOf l k (ks k) := (hmem _).2 ⟨at_iff.2 ⟨x, hx, hx1, hx2⟩, q⟩
        rw [he] at this; cases this
      omega
theorem lck_parts (L : Nat → List O) (ks0 : List Int) (h64 : ks0.length = 64) (hL : ∀ k, ∀ o ∈ L k, o.r = (k : Int)) (hp : ∀ k, ((L k).map (·.q)).Pairwise (· < ·)) : ∀ n, n ≤ 64 →
    ∃ ks', ((List.range n).flatMap L).foldl lckS (ks0, []) = (ks', (List.range n).flatMap (fun (k : Nat) => gapQ k (ks0.getD k 0) (((L k).map (·.q)).filter (fun q => decide (ks0.getD k 0 < q))))) ∧ ks'.length = 64 ∧ ∀ j, n ≤ j → ks'.getD j 0 = ks0.getD j 0
  | 0, _ => ⟨ks0, by simp, h64, fun _ _ => rfl⟩
  | n + 1, hn => by
    obtain ⟨ks1, h1, h2, h3⟩ := lck_parts L ks0 h64 hL hp n (by omega)
    obtain ⟨ks2, g1, g2, g3⟩ := lck_one n (L n) ks1 ((List.range n).flatMap (fun (k : Nat) => gapQ k (ks0.getD k 0) (((L k).map (·.q)).filter (fun q => decide (ks0.getD k 0 < q))))) (by omega) (hL n) (hp n)
    refine ⟨ks2, ?_, by omega, fun j hj => by rw [g3 j (by omega), h3 j (by omega)]⟩
    rw [List.range_succ, List.flatMap_append, List.foldl_append, h1]
    simp only [List.flatMap_cons, List.flatMap_nil, List.append_nil]
    rw [g1, h3 n (Nat.le_refl _), List.flatMap_append]
    simp
theorem lck_eq {l : List O} (h : RiseG l) (hr : ∀ o ∈ l, 0 ≤ o.r ∧ o.r < 64) (ks : List Int) (h64 : ks.length = 64) (h0 : ∀ k : Nat, 0 ≤ ks.getD k 0) : lckP l ks = lckR l (fun r => ks.getD r.toNat 0) := by
  have e : l = (List.range 64).flatMap (fun (k : Nat) => l.filter (fun o => decide (o.r = (k : Int)))) := by
    rw [← rise_parts h hr 64]
    exact (List.filter_eq_self.2 (fun o ho => by have := (hr o ho).2; simp; omega)).symm
  obtain ⟨ks', h1, _, _⟩ := lck_parts (fun k => l.filter (fun o => decide (o.r = (k : Int)))) ks h64 (fun k o ho => by have := (List.mem_filter.1 ho).2; simpa using this) (fun k => one_rise h k) 64 (Nat.le_refl _)
  unfold lckP
  conv => lhs; rw [e]
  rw [h1]
  dsimp only
  unfold lckR
  have : ∀ n, (List.range n).foldl (scanR l (fun r => ks.getD r.toNat 0)) [] = (List.range n).flatMap (fun (k : Nat) => gapQ k (ks.getD k 0) (qsOf l k (ks.getD k 0))) := by
    intro n
    induction n with
    | zero => rfl
    | succ n ih =>
      rw [List.range_succ, List.foldl_append, ih, List.flatMap_append]
      simp only [List.foldl_cons, List.foldl_nil, List.flatMap_cons, List.flatMap_nil, List.append_nil]
      rw [scanR_eq h _ _ n (by rw [Int.toNat_natCast]; exact h0 n), Int.toNat_natCast]
  rw [this]
  rfl
end Go.Proofs.Ytgnnpfainoppeaa
