/- Lists of stamps that rise (plain: nothing of the program but the two stamps' order). -/
import Derived.Test.YthpolhlhpdhomaaDoorCmpW
set_option linter.unusedVariables false
namespace Go.Proofs.YthpolhlhpdhomaaDoor

abbrev St := Int × Int
def lt (a b : St) : Bool := lessB a.1 a.2 b.1 b.2
theorem lt_iff (a b : St) : lt a b = true ↔ (a.1 < b.1 ∨ (a.1 = b.1 ∧ a.2 < b.2)) := by
  unfold lt lessB
  by_cases h : a.1 = b.1
  · rw [if_pos h]; simp [h]
  · rw [if_neg h]; simp [h]
theorem lt_irr (a : St) : lt a a = false := by
  cases h : lt a a with
  | false => rfl
  | true => rw [lt_iff] at h; omega
theorem lt_tr {a b c : St} (h : lt a b = true) (k : lt b c = true) : lt a c = true := by
  rw [lt_iff] at *; omega
theorem lt_tot {a b : St} (h : lt a b = false) (hne : a ≠ b) : lt b a = true := by
  rw [lt_iff]
  have h2 : ¬ (a.1 < b.1 ∨ (a.1 = b.1 ∧ a.2 < b.2)) := fun k => by rw [← lt_iff] at k; rw [k] at h; cases h
  have h3 : ¬ (a.1 = b.1 ∧ a.2 = b.2) := fun k => hne (Prod.ext k.1 k.2)
  omega
theorem lt_not {a b : St} (h : lt a b = true) : lt b a = false := by
  cases h2 : lt b a with
  | false => rfl
  | true => have := lt_tr h h2; rw [lt_irr] at this; cases this
/-- a is ahead of b, b not ahead of s: a not .. -/
theorem lt_up {a b s : St} (h : lt a s = false) (k : lt a b = true) : lt b s = false := by
  cases h2 : lt b s with
  | false => rfl
  | true => have := lt_tr k h2; rw [this] at h; cases h
def Up (l : List St) : Prop := l.Pairwise (fun a b => lt a b = true)

/-- The reference's Put. -/
def putF : Bool → List St → St → List St
  | d, [], s => if d then [] else [s]
  | d, x :: r, s => (if !d && !(lt x s) then [s] else []) ++ (if x ≠ s then [x] else []) ++ putF (d || !(lt x s)) r s
def dropF (l : List St) (s : St) : List St := l.filter (fun x => decide (x ≠ s))
def sortF (l : List St) : List St := l.foldl (fun acc x => putF false acc x) []

theorem putF_done : ∀ (l : List St) (s : St), putF true l s = l.filter (fun x => decide (x ≠ s))
  | [], s => rfl
  | x :: r, s => by
    show (if !true && !(lt x s) then [s] else []) ++ (if x ≠ s then [x] else []) ++ putF (true || !(lt x s)) r s = _
    rw [Bool.true_or, putF_done r s]
    by_cases h : x = s
    · simp [h]
    · simp [h]
/-- Where a stamp stands, or would stand. -/
structure Split (l : List St) (s : St) (i : Nat) : Prop where
  le : i ≤ l.length
  lo : ∀ (k : Nat) x, l[k]? = some x → k < i → lt x s = true
  hi : ∀ (k : Nat) x, l[k]? = some x → i ≤ k → lt x s = false
theorem filter_up {l : List St} {s : St} (h : ∀ x ∈ l, lt s x = true) : l.filter (fun x => decide (x ≠ s)) = l := by
  rw [List.filter_eq_self]
  intro x hx
  have := h x hx
  have hne : x ≠ s := fun e => by rw [e, lt_irr] at this; cases this
  simpa using hne
theorem filter_lo {l : List St} {s : St} (h : ∀ x ∈ l, lt x s = true) : l.filter (fun x => decide (x ≠ s)) = l := by
  rw [List.filter_eq_self]
  intro x hx
  have := h x hx
  have hne : x ≠ s := fun e => by rw [e, lt_irr] at this; cases this
  simpa using hne
theorem putF_lo : ∀ (A B : List St) (s : St), (∀ x ∈ A, lt x s = true) → putF false (A ++ B) s = A ++ putF false B s
  | [], B, s, _ => rfl
  | x :: r, B, s, h => by
    have hx := h x (List.mem_cons_self ..)
    have ih := putF_lo r B s (fun y hy => h y (List.mem_cons_of_mem _ hy))
    have hne : x ≠ s := fun e => by rw [e, lt_irr] at hx; cases hx
    show (if !false && !(lt x s) then [s] else []) ++ (if x ≠ s then [x] else []) ++ putF (false || !(lt x s)) (r ++ B) s = x :: (r ++ putF false B s)
    rw [hx, if_pos hne]
    simp only [Bool.not_true, Bool.and_false, Bool.or_false]
    rw [ih]
    rfl
theorem putF_hi (B : List St) (s : St) (hB : Up B) (h : ∀ x ∈ B, lt x s = false) : putF false B s = s :: (if B[0]? = some s then B.drop 1 else B) := by
  match B, hB, h with
  | [], _, _ => rfl
  | x :: r, hB, h =>
    have hx := h x (List.mem_cons_self ..)
    have hr : ∀ y ∈ r, lt x y = true := (List.pairwise_cons.1 hB).1
    have hsy : ∀ y ∈ r, lt s y = true := fun y hy => by
      by_cases e : x = s
      · rw [← e]; exact hr y hy
      · exact lt_tr (lt_tot hx e) (hr y hy)
    show (if !false && !(lt x s) then [s] else []) ++ (if x ≠ s then [x] else []) ++ putF (false || !(lt x s)) r s = _
    rw [hx]
    simp only [Bool.not_false, Bool.and_self, Bool.false_or, if_true]
    rw [putF_done, filter_up hsy]
    by_cases e : x = s
    · subst e; simp
    · simp [e]
theorem split_parts {l : List St} {s : St} {i : Nat} (h : Split l s i) : (∀ x ∈ l.take i, lt x s = true) ∧ (∀ x ∈ l.drop i, lt x s = false) := by
  refine ⟨fun x hx => ?_, fun x hx => ?_⟩
  · obtain ⟨k, hk⟩ := List.mem_iff_getElem?.1 hx
    rw [List.getElem?_take] at hk
    split at hk
    · exact h.lo k x hk ‹_›
    · cases hk
  · obtain ⟨k, hk⟩ := List.mem_iff_getElem?.1 hx
    rw [List.getElem?_drop] at hk
    exact h.hi _ x hk (by omega)
/-- From where what stands behind goes on. -/
def upto (l : List St) (s : St) (i : Nat) : Nat := if l[i]? = some s then i + 1 else i
theorem put_split {l : List St} {s : St} {i : Nat} (hl : Up l) (h : Split l s i) : l.take i ++ [s] ++ l.drop (upto l s i) = putF false l s := by
  have hp := split_parts h
  conv => rhs; rw [← List.take_append_drop i l]
  rw [putF_lo _ _ _ hp.1, putF_hi _ _ (hl.sublist (List.drop_sublist i l)) hp.2]
  rw [List.getElem?_drop, Nat.add_zero, List.drop_drop, List.append_assoc]
  unfold upto
  split <;> rfl
theorem drop_split {l : List St} {s : St} {i : Nat} (hl : Up l) (h : Split l s i) : l.take i ++ l.drop (upto l s i) = dropF l s := by
  have hp := split_parts h
  unfold dropF
  conv => rhs; rw [← List.take_append_drop i l, List.filter_append, filter_lo hp.1]
  congr 1
  unfold upto
  have hu : Up (l.drop i) := hl.sublist (List.drop_sublist i l)
  have e0 : (l.drop i)[0]? = l[i]? := by rw [List.getElem?_drop, Nat.add_zero]
  rw [show (if l[i]? = some s then i + 1 else i) = i + (if l[i]? = some s then 1 else 0) by split <;> rfl, ← List.drop_drop, ← e0]
  generalize l.drop i = B at *
  match B, hu, hp.2 with
  | [], _, _ => rfl
  | x :: r, hu, h2 =>
    have hx := h2 x (List.mem_cons_self ..)
    have hr : ∀ y ∈ r, lt x y = true := (List.pairwise_cons.1 hu).1
    have hsy : ∀ y ∈ r, lt s y = true := fun y hy => by
      by_cases e : x = s
      · rw [← e]; exact hr y hy
      · exact lt_tr (lt_tot hx e) (hr y hy)
    by_cases e : x = s
    · subst e
      simp only [List.getElem?_cons_zero, if_true, List.drop_succ_cons, List.drop_zero]
      rw [List.filter_cons_of_neg (by simp), filter_up hr]
    · simp only [List.getElem?_cons_zero, Option.some.injEq, e, if_false, List.drop_zero]
      rw [List.filter_cons_of_pos (by simpa using e), filter_up hsy]
theorem has_split {l : List St} {s : St} {i : Nat} (hl : Up l) (h : Split l s i) : l[i]? = some s ↔ s ∈ l := by
  refine ⟨fun e => List.mem_of_getElem? e, fun hm => ?_⟩
  obtain ⟨k, hk⟩ := List.mem_iff_getElem?.1 hm
  have hkl := (List.getElem?_eq_some_iff.1 hk).1
  by_cases hki : k < i
  · have := h.lo k s hk hki; rw [lt_irr] at this; cases this
  · by_cases e : k = i
    · rw [← e]; exact hk
    · have hil : i < l.length := by omega
      have h1 := h.hi i l[i] (List.getElem?_eq_getElem hil) (Nat.le_refl _)
      have h2 := (List.pairwise_iff_getElem.1 hl) i k hil hkl (by omega)
      rw [(List.getElem?_eq_some_iff.1 hk).2, h1] at h2
      cases h2
theorem mem_putF : ∀ (l : List St) (d : Bool) (s z : St), z ∈ putF d l s → z = s ∨ z ∈ l
  | [], d, s, z, h => by
    cases d with
    | true => cases h
    | false => exact .inl (List.mem_singleton.1 h)
  | x :: r, d, s, z, h => by
    rcases List.mem_append.1 h with h | h
    · rcases List.mem_append.1 h with h | h
      · split at h
        · exact .inl (List.mem_singleton.1 h)
        · cases h
      · split at h
        · exact .inr (by rw [List.mem_singleton.1 h]; exact List.mem_cons_self ..)
        · cases h
    · rcases mem_putF r _ s z h with h | h
      · exact .inl h
      · exact .inr (List.mem_cons_of_mem _ h)
theorem put_up : ∀ (l : List St) (s : St), Up l → Up (putF false l s)
  | [], s, _ => List.pairwise_singleton _ _
  | x :: r, s, h => by
    have hr := (List.pairwise_cons.1 h).1
    cases hx : lt x s with
    | true =>
      have e := putF_lo [x] r s (fun y hy => by rw [List.mem_singleton.1 hy]; exact hx)
      rw [show x :: r = [x] ++ r from rfl, e]
      refine List.pairwise_cons.2 ⟨fun z hz => ?_, put_up r s (List.pairwise_cons.1 h).2⟩
      rcases mem_putF r false s z hz with rfl | hz
      · exact hx
      · exact hr z hz
    | false =>
      have hB : ∀ y ∈ x :: r, lt y s = false := fun y hy => by
        rcases List.mem_cons.1 hy with rfl | hy
        · exact hx
        · exact lt_up hx (hr y hy)
      rw [putF_hi _ s h hB]
      by_cases e : x = s
      · subst e; simpa using h
      · simp only [List.getElem?_cons_zero, Option.some.injEq, e, if_false]
        refine List.pairwise_cons.2 ⟨fun z hz => ?_, h⟩
        rcases List.mem_cons.1 hz with rfl | hz
        · exact lt_tot hx e
        · exact lt_tr (lt_tot hx e) (hr z hz)
theorem drop_up {l : List St} (s : St) (h : Up l) : Up (dropF l s) := h.sublist List.filter_sublist
theorem fold_up : ∀ (l acc : List St), Up acc → Up (l.foldl (fun acc x => putF false acc x) acc)
  | [], acc, h => h
  | x :: r, acc, h => fold_up r _ (put_up acc x h)
theorem sort_up (l : List St) : Up (sortF l) := fold_up l [] List.Pairwise.nil
theorem putF_len : ∀ (l : List St) (d : Bool) (s : St), (putF d l s).length ≤ l.length + 1
  | [], d, s => by cases d <;> simp [putF]
  | x :: r, d, s => by
    have ih := putF_len r (d || !(lt x s)) s
    have hd := fun s' => putF_done r s'
    show ((if !d && !(lt x s) then [s] else []) ++ (if x ≠ s then [x] else []) ++ putF (d || !(lt x s)) r s).length ≤ r.length + 1 + 1
    have h2 : (if x ≠ s then [x] else []).length ≤ 1 := by split <;> simp
    rw [List.length_append, List.length_append]
    by_cases hc : (!d && !(lt x s)) = true
    · have e : (d || !(lt x s)) = true := by cases d <;> simp_all
      rw [if_pos hc, e, putF_done]
      have := List.length_filter_le (fun x => decide (x ≠ s)) r
      simp only [List.length_singleton]
      omega
    · rw [if_neg hc]
      simp only [List.length_nil]
      omega
theorem fold_len : ∀ (l acc : List St), (l.foldl (fun acc x => putF false acc x) acc).length ≤ acc.length + l.length
  | [], acc => Nat.le_refl _
  | x :: r, acc => by
    have h1 := fold_len r (putF false acc x)
    have h2 := putF_len acc false x
    show _ ≤ acc.length + (r.length + 1)
    exact Nat.le_trans h1 (by omega)
theorem sort_len (l : List St) : (sortF l).length ≤ l.length := by have := fold_len l []; unfold sortF; simpa using this
end Go.Proofs.YthpolhlhpdhomaaDoor
