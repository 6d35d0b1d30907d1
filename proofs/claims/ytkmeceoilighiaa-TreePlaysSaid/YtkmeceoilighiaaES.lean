/- A step of the log; the log's places, plain. -/
import Derived.Test.YtkmeceoilighiaaOF
import Derived.Test.YtkmeceoilighiaaTB
import Derived.Test.YtkmeceoilighiaaTRk
import Derived.Test.YtkmeceoilighiaaProg
set_option linter.unusedVariables false
set_option linter.unusedSimpArgs false
set_option maxRecDepth 100000
namespace Go.Proofs.Ytkmeceoilighiaa
open Go.RowKit
open Tb (ltS)

/-- A step of the log: an op, whether it did something, and what there was. -/
structure Stp where
  o : O
  did : Bool
  had : Bool
  wt : Int
  wr : Int
  wn : ByteArray
  wd : Bool
def stCells (s : Stp) : Array Value := #[.int .i64 s.o.t, .int .i64 s.o.r, .int .i64 s.o.q, .int .i64 s.o.nt, .int .i64 s.o.nr, .int .i64 s.o.pt, .int .i64 s.o.pr, .string s.o.nm, .bool s.o.d, .bool s.did, .bool s.had, .int .i64 s.wt, .int .i64 s.wr, .string s.wn, .bool s.wd]
def stV (s : Stp) : Value := .agg (stCells s)
def stc1 (s : Stp) : List Value := (stCells s).toList
theorem stc1_len (s : Stp) : (stc1 s).length = 15 := rfl
def stc (l : List Stp) : List Value := l.flatMap stc1
theorem stc_append (a b : List Stp) : stc (a ++ b) = stc a ++ stc b := List.flatMap_append
theorem stc_cons (a : Stp) (b : List Stp) : stc (a :: b) = stc1 a ++ stc b := List.flatMap_cons
theorem stc_len : ∀ l : List Stp, (stc l).length = l.length * 15
  | [] => rfl
  | a :: l => by rw [stc_cons, List.length_append, stc_len l, stc1_len, List.length_cons]; omega
theorem stc_one (l : List Stp) : ∀ v ∈ stc l, v.oneCell' = true := by
  intro v hv
  obtain ⟨s, _, hv⟩ := List.mem_flatMap.1 hv
  unfold stc1 stCells at hv
  simp at hv
  rcases hv with rfl | rfl | rfl | rfl | rfl | rfl | rfl | rfl | rfl | rfl | rfl | rfl | rfl | rfl | rfl <;> rfl
theorem stc_at {l : List Stp} {i : Nat} {s : Stp} (h : l[i]? = some s) {j : Nat} {u : Value} (hj : (stc1 s)[j]? = some u) : (stc l)[i * 15 + j]? = some u := by
  have hj15 : j < 15 := by have := (List.getElem?_eq_some_iff.1 hj).1; rwa [stc1_len] at this
  have hi := (List.getElem?_eq_some_iff.1 h).1
  have e : l = l.take i ++ s :: l.drop (i + 1) := by
    have := (List.getElem?_eq_some_iff.1 h).2
    rw [← this, ← List.drop_eq_getElem_cons hi, List.take_append_drop]
  have hl : (stc (l.take i)).length = i * 15 := by rw [stc_len, List.length_take]; congr 1; omega
  rw [e, stc_append, stc_cons, List.getElem?_append_right (by omega), hl, show i * 15 + j - i * 15 = j by omega, List.getElem?_append_left (by rw [stc1_len]; exact hj15)]
  exact hj
/-! ### places -/
def ltO (x : O) (t r : Int) : Bool := ltS x.t x.r t r
def RiseO (L : List O) : Prop := L.Pairwise (fun x y => ltS x.t x.r y.t y.r = true)
def posF (L : List O) (t r : Int) : Nat := (L.filter (fun x => ltO x t r)).length
def hasO (L : List O) (t r : Int) : Bool := L.any (fun x => decide (x.t = t ∧ x.r = r))
theorem ltS_tri (a b c d : Int) : (ltS a b c d = true ∧ ¬ (a = c ∧ b = d) ∧ ltS c d a b = false) ∨ (ltS a b c d = false ∧ (a = c ∧ b = d) ∧ ltS c d a b = false) ∨ (ltS a b c d = false ∧ ¬ (a = c ∧ b = d) ∧ ltS c d a b = true) := by
  unfold ltS
  by_cases h : a = c
  · subst h
    simp only [if_true]
    by_cases h1 : b < d
    · left; simp; omega
    · by_cases h2 : d < b
      · right; right; simp; omega
      · right; left; simp; omega
  · have h' : ¬ c = a := fun e => h e.symm
    simp only [h, h', if_false]
    by_cases h1 : a < c
    · left; simp; omega
    · right; right; simp; omega
theorem ltS_trans {a b c d e f : Int} (h1 : ltS a b c d = true) (h2 : ltS c d e f = true) : ltS a b e f = true := by
  unfold ltS at *
  split at h1 <;> split at h2 <;> split <;> simp at * <;> omega
theorem ltS_irr (a b : Int) : ltS a b a b = false := by unfold ltS; simp
/-- What stands ahead of a stamp is a beginning. -/
theorem pos_split {L : List O} (h : RiseO L) (t r : Int) : L.take (posF L t r) = L.filter (fun x => ltO x t r) ∧ L.drop (posF L t r) = L.filter (fun x => !ltO x t r) := by
  induction L with
  | nil => exact ⟨rfl, rfl⟩
  | cons a L ih =>
    obtain ⟨h1, h2⟩ := List.pairwise_cons.1 h
    by_cases ha : ltO a t r = true
    · have e : posF (a :: L) t r = posF L t r + 1 := by unfold posF; rw [List.filter_cons_of_pos (p := fun x => ltO x t r) ha]; rfl
      rw [e, List.take_succ_cons, List.drop_succ_cons, List.filter_cons_of_pos (p := fun x => ltO x t r) ha, List.filter_cons_of_neg (by simp [ha]), (ih h2).1, (ih h2).2]
      exact ⟨rfl, rfl⟩
    · have ha' : ltO a t r = false := by simpa using ha
      have hall : ∀ y ∈ L, ltO y t r = false := fun y hy => by
        have hy := h1 y hy
        cases hq : ltO y t r with
        | false => rfl
        | true => have := ltS_trans hy hq; unfold ltO at ha'; rw [ha'] at this; cases this
      have e0 : L.filter (fun x => ltO x t r) = [] := List.filter_eq_nil_iff.2 (fun y hy => by rw [hall y hy]; simp)
      have e1 : L.filter (fun x => !ltO x t r) = L := List.filter_eq_self.2 (fun y hy => by rw [hall y hy]; rfl)
      have e : posF (a :: L) t r = 0 := by unfold posF; rw [List.filter_cons_of_neg (p := fun x => ltO x t r) ha, e0]; rfl
      rw [e, List.filter_cons_of_neg (p := fun x => ltO x t r) ha, List.filter_cons_of_pos (by simp [ha']), e0, e1]
      exact ⟨rfl, rfl⟩
theorem pos_le (L : List O) (t r : Int) : posF L t r ≤ L.length := List.length_filter_le _ _
/-- A new op, in its place. -/
def putO (L : List O) (o : O) : List O := L.take (posF L o.t o.r) ++ o :: L.drop (posF L o.t o.r)
theorem put_mem {L : List O} {o x : O} : x ∈ putO L o ↔ x = o ∨ x ∈ L := by
  unfold putO
  conv => rhs; rhs; rw [← List.take_append_drop (posF L o.t o.r) L]
  simp only [List.mem_append, List.mem_cons]
  constructor
  · rintro (h | h | h)
    · exact .inr (.inl h)
    · exact .inl h
    · exact .inr (.inr h)
  · rintro (h | h | h)
    · exact .inr (.inl h)
    · exact .inl h
    · exact .inr (.inr h)
theorem put_len (L : List O) (o : O) : (putO L o).length = L.length + 1 := by
  unfold putO
  rw [List.length_append, List.length_cons, List.length_take, List.length_drop]
  have := pos_le L o.t o.r
  omega
theorem has_iff {L : List O} {t r : Int} : hasO L t r = true ↔ ∃ x ∈ L, x.t = t ∧ x.r = r := by unfold hasO; rw [List.any_eq_true]; simp
theorem put_rise {L : List O} (h : RiseO L) {o : O} (hn : hasO L o.t o.r = false) : RiseO (putO L o) := by
  obtain ⟨e1, e2⟩ := pos_split h o.t o.r
  unfold putO
  rw [e1, e2]
  have hne : ∀ x ∈ L, ¬ (x.t = o.t ∧ x.r = o.r) := fun x hx e => by
    have := has_iff.2 ⟨x, hx, e⟩
    rw [hn] at this; cases this
  refine List.pairwise_append.2 ⟨h.filter _, List.pairwise_cons.2 ⟨fun y hy => ?_, h.filter _⟩, fun x hx y hy => ?_⟩
  · obtain ⟨h1, h2⟩ := List.mem_filter.1 hy
    have h2 : ltS y.t y.r o.t o.r = false := by simpa [ltO] using h2
    rcases ltS_tri y.t y.r o.t o.r with ⟨q, _, _⟩ | ⟨_, q, _⟩ | ⟨_, _, q⟩
    · rw [q] at h2; cases h2
    · exact absurd q (hne y h1)
    · exact q
  · have h1 : ltS x.t x.r o.t o.r = true := (List.mem_filter.1 hx).2
    rcases List.mem_cons.1 hy with rfl | hy
    · exact h1
    · obtain ⟨h3, h2⟩ := List.mem_filter.1 hy
      have h2 : ltS y.t y.r o.t o.r = false := by simpa [ltO] using h2
      rcases ltS_tri y.t y.r o.t o.r with ⟨q, _, _⟩ | ⟨_, q, _⟩ | ⟨_, _, q⟩
      · rw [q] at h2; cases h2
      · exact absurd q (hne y h3)
      · exact ltS_trans h1 q
theorem riseO_nodup {L : List O} (h : RiseO L) : L.Nodup := h.imp (fun {a b} hab e => by subst e; rw [ltS_irr] at hab; cases hab)
theorem riseO_ext {A B : List O} (ha : RiseO A) (hb : RiseO B) (h : ∀ y, y ∈ A ↔ y ∈ B) : A = B := by
  refine List.Perm.eq_of_pairwise (le := fun (x y : O) => ltS x.t x.r y.t y.r = true) (fun x y _ _ q1 q2 => ?_) ha hb ((List.perm_ext_iff_of_nodup (riseO_nodup ha) (riseO_nodup hb)).2 h)
  rcases ltS_tri x.t x.r y.t y.r with ⟨_, _, a3⟩ | ⟨a1, _, _⟩ | ⟨a1, _, _⟩
  · rw [q2] at a3; cases a3
  · rw [q1] at a1; cases a1
  · rw [q1] at a1; cases a1
theorem riseO_one {L : List O} (h : RiseO L) {x y : O} (hx : x ∈ L) (hy : y ∈ L) (he : x.t = y.t ∧ x.r = y.r) : x = y := by
  induction L with
  | nil => cases hx
  | cons a L ih =>
    obtain ⟨h1, h2⟩ := List.pairwise_cons.1 h
    rcases List.mem_cons.1 hx with rfl | m1
    · rcases List.mem_cons.1 hy with rfl | m2
      · rfl
      · have := h1 _ m2; rw [he.1, he.2, ltS_irr] at this; cases this
    · rcases List.mem_cons.1 hy with rfl | m2
      · have := h1 _ m1; rw [he.1, he.2, ltS_irr] at this; cases this
      · exact ih h2 m1 m2
abbrev pv (b : Nat) : Value := .pointer (some ⟨b, 0, none⟩)
theorem stc1_one (s : Stp) : ∀ v ∈ stc1 s, v.oneCell' = true := by
  intro v hv
  unfold stc1 stCells at hv
  simp at hv
  rcases hv with rfl | rfl | rfl | rfl | rfl | rfl | rfl | rfl | rfl | rfl | rfl | rfl | rfl | rfl | rfl <;> rfl
theorem pos_of {L : List O} {t r : Int} {i : Nat} (hi : i ≤ L.length) (h1 : ∀ (k : Nat) x, L[k]? = some x → k < i → ltO x t r = true) (h2 : ∀ (k : Nat) x, L[k]? = some x → i ≤ k → ltO x t r = false) : posF L t r = i := by
  unfold posF
  conv => lhs; rw [← List.take_append_drop i L]
  rw [List.filter_append, List.length_append]
  have e1 : (L.take i).filter (fun x => ltO x t r) = L.take i := List.filter_eq_self.2 (fun x hx => by
    obtain ⟨k, hk⟩ := List.getElem?_of_mem hx
    rw [List.getElem?_take] at hk
    split at hk
    · exact h1 k x hk (by assumption)
    · cases hk)
  have e2 : (L.drop i).filter (fun x => ltO x t r) = [] := List.filter_eq_nil_iff.2 (fun x hx => by
    obtain ⟨k, hk⟩ := List.getElem?_of_mem hx
    rw [List.getElem?_drop] at hk
    rw [h2 (i + k) x hk (by omega)]
    simp)
  rw [e1, e2, List.length_take, List.length_nil]
  omega
theorem has_at {L : List O} (h : RiseO L) {t r : Int} {i : Nat} {x : O} (hi : posF L t r = i) (hx : L[i]? = some x) : hasO L t r = decide (x.t = t ∧ x.r = r) := by
  by_cases he : x.t = t ∧ x.r = r
  · rw [decide_eq_true he]
    exact has_iff.2 ⟨x, List.mem_of_getElem? hx, he⟩
  · rw [decide_eq_false he]
    cases hq : hasO L t r with
    | false => rfl
    | true =>
      obtain ⟨y, hy, e1, e2⟩ := has_iff.1 hq
      exfalso
      obtain ⟨k, hk⟩ := List.getElem?_of_mem hy
      obtain ⟨f1, f2⟩ := pos_split h t r
      rw [hi] at f1 f2
      have hxd : ltO x t r = false := by
        have : x ∈ L.drop i := List.mem_of_getElem? (i := 0) (by rw [List.getElem?_drop]; exact hx)
        rw [f2] at this
        simpa using (List.mem_filter.1 this).2
      have hyd : ltO y t r = false := by unfold ltO; rw [e1, e2]; exact ltS_irr t r
      have hki : ¬ k < i := fun hlt => by
        have : y ∈ L.take i := List.mem_of_getElem? (i := k) (by rw [List.getElem?_take_of_lt hlt]; exact hk)
        rw [f1] at this
        rw [(List.mem_filter.1 this).2] at hyd
        cases hyd
      have hki2 : k ≠ i := fun e => by rw [e, hx] at hk; injection hk with hk; exact he ⟨by rw [hk]; exact e1, by rw [hk]; exact e2⟩
      have := (List.pairwise_iff_getElem.1 h) i k (List.getElem?_eq_some_iff.1 hx).1 (List.getElem?_eq_some_iff.1 hk).1 (by omega)
      rw [(List.getElem?_eq_some_iff.1 hx).2, (List.getElem?_eq_some_iff.1 hk).2, e1, e2] at this
      unfold ltO at hxd
      rw [this] at hxd
      cases hxd
theorem has_end {L : List O} (h : RiseO L) {t r : Int} (hi : posF L t r = L.length) : hasO L t r = false := by
  cases hq : hasO L t r with
  | false => rfl
  | true =>
    obtain ⟨y, hy, e1, e2⟩ := has_iff.1 hq
    have f1 := (pos_split h t r).1
    rw [hi, List.take_length] at f1
    rw [f1] at hy
    have := (List.mem_filter.1 hy).2
    unfold ltO at this
    rw [e1, e2, ltS_irr] at this
    cases this
end Go.Proofs.Ytkmeceoilighiaa
