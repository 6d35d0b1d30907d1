/- Slices of ops; op.Code. Made by genog7.py. -/
import Derived.Test.YtkmeceoilighiaaOF
set_option linter.unusedVariables false
namespace Go.Proofs.Ytkmeceoilighiaa
open Go.RowKit

theorem info25 : (Try.prog.info? 34).map (fun i => (i.zero, i.size, i.bytes)) = some (some (oV O0), 9, 80) := by kernel_rfl
theorem Try.u27 : Try.prog.underlying 30 = some (.slice 34) := by kernel_rfl
theorem add_addr (k o j : Nat) : (⟨k, o, none⟩ : Addr).add j = ⟨k, o + j, none⟩ := by
  unfold Addr.add; split <;> simp_all
def oc (o : O) : List Value := (oCells o).toList
theorem oc_len (o : O) : (oc o).length = 9 := rfl
def cs9 : List O → List Value
  | [] => []
  | p :: r => oc p ++ cs9 r
theorem cs9_length : ∀ l : List O, (cs9 l).length = l.length * 9
  | [] => rfl
  | p :: r => by show (oc p ++ cs9 r).length = (r.length + 1) * 9; rw [List.length_append, oc_len, cs9_length r]; omega
theorem oc_one (o : O) : ∀ u ∈ oc o, u.oneCell' = true := by
  intro u hu
  simp only [oc, oCells, List.mem_cons, List.not_mem_nil, or_false] at hu
  rcases hu with rfl | rfl | rfl | rfl | rfl | rfl | rfl | rfl | rfl <;> rfl
theorem cs9_one : ∀ (l : List O), ∀ u ∈ cs9 l, u.oneCell' = true
  | [], u, h => by cases h
  | p :: r, u, h => by
    rcases List.mem_append.1 h with h | h
    · exact oc_one p u h
    · exact cs9_one r u h
theorem cs9_get : ∀ (l : List O) (j : Nat) (p : O), l[j]? = some p → ∀ i, i < 9 → (cs9 l)[j * 9 + i]? = (oc p)[i]?
  | [], j, p, h, i, hi => by cases h
  | q :: r, 0, p, h, i, hi => by
    injection h with h
    subst h
    show (oc q ++ cs9 r)[0 * 9 + i]? = _
    rw [List.getElem?_append_left (by rw [oc_len]; omega), Nat.zero_mul, Nat.zero_add]
  | q :: r, j + 1, p, h, i, hi => by
    have ih := cs9_get r j p (by simpa using h) i hi
    show (oc q ++ cs9 r)[(j + 1) * 9 + i]? = _
    rw [List.getElem?_append_right (by rw [oc_len]; omega), oc_len, show (j + 1) * 9 + i - 9 = j * 9 + i by omega]
    exact ih
theorem cs9_at (l : List O) (i : Nat) (u : Value) (h : (cs9 l)[i]? = some u) : ∃ j p r, l[j]? = some p ∧ r < 9 ∧ i = j * 9 + r ∧ (oc p)[r]? = some u := by
  have hlt := (List.getElem?_eq_some_iff.1 h).1
  rw [cs9_length] at hlt
  have hj : i / 9 < l.length := by omega
  have hr : i % 9 < 9 := Nat.mod_lt _ (by omega)
  have e : i = i / 9 * 9 + i % 9 := by omega
  refine ⟨i / 9, _, i % 9, List.getElem?_eq_getElem hj, hr, e, ?_⟩
  have := cs9_get l (i / 9) _ (List.getElem?_eq_getElem hj) (i % 9) hr
  rw [← this, ← e]
  exact h
/-- A slice that holds these ops, wherever. -/
def OLies (w : World) (v : Value) (l : List O) : Prop := ∃ ao cap, v = .slice ao l.length cap ∧ l.length ≤ cap ∧ cap ≤ maxLen ∧ (ao = none → l = [] ∧ cap = 0) ∧
  ∀ b, ao = some b → l ≠ [] → ∃ g k, b = ⟨g, k, none⟩ ∧ g < w.heap.size ∧ ∀ (j : Nat) p, l[j]? = some p → ∀ i u, (oc p)[i]? = some u → w.cell? ⟨g, k + j * 9 + i, none⟩ = some u
theorem OLies.nil (w : World) : OLies w (.slice none 0 0) [] := ⟨none, 0, rfl, Nat.le_refl _, Nat.zero_le _, fun _ => ⟨rfl, rfl⟩, fun b hb => by cases hb⟩
theorem OLies.step {w w' : World} {v : Value} {l : List O} (h : OLies w v l) (hb : Below w.heap.size w w') : OLies w' v l := by
  obtain ⟨ao, cap, rfl, hn, hm, h0, hc⟩ := h
  refine ⟨ao, cap, rfl, hn, hm, h0, fun b hbb hne => ?_⟩
  obtain ⟨g, k, rfl, hk, hc⟩ := hc b hbb hne
  exact ⟨g, k, rfl, Nat.lt_of_lt_of_le hk hb.size, fun j p hj i u hi => (hb.cell (p := ⟨g, k + j * 9 + i, none⟩) hk).trans (hc j p hj i u hi)⟩
theorem OLies.shape {w : World} {v : Value} {l : List O} (h : OLies w v l) : ∃ ao cap, v = .slice ao l.length cap := by
  obtain ⟨ao, cap, e, _⟩ := h; exact ⟨ao, cap, e⟩
theorem OLies.len {w : World} {v : Value} {l : List O} (h : OLies w v l) : l.length ≤ 9223372036854775807 := by
  obtain ⟨ao, cap, e, h1, h2, _⟩ := h
  unfold maxLen at h2
  omega
theorem ne_of_lt {l : List O} {i : Nat} (h : i < l.length) : l ≠ [] := by rintro rfl; simp at h
theorem OLies.at' {w : World} {ao : Option Addr} {n cap : Nat} {l : List O} (h : OLies w (.slice ao n cap) l) {i : Nat} (hi : i < n) : ∃ g k o, ao = some ⟨g, k, none⟩ ∧ l[i]? = some o ∧ g < w.heap.size ∧ (w.cell? ⟨g, k + i * 9, none⟩ = some (.int .i64 o.t) ∧ w.cell? ⟨g, k + i * 9 + 1, none⟩ = some (.int .i64 o.r) ∧ w.cell? ⟨g, k + i * 9 + 2, none⟩ = some (.int .i64 o.q) ∧ w.cell? ⟨g, k + i * 9 + 3, none⟩ = some (.int .i64 o.nt) ∧ w.cell? ⟨g, k + i * 9 + 4, none⟩ = some (.int .i64 o.nr) ∧ w.cell? ⟨g, k + i * 9 + 5, none⟩ = some (.int .i64 o.pt) ∧ w.cell? ⟨g, k + i * 9 + 6, none⟩ = some (.int .i64 o.pr) ∧ w.cell? ⟨g, k + i * 9 + 7, none⟩ = some (.string o.nm) ∧ w.cell? ⟨g, k + i * 9 + 8, none⟩ = some (.bool o.d)) := by
  obtain ⟨ao', cap', e, hn, hm, h0, hc⟩ := h
  injection e with e1 e2 e3
  subst e1 e2 e3
  cases ao with
  | none => obtain ⟨rfl, _⟩ := h0 rfl; simp at hi
  | some b =>
    obtain ⟨g, k, rfl, hg, hc⟩ := hc b rfl (ne_of_lt hi)
    have hp := List.getElem?_eq_getElem hi
    exact ⟨g, k, _, rfl, hp, hg, hc i _ hp 0 _ rfl, hc i _ hp 1 _ rfl, hc i _ hp 2 _ rfl, hc i _ hp 3 _ rfl, hc i _ hp 4 _ rfl, hc i _ hp 5 _ rfl, hc i _ hp 6 _ rfl, hc i _ hp 7 _ rfl, hc i _ hp 8 _ rfl⟩
theorem OLies.src {w : World} {v : Value} {l : List O} (h : OLies w v l) : Src Try.prog 9 30 v l.length (cs9 l) w := by
  obtain ⟨ao, cap, rfl, hn, _, h0, hc⟩ := h
  cases ao with
  | none =>
    obtain ⟨rfl, rfl⟩ := h0 rfl
    exact Src.ofNil _ Try.u27 0
  | some b =>
    refine Src.ofSlice _ Try.u27 _ _ _ _ (cs9_length l) (fun i u hi => ?_) (cs9_one l)
    obtain ⟨j, p, r, hj, hr, rfl, hu⟩ := cs9_at l i u hi
    obtain ⟨g, k, rfl, _, hc⟩ := hc b rfl (ne_of_lt (List.getElem?_eq_some_iff.1 hj).1)
    rw [add_addr, ← Nat.add_assoc]
    exact hc j p hj r u hu
theorem own_olies {w : World} {B : Nat} {v : Value} {l : List O} (h : w.ownsRow B 34 9 v l.length (cs9 l)) : OLies w v l := by
  rcases h.2 with ⟨rfl, hn⟩ | ⟨g, cap, cur, rfl, hB, hg, hn, hm, hs, ht⟩
  · have : l = [] := List.eq_nil_of_length_eq_zero hn
    subst this
    exact OLies.nil w
  · refine ⟨_, cap, rfl, hn, hm, (fun h => by cases h), fun b hb _ => ?_⟩
    cases hb
    refine ⟨g, 0, rfl, (Array.getElem?_eq_some_iff.1 hg).1, fun j p hj i u hi => ?_⟩
    have hi9 : i < 9 := by have := (List.getElem?_eq_some_iff.1 hi).1; rwa [oc_len] at this
    have c := cs9_get l j p hj i hi9
    have h0 := h.cells (g := g) rfl _ _ (c.trans hi)
    rw [add_addr] at h0
    rw [Nat.zero_add] at h0 ⊢
    exact h0
structure Fit (o : O) : Prop where
  t : o.t ≤ 9223372036854775807
  r : o.r ≤ 9223372036854775807
  q : o.q ≤ 9223372036854775807
  nt : o.nt ≤ 9223372036854775807
  nr : o.nr ≤ 9223372036854775807
  pt : o.pt ≤ 9223372036854775807
  pr : o.pr ≤ 9223372036854775807
end Go.Proofs.Ytkmeceoilighiaa



