/- The reference's rows: what Set makes, plain; Get, walked. -/
import Derived.Test.YthbmbpnpigpgpaaTL
set_option linter.unusedVariables false
set_option maxRecDepth 100000
namespace Go.Proofs.Ythbmbpnpigpgpaa
open Go.RowKit Go.WideMaps Go.Maps

def enc6 (x : Rw) : List Value := [.int .i64 x.t, .int .i64 x.r, .int .i64 x.pt, .int .i64 x.pr, .string x.nm, .bool x.d]
theorem enc6_len (x : Rw) : (enc6 x).length = 6 := rfl
theorem enc6_one (x : Rw) : ∀ v ∈ enc6 x, v.oneCell' = true := by
  intro v hv
  simp [enc6] at hv
  rcases hv with rfl | rfl | rfl | rfl | rfl | rfl <;> rfl
theorem info75 : (Try.prog.info? 68).map (fun i => (i.zero, i.size, i.bytes)) = some (some (.agg #[.int .i64 0, .int .i64 0, .int .i64 0, .int .i64 0, .string ⟨#[]⟩, .bool false]), 6, 56) := by kernel_rfl
theorem Try.u27 : Try.prog.underlying 22 = some (.slice 68) := by kernel_rfl
abbrev LiesR (w : World) (v : Value) (l : List Rw) : Prop := LiesK enc6 6 w v l
theorem LiesK.row {w : World} {ao : Option Addr} {n cap : Nat} {l : List Rw} (h : LiesR w (.slice ao n cap) l) {i : Nat} (hi : i < n) : ∃ g o x, ao = some ⟨g, o, none⟩ ∧ l[i]? = some x ∧ g < w.heap.size ∧ w.cell? ⟨g, o + i * 6, none⟩ = some (.int .i64 x.t) ∧ w.cell? ⟨g, o + i * 6 + 1, none⟩ = some (.int .i64 x.r) ∧ w.cell? ⟨g, o + i * 6 + 2, none⟩ = some (.int .i64 x.pt) ∧ w.cell? ⟨g, o + i * 6 + 3, none⟩ = some (.int .i64 x.pr) ∧ w.cell? ⟨g, o + i * 6 + 4, none⟩ = some (.string x.nm) ∧ w.cell? ⟨g, o + i * 6 + 5, none⟩ = some (.bool x.d) := by
  obtain ⟨g, o, x, rfl, hx, hg, hc⟩ := h.at' hi
  exact ⟨g, o, x, rfl, hx, hg, hc 0 _ rfl, hc 1 _ rfl, hc 2 _ rfl, hc 3 _ rfl, hc 4 _ rfl, hc 5 _ rfl⟩
theorem fit_at {l : List Rw} {t r : Int} {i : Nat} {x : Rw} (hx : l[i]? = some x) (h : x.t = t ∧ x.r = r) (hn : ∀ (j : Nat) y, j < i → l[j]? = some y → ¬ (y.t = t ∧ y.r = r)) : getF l t r = some x := by
  unfold getF
  obtain ⟨hl, he⟩ := List.getElem?_eq_some_iff.1 hx
  rw [List.find?_eq_some_iff_getElem]
  refine ⟨decide_eq_true h, i, hl, he, fun j hj => ?_⟩
  have := hn j l[j] hj (List.getElem?_eq_getElem (by omega))
  show (!decide (l[j].t = t ∧ l[j].r = r)) = true
  rw [decide_eq_false this]
  rfl
theorem fit_none {l : List Rw} {t r : Int} (hn : ∀ (j : Nat) y, j < l.length → l[j]? = some y → ¬ (y.t = t ∧ y.r = r)) : getF l t r = none := by
  rw [get_none]
  intro x hx
  obtain ⟨j, hj⟩ := List.mem_iff_getElem?.1 hx
  exact hn j x (List.getElem?_eq_some_iff.1 hj).1 hj
/-! ### Set, step by step -/
def stS (x : Rw) (s : List Rw × Bool) (y : Rw) : List Rw × Bool :=
  (if sameN y x then (if !s.2 && !ltR y x then (s.1 ++ [x], true) else s).1 else (if !s.2 && !ltR y x then (s.1 ++ [x], true) else s).1 ++ [y], (if !s.2 && !ltR y x then (s.1 ++ [x], true) else s).2)
def SI (l : List Rw) (x : Rw) (i : Nat) : List Rw × Bool := if (l.take i).all (fun y => ltR y x) = true then (l.take i, false) else (setF (l.take i) x, true)
theorem all_lt {l : List Rw} {x : Rw} (h : l.all (fun y => ltR y x) = true) : l.filter (fun y => ltR y x) = l ∧ l.filter (fun y => ltR x y) = [] := by
  rw [List.all_eq_true] at h
  refine ⟨List.filter_eq_self.2 h, List.filter_eq_nil_iff.2 (fun y hy => ?_)⟩
  rcases lt_tri y x with ⟨a, b, c⟩ | ⟨a, b, c⟩ | ⟨a, b, c⟩
  · rw [c]; simp
  · rw [h y hy] at a; cases a
  · rw [h y hy] at a; cases a
theorem SI_step {l : List Rw} (hr : Rise l) (x : Rw) {i : Nat} {y : Rw} (hy : l[i]? = some y) : stS x (SI l x i) y = SI l x (i + 1) := by
  obtain ⟨hl, he⟩ := List.getElem?_eq_some_iff.1 hy
  have ht : l.take (i + 1) = l.take i ++ [y] := by rw [List.take_succ_eq_append_getElem hl, he]
  have hlt : ∀ z ∈ l.take i, ltR z y = true := by
    have hp : (l.take i ++ [y]).Pairwise (fun x y => ltR x y = true) := by rw [← ht]; exact hr.sublist (List.take_sublist _ _)
    intro z hz
    exact (List.pairwise_append.1 hp).2.2 z hz y (by simp)
  unfold SI
  rw [ht, List.all_append]
  by_cases hall : (l.take i).all (fun y => ltR y x) = true
  · rw [if_pos hall, hall]
    obtain ⟨f1, f2⟩ := all_lt hall
    rcases lt_tri y x with ⟨a, b, c⟩ | ⟨a, b, c⟩ | ⟨a, b, c⟩
    · simp [stS, a, b]
    · simp [stS, a, b, setF, c, f1, f2, List.filter_append]
    · simp [stS, a, b, setF, c, f1, f2, List.filter_append]
  · rw [if_neg hall]
    have hall' : (l.take i).all (fun y => ltR y x) = false := by cases h : (l.take i).all (fun y => ltR y x) <;> simp_all
    obtain ⟨z, hz, hzx⟩ : ∃ z ∈ l.take i, ltR z x = false := by
      rw [List.all_eq_false] at hall'
      obtain ⟨z, hz, hzx⟩ := hall'
      exact ⟨z, hz, by simpa using hzx⟩
    have hxy : ltR x y = true := by
      rcases lt_tri z x with ⟨a, b, c⟩ | ⟨a, b, c⟩ | ⟨a, b, c⟩
      · rw [a] at hzx; cases hzx
      · have := hlt z hz
        unfold sameN at b
        have b := of_decide_eq_true b
        unfold ltR at this ⊢
        rw [← b.1, ← b.2]
        exact this
      · exact lt_trans' c (hlt z hz)
    rcases lt_tri x y with ⟨a, b, c⟩ | ⟨a, b, c⟩ | ⟨a, b, c⟩
    · have b' : sameN y x = false := by
        rcases lt_tri y x with ⟨q1, q2, q3⟩ | ⟨q1, q2, q3⟩ | ⟨q1, q2, q3⟩
        · exact q2
        · rw [a] at q3; cases q3
        · exact q2
      rw [hall']
      simp [stS, setF, b', a, c, List.filter_append]
    · rw [a] at hxy; cases hxy
    · rw [a] at hxy; cases hxy
theorem SI_end (l : List Rw) (x : Rw) : (if (SI l x l.length).2 then (SI l x l.length).1 else (SI l x l.length).1 ++ [x]) = setF l x := by
  unfold SI
  rw [List.take_length]
  by_cases h : l.all (fun y => ltR y x) = true
  · rw [if_pos h]
    obtain ⟨f1, f2⟩ := all_lt h
    simp [setF, f1, f2]
  · rw [if_neg h]
    simp
theorem SI_len (l : List Rw) (x : Rw) (i : Nat) : (SI l x i).1.length ≤ l.length + 1 := by
  unfold SI
  split
  · simp; omega
  · have := (set_perm (l := l.take i) x).length_eq
    have h2 := List.length_filter_le (fun y => !sameN y x) (l.take i)
    rw [this, List.length_cons]
    rw [List.length_take] at h2
    omega
end Go.Proofs.Ythbmbpnpigpgpaa

