/- Joins, meets, sums: plain facts. -/
import Derived.Test.YtiljmkglmanddaaDoorVM
set_option linter.unusedVariables false
namespace Go.Proofs.YtiljmkglmanddaaDoor
open Go.RowKit

def Ok64 (l : List Int) : Prop := l.length = 64 ∧ RightP l
theorem ok_clamp (l : List (Nat × Int)) : Ok64 (clampF (madeF l)) := ⟨by unfold clampF; rw [List.length_map, madeF_len], clamp_right _⟩
theorem Ok64.at {l : List Int} (h : Ok64 l) (j : Nat) (hj : j < 64) : ∃ x, l[j]? = some x ∧ 0 ≤ x ∧ x ≤ 4294967296 := by
  obtain ⟨x, hx⟩ := va_len l h.1 j hj
  exact ⟨x, hx, h.2 j x hx⟩
theorem ext64 {a b : List Int} (ha : a.length = 64) (hb : b.length = 64) (h : ∀ j, j < 64 → a[j]? = b[j]?) : a = b := by
  apply List.ext_getElem?
  intro j
  by_cases hj : j < 64
  · exact h j hj
  · rw [List.getElem?_eq_none (by omega), List.getElem?_eq_none (by omega)]
theorem jF_at {a b : List Int} {j : Nat} {x y : Int} (hx : a[j]? = some x) (hy : b[j]? = some y) : (jF a b)[j]? = some (max x y) := by unfold jF; rw [List.getElem?_zipWith, hx, hy]
theorem mF_at {a b : List Int} {j : Nat} {x y : Int} (hx : a[j]? = some x) (hy : b[j]? = some y) : (meetF a b)[j]? = some (min x y) := by unfold meetF; rw [List.getElem?_zipWith, hx, hy]
theorem join2_at {a b : List Int} {j : Nat} {x y : Int} (hj : j < 64) (hx : a[j]? = some x) (hy : b[j]? = some y) : (joinF [a, b])[j]? = some (max (max 0 x) y) := jF_at (jF_at (zs_get j hj) hx) hy
theorem join3_at {a b c : List Int} {j : Nat} {x y z : Int} (hj : j < 64) (hx : a[j]? = some x) (hy : b[j]? = some y) (hz : c[j]? = some z) : (joinF [a, b, c])[j]? = some (max (max (max 0 x) y) z) := jF_at (jF_at (jF_at (zs_get j hj) hx) hy) hz
theorem join2_len {a b : List Int} (ha : a.length = 64) (hb : b.length = 64) : (joinF [a, b]).length = 64 := jF_len (jF_len zs_len ha) hb
theorem join3_len {a b c : List Int} (ha : a.length = 64) (hb : b.length = 64) (hc : c.length = 64) : (joinF [a, b, c]).length = 64 := jF_len (jF_len (jF_len zs_len ha) hb) hc
theorem ok_join2 {a b : List Int} (ha : Ok64 a) (hb : Ok64 b) : Ok64 (joinF [a, b]) := ⟨join2_len ha.1 hb.1, fun j v hv => by
  have hj := some_lt (join2_len ha.1 hb.1) hv
  obtain ⟨x, hx, x0, x1⟩ := ha.at j hj
  obtain ⟨y, hy, y0, y1⟩ := hb.at j hj
  rw [join2_at hj hx hy] at hv
  injection hv with hv
  omega⟩
theorem ok_meet {a b : List Int} (ha : Ok64 a) (hb : Ok64 b) : Ok64 (meetF a b) := ⟨meetF_len ha.1 hb.1, fun j v hv => by
  have hj := some_lt (meetF_len ha.1 hb.1) hv
  obtain ⟨x, hx, x0, x1⟩ := ha.at j hj
  obtain ⟨y, hy, y0, y1⟩ := hb.at j hj
  rw [mF_at hx hy] at hv
  injection hv with hv
  omega⟩
theorem join_turn {a b c : List Int} (ha : Ok64 a) (hb : Ok64 b) (hc : Ok64 c) : joinF [a, b, c] = joinF [c, joinF [b, a]] := by
  refine ext64 (join3_len ha.1 hb.1 hc.1) (join2_len hc.1 (join2_len hb.1 ha.1)) (fun j hj => ?_)
  obtain ⟨x, hx, x0, x1⟩ := ha.at j hj
  obtain ⟨y, hy, y0, y1⟩ := hb.at j hj
  obtain ⟨z, hz, z0, z1⟩ := hc.at j hj
  rw [join3_at hj hx hy hz, join2_at hj hz (join2_at hj hy hx)]
  congr 1
  omega
theorem join_self {a : List Int} (ha : Ok64 a) : joinF [a, a] = a := by
  refine ext64 (join2_len ha.1 ha.1) ha.1 (fun j hj => ?_)
  obtain ⟨x, hx, x0, x1⟩ := ha.at j hj
  rw [join2_at hj hx hx, hx]
  congr 1
  omega
theorem meet_turn {a b : List Int} (ha : Ok64 a) (hb : Ok64 b) : meetF a b = meetF b a := by
  refine ext64 (meetF_len ha.1 hb.1) (meetF_len hb.1 ha.1) (fun j hj => ?_)
  obtain ⟨x, hx, x0, x1⟩ := ha.at j hj
  obtain ⟨y, hy, y0, y1⟩ := hb.at j hj
  rw [mF_at hx hy, mF_at hy hx]
  congr 1
  omega
theorem cov_join3 {a b c : List Int} (ha : Ok64 a) (hb : Ok64 b) (hc : Ok64 c) : CovP (joinF [a, b, c]) a ∧ CovP (joinF [a, b, c]) b ∧ CovP (joinF [a, b, c]) c := by
  refine ⟨fun j u v hu hv => ?_, fun j u v hu hv => ?_, fun j u v hu hv => ?_⟩
  all_goals
    have hj := some_lt (join3_len ha.1 hb.1 hc.1) hu
    obtain ⟨x, hx, x0, x1⟩ := ha.at j hj
    obtain ⟨y, hy, y0, y1⟩ := hb.at j hj
    obtain ⟨z, hz, z0, z1⟩ := hc.at j hj
    rw [join3_at hj hx hy hz] at hu
    injection hu with hu
    first
      | (rw [hx] at hv; injection hv with hv; omega)
      | (rw [hy] at hv; injection hv with hv; omega)
      | (rw [hz] at hv; injection hv with hv; omega)
theorem cov_least {a b c : List Int} (ha : Ok64 a) (hb : Ok64 b) (hc : Ok64 c) (h1 : CovP c a) (h2 : CovP c b) : CovP c (joinF [a, b]) := fun j u v hu hv => by
  have hj := some_lt hc.1 hu
  obtain ⟨x, hx, x0, x1⟩ := ha.at j hj
  obtain ⟨y, hy, y0, y1⟩ := hb.at j hj
  have e1 := h1 j u x hu hx
  have e2 := h2 j u y hu hy
  have := hc.2 j u hu
  rw [join2_at hj hx hy] at hv
  injection hv with hv
  omega
theorem cov_most {a b c : List Int} (ha : Ok64 a) (hb : Ok64 b) (hc : Ok64 c) (h1 : CovP a c) (h2 : CovP b c) : CovP (meetF a b) c := fun j u v hu hv => by
  have hj := some_lt hc.1 hv
  obtain ⟨x, hx, x0, x1⟩ := ha.at j hj
  obtain ⟨y, hy, y0, y1⟩ := hb.at j hj
  have e1 := h1 j x v hx hv
  have e2 := h2 j y v hy hv
  rw [mF_at hx hy] at hu
  injection hu with hu
  omega
/-- The plain sum. -/
def sumI (l : List Int) : Int := l.foldl (· + ·) 0
theorem sum_both : ∀ (l : List Int) (acc : Int), 0 ≤ acc → (∀ x ∈ l, 0 ≤ x ∧ x ≤ 4294967296) → acc + l.length * 4294967296 ≤ 9223372036854775807 → l.foldl (fun a x => wrap64 (a + x)) acc = l.foldl (· + ·) acc ∧ acc ≤ l.foldl (· + ·) acc ∧ l.foldl (· + ·) acc ≤ acc + l.length * 4294967296
  | [], acc, h0, _, _ => ⟨rfl, Int.le_refl _, by simp⟩
  | x :: r, acc, h0, hx, hb => by
    obtain ⟨x0, x1⟩ := hx x (List.mem_cons_self ..)
    have hlen : ((x :: r).length : Int) = (r.length : Int) + 1 := by simp
    rw [hlen] at hb ⊢
    have e : wrap64 (acc + x) = acc + x := by unfold wrap64; omega
    obtain ⟨h1, h2, h3⟩ := sum_both r (acc + x) (by omega) (fun y hy => hx y (List.mem_cons_of_mem _ hy)) (by omega)
    rw [List.foldl_cons, List.foldl_cons, e]
    exact ⟨h1, by omega, by omega⟩
theorem sum_ok {l : List Int} (h : Ok64 l) : sumW l = sumI l ∧ 0 ≤ sumI l ∧ sumI l ≤ 274877906944 := by
  obtain ⟨h1, h2, h3⟩ := sum_both l 0 (Int.le_refl _) (fun x hx => by
    obtain ⟨j, hj⟩ := List.mem_iff_getElem?.1 hx
    exact h.2 j x hj) (by rw [h.1]; omega)
  rw [h.1] at h3
  exact ⟨h1, h2, by unfold sumI; omega⟩
theorem sumI_cons (x : Int) (l : List Int) : sumI (x :: l) = x + sumI l := by
  have : ∀ (l : List Int) (a : Int), l.foldl (· + ·) a = a + l.foldl (· + ·) 0 := by
    intro l
    induction l with
    | nil => intro a; simp
    | cons y r ih => intro a; rw [List.foldl_cons, List.foldl_cons, ih (a + y), ih (0 + y)]; omega
  unfold sumI
  rw [List.foldl_cons, this l (0 + x)]
  omega
theorem sum_pair : ∀ (a b : List Int), a.length = b.length → (∀ x ∈ a, 0 ≤ x) → sumI (List.zipWith max (List.zipWith max (List.replicate a.length 0) a) b) + sumI (List.zipWith min a b) = sumI a + sumI b
  | [], [], _, _ => rfl
  | x :: r, y :: q, h, hx => by
    have ih := sum_pair r q (by simpa using h) (fun z hz => hx z (List.mem_cons_of_mem _ hz))
    have x0 := hx x (List.mem_cons_self ..)
    show sumI (max (max 0 x) y :: _) + sumI (min x y :: _) = _
    rw [sumI_cons, sumI_cons, sumI_cons, sumI_cons]
    omega
  | [], _ :: _, h, _ => by simp at h
  | _ :: _, [], h, _ => by simp at h
theorem sum_law {a b : List Int} (ha : Ok64 a) (hb : Ok64 b) : sumI (joinF [a, b]) + sumI (meetF a b) = sumI a + sumI b := by
  have := sum_pair a b (ha.1.trans hb.1.symm) (fun x hx => by
    obtain ⟨j, hj⟩ := List.mem_iff_getElem?.1 hx
    exact (ha.2 j x hj).1)
  rw [ha.1] at this
  exact this
end Go.Proofs.YtiljmkglmanddaaDoor
