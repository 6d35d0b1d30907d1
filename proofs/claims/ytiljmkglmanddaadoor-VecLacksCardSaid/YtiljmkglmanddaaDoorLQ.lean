/- Plain facts of what is lacked. -/
import Derived.Test.YtiljmkglmanddaaDoorVQ
import Derived.Test.YtiljmkglmanddaaDoorVP
set_option linter.unusedVariables false
namespace Go.Proofs.YtiljmkglmanddaaDoor
open Go.RowKit

def putR (v : List Int) (p : Rg) : List Int := v.set p.1.toNat p.2.2
theorem foldR_len : ∀ (l : List Rg) (v : List Int), (l.foldl putR v).length = v.length
  | [], v => rfl
  | p :: r, v => by rw [List.foldl_cons, foldR_len r]; unfold putR; rw [List.length_set]
theorem lack_at {a b : List Int} (ha : a.length = 64) (hb : b.length = 64) : ∀ i, i ≤ 64 → ∀ j x y, a[j]? = some x → b[j]? = some y → ((lackF a b i).foldl putR a)[j]? = some (if j < i then max x y else x)
  | 0, _, j, x, y, hx, hy => by rw [if_neg (Nat.not_lt_zero _)]; exact hx
  | i + 1, hi, j, x, y, hx, hy => by
    have ih := lack_at ha hb i (by omega)
    obtain ⟨u, hu⟩ := va_len a ha i (by omega)
    obtain ⟨v, hv⟩ := va_len b hb i (by omega)
    have e : lackF a b (i + 1) = lackF a b i ++ (if u < v then [((i : Int), wrap64 (u + 1), v)] else []) := by
      show lackF a b i ++ _ = _
      rw [getD_of hu, getD_of hv]
    rw [e, List.foldl_append]
    by_cases huv : u < v
    · rw [if_pos huv]
      have ei : ((i : Nat) : Int).toNat = i := by omega
      have es : ([((i : Int), wrap64 (u + 1), v)] : List Rg).foldl putR ((lackF a b i).foldl putR a) = ((lackF a b i).foldl putR a).set i v := by
        show putR _ _ = _
        unfold putR
        dsimp only
        rw [ei]
      rw [es, List.getElem?_set]
      by_cases hij : i = j
      · subst hij
        rw [if_pos rfl, if_pos (by rw [foldR_len, ha]; omega), if_pos (by omega)]
        rw [hu] at hx; rw [hv] at hy
        injection hx with hx; injection hy with hy
        subst hx; subst hy
        congr 1; exact (Int.max_eq_right (by omega)).symm
      · rw [if_neg hij, ih j x y hx hy]
        by_cases hj : j < i
        · rw [if_pos hj, if_pos (by omega)]
        · rw [if_neg hj, if_neg (by omega)]
    · rw [if_neg huv]
      show (List.foldl putR a (lackF a b i))[j]? = _
      rw [ih j x y hx hy]
      by_cases hij : i = j
      · subst hij
        rw [hu] at hx; rw [hv] at hy
        injection hx with hx; injection hy with hy
        subst hx; subst hy
        rw [if_neg (Nat.lt_irrefl _), if_pos (by omega)]
        congr 1; omega
      · by_cases hj : j < i
        · rw [if_pos hj, if_pos (by omega)]
        · rw [if_neg hj, if_neg (by omega)]
theorem lack_join {a b : List Int} (ha : Ok64 a) (hb : Ok64 b) : (lackF a b 64).foldl putR a = joinF [a, b] := by
  refine ext64 (by rw [foldR_len, ha.1]) (join2_len ha.1 hb.1) (fun j hj => ?_)
  obtain ⟨x, hx, x0, x1⟩ := ha.at j hj
  obtain ⟨y, hy, y0, y1⟩ := hb.at j hj
  rw [lack_at ha.1 hb.1 64 (Nat.le_refl _) j x y hx hy, if_pos hj, join2_at hj hx hy]
  congr 1; omega
theorem lack_some {a b : List Int} (i : Nat) (j : Nat) (p : Rg) (h : (lackF a b i)[j]? = some p) : ∃ k, k < i ∧ p = ((k : Int), wrap64 (a.getD k 0 + 1), b.getD k 0) ∧ a.getD k 0 < b.getD k 0 := by
  have hm := List.mem_of_getElem? h
  clear h
  induction i with
  | zero => cases hm
  | succ i ih =>
    rcases List.mem_append.1 hm with hm | hm
    · obtain ⟨k, hk, e⟩ := ih hm
      exact ⟨k, by omega, e⟩
    · split at hm
      · rename_i hlt
        exact ⟨i, by omega, List.mem_singleton.1 hm, hlt⟩
      · cases hm
theorem lack_nil {a b : List Int} (ha : a.length = 64) (hb : b.length = 64) : (lackF a b 64).length = 0 ↔ CovP a b := by
  have key : ∀ i, i ≤ 64 → ((lackF a b i).length = 0 ↔ ∀ k, k < i → ¬ a.getD k 0 < b.getD k 0) := by
    intro i
    induction i with
    | zero => intro _; exact ⟨fun _ k hk => absurd hk (Nat.not_lt_zero _), fun _ => rfl⟩
    | succ i ih =>
      intro hi
      have ih := ih (by omega)
      have e : (lackF a b (i + 1)).length = (lackF a b i).length + (if a.getD i 0 < b.getD i 0 then 1 else 0) := by
        show (lackF a b i ++ _).length = _
        rw [List.length_append]
        split <;> simp
      rw [e]
      constructor
      · intro h k hk
        by_cases hki : k = i
        · subst hki
          intro hlt
          rw [if_pos hlt] at h
          omega
        · exact ih.1 (by omega) k (by omega)
      · intro h
        rw [if_neg (h i (by omega)), ih.2 (fun k hk => h k (by omega))]
  rw [key 64 (Nat.le_refl _)]
  constructor
  · intro h j x y hx hy
    have := h j (some_lt ha hx)
    rw [getD_of hx, getD_of hy] at this
    omega
  · intro h k hk
    obtain ⟨x, hx⟩ := va_len a ha k hk
    obtain ⟨y, hy⟩ := va_len b hb k hk
    rw [getD_of hx, getD_of hy]
    have := h k x y hx hy
    omega
def gainI : List Int → List Int → Int
  | x :: r, y :: q => (if x < y then y - x else 0) + gainI r q
  | _, _ => 0
theorem gain_sum : ∀ (a b : List Int), a.length = b.length → (∀ x ∈ a, 0 ≤ x) → sumI (List.zipWith max (List.zipWith max (List.replicate a.length 0) a) b) = sumI a + gainI a b
  | [], [], _, _ => rfl
  | x :: r, y :: q, h, hx => by
    have ih := gain_sum r q (by simpa using h) (fun z hz => hx z (List.mem_cons_of_mem _ hz))
    have x0 := hx x (List.mem_cons_self ..)
    rw [List.length_cons, List.replicate_succ, List.zipWith_cons_cons, List.zipWith_cons_cons, sumI_cons, sumI_cons, ih]
    show _ = _ + ((if x < y then y - x else 0) + gainI r q)
    split <;> omega
theorem count_key {a b : List Int} (ha : Ok64 a) (hb : Ok64 b) : ∀ i, i ≤ 64 → countF (lackF a b i) = gainI (a.take i) (b.take i) ∧ 0 ≤ countF (lackF a b i) ∧ countF (lackF a b i) ≤ i * 4294967296
  | 0, _ => ⟨rfl, Int.le_refl _, by show (0 : Int) ≤ ((0 : Nat) : Int) * 4294967296; omega⟩
  | i + 1, hi => by
    obtain ⟨h1, h2, h3⟩ := count_key ha hb i (by omega)
    obtain ⟨x, hx, x0, x1⟩ := ha.at i (by omega)
    obtain ⟨y, hy, y0, y1⟩ := hb.at i (by omega)
    have e : lackF a b (i + 1) = lackF a b i ++ (if x < y then [((i : Int), wrap64 (x + 1), y)] else []) := by
      show lackF a b i ++ _ = _
      rw [getD_of hx, getD_of hy]
    have g : ∀ (p q : List Int), p.length = q.length → gainI (p ++ [x]) (q ++ [y]) = gainI p q + (if x < y then y - x else 0) := by
      intro p
      induction p with
      | nil => intro q hq; cases q with
        | nil => show (if x < y then y - x else 0) + 0 = 0 + _; omega
        | cons _ _ => simp at hq
      | cons u r ih => intro q hq; cases q with
        | nil => simp at hq
        | cons v s =>
          have := ih s (by simpa using hq)
          show (if u < v then v - u else 0) + gainI (r ++ [x]) (s ++ [y]) = (if u < v then v - u else 0) + gainI r s + _
          rw [this]; omega
    rw [e, take_snoc' a i x hx, take_snoc' b i y hy, g _ _ (by rw [List.length_take, List.length_take, ha.1, hb.1])]
    have hw : wrap64 (x + 1) = x + 1 := by unfold wrap64; omega
    by_cases hxy : x < y
    · rw [if_pos hxy, if_pos hxy, countF_snoc]
      have hc : countS (countF (lackF a b i)) ((i : Int), wrap64 (x + 1), y) = countF (lackF a b i) + (y - x) := by
        unfold countS
        rw [hw]
        dsimp only
        rw [if_pos (by omega)]
        unfold wrap64
        omega
      rw [hc, h1]
      refine ⟨rfl, by omega, by omega⟩
    · rw [if_neg hxy, if_neg hxy, List.append_nil, h1]
      refine ⟨by omega, by omega, by omega⟩
theorem count_lack {a b : List Int} (ha : Ok64 a) (hb : Ok64 b) : countF (lackF a b 64) = wrap64 (sumW (joinF [a, b]) - sumW a) := by
  have h1 := (count_key ha hb 64 (Nat.le_refl _)).1
  have h2 := gain_sum a b (ha.1.trans hb.1.symm) (fun x hx => by
    obtain ⟨j, hj⟩ := List.mem_iff_getElem?.1 hx
    exact (ha.2 j x hj).1)
  obtain ⟨s1, s2, s3⟩ := sum_ok ha
  obtain ⟨t1, t2, t3⟩ := sum_ok (ok_join2 ha hb)
  rw [List.take_of_length_le (by rw [ha.1]; omega), List.take_of_length_le (by rw [hb.1]; omega)] at h1
  have e : sumI (joinF [a, b]) = sumI a + gainI a b := by
    rw [← h2, ha.1]; rfl
  rw [s1, t1, h1]
  unfold wrap64
  omega
end Go.Proofs.YtiljmkglmanddaaDoor
