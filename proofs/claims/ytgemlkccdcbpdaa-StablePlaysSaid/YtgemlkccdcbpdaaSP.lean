/- StableRises: plain facts. -/
import Derived.Test.YtgemlkccdcbpdaaSJ
set_option linter.unusedVariables false
namespace Go.Proofs.Ytgemlkccdcbpdaa
open Go.RowKit

theorem cov_refl (a : List Int) : CovP a a := fun j x y hx hy => by rw [hx] at hy; injection hy with hy; omega
theorem cov_trans {a b c : List Int} (ha : a.length = 64) (hb : b.length = 64) (h1 : CovP a b) (h2 : CovP b c) : CovP a c := fun j x z hx hz => by
  obtain ⟨y, hy⟩ := va_len b hb j (some_lt ha hx)
  have := h1 j x y hx hy
  have := h2 j y z hy hz
  omega
theorem meetF_at {a b : List Int} {j : Nat} {z : Int} (h : (meetF a b)[j]? = some z) : ∃ x y, a[j]? = some x ∧ b[j]? = some y ∧ z = min x y := by
  unfold meetF at h
  rw [List.getElem?_zipWith] at h
  cases hx : a[j]? with
  | none => rw [hx] at h; simp at h
  | some x =>
    cases hy : b[j]? with
    | none => rw [hx, hy] at h; simp at h
    | some y => rw [hx, hy] at h; injection h with h; exact ⟨x, y, rfl, rfl, h.symm⟩
theorem cov_meet_l (a b : List Int) : CovP a (meetF a b) := fun j x z hx hz => by
  obtain ⟨x', y, h1, h2, rfl⟩ := meetF_at hz
  rw [hx] at h1; injection h1 with h1; subst h1; omega
theorem cov_meet_r (a b : List Int) : CovP b (meetF a b) := fun j x z hx hz => by
  obtain ⟨x', y, h1, h2, rfl⟩ := meetF_at hz
  rw [hx] at h2; injection h2 with h2; subst h2; omega
theorem cov_meet {a b c : List Int} (h1 : CovP a c) (h2 : CovP b c) : CovP (meetF a b) c := fun j z y hz hy => by
  obtain ⟨x', y', e1, e2, rfl⟩ := meetF_at hz
  have := h1 j _ _ e1 hy
  have := h2 j _ _ e2 hy
  omega
theorem fmin : ∀ (l : List Mb) (a : Int), l.foldl (fun a m => min a m.2) a ≤ a ∧ (∀ m ∈ l, l.foldl (fun a m => min a m.2) a ≤ m.2) ∧ (∀ x, x ≤ a → (∀ m ∈ l, x ≤ m.2) → x ≤ l.foldl (fun a m => min a m.2) a)
  | [], a => ⟨Int.le_refl _, fun m hm => (by cases hm), fun x hx _ => hx⟩
  | k :: r, a => by
    obtain ⟨h1, h2, h3⟩ := fmin r (min a k.2)
    refine ⟨?_, ?_, ?_⟩
    · show r.foldl _ (min a k.2) ≤ a
      omega
    · intro m hm
      show r.foldl _ (min a k.2) ≤ m.2
      rcases List.mem_cons.1 hm with e | hm
      · subst e; omega
      · exact h2 m hm
    · intro x hx hm
      exact h3 x (by have := hm k (List.mem_cons_self ..); omega) (fun m hm' => hm m (List.mem_cons_of_mem _ hm'))
theorem fmeet : ∀ (l : List Mb) (a : List Int), a.length = 64 → (∀ m ∈ l, m.1.length = 64) → CovP a (l.foldl (fun a m => meetF a m.1) a) ∧ (∀ m ∈ l, CovP m.1 (l.foldl (fun a m => meetF a m.1) a)) ∧
    (∀ x, CovP a x → (∀ m ∈ l, CovP m.1 x) → CovP (l.foldl (fun a m => meetF a m.1) a) x)
  | [], a, _, _ => ⟨cov_refl a, fun m hm => (by cases hm), fun x hx _ => hx⟩
  | k :: r, a, ha, hl => by
    have hk := hl k (List.mem_cons_self ..)
    have hr := fun m hm => hl m (List.mem_cons_of_mem k hm)
    have hm := meetF_len ha hk
    obtain ⟨h1, h2, h3⟩ := fmeet r (meetF a k.1) hm hr
    refine ⟨cov_trans ha hm (cov_meet_l a k.1) h1, ?_, ?_⟩
    · intro m hm'
      rcases List.mem_cons.1 hm' with e | hm'
      · subst e; exact cov_trans hk hm (cov_meet_r a _) h1
      · exact h2 m hm'
    · intro x hx hm'
      exact h3 x (cov_meet hx (hm' k (List.mem_cons_self ..))) (fun m h => hm' m (List.mem_cons_of_mem _ h))
theorem memF_zero {ms : List Mb} (h : 0 < ms.length) : memF ms 0 ∈ ms := by
  cases ms with
  | nil => cases h
  | cons m r =>
    have : memF (m :: r) 0 = m := by
      unfold memF
      rw [show isM (m :: r).length 0 = true from decide_eq_true ⟨Int.le_refl _, by omega⟩, if_pos rfl]
      rfl
    rw [this]
    exact List.mem_cons_self ..
theorem floor_le {ms : List Mb} {m : Mb} (h : m ∈ ms) : floorF ms ≤ m.2 := (fmin ms _).2.1 m h
theorem le_floor {ms : List Mb} (h0 : 0 < ms.length) {x : Int} (h : ∀ m ∈ ms, x ≤ m.2) : x ≤ floorF ms := (fmin ms _).2.2 x (h _ (memF_zero h0)) h
theorem meet_le {ms : List Mb} (h64 : ∀ (i : Nat) m, ms[i]? = some m → m.1.length = 64) {m : Mb} (h : m ∈ ms) : CovP m.1 (meetAll ms) := (fmeet ms _ (memF_len h64 0) (mem64 h64)).2.1 m h
theorem le_meet {ms : List Mb} (h0 : 0 < ms.length) (h64 : ∀ (i : Nat) m, ms[i]? = some m → m.1.length = 64) {x : List Int} (h : ∀ m ∈ ms, CovP m.1 x) : CovP (meetAll ms) x := (fmeet ms _ (memF_len h64 0) (mem64 h64)).2.2 x (h _ (memF_zero h0)) h
/-- Members, and the same ones later. -/
def Up (ms ms' : List Mb) : Prop := ms'.length = ms.length ∧ ∀ (i : Nat) m m', ms[i]? = some m → ms'[i]? = some m' → m.2 ≤ m'.2 ∧ CovP m'.1 m.1
theorem Up.refl (ms : List Mb) : Up ms ms := ⟨rfl, fun i m m' h h' => by rw [h] at h'; injection h' with h'; subst h'; exact ⟨Int.le_refl _, cov_refl _⟩⟩
theorem Up.at {ms ms' : List Mb} (h : Up ms ms') {m' : Mb} (hm : m' ∈ ms') : ∃ m ∈ ms, m.2 ≤ m'.2 ∧ CovP m'.1 m.1 := by
  obtain ⟨i, hi⟩ := List.mem_iff_getElem?.1 hm
  obtain ⟨m, he⟩ : ∃ m, ms[i]? = some m := ⟨_, List.getElem?_eq_getElem (by rw [← h.1]; exact (List.getElem?_eq_some_iff.1 hi).1)⟩
  exact ⟨m, List.mem_iff_getElem?.2 ⟨i, he⟩, h.2 i m m' he hi⟩
theorem cov_told {a l : List Int} (ha : a.length = 64) (hl : l.length = 64) : CovP (joinF [a, l]) a := fun j x y hx hy => by
  have hj : j < 64 := some_lt ha hy
  obtain ⟨z, hz⟩ := va_len l hl j hj
  have h0 := zs_get j hj
  have e : (joinF [a, l])[j]? = some (max (max 0 y) z) := by
    show (List.zipWith max (List.zipWith max zs a) l)[j]? = _
    rw [List.getElem?_zipWith, List.getElem?_zipWith, h0, hy, hz]
  rw [e] at hx
  injection hx with hx
  omega
theorem up_told {ms : List Mb} (h64 : ∀ (i : Nat) m, ms[i]? = some m → m.1.length = 64) (i : Nat) {l : List Int} (hl : l.length = 64) (t : Int) : Up ms (toldAt ms i l t) := by
  refine ⟨List.length_set, fun j m m' hm hm' => ?_⟩
  unfold toldAt at hm'
  rw [List.getElem?_set] at hm'
  by_cases e : i = j
  · subst e
    rw [if_pos rfl] at hm'
    split at hm'
    · injection hm' with hm'
      rw [List.getD_eq_getElem?_getD, hm] at hm'
      subst hm'
      exact ⟨by show m.2 ≤ max m.2 t; omega, cov_told (h64 i m hm) hl⟩
    · cases hm'
  · rw [if_neg e] at hm'
    rw [hm] at hm'
    injection hm' with hm'
    subst hm'
    exact ⟨Int.le_refl _, cov_refl _⟩
theorem up_mine {ms : List Mb} (h64 : ∀ (i : Nat) m, ms[i]? = some m → m.1.length = 64) (i : Nat) {l : List Int} (hl : l.length = 64) (t : Int) (c : Bool) : Up ms (if c then toldAt ms i l t else ms) := by
  cases c
  · exact Up.refl ms
  · exact up_told h64 i hl t
theorem up_heard {ms : List Mb} (h64 : ∀ (i : Nat) m, ms[i]? = some m → m.1.length = 64) (i : Nat) (fr : Int) {l : List Int} (hl : l.length = 64) (c : Bool) (t : Int) : Up ms (heardF ms i fr l c t) := by
  unfold heardF
  split
  · exact up_told h64 _ hl _
  · exact Up.refl ms
theorem up_floor {ms ms' : List Mb} (h0 : 0 < ms.length) (h : Up ms ms') : floorF ms ≤ floorF ms' :=
  le_floor (by rw [h.1]; exact h0) fun m' hm' => by
    obtain ⟨m, hm, hle, _⟩ := h.at hm'
    have := floor_le hm
    omega
theorem up_meet {ms ms' : List Mb} (h0 : 0 < ms.length) (h64 : ∀ (i : Nat) m, ms[i]? = some m → m.1.length = 64) (h64' : ∀ (i : Nat) m, ms'[i]? = some m → m.1.length = 64) (h : Up ms ms') : CovP (meetAll ms') (meetAll ms) :=
  le_meet (by rw [h.1]; exact h0) h64' fun m' hm' => by
    obtain ⟨m, hm, _, hc⟩ := h.at hm'
    exact cov_trans (mem64 h64' _ hm') (mem64 h64 _ hm) hc (meet_le h64 hm)
theorem rep_mem {n : Nat} {m : Mb} (h : m ∈ List.replicate n mz) : m = mz := (List.mem_replicate.1 h).2
theorem start_floor {n : Nat} (h : 0 < n) : (0 : Int) ≤ floorF (List.replicate n mz) := le_floor (by rw [List.length_replicate]; exact h) fun m hm => by rw [rep_mem hm]; exact Int.le_refl _
theorem start_meet {n : Nat} (h : 0 < n) : CovP (meetAll (List.replicate n mz)) zs :=
  le_meet (by rw [List.length_replicate]; exact h) (fun i m hi => by rw [rep_mem (List.mem_iff_getElem?.2 ⟨i, hi⟩)]; exact mz_len) fun m hm => by rw [rep_mem hm]; exact cov_refl _
theorem mem_at {ms : List Mb} {r : Nat} (h : r < ms.length) : memF ms (r : Int) ∈ ms := by
  obtain ⟨m, hm⟩ : ∃ m, ms[r]? = some m := ⟨_, List.getElem?_eq_getElem h⟩
  have : memF ms (r : Int) = m := by
    unfold memF
    rw [show isM ms.length (r : Int) = true from decide_eq_true (by omega), if_pos rfl, show ((r : Nat) : Int).toNat = r from by omega, List.getD_eq_getElem?_getD, hm]
    rfl
  rw [this]
  exact List.mem_iff_getElem?.2 ⟨r, hm⟩
end Go.Proofs.Ytgemlkccdcbpdaa
