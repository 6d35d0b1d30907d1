/- Has, Put, Drop of the program. -/
import Derived.Test.YthpolhlhpdhomaaDoorLsG
import Derived.Test.YthpolhlhpdhomaaDoorLsF
import Derived.Deep.RegionWith
set_option linter.unusedVariables false
namespace Go.Proofs.YthpolhlhpdhomaaDoor
open Go.RowKit

set_option maxRecDepth 100000 in
set_option maxHeartbeats 800000 in
theorem place_any (w : World) (v : Value) (l : List St) (s : St) (h : LiesS w v l) (hu : Up l) (hl : l.length ≤ 1000) :
    Calls Tryd.prog 44 #[v, .agg #[.int .i64 s.1, .int .i64 s.2]] w fun e w' => ∃ i : Nat, e = .returned (.tuple #[.int .i64 i, .int .i64 (upto l s i : Nat)]) ∧ Split l s i ∧ Below w.heap.size w w' := by
  obtain ⟨s1, s2⟩ := s
  have X := Lib.hid ((Below.refl w.heap.size w).alloc (Nat.le_refl _) (.cells #[.int .i64 s1, .int .i64 s2] 23))
  have H := Lib.hid (h.later X.out)
  have C := Lib.hid (bsearch_any _ v l (s1, s2) H.out hu hl)
  obtain ⟨ao, cap, rfl⟩ := h.shape
  clear h hu
  go_enter Tryd.func44, Tryd.ntmps44
  go_wp2_with fail
  refine C.out.mono ?_
  rintro e w1 ⟨i, rfl, hs, hb⟩
  have B1 := Lib.hid (X.out.trans (hb.mono X.out.size))
  have hle := hs.le
  have HS := Lib.hid hs
  have hi9 : (i : Int) ≤ 1000 := by omega
  clear hs hb
  by_cases he : l[i]? = some (s1, s2)
  · have HE : Hid (upto l (s1, s2) i = i + 1) := Lib.hid (by unfold upto; rw [if_pos he])
    rw [decide_eq_true he]
    clear he
    go_wp2
    go_returns
    refine ⟨i, ?_, HS.out, B1.out⟩
    rw [HE.out]; rfl
  · have HE : Hid (upto l (s1, s2) i = i) := Lib.hid (by unfold upto; rw [if_neg he])
    rw [decide_eq_false he]
    clear he
    go_wp2
    go_returns
    refine ⟨i, ?_, HS.out, B1.out⟩
    rw [HE.out]; rfl

theorem upto_ge (l : List St) (s : St) (i : Nat) : i ≤ upto l s i := by unfold upto; split <;> omega
theorem upto_le {l : List St} {s : St} {i : Nat} (h : i ≤ l.length) : upto l s i ≤ l.length := by
  unfold upto
  split
  · rename_i e; have := (List.getElem?_eq_some_iff.1 e).1; omega
  · exact h
theorem upto_lt (l : List St) (s : St) (i : Nat) : decide (i < upto l s i) = decide (l[i]? = some s) := by
  unfold upto
  split
  · rename_i e; rw [decide_eq_true e]; exact decide_eq_true (by omega)
  · rename_i e; rw [decide_eq_false e]; exact decide_eq_false (by omega)

set_option maxRecDepth 100000 in
set_option maxHeartbeats 800000 in
theorem has_any (w : World) (v : Value) (l : List St) (s : St) (h : LiesS w v l) (hu : Up l) (hl : l.length ≤ 1000) :
    Calls Tryd.prog 25 #[v, .agg #[.int .i64 s.1, .int .i64 s.2]] w fun e w' => e = .returned (.bool (decide (s ∈ l))) ∧ Below w.heap.size w w' := by
  obtain ⟨s1, s2⟩ := s
  have X := Lib.hid ((Below.refl w.heap.size w).alloc (Nat.le_refl _) (.cells #[.int .i64 s1, .int .i64 s2] 23))
  have H := Lib.hid (h.later X.out)
  have C := Lib.hid (place_any _ v l (s1, s2) H.out hu hl)
  have HU := Lib.hid hu
  obtain ⟨ao, cap, rfl⟩ := h.shape
  clear h hu
  go_enter Tryd.func25, Tryd.ntmps25
  go_wp2_with fail
  refine C.out.mono ?_
  rintro e w1 ⟨i, rfl, hs, hb⟩
  have B1 := Lib.hid (X.out.trans (hb.mono X.out.size))
  have HE : Hid (decide ((s1, s2) ∈ l) = decide (i < upto l (s1, s2) i)) := Lib.hid (by
    rw [upto_lt]; exact decide_eq_decide.2 (has_split HU.out hs).symm)
  generalize upto l (s1, s2) i = u at *
  clear hs hb
  go_wp2
  go_returns
  refine ⟨?_, B1.out⟩
  rw [HE.out]; rfl

theorem own_weak {w : World} {B B' e size n : Nat} {v : Value} {xs : List Value} (h : w.ownsRow B e size v n xs) (hB : B' ≤ B) : w.ownsRow B' e size v n xs := by
  refine ⟨h.1, ?_⟩
  rcases h.2 with h | ⟨g, cap, cur, e, hB2, rest⟩
  · exact .inl h
  · exact .inr ⟨g, cap, cur, e, by omega, rest⟩
theorem RowS.from {w w1 w2 : World} {r : Value} {l : List St} (h : RowS w1 w2 r l) (hb : Below w.heap.size w w1) : RowS w w2 r l :=
  ⟨own_weak h.1 hb.size, hb.trans (h.2.mono hb.size)⟩
theorem rows2 {w : World} {v1 v2 : Value} {l1 l2 : List St} (h1 : LiesS w v1 l1) (h2 : LiesS w v2 l2) :
    Rows2 (w.alloc (.cells #[v1, v2] 35)) (.slice (some ⟨w.heap.size, 0, none⟩) 2 2) [(v1, l1), (v2, l2)] := by
  have hX := (Below.refl w.heap.size w).alloc (Nat.le_refl _) (.cells #[v1, v2] 35)
  have hg := heap_alloc_new w (.cells #[v1, v2] 35)
  refine ⟨_, 2, rfl, (fun h => by cases h), fun b hb => ?_, fun p hp => ?_⟩
  · cases hb
    refine ⟨_, 0, rfl, by simp, fun j p hj => ?_⟩
    rw [Nat.zero_add, cell_of_row _ _ _ _ _ _ hg]
    match j, hj with
    | 0, hj => injection hj with hj; subst hj; rfl
    | 1, hj => injection hj with hj; subst hj; rfl
    | j + 2, hj => simp at hj
  · rcases List.mem_cons.1 hp with rfl | hp
    · exact h1.later hX
    · rcases List.mem_cons.1 hp with rfl | hp
      · exact h2.later hX
      · cases hp

theorem Rows2.later {w w' : World} {v : Value} {Ls : List (Value × List St)} (h : Rows2 w v Ls) (hb : Below w.heap.size w w') : Rows2 w' v Ls := by
  obtain ⟨ao, cap, e, h0, hc, hl⟩ := h
  refine ⟨ao, cap, e, h0, fun b hbb => ?_, fun p hp => (hl p hp).later hb⟩
  obtain ⟨k, o, e2, hk, hcc⟩ := hc b hbb
  exact ⟨k, o, e2, Nat.lt_of_lt_of_le hk hb.size, fun j p hj => (hb.cell (p := ⟨k, o + j, none⟩) hk).trans (hcc j p hj)⟩

set_option maxRecDepth 100000 in
set_option maxHeartbeats 1600000 in
theorem drop_any (w : World) (v : Value) (l : List St) (s : St) (h : LiesS w v l) (hu : Up l) (hl : l.length ≤ 1000) :
    Calls Tryd.prog 24 #[v, .agg #[.int .i64 s.1, .int .i64 s.2]] w fun e w' => ∃ r, e = .returned r ∧ RowS w w' r (dropF l s) := by
  obtain ⟨s1, s2⟩ := s
  have X := Lib.hid ((Below.refl w.heap.size w).alloc (Nat.le_refl _) (.cells #[.int .i64 s1, .int .i64 s2] 23))
  have H := Lib.hid (h.later X.out)
  have C := Lib.hid (place_any _ v l (s1, s2) H.out hu hl)
  have HU := Lib.hid hu
  have hcap : l.length ≤ maxLen := by obtain ⟨_, _, _, g1, g2, _⟩ := h; omega
  obtain ⟨ao, cap, rfl⟩ := h.shape
  have hlc : l.length ≤ cap ∧ cap ≤ maxLen := by obtain ⟨_, _, e, g1, g2, _⟩ := h; injection e with _ _ e; subst e; exact ⟨g1, g2⟩
  unfold maxLen at hlc
  obtain ⟨hlc, hcm⟩ := hlc
  clear h hu
  go_enter Tryd.func24, Tryd.ntmps24
  go_wp2_with fail
  refine C.out.mono ?_
  rintro e w1 ⟨i, rfl, hs, hb⟩
  have B1 := Lib.hid (X.out.trans (hb.mono X.out.size))
  have L1 := H.out.later hb
  have hil := hs.le
  have hul := upto_le (s := (s1, s2)) hs.le
  have HE := Lib.hid (drop_split HU.out hs)
  have T1 := L1.take i hil
  obtain ⟨A, hrun, T2⟩ := slice_tailS L1 hul
  have hlen : (dropF l (s1, s2)).length ≤ 100000 := by unfold dropF; exact Nat.le_trans (List.length_filter_le _ _) (by omega)
  have D := Lib.hid (fun W (hW : Below (w1.alloc (.cells #[.slice ao i cap, .slice A (l.length - upto l (s1, s2) i) (cap - upto l (s1, s2) i)] 35)).heap.size (w1.alloc (.cells #[.slice ao i cap, .slice A (l.length - upto l (s1, s2) i) (cap - upto l (s1, s2) i)] 35)) W) => concat_any W _ _ ((rows2 T1 T2).later hW) (by simp) (by unfold cats; simp only [List.flatMap_cons, List.flatMap_nil, List.append_nil]; rw [HE.out]; exact hlen))
  have HC : Hid (cats [(Value.slice ao i cap, l.take i), (Value.slice A (l.length - upto l (s1, s2) i) (cap - upto l (s1, s2) i), l.drop (upto l (s1, s2) i))] = dropF l (s1, s2)) := Lib.hid (by unfold cats; simp only [List.flatMap_cons, List.flatMap_nil, List.append_nil]; exact HE.out)
  rw [HC.out] at D
  obtain ⟨Z, hZ⟩ : ∃ Z, dropF l (s1, s2) = Z := ⟨_, rfl⟩
  rw [hZ] at D
  have HZ := Lib.hid hZ
  clear hZ HE
  generalize upto l (s1, s2) i = u at *
  have hic : (i : Int) ≤ (cap : Int) := by omega
  have BA := Lib.hid ((Below.refl w1.heap.size w1).alloc (Nat.le_refl _) (.cells #[.slice ao i cap, .slice A (l.length - u) (cap - u)] 35))
  clear hs hb L1 T1 T2 HC hlen
  go_wp2
  go_region_with (first
    | (go_at_call 45; refine (D.out _ (below_drewN _ 1)).mono ?_; rintro e w2 ⟨r, rfl, ho⟩; have K := Lib.hid ho; obtain ⟨ra, rc, rfl⟩ := own_shape ho.1; clear ho))
  go_wp2
  go_returns
  refine ⟨.slice ra Z.length rc, rfl, ?_⟩
  rw [HZ.out]
  have B2 := B1.out.trans (BA.out.mono B1.out.size)
  have B3 := B2.trans ((below_drewN (w1.alloc (.cells #[.slice ao i cap, .slice A (l.length - u) (cap - u)] 35)) 1).mono B2.size)
  exact K.out.from B3
end Go.Proofs.YthpolhlhpdhomaaDoor
