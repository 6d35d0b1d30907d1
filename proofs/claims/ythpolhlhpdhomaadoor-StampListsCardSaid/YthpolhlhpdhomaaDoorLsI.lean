/- Put of the program. -/
import Derived.Test.YthpolhlhpdhomaaDoorLsH
set_option linter.unusedVariables false
namespace Go.Proofs.YthpolhlhpdhomaaDoor
open Go.RowKit

theorem rows3 {w : World} {v1 v2 v3 : Value} {l1 l2 l3 : List St} (h1 : LiesS w v1 l1) (h2 : LiesS w v2 l2) (h3 : LiesS w v3 l3) :
    Rows2 (w.alloc (.cells #[v1, v2, v3] 35)) (.slice (some ⟨w.heap.size, 0, none⟩) 3 3) [(v1, l1), (v2, l2), (v3, l3)] := by
  have hX := (Below.refl w.heap.size w).alloc (Nat.le_refl _) (.cells #[v1, v2, v3] 35)
  have hg := heap_alloc_new w (.cells #[v1, v2, v3] 35)
  refine ⟨_, 3, rfl, (fun h => by cases h), fun b hb => ?_, fun p hp => ?_⟩
  · cases hb
    refine ⟨_, 0, rfl, by simp, fun j p hj => ?_⟩
    rw [Nat.zero_add, cell_of_row _ _ _ _ _ _ hg]
    match j, hj with
    | 0, hj => injection hj with hj; subst hj; rfl
    | 1, hj => injection hj with hj; subst hj; rfl
    | 2, hj => injection hj with hj; subst hj; rfl
    | j + 3, hj => simp at hj
  · rcases List.mem_cons.1 hp with rfl | hp
    · exact h1.later hX
    · rcases List.mem_cons.1 hp with rfl | hp
      · exact h2.later hX
      · rcases List.mem_cons.1 hp with rfl | hp
        · exact h3.later hX
        · cases hp
theorem lies_one (w : World) (p : St) : LiesS (w.alloc (.cells #[.int .i64 p.1, .int .i64 p.2] 23)) (.slice (some ⟨w.heap.size, 0, none⟩) 1 1) [p] := by
  have hg := heap_alloc_new w (.cells #[.int .i64 p.1, .int .i64 p.2] 23)
  refine ⟨_, 1, rfl, Nat.le_refl _, by unfold maxLen; omega, (fun h => by cases h), fun b hb _ => ?_⟩
  cases hb
  refine ⟨_, 0, rfl, by simp, fun j q hj => ?_⟩
  match j, hj with
  | 0, hj =>
    injection hj with hj; subst hj
    obtain ⟨c0, c1, _, _⟩ := two_cells hg
    exact ⟨c0, c1⟩
  | j + 1, hj => simp at hj

set_option maxRecDepth 100000 in
set_option maxHeartbeats 1600000 in
theorem put_any (w : World) (v : Value) (l : List St) (s : St) (h : LiesS w v l) (hu : Up l) (hl : l.length ≤ 1000) :
    Calls Tryd.prog 23 #[v, .agg #[.int .i64 s.1, .int .i64 s.2]] w fun e w' => ∃ r, e = .returned r ∧ RowS w w' r (putF false l s) := by
  obtain ⟨s1, s2⟩ := s
  have X := Lib.hid ((Below.refl w.heap.size w).alloc (Nat.le_refl _) (.cells #[.int .i64 s1, .int .i64 s2] 23))
  have N := Lib.hid (heap_alloc_new w (.cells #[.int .i64 s1, .int .i64 s2] 23))
  have H := Lib.hid (h.later X.out)
  have C := Lib.hid (place_any _ v l (s1, s2) H.out hu hl)
  have HU := Lib.hid hu
  obtain ⟨ao, cap, rfl⟩ := h.shape
  have hlc : l.length ≤ cap ∧ cap ≤ maxLen := by obtain ⟨_, _, e, g1, g2, _⟩ := h; injection e with _ _ e; subst e; exact ⟨g1, g2⟩
  unfold maxLen at hlc
  obtain ⟨hlc, hcm⟩ := hlc
  clear h hu
  go_enter Tryd.func23, Tryd.ntmps23
  go_wp2_with fail
  refine C.out.mono ?_
  rintro e w1 ⟨i, rfl, hs, hb⟩
  have B1 := Lib.hid (X.out.trans (hb.mono X.out.size))
  obtain ⟨b0, b1, _, _⟩ := two_cells (box_step N.out hb)
  have L1 := H.out.later hb
  have hil := hs.le
  have hul := upto_le (s := (s1, s2)) hs.le
  have HE := Lib.hid (put_split HU.out hs)
  have T1 := L1.take i hil
  obtain ⟨A, hrun, T2⟩ := slice_tailS L1 hul
  have hlen : (putF false l (s1, s2)).length ≤ 100000 := Nat.le_trans (putF_len l false (s1, s2)) (by omega)
  have BA := Lib.hid ((Below.refl w1.heap.size w1).alloc (Nat.le_refl _) (.cells #[.int .i64 s1, .int .i64 s2] 23))
  have R3 := Lib.hid (rows3 (T1.later BA.out) (lies_one w1 (s1, s2)) (T2.later BA.out))
  rw [World.size_alloc] at R3
  have HC : Hid (cats [(Value.slice ao i cap, l.take i), (Value.slice (some ⟨w1.heap.size, 0, none⟩) 1 1, [(s1, s2)]), (Value.slice A (l.length - upto l (s1, s2) i) (cap - upto l (s1, s2) i), l.drop (upto l (s1, s2) i))] = putF false l (s1, s2)) := Lib.hid (by unfold cats; simp only [List.flatMap_cons, List.flatMap_nil, List.append_nil]; rw [← List.append_assoc]; exact HE.out)
  have D := Lib.hid (fun W hW => concat_any W _ _ (R3.out.later (w' := W) hW) (by simp) (by rw [HC.out]; exact hlen))
  rw [HC.out] at D
  obtain ⟨Z, hZ⟩ : ∃ Z, putF false l (s1, s2) = Z := ⟨_, rfl⟩
  rw [hZ] at D
  have HZ := Lib.hid hZ
  clear hZ HE
  generalize upto l (s1, s2) i = u at *
  have hic : (i : Int) ≤ (cap : Int) := by omega
  clear hs hb L1 T1 T2 HC hlen
  go_wp2
  go_region_with (first
    | (go_at_call 45; refine (D.out _ (below_drewN _ 1)).mono ?_; rintro e w2 ⟨r, rfl, ho⟩; have K := Lib.hid ho; obtain ⟨ra, rc, rfl⟩ := own_shape ho.1; clear ho))
  go_wp2
  go_returns
  refine ⟨.slice ra Z.length rc, rfl, ?_⟩
  rw [HZ.out]
  have B2 := B1.out.trans (BA.out.mono B1.out.size)
  have B3 := B2.alloc B2.size (.cells #[.slice ao i cap, .slice (some ⟨w1.heap.size, 0, none⟩) 1 1, .slice A (l.length - u) (cap - u)] 35)
  exact K.out.from (B3.trans ((below_drewN _ 1).mono B3.size))
end Go.Proofs.YthpolhlhpdhomaaDoor
