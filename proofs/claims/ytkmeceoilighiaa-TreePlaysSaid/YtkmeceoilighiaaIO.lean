/- slices.Insert in place, or into a new row; all three ways. -/
import Derived.Test.YtkmeceoilighiaaIN
import Derived.Test.YtkmeceoilighiaaDR
set_option linter.unusedVariables false
set_option linter.unusedSimpArgs false
set_option maxRecDepth 100000
namespace Go.Proofs.Ytkmeceoilighiaa
open Go.RowKit Go.Shelf Go.Lib
open Tb (Sprung)

set_option maxHeartbeats 800000 in
theorem insert_room (w : World) (B g cap n i : Nat) (A D T st : List Value) (hB : B ≤ g) (hg : w.heap[g]? = some (.cells (A ++ D ++ T).toArray 89 (0, 0))) (hA : A.length = i * 15) (hD : D.length = (n - i) * 15) (hT : T.length = (cap - n) * 15)
    (hi : i < n) (hroom : n + 1 ≤ cap) (hcm : cap ≤ maxLen) (vb : Nat) (hv : w.heap[vb]? = some (.cells st.toArray 89 (0, 0))) (hst : st.length = 15) (hne : vb ≠ g)
    (h1 : ∀ u ∈ D, u.oneCell' = true) (h2 : ∀ u ∈ st, u.oneCell' = true) :
    Calls Try.prog 46 #[.slice (some ⟨g, 0, none⟩) n cap, .int .i64 i, .slice (some ⟨vb, 0, none⟩) 1 1] w fun e w' => ∃ v', e = .returned v' ∧ w'.ownsRow B 89 15 v' (n + 1) (A ++ st ++ D) ∧ w.grownBy w' (some g) ∧ Sprung w (.slice (some ⟨g, 0, none⟩) n cap) v' := by
  have hcm' : cap ≤ 9223372036854775807 := by unfold maxLen at hcm; omega
  have hov : ∀ o lb cb, (callFunc 69 #[.slice (some ⟨vb, 0, none⟩) 1 1, .slice (some ⟨g, o, none⟩) lb cb]).run Try.prog w = .ok (.value (.bool false)) w := fun o lb cb =>
    overlaps_no w vb 0 g o 1 1 lb cb _ _ 89 89 hne hv hg (by simp only [List.size_toArray, List.length_append]; omega)
  obtain ⟨c1, hc1⟩ : ∃ z, z = ((A ++ D ++ T).take (A.length + 15) ++ D ++ (A ++ D ++ T).drop (A.length + 15 + D.length)) := ⟨_, rfl⟩
  have hl1 : c1.length = (A ++ D ++ T).length := by rw [hc1]; simp only [List.length_append, List.length_take, List.length_drop]; omega
  have hcp1 : ∀ W, W.heap[g]? = some (.cells (A ++ D ++ T).toArray 89 (0, 0)) → ∀ ty dc sc, (Builtin.copy_ #[75, 75] ty #[.slice (some ⟨g, (i + 1) * 15, none⟩) (n - i) dc, .slice (some ⟨g, i * 15, none⟩) (n + 1 - i) sc]).run Try.prog W = .ok (goInt (n - i : Nat)) (W.setRow g c1.toArray) := fun W hW ty dc sc => by
    have := run_copy_rowK (P := Try.prog) W 75 75 ty 89 15 g ((i + 1) * 15) (n - i) dc ⟨g, i * 15, none⟩ (n + 1 - i) sc _ 89 D Try.u75 size89 hW (by rw [hD]; congr 1; simp only [Nat.min_def]; split <;> omega)
      (fun j u hj => by
        rw [Addr.add_lit, cell_of_row _ _ _ _ _ _ hW]
        simp only [List.getElem?_toArray]
        rw [← hA, List.append_assoc, List.getElem?_append_right (by omega), Nat.add_sub_cancel_left, List.getElem?_append_left (List.getElem?_eq_some_iff.1 hj).1]
        exact hj) (by simp only [List.size_toArray, List.length_append]; omega) h1
    rw [show Nat.min (n + 1 - i) (n - i) = n - i by simp only [Nat.min_def]; split <;> omega] at this
    rw [this, hc1]
    simp only [List.toList_toArray, show (i + 1) * 15 = A.length + 15 by omega]
  obtain ⟨c2, hc2⟩ : ∃ z, z = A ++ st ++ D ++ (A ++ D ++ T).drop (A.length + 15 + D.length) := ⟨_, rfl⟩
  have hcp2 : ∀ W, W.heap[g]? = some (.cells c1.toArray 89 (0, 0)) → W.heap[vb]? = some (.cells st.toArray 89 (0, 0)) → ∀ ty dc, (Builtin.copy_ #[75, 75] ty #[.slice (some ⟨g, i * 15, none⟩) (n + 1 - i) dc, .slice (some ⟨vb, 0, none⟩) 1 1]).run Try.prog W = .ok (goInt (1 : Nat)) (W.setRow g c2.toArray) := fun W hW hV ty dc => by
    have := run_copy_rowK (P := Try.prog) W 75 75 ty 89 15 g (i * 15) (n + 1 - i) dc ⟨vb, 0, none⟩ 1 1 _ 89 st Try.u75 size89 hW (by rw [hst]; simp only [Nat.min_def]; split <;> omega)
      (fun j u hj => by
        rw [Addr.add_lit, Nat.zero_add, cell_of_row _ _ _ _ _ _ hV]
        simpa using hj) (by simp only [List.size_toArray, hl1, List.length_append]; omega) h2
    rw [show Nat.min 1 (n + 1 - i) = 1 by simp only [Nat.min_def]; split <;> omega] at this
    rw [this, hc2, ← ins_rows A D T st 15 hst (by omega), ← hc1]
    simp only [List.toList_toArray, hst, hA]
  have hz2 : ¬ ((i : Int) = (n : Int)) := by omega
  have hz3 : ¬ ((cap : Int) < (n : Int) + 1) := by omega
  have e1 : (((i : Int) + 1).toNat) = i + 1 := by omega
  have e2 : (((n : Int) + 1).toNat) = n + 1 := by omega
  have e3 : ¬ (cap = i) := by omega
  have e4 : ¬ (cap = i + 1) := by omega
  have hw1 : IntKind.i64.wrap ((i : Int) + 1) = (i : Int) + 1 := by rw [IntKind.wrap_i64]; omega
  have hb1 : (0 : Int) ≤ (i : Int) + 1 := by omega
  have hb2 : (i : Int) ≤ (n : Int) := by omega
  have hb3 : (i : Int) ≤ (n : Int) + 1 := by omega
  have hb4 : (i : Int) + 1 ≤ (n : Int) + 1 := by omega
  have hb5 : i ≤ n := by omega
  have hb6 : i ≤ n + 1 := by omega
  have e5 : n + 1 - (i + 1) = n - i := by omega
  obtain ⟨W1, hW1⟩ : ∃ W1, w.setRow g c1.toArray = W1 := ⟨_, rfl⟩
  have GW := hcp1 w.drew hg
  have HC1 := Lib.hid hl1
  have HC2 := Lib.hid hc2
  have HL := Lib.hid (show c2.length = cap * 15 ∧ c2.take ((n + 1) * 15) = A ++ st ++ D from by
    have e : (A ++ st ++ D).length = (n + 1) * 15 := by simp only [List.length_append]; omega
    constructor
    · rw [hc2]; simp only [List.length_append, List.length_drop]; omega
    · rw [hc2, ← e, List.take_left])
  obtain ⟨R, hR⟩ : ∃ z, A ++ st ++ D = z := ⟨_, rfl⟩
  rw [hR] at HL ⊢
  have HRL := Lib.hid (show R.length = (n + 1) * 15 from by rw [← hR]; simp only [List.length_append]; omega)
  clear hcp1 hc1 hc2 hl1 hR hA hD hT h1 h2 hst
  go_enter Try.func46, Try.ntmps46
  go_wp2_with (simp only [hov])
  refine wp_region_held_drew (S := fun w' => w' = w.drew ∨ w' = w.drew.setRow g c1.toArray) (by kernel_rfl) (.inl rfl) (fun hHeld => ?_)
  clear hHeld
  refine take_at (i := 0) 69 ?_ rfl rfl (by kernel_rfl) (by kernel_rfl) (by kernel_rfl) (fun _ _ _ h => h) (.inl ⟨rfl, ?_⟩) (.inl rfl) ?_
  rotate_left 1
  · intro w hSw; go_simp; try with_reducible rfl
  simp only [Act.put, List.setIfInBounds_toArray, List.set_cons_zero, List.set_cons_succ]
  refine take_at (i := 1) 70 ?_ rfl rfl (by kernel_rfl) (by kernel_rfl) (by kernel_rfl) (fun _ _ _ h => h) (.inl ⟨rfl, ?_⟩) (.inl rfl) ?_
  rotate_left 1
  · intro w hSw; go_simp; try with_reducible rfl
  simp only [Act.put, List.setIfInBounds_toArray, List.set_cons_zero, List.set_cons_succ]
  refine take_at (i := 2) 71 ?_ rfl rfl (by kernel_rfl) (by kernel_rfl) (by kernel_rfl) (fun _ _ _ h => h) (.inl ⟨rfl, ?_⟩) (.inl rfl) ?_
  rotate_left 1
  · intro w hSw; go_simp; try with_reducible rfl
  simp only [Act.put, List.setIfInBounds_toArray, List.set_cons_zero, List.set_cons_succ]
  refine take_at (i := 3) 72 ?_ rfl rfl (by kernel_rfl) (by kernel_rfl) (by kernel_rfl) (fun _ _ _ h => h) (.inl ⟨rfl, ?_⟩) (.inl rfl) ?_
  rotate_left 1
  · intro w hSw; go_simp; try with_reducible rfl
  simp only [Act.put, List.setIfInBounds_toArray, List.set_cons_zero, List.set_cons_succ]
  refine take_at (i := 4) 73 ?_ rfl rfl (by kernel_rfl) (by kernel_rfl) (by kernel_rfl) (fun _ _ _ h => h) (.inl ⟨rfl, ?_⟩) (.inl rfl) ?_
  rotate_left 1
  · intro w hSw; go_simp; try with_reducible rfl
  simp only [Act.put, List.setIfInBounds_toArray, List.set_cons_zero, List.set_cons_succ]
  refine take_at (i := 5) 74 ?_ rfl rfl (by kernel_rfl) (by kernel_rfl) (by kernel_rfl) (fun _ _ _ h => h) (.inl ⟨rfl, ?_⟩) (.inl rfl) ?_
  rotate_left 1
  · intro w hSw; go_simp; try with_reducible rfl
  simp only [Act.put, List.setIfInBounds_toArray, List.set_cons_zero, List.set_cons_succ]
  refine take_at (i := 6) 75 ?_ rfl rfl (by kernel_rfl) (by kernel_rfl) (by kernel_rfl) (fun _ _ _ h => h) (.inl ⟨rfl, ?_⟩) (.inl rfl) ?_
  rotate_left 1
  · intro w hSw; go_simp; try with_reducible rfl
  simp only [Act.put, List.setIfInBounds_toArray, List.set_cons_zero, List.set_cons_succ]
  refine take_at (i := 7) 76 ?_ rfl rfl (by kernel_rfl) (by kernel_rfl) (by kernel_rfl) (fun _ _ _ h => h) (.inl ⟨rfl, ?_⟩) (.inl rfl) ?_
  rotate_left 1
  · intro w hSw; go_simp; try with_reducible rfl
  simp only [Act.put, List.setIfInBounds_toArray, List.set_cons_zero, List.set_cons_succ]
  refine wpAnyH_ready (rs := [8]) (by kernel_rfl) (by simp) (br_copy (i := 8) 77 (.tmp 73) (.tmp 76) 75 75 rfl rfl rfl rfl _ _ _ _ rfl rfl (GW _ _ _) (.inr rfl) (fun _ => ?_) AllReadyH.nil)
  simp only [Act.put, List.setIfInBounds_toArray, List.set_cons_zero, List.set_cons_succ]
  refine wpAnyH_done (by kernel_rfl) ?_ _
  have HB : Hid ((w.drew.setRow g c1.toArray).heap[g]? = some (.cells c1.toArray 89 (0, 0))) := Lib.hid (setRow_heap w.drew g _ _ 89 _ hg)
  have HV : Hid ((w.drew.setRow g c1.toArray).heap[vb]? = some (.cells st.toArray 89 (0, 0))) := Lib.hid ((setRow_other w.drew g vb _ hne).trans hv)
  have GW2 := hcp2 _ HB.out HV.out
  have HG : Hid (w.grownBy (w.drew.setRow g c1.toArray) (some g)) := Lib.hid ⟨rfl, rfl, rfl, by simp [World.setRow], fun k _ hk => setRow_other w.drew g k _ (fun e => hk (by rw [e]))⟩
  clear GW hg hv hcp2 hov
  generalize w.drew.setRow g c1.toArray = W2 at *
  go_wp2_with (at_builtin; refine wpList_copyK rfl (.tmp 80) (.tmp 81) 75 75 rfl _ _ rfl rfl (GW2 _ _) ?_)
  go_returns
  refine ⟨_, rfl, ⟨HRL.out, .inr ⟨g, cap, c2.toArray, rfl, hB, setRow_heap W2 g _ _ 89 _ HB.out, hroom, hcm, by simp only [List.size_toArray]; exact HL.out.1, by simp only [List.toList_toArray]; exact HL.out.2⟩⟩, ?_, .inl rfl⟩
  exact ⟨HG.out.os, HG.out.tape, HG.out.output, by simp [World.setRow, HG.out.size], fun k h1 hk => (setRow_other W2 g k _ (fun e => hk (by rw [e]))).trans (HG.out.block k h1 hk)⟩

set_option maxHeartbeats 800000 in
theorem insert_grow (w : World) (B g n i : Nat) (A D : List Value) (st : List Value) (hB : B ≤ w.heap.size) (hg : w.heap[g]? = some (.cells (A ++ D).toArray 89 (0, 0))) (hA : A.length = i * 15) (hD : D.length = (n - i) * 15)
    (hi : i < n) (hn : n < 1000000) (vb : Nat) (hv : w.heap[vb]? = some (.cells st.toArray 89 (0, 0))) (hst : st.length = 15)
    (h1 : ∀ u ∈ D, u.oneCell' = true) (h2 : ∀ u ∈ st, u.oneCell' = true) :
    Calls Try.prog 46 #[.slice (some ⟨g, 0, none⟩) n n, .int .i64 i, .slice (some ⟨vb, 0, none⟩) 1 1] w fun e w' => ∃ v', e = .returned v' ∧ w'.ownsRow B 89 15 v' (n + 1) (A ++ st ++ D) ∧ w.grownBy w' (some g) ∧ Sprung w (.slice (some ⟨g, 0, none⟩) n n) v' := by
  obtain ⟨i0, hi0, hz0, hs0, hb0⟩ := info_parts info89
  have hgl : g < w.heap.size := (Array.getElem?_eq_some_iff.1 hg).1
  have hvl : vb < w.heap.size := (Array.getElem?_eq_some_iff.1 hv).1
  obtain ⟨G, hG⟩ : ∃ G, G = grownCap w (n + 1) n 89 := ⟨_, rfl⟩
  have hGn : n + 1 ≤ G := by rw [hG]; exact grownCap_ge w _ _ _
  have hGm : G ≤ maxLen := by rw [hG]; exact grownCap_le_maxLen w (n + 1) n 89 (by unfold maxLen; omega)
  have hG63 : G ≤ 9223372036854775807 := by unfold maxLen at hGm; omega
  obtain ⟨Z, hZ⟩ : ∃ Z : List Value, Z = (Builtin.zeroCells (Value.agg #[.int .i64 0, .int .i64 0, .int .i64 0, .int .i64 0, .int .i64 0, .int .i64 0, .int .i64 0, .string ⟨#[]⟩, .bool false, .bool false, .bool false, .int .i64 0, .int .i64 0, .string ⟨#[]⟩, .bool false]).cells (n + 1 - i) ++ Builtin.zeroCells (Value.agg #[.int .i64 0, .int .i64 0, .int .i64 0, .int .i64 0, .int .i64 0, .int .i64 0, .int .i64 0, .string ⟨#[]⟩, .bool false, .bool false, .bool false, .int .i64 0, .int .i64 0, .string ⟨#[]⟩, .bool false]).cells (G - (n + 1))).toList := ⟨_, rfl⟩
  have hZl : Z.length = (G - i) * 15 := by
    rw [hZ, Array.length_toList, Array.size_append, size_zeroCells, size_zeroCells]
    show (n + 1 - i) * 15 + (G - (n + 1)) * 15 = _
    omega
  have hkk : (n : Int) + 1 - (i : Int) = ((n + 1 - i : Nat) : Int) := by omega
  have hik : i + (n + 1 - i) = n + 1 := by omega
  have hold : (Builtin.firstCells i0.size i (.slice (some ⟨g, 0, none⟩) i n)).run Try.prog w.drew = .ok A.toArray w.drew := by
    rw [hs0]
    exact run_firstCells_some w.drew 15 i ⟨g, 0, none⟩ i n A hA (fun j u hj => by
      rw [Addr.add_lit, Nat.zero_add, cell_of_row w.drew _ _ _ _ _ hg]
      simp only [List.getElem?_toArray]
      rw [List.getElem?_append_left (List.getElem?_eq_some_iff.1 hj).1]
      exact hj)
  have hrz : ∀ ty, (Builtin.append_ #[75, 3] ty #[.slice (some ⟨g, 0, none⟩) i n, .int .i64 ((n : Int) + 1 - (i : Int))]).run Try.prog w =
      .ok (.slice (some ⟨w.heap.size, 0, none⟩) (n + 1) G) (w.drew.alloc (.cells (A ++ Z).toArray 89)) := fun ty => by
    have h := Lib.run_append_grow_zeros w 75 3 ty 89 i0 _ .i64 .i64 Try.u75 (by kernel_rfl) hi0 hz0 (some ⟨g, 0, none⟩) i n A.toArray.toList (by simpa using hold) (n + 1 - i) (by omega) (by omega) (by omega) (by omega) (by rw [hb0]; omega) (by rw [hb0, hik]; exact growslice_fits (by omega) (by omega))
    rw [hik, ← hG] at h
    rw [hkk, h, hZ]
    congr 3
    simp [Array.append_assoc]
  obtain ⟨N, hN⟩ : ∃ z, z = w.heap.size := ⟨_, rfl⟩
  rw [← hN] at hrz
  obtain ⟨W1, hW1⟩ : ∃ z, z = w.drew.alloc (.cells (A ++ Z).toArray 89) := ⟨_, rfl⟩
  rw [← hW1] at hrz
  have hr1 : W1.heap[N]? = some (.cells (A ++ Z).toArray 89 (0, 0)) := by rw [hW1, hN]; exact heap_alloc_new w.drew _
  have hg1 : W1.heap[g]? = some (.cells (A ++ D).toArray 89 (0, 0)) := by rw [hW1]; exact (Below.heap_alloc w.drew _ g (by simpa using hgl)).trans hg
  have hv1 : W1.heap[vb]? = some (.cells st.toArray 89 (0, 0)) := by rw [hW1]; exact (Below.heap_alloc w.drew _ vb (by simpa using hvl)).trans hv
  have G1 : w.grownBy W1 (some g) := by rw [hW1]; exact ⟨rfl, rfl, rfl, by simp, fun k hk _ => Below.heap_alloc w.drew _ k (by simpa using hk)⟩
  obtain ⟨c1, hc1⟩ : ∃ z, z = (A ++ Z).take A.length ++ st ++ (A ++ Z).drop (A.length + 15) := ⟨_, rfl⟩
  have hl1 : c1.length = (A ++ Z).length := by rw [hc1]; simp only [List.length_append, List.length_take, List.length_drop]; omega
  have hcpA : ∀ ty dc, (Builtin.copy_ #[75, 75] ty #[.slice (some ⟨N, i * 15, none⟩) (n + 1 - i) dc, .slice (some ⟨vb, 0, none⟩) 1 1]).run Try.prog W1 = .ok (goInt (1 : Nat)) (W1.setRow N c1.toArray) := fun ty dc => by
    have := run_copy_rowK (P := Try.prog) W1 75 75 ty 89 15 N (i * 15) (n + 1 - i) dc ⟨vb, 0, none⟩ 1 1 _ 89 st Try.u75 size89 hr1 (by rw [hst]; simp only [Nat.min_def]; split <;> omega)
      (fun j u hj => by
        rw [Addr.add_lit, Nat.zero_add, cell_of_row W1 _ _ _ _ _ hv1]
        simpa using hj) (by simp only [List.size_toArray, List.length_append]; omega) h2
    rw [show Nat.min 1 (n + 1 - i) = 1 by simp only [Nat.min_def]; split <;> omega] at this
    rw [this, hc1]
    simp only [List.toList_toArray, hst, hA]
  obtain ⟨W2, hW2⟩ : ∃ z, z = W1.setRow N c1.toArray := ⟨_, rfl⟩
  rw [← hW2] at hcpA
  have hNg : g ≠ N := by omega
  have hr2 : W2.heap[N]? = some (.cells c1.toArray 89 (0, 0)) := by rw [hW2]; exact setRow_heap W1 N _ _ 89 _ hr1
  have hg2 : W2.heap[g]? = some (.cells (A ++ D).toArray 89 (0, 0)) := by rw [hW2]; exact (setRow_other W1 N g _ hNg).trans hg1
  have G2 : w.grownBy W2 (some g) := by rw [hW2]; exact ⟨G1.os, G1.tape, G1.output, by simp [World.setRow, G1.size], fun k h1 hk => (setRow_other W1 N k _ (by omega)).trans (G1.block k h1 hk)⟩
  obtain ⟨c2, hc2⟩ : ∃ z, z = A ++ st ++ D ++ c1.drop (A.length + 15 + D.length) := ⟨_, rfl⟩
  have hcpB : ∀ ty dc sc, (Builtin.copy_ #[75, 75] ty #[.slice (some ⟨N, (i + 1) * 15, none⟩) (n - i) dc, .slice (some ⟨g, i * 15, none⟩) (n - i) sc]).run Try.prog W2.drew = .ok (goInt (n - i : Nat)) (W2.drew.setRow N c2.toArray) := fun ty dc sc => by
    have := run_copy_rowK (P := Try.prog) W2.drew 75 75 ty 89 15 N ((i + 1) * 15) (n - i) dc ⟨g, i * 15, none⟩ (n - i) sc _ 89 D Try.u75 size89 hr2 (by rw [hD]; simp [Nat.min_def])
      (fun j u hj => by
        rw [Addr.add_lit, cell_of_row W2.drew _ _ _ _ _ hg2]
        simp only [List.getElem?_toArray]
        rw [← hA, List.getElem?_append_right (by omega), Nat.add_sub_cancel_left]
        exact hj) (by simp only [List.size_toArray, hl1, List.length_append]; omega) h1
    rw [show Nat.min (n - i) (n - i) = n - i by simp [Nat.min_def]] at this
    rw [this, hc2, ← ins_rows2 A Z D st 15 hst, ← hc1]
    simp only [List.toList_toArray, show (i + 1) * 15 = A.length + 15 by omega]
  have HL := Lib.hid (show c2.length = G * 15 ∧ c2.take ((n + 1) * 15) = A ++ st ++ D from by
    have e : (A ++ st ++ D).length = (n + 1) * 15 := by simp only [List.length_append]; omega
    constructor
    · rw [hc2]; simp only [List.length_append, List.length_drop, hl1]; omega
    · rw [hc2, ← e, List.take_left])
  obtain ⟨R, hR⟩ : ∃ z, A ++ st ++ D = z := ⟨_, rfl⟩
  rw [hR] at HL ⊢
  have HRL := Lib.hid (show R.length = (n + 1) * 15 from by rw [← hR]; simp only [List.length_append]; omega)
  have HR2 := Lib.hid hr2
  have HG2 := Lib.hid G2
  have HN := Lib.hid hN
  have e1 : (((i : Int) + 1).toNat) = i + 1 := by omega
  have e3 : ¬ (n = i) := by omega
  have e6 : ¬ (G = i) := by omega
  have e7 : ¬ (G = i + 1) := by omega
  have hw1 : IntKind.i64.wrap ((i : Int) + 1) = (i : Int) + 1 := by rw [IntKind.wrap_i64]; omega
  have hb1 : (0 : Int) ≤ (i : Int) + 1 := by omega
  have hb2 : (i : Int) ≤ (n : Int) := by omega
  have hb3 : (i : Int) ≤ (n : Int) + 1 := by omega
  have hb4 : (i : Int) + 1 ≤ (n : Int) + 1 := by omega
  have hb5 : i ≤ n := by omega
  have hb6 : i ≤ n + 1 := by omega
  have e5 : n + 1 - (i + 1) = n - i := by omega
  have hz2 : ¬ ((i : Int) = (n : Int)) := by omega
  have hz3 : (n : Int) < (n : Int) + 1 := by omega
  clear hR hA hD h1 h2 hst hg hv hg1 hv1 hr1 hg2 hr2 G1 G2 hc1 hc2 hl1 hW1 hW2 hZ hZl hG hkk hik hold hi0 hz0 hs0 hb0 hN hgl hvl hNg hGm
  go_enter Try.func46, Try.ntmps46
  go_wp2_with (first
    | (at_builtin; refine Lib.wpList_append_run _ rfl (.tmp 34) (.tmp 39) 75 3 rfl _ _ rfl rfl _ _ (hrz _) ?_)
    | (at_builtin; refine wpList_copyK rfl (.tmp 43) (.tmp 44) 75 75 rfl _ _ rfl rfl (hcpA _ _) ?_))
  refine wp_region_held_drew (S := fun w' => w' = W2.drew ∨ w' = W2.drew.setRow N c2.toArray) (by kernel_rfl) (.inl rfl) (fun hHeld => ?_)
  clear hHeld
  refine take_at (i := 0) 46 ?_ rfl rfl (by kernel_rfl) (by kernel_rfl) (by kernel_rfl) (fun _ _ _ h => h) (.inl ⟨rfl, ?_⟩) (.inl rfl) ?_
  rotate_left 1
  · intro w hSw; go_simp; try with_reducible rfl
  simp only [Act.put, List.setIfInBounds_toArray, List.set_cons_zero, List.set_cons_succ]
  refine take_at (i := 1) 47 ?_ rfl rfl (by kernel_rfl) (by kernel_rfl) (by kernel_rfl) (fun _ _ _ h => h) (.inl ⟨rfl, ?_⟩) (.inl rfl) ?_
  rotate_left 1
  · intro w hSw; go_simp; try with_reducible rfl
  simp only [Act.put, List.setIfInBounds_toArray, List.set_cons_zero, List.set_cons_succ]
  refine take_at (i := 2) 48 ?_ rfl rfl (by kernel_rfl) (by kernel_rfl) (by kernel_rfl) (fun _ _ _ h => h) (.inl ⟨rfl, ?_⟩) (.inl rfl) ?_
  rotate_left 1
  · intro w hSw; go_simp; try with_reducible rfl
  simp only [Act.put, List.setIfInBounds_toArray, List.set_cons_zero, List.set_cons_succ]
  refine take_at (i := 3) 49 ?_ rfl rfl (by kernel_rfl) (by kernel_rfl) (by kernel_rfl) (fun _ _ _ h => h) (.inl ⟨rfl, ?_⟩) (.inl rfl) ?_
  rotate_left 1
  · intro w hSw; go_simp; try with_reducible rfl
  simp only [Act.put, List.setIfInBounds_toArray, List.set_cons_zero, List.set_cons_succ]
  refine take_at (i := 4) 50 ?_ rfl rfl (by kernel_rfl) (by kernel_rfl) (by kernel_rfl) (fun _ _ _ h => h) (.inl ⟨rfl, ?_⟩) (.inl rfl) ?_
  rotate_left 1
  · intro w hSw; go_simp; try with_reducible rfl
  simp only [Act.put, List.setIfInBounds_toArray, List.set_cons_zero, List.set_cons_succ]
  refine take_at (i := 5) 51 ?_ rfl rfl (by kernel_rfl) (by kernel_rfl) (by kernel_rfl) (fun _ _ _ h => h) (.inl ⟨rfl, ?_⟩) (.inl rfl) ?_
  rotate_left 1
  · intro w hSw; go_simp; try with_reducible rfl
  simp only [Act.put, List.setIfInBounds_toArray, List.set_cons_zero, List.set_cons_succ]
  refine take_at (i := 6) 52 ?_ rfl rfl (by kernel_rfl) (by kernel_rfl) (by kernel_rfl) (fun _ _ _ h => h) (.inl ⟨rfl, ?_⟩) (.inl rfl) ?_
  rotate_left 1
  · intro w hSw; go_simp; try with_reducible rfl
  simp only [Act.put, List.setIfInBounds_toArray, List.set_cons_zero, List.set_cons_succ]
  refine take_at (i := 7) 53 ?_ rfl rfl (by kernel_rfl) (by kernel_rfl) (by kernel_rfl) (fun _ _ _ h => h) (.inl ⟨rfl, ?_⟩) (.inl rfl) ?_
  rotate_left 1
  · intro w hSw; go_simp; try with_reducible rfl
  simp only [Act.put, List.setIfInBounds_toArray, List.set_cons_zero, List.set_cons_succ]
  refine wpAnyH_ready (rs := [8]) (by kernel_rfl) (by simp) (br_copy (i := 8) 54 (.tmp 50) (.tmp 53) 75 75 rfl rfl rfl rfl _ _ _ _ rfl rfl (hcpB _ _ _) (.inr rfl) (fun _ => ?_) AllReadyH.nil)
  simp only [Act.put, List.setIfInBounds_toArray, List.set_cons_zero, List.set_cons_succ]
  refine wpAnyH_done (by kernel_rfl) ?_ _
  go_wp2
  go_returns
  refine ⟨_, rfl, ⟨HRL.out, .inr ⟨N, G, c2.toArray, rfl, by rw [HN.out]; exact hB, setRow_heap W2.drew N _ _ 89 _ HR2.out, hGn, by unfold maxLen; omega, by simp only [List.size_toArray]; exact HL.out.1, by simp only [List.toList_toArray]; exact HL.out.2⟩⟩, ?_, .inr ⟨N, rfl, by rw [HN.out]; exact Nat.le_refl _⟩⟩
  exact ⟨HG2.out.os, HG2.out.tape, HG2.out.output, by simp [World.setRow, HG2.out.size], fun k h1 hk => (setRow_other W2.drew N k _ (by have := HN.out; omega)).trans (HG2.out.block k h1 hk)⟩
theorem insert_any (w : World) (B : Nat) (v : Value) (n i : Nat) (xs st : List Value) (hown : w.ownsRow B 89 15 v n xs) (hi : i ≤ n) (hn : n < 1000000) (vb : Nat) (hv : w.heap[vb]? = some (.cells st.toArray 89 (0, 0))) (hst : st.length = 15)
    (hne : v.ownBlock ≠ some vb) (h1 : ∀ u ∈ xs, u.oneCell' = true) (h2 : ∀ u ∈ st, u.oneCell' = true) (hB : B ≤ w.heap.size) :
    Calls Try.prog 46 #[v, .int .i64 i, .slice (some ⟨vb, 0, none⟩) 1 1] w fun e w' => ∃ v', e = .returned v' ∧ w'.ownsRow B 89 15 v' (n + 1) (xs.take (i * 15) ++ st ++ xs.drop (i * 15)) ∧ w.grownBy w' v.ownBlock ∧ Sprung w v v' := by
  by_cases he : i = n
  · subst he
    have e1 : xs.take (i * 15) = xs := by rw [← hown.1]; exact List.take_length
    have e2 : xs.drop (i * 15) = [] := by rw [← hown.1]; exact List.drop_length
    rw [e1, e2, List.append_nil]
    exact insert_end w B v i xs st hown hn vb hv hst h2 hB
  · rcases hown.2 with ⟨rfl, rfl⟩ | ⟨g, cap, cur, rfl, hbg, hg, hnc, hcm, hcs, htake⟩
    · omega
    · have hxl := hown.1
      have hcur : cur = (xs.take (i * 15) ++ xs.drop (i * 15) ++ cur.toList.drop (n * 15)).toArray := by
        rw [List.take_append_drop, ← htake, List.take_append_drop, Array.toArray_toList]
      have hA : (xs.take (i * 15)).length = i * 15 := by rw [List.length_take]; omega
      have hD : (xs.drop (i * 15)).length = (n - i) * 15 := by rw [List.length_drop]; omega
      have hT : (cur.toList.drop (n * 15)).length = (cap - n) * 15 := by rw [List.length_drop, Array.length_toList, hcs]; omega
      have hne' : vb ≠ g := fun e => hne (by rw [e]; rfl)
      have h1' : ∀ u ∈ xs.drop (i * 15), u.oneCell' = true := fun u hu => h1 u (List.mem_of_mem_drop hu)
      rw [hcur] at hg
      by_cases hr : n + 1 ≤ cap
      · exact insert_room w B g cap n i _ _ _ st hbg hg hA hD hT (by omega) hr hcm vb hv hst hne' h1' h2
      · have ec : cap = n := by omega
        subst ec
        have e0 : cur.toList.drop (cap * 15) = [] := List.eq_nil_of_length_eq_zero (by rw [hT]; omega)
        rw [e0, List.append_nil] at hg
        exact insert_grow w B g cap i _ _ st hB hg hA hD (by omega) hn vb hv hst h1' h2
end Go.Proofs.Ytkmeceoilighiaa
