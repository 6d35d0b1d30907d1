/- Swap. Made by gennh.py. -/
import Derived.Test.YtdocfoienbadhaaNG
set_option linter.unusedVariables false
namespace Go.Proofs.Ytdocfoienbadhaa
open Go.RowKit

def sg (i j k : Nat) : Nat := if k = j then i else if k = i then j else k
def swapL (fl : List Fl) (i j : Nat) (fi fj : Fl) : List Fl := (fl.set i fj).set j fi
theorem sg_inj {i j a b : Nat} (h : a ≠ b) : sg i j a ≠ sg i j b := by
  unfold sg
  split <;> split <;> (try split) <;> (try split) <;> omega
theorem swap_get {fl : List Fl} {i j : Nat} {fi fj : Fl} (hi : fl[i]? = some fi) (hj : fl[j]? = some fj) (k : Nat) : (swapL fl i j fi fj)[k]? = fl[sg i j k]? := by
  have h1 := (List.getElem?_eq_some_iff.1 hi).1
  have h2 := (List.getElem?_eq_some_iff.1 hj).1
  unfold swapL sg
  rw [List.getElem?_set, List.getElem?_set, List.length_set]
  by_cases e1 : k = j
  · subst e1; rw [if_pos rfl, if_pos h2, if_pos rfl, hi]
  · rw [if_neg (fun e => e1 e.symm), if_neg e1]
    by_cases e2 : k = i
    · subst e2; rw [if_pos rfl, if_pos h1, if_pos rfl, hj]
    · rw [if_neg (fun e => e2 e.symm), if_neg e2]
theorem swap_mem {fl : List Fl} {i j : Nat} {fi fj : Fl} (hi : fl[i]? = some fi) (hj : fl[j]? = some fj) : ∀ x ∈ swapL fl i j fi fj, x ∈ fl := fun x hx => by
  obtain ⟨k, hk⟩ := List.mem_iff_getElem?.1 hx
  rw [swap_get hi hj] at hk
  exact List.mem_iff_getElem?.2 ⟨_, hk⟩
theorem swap_len (fl : List Fl) (i j : Nat) (fi fj : Fl) : (swapL fl i j fi fj).length = fl.length := by unfold swapL; rw [List.length_set, List.length_set]
theorem load39_at (W : World) (g o : Nat) (d : Int) (a : Option Addr) (n c : Nat) (hu : Bool) (c0 : W.cell? ⟨g, o, none⟩ = some (.int .i64 d)) (c1 : W.cell? ⟨g, o + 1, none⟩ = some (.slice a n c)) (c2 : W.cell? ⟨g, o + 2, none⟩ = some (.bool hu)) :
    (Instr.loadAt 39 (.pointer (some ⟨g, o, none⟩))).run Try.prog W = .ok (.agg #[.int .i64 d, .slice a n c, .bool hu]) W := by
  go_simp
def put3 (W : World) (g o : Nat) (f : Fl) : World := ((W.setCell ⟨g, o, none⟩ (.int .i64 f.dst)).setCell ⟨g, o + 1, none⟩ f.bv).setCell ⟨g, o + 2, none⟩ (.bool f.hurt)
theorem row_put {W : World} {B g cap : Nat} {fl : List Fl} (h : W.ownsRow B 39 3 (.slice (some ⟨g, 0, none⟩) fl.length cap) fl.length (flat fl)) (i : Nat) (f : Fl) (hi : i < fl.length) :
    (put3 W g (i * 3) f).ownsRow B 39 3 (.slice (some ⟨g, 0, none⟩) fl.length cap) fl.length (flat (fl.set i f)) := by
  have h1 := h.stored (i * 3) (.int .i64 f.dst)
  have h2 := h1.1.stored (i * 3 + 1) f.bv
  have h3 := h2.1.stored (i * 3 + 2) (.bool f.hurt)
  rw [flat_set fl i f hi] at h3
  exact h3.1
theorem store39_at (W : World) (g o : Nat) (d : Int) (a : Option Addr) (n c : Nat) (hu : Bool) (u0 u1 u2 : Value) (c0 : W.cell? ⟨g, o, none⟩ = some u0) (c1 : W.cell? ⟨g, o + 1, none⟩ = some u1) (c2 : W.cell? ⟨g, o + 2, none⟩ = some u2)
    (f0 : W.frozen? ⟨g, o, none⟩ = false) (f1 : W.frozen? ⟨g, o + 1, none⟩ = false) (f2 : W.frozen? ⟨g, o + 2, none⟩ = false) (f : Fl) (hd : f.dst = d) (hb : f.bv = .slice a n c) (hh : f.hurt = hu) :
    (Instr.storeAt 39 (.pointer (some ⟨g, o, none⟩)) (.agg #[.int .i64 d, .slice a n c, .bool hu])).run Try.prog W = .ok () (put3 W g o f) := by
  unfold put3
  rw [hd, hb, hh]
  go_simp
theorem store39_row {W : World} {B g cap : Nat} {fl : List Fl} (h : W.ownsRow B 39 3 (.slice (some ⟨g, 0, none⟩) fl.length cap) fl.length (flat fl)) (i : Nat) (f : Fl) (hi : i < fl.length) (a : Option Addr) (n c : Nat) (hb : f.bv = .slice a n c) :
    (Instr.storeAt 39 (.pointer (some ⟨g, i * 3, none⟩)) (.agg #[.int .i64 f.dst, .slice a n c, .bool f.hurt])).run Try.prog W = .ok () (put3 W g (i * 3) f) := by
  obtain ⟨y, hy⟩ : ∃ y, fl[i]? = some y := ⟨_, List.getElem?_eq_getElem hi⟩
  obtain ⟨g', cap', e, _, _, c0, c1, c2⟩ := row_at h hy
  injection e with e e1 e2
  injection e with e
  injection e with e
  subst e
  exact store39_at W g (i * 3) f.dst a n c f.hurt _ _ _ c0 c1 c2 (h.frozenAt _) (h.frozenAt _) (h.frozenAt _) f rfl hb rfl
theorem index24 (W : World) (g n cap i : Nat) (hi : i < n) (hn : n ≤ 256) : (Instr.indexAt 24 (.slice (some ⟨g, 0, none⟩) n cap) (.int .i64 (i : Int))).run Try.prog W = .ok (.pointer (some ⟨g, i * 3, none⟩)) W := by
  have h1 : (0 : Int) ≤ (i : Int) := by omega
  have h2 : (i : Int) < (n : Int) := by omega
  have hu := ut24
  go_simp
theorem put3_other {W : World} {g o k : Nat} {f : Fl} (h : k ≠ g) : (put3 W g o f).heap[k]? = W.heap[k]? :=
  (Below.heap_setCell (a := ⟨g, o + 2, none⟩) _ _ _ h).trans ((Below.heap_setCell (a := ⟨g, o + 1, none⟩) _ _ _ h).trans (Below.heap_setCell (a := ⟨g, o, none⟩) _ _ _ h))
theorem net_swap {B : Nat} {W : World} {p g cap : Nat} {fv : Value} {fl : List Fl} {lost : Int} (h : NetAt B W p fv fl lost) {i j : Nat} {fi fj : Fl} (hi : fl[i]? = some fi) (hj : fl[j]? = some fj) (hv : fv = .slice (some ⟨g, 0, none⟩) fl.length cap) :
    NetAt B (put3 (put3 W g (i * 3) fj) g (j * 3) fi) p fv (swapL fl i j fi fj) lost := by
  have h1 := (List.getElem?_eq_some_iff.1 hi).1
  have h2 := (List.getElem?_eq_some_iff.1 hj).1
  have hgp : p ≠ g := fun e => h.ap1 (by rw [hv, e]; rfl)
  have hrow := h.row
  rw [hv] at hrow
  have k1 := row_put hrow i fj h1
  have k2 := row_put (fl := fl.set i fj) (by rw [List.length_set]; exact k1) j fi (by rw [List.length_set]; exact h2)
  rw [List.length_set] at k2
  refine ⟨(put3_other hgp).trans ((put3_other hgp).trans h.row0), ?_, fun f hf => ?_, h.pB, h.ap1, fun f hf => h.ap2 f (swap_mem hi hj f hf), ?_, by rw [swap_len]; exact h.len, h.lo⟩
  · rw [swap_len, hv]; exact k2
  · have hm := swap_mem hi hj f hf
    refine ⟨own_block (h.byt f hm).1 fun k hk => ?_, (h.byt f hm).2⟩
    have hne : k ≠ g := fun e => by
      rcases (h.ap2 f hm).2 with h3 | h3
      · rw [hk] at h3; cases h3
      · exact h3 (by rw [hk, hv, e]; rfl)
    exact (put3_other hne).trans (put3_other hne)
  · refine pair_idx.2 fun a b x y hab hx hy => ?_
    rw [swap_get hi hj] at hx hy
    exact apt_any h.ap3 (sg_inj (by omega)) hx hy
theorem below_put3 {B : Nat} {w W : World} (h : Below B w W) (g o : Nat) (f : Fl) (hg : B ≤ g) : Below B w (put3 W g o f) :=
  ((h.setCell (p := ⟨g, o, none⟩) hg _).setCell (p := ⟨g, o + 1, none⟩) hg _).setCell (p := ⟨g, o + 2, none⟩) hg _
set_option maxRecDepth 100000 in
set_option maxHeartbeats 3200000 in
theorem swap_k {w0 : World} (w : World) (p : Nat) (fv : Value) (fl : List Fl) (lost : Int) (h : NetAt w0.heap.size w p fv fl lost) (h0 : Below w0.heap.size w0 w) (i j : Nat) (fi fj : Fl) (hi : fl[i]? = some fi) (hj : fl[j]? = some fj) :
    Calls Try.prog 16 #[.pointer (some ⟨p, 0, none⟩), .int .i64 (i : Int), .int .i64 (j : Int)] w fun e w' => e = .returned (.int .i64 0) ∧ NetAt w0.heap.size w' p fv (swapL fl i j fi fj) lost ∧ Below w0.heap.size w0 w' ∧ Kp w w' p fv fl fv (swapL fl i j fi fj) := by
  have li := (List.getElem?_eq_some_iff.1 hi).1
  have lj := (List.getElem?_eq_some_iff.1 hj).1
  have FI := Lib.hid (find_any w p fv fl lost h (i : Int))
  have FJ := Lib.hid (find_any w p fv fl lost h (j : Int))
  rw [find_in li] at FI
  rw [find_in lj] at FJ
  have HD := Lib.hid (h.step (below_drewN w 1))
  have BD := Lib.hid (show Below w0.heap.size w0 w.drew from h0.drew)
  obtain ⟨g, cap, hfv, hgB, _, a0, a1, a2⟩ := row_at HD.out.row hi
  obtain ⟨g', cap', hfv', _, _, b0, b1, b2⟩ := row_at HD.out.row hj
  have e : g' = g := by rw [hfv] at hfv'; injection hfv' with e; injection e with e; injection e with e; exact e.symm
  subst e
  clear hfv'
  obtain ⟨ai, ni, ci, hbi⟩ : ∃ a n c, fi.bv = .slice a n c := ⟨_, _, _, (own_shape (h.byt fi (List.mem_iff_getElem?.2 ⟨i, hi⟩)).1).choose_spec.choose_spec⟩
  obtain ⟨aj, nj, cj, hbj⟩ : ∃ a n c, fj.bv = .slice a n c := ⟨_, _, _, (own_shape (h.byt fj (List.mem_iff_getElem?.2 ⟨j, hj⟩)).1).choose_spec.choose_spec⟩
  have hrow := HD.out.row
  rw [hfv] at hrow
  have LI := Lib.hid (load39_at (w.drewN 1) g' (i * 3) fi.dst ai ni ci fi.hurt a0 (by rw [← hbi]; exact a1) a2)
  have LJ := Lib.hid (load39_at (w.drewN 1) g' (j * 3) fj.dst aj nj cj fj.hurt b0 (by rw [← hbj]; exact b1) b2)
  have S1 := Lib.hid (store39_row hrow i fj li aj nj cj hbj)
  have S2 := Lib.hid (store39_row (fl := fl.set i fj) (W := put3 (w.drewN 1) g' (i * 3) fj) (by rw [List.length_set]; exact row_put hrow i fj li) j fi (by rw [List.length_set]; exact lj) ai ni ci hbi)
  have hgp : p ≠ g' := fun e => h.ap1 (by rw [hfv, e]; rfl)
  have NS := Lib.hid (net_swap HD.out hi hj hfv)
  have BB := Lib.hid (below_put3 (below_put3 BD.out g' (i * 3) fj hgB) g' (j * 3) fi hgB)
  have KK := Lib.hid (show Kp w (put3 (put3 (w.drewN 1) g' (i * 3) fj) g' (j * 3) fi) p fv fl fv (swapL fl i j fi fj) from by
    have o1 : NOwn p fv fl g' := .inr (.inl (by rw [hfv]; rfl))
    have q : Kp w (put3 (put3 (w.drewN 1) g' (i * 3) fj) g' (j * 3) fi) p fv fl fv fl := by
      unfold put3
      exact ((((((Kp.of_below (below_drewN w 1)).setOwn o1).setOwn o1).setOwn o1).setOwn o1).setOwn o1).setOwn o1
    refine q.newOwn fun k hk => .inl ?_
    rcases hk with h1 | h1 | ⟨y, hy, h1⟩
    · exact .inl h1
    · exact .inr (.inl h1)
    · exact .inr (.inr ⟨y, swap_mem hi hj y hy, h1⟩))
  have IX := Lib.hid (fun (W : World) (k : Nat) (hk : k < fl.length) => index24 W g' fl.length cap k hk h.len)
  have LI' := Lib.hid li
  have LJ' := Lib.hid lj
  have P1 := Lib.hid (show (put3 (w.drewN 1) g' (i * 3) fj).heap[p]? = some (.cells #[fv, .int .i64 lost] 26 (0, 0)) from (put3_other hgp).trans HD.out.row0)
  have P2 := Lib.hid (show (put3 (put3 (w.drewN 1) g' (i * 3) fj) g' (j * 3) fi).heap[p]? = some (.cells #[fv, .int .i64 lost] 26 (0, 0)) from (put3_other hgp).trans P1.out)
  have P0 := Lib.hid HD.out.row0
  have LP := Lib.hid (fun (U : World) (hu : U.heap[p]? = some (.cells #[fv, .int .i64 lost] 26 (0, 0))) => load24 U ⟨p, 0, none⟩ (.slice (some ⟨g', 0, none⟩) fl.length cap) (show U.cell? ⟨p, 0, none⟩ = _ by rw [cell_of_row _ _ _ _ _ _ hu, ← hfv]; rfl))
  clear h h0 hi hj li lj a0 a1 a2 b0 b1 b2 hbi hbj hrow hgp
  go_enter Try.func16, Try.ntmps16
  go_wp2_with fail
  refine FI.out.mono ?_
  rintro e w1 ⟨rfl, rfl⟩
  go_wp2_with fail
  refine FJ.out.mono ?_
  rintro e w2 ⟨rfl, rfl⟩
  go_upto_region 7 with (fail)
  go_cut [] from 6 (fun wx => NetAt w0.heap.size wx p fv (swapL fl i j fi fj) lost ∧ Below w0.heap.size w0 wx ∧ Kp w wx p fv fl fv (swapL fl i j fi fj))
  case first =>
    refine wp_region_held_drew (S := fun w' => w'.heap[p]? = some (.cells #[fv, .int .i64 lost] 26 (0, 0))) (by kernel_rfl) P0.out (fun hHeld => ?_)
    refine take_at (i := 0) 21 ?_ rfl rfl (by kernel_rfl) (by kernel_rfl) (by kernel_rfl) (fun _ _ _ h => h) (.inl ⟨rfl, ?_⟩) hHeld ?_
    rotate_left 1
    · intro w hSw; go_simp; try with_reducible rfl
    simp only [Act.put, List.setIfInBounds_toArray, List.set_cons_zero, List.set_cons_succ]
    refine take_at (i := 1) 22 ?_ rfl rfl (by kernel_rfl) (by kernel_rfl) (by kernel_rfl) (fun _ _ _ h => h) (.inl ⟨rfl, ?_⟩) hHeld ?_
    rotate_left 1
    · intro w hSw; go_simp; try with_reducible rfl
    simp only [Act.put, List.setIfInBounds_toArray, List.set_cons_zero, List.set_cons_succ]
    refine take_at (i := 2) 23 ?_ rfl rfl (by kernel_rfl) (by kernel_rfl) (by kernel_rfl) (fun _ _ _ h => h) (.inl ⟨rfl, ?_⟩) hHeld ?_
    rotate_left 1
    · intro w hSw; go_simp; try with_reducible rfl
    simp only [Act.put, List.setIfInBounds_toArray, List.set_cons_zero, List.set_cons_succ]
    refine take_at (i := 3) 24 (.slice (some ⟨g', 0, none⟩) fl.length cap) rfl rfl (by kernel_rfl) (by kernel_rfl) (by kernel_rfl) (fun _ _ _ h => h) (yields_ld (.tmp 23) 24 (.pointer (some ⟨p, 0, none⟩)) _ LP.out rfl rfl rfl) hHeld ?_
    simp only [Act.put, List.setIfInBounds_toArray, List.set_cons_zero, List.set_cons_succ]
    refine take_at (i := 4) 25 ?_ rfl rfl (by kernel_rfl) (by kernel_rfl) (by kernel_rfl) (fun _ _ _ h => h) (.inl ⟨rfl, ?_⟩) hHeld ?_
    rotate_left 1
    · intro w hSw; go_simp; try with_reducible rfl
    simp only [Act.put, List.setIfInBounds_toArray, List.set_cons_zero, List.set_cons_succ]
    refine take_at (i := 5) 26 ?_ rfl rfl (by kernel_rfl) (by kernel_rfl) (by kernel_rfl) (fun _ _ _ h => h) (.inl ⟨rfl, ?_⟩) hHeld ?_
    rotate_left 1
    · intro w hSw; go_simp; try with_reducible rfl
    simp only [Act.put, List.setIfInBounds_toArray, List.set_cons_zero, List.set_cons_succ]
    refine take_at (i := 6) 27 ?_ rfl rfl (by kernel_rfl) (by kernel_rfl) (by kernel_rfl) (fun _ _ _ h => h) (.inl ⟨rfl, ?_⟩) hHeld ?_
    rotate_left 1
    · intro w hSw; go_simp; try with_reducible rfl
    simp only [Act.put, List.setIfInBounds_toArray, List.set_cons_zero, List.set_cons_succ]
    refine take_at (i := 7) 28 ?_ rfl rfl (by kernel_rfl) (by kernel_rfl) (by kernel_rfl) (fun _ _ _ h => h) (.inl ⟨rfl, ?_⟩) hHeld ?_
    rotate_left 1
    · intro w hSw; go_simp; try with_reducible rfl
    simp only [Act.put, List.setIfInBounds_toArray, List.set_cons_zero, List.set_cons_succ]
    refine take_at (i := 8) 29 (.slice (some ⟨g', 0, none⟩) fl.length cap) rfl rfl (by kernel_rfl) (by kernel_rfl) (by kernel_rfl) (fun _ _ _ h => h) (yields_ld (.tmp 28) 24 (.pointer (some ⟨p, 0, none⟩)) _ LP.out rfl rfl rfl) hHeld ?_
    simp only [Act.put, List.setIfInBounds_toArray, List.set_cons_zero, List.set_cons_succ]
    refine take_at (i := 9) 30 ?_ rfl rfl (by kernel_rfl) (by kernel_rfl) (by kernel_rfl) (fun _ _ _ h => h) (.inl ⟨rfl, ?_⟩) hHeld ?_
    rotate_left 1
    · intro w hSw; go_simp; try with_reducible rfl
    simp only [Act.put, List.setIfInBounds_toArray, List.set_cons_zero, List.set_cons_succ]
    refine take_at (i := 10) 31 ?_ rfl rfl (by kernel_rfl) (by kernel_rfl) (by kernel_rfl) (fun _ _ _ h => h) (.inl ⟨rfl, ?_⟩) hHeld ?_
    rotate_left 1
    · intro w hSw; go_simp; try with_reducible rfl
    simp only [Act.put, List.setIfInBounds_toArray, List.set_cons_zero, List.set_cons_succ]
    refine take_at (i := 11) 32 ?_ rfl rfl (by kernel_rfl) (by kernel_rfl) (by kernel_rfl) (fun _ _ _ h => h) (.inl ⟨rfl, ?_⟩) hHeld ?_
    rotate_left 1
    · intro w hSw; go_simp; try with_reducible rfl
    simp only [Act.put, List.setIfInBounds_toArray, List.set_cons_zero, List.set_cons_succ]
    refine take_at (i := 12) 33 ?_ rfl rfl (by kernel_rfl) (by kernel_rfl) (by kernel_rfl) (fun _ _ _ h => h) (.inl ⟨rfl, ?_⟩) hHeld ?_
    rotate_left 1
    · intro w hSw; go_simp; try with_reducible rfl
    simp only [Act.put, List.setIfInBounds_toArray, List.set_cons_zero, List.set_cons_succ]
    refine take_at (i := 13) 34 (.slice (some ⟨g', 0, none⟩) fl.length cap) rfl rfl (by kernel_rfl) (by kernel_rfl) (by kernel_rfl) (fun _ _ _ h => h) (yields_ld (.tmp 33) 24 (.pointer (some ⟨p, 0, none⟩)) _ LP.out rfl rfl rfl) hHeld ?_
    simp only [Act.put, List.setIfInBounds_toArray, List.set_cons_zero, List.set_cons_succ]
    refine take_at (i := 14) 35 ?_ rfl rfl (by kernel_rfl) (by kernel_rfl) (by kernel_rfl) (fun _ _ _ h => h) (.inl ⟨rfl, ?_⟩) hHeld ?_
    rotate_left 1
    · intro w hSw; go_simp; try with_reducible rfl
    simp only [Act.put, List.setIfInBounds_toArray, List.set_cons_zero, List.set_cons_succ]
    refine take_at (i := 15) 36 (.pointer (some ⟨g', j * 3, none⟩)) rfl rfl (by kernel_rfl) (by kernel_rfl) (by kernel_rfl) (fun _ _ _ h => h) (yields_ix (.tmp 34) (.tmp 35) 24 (.slice (some ⟨g', 0, none⟩) fl.length cap) (.int .i64 (j : Int)) _ (fun W => IX.out W j LJ'.out) rfl rfl rfl rfl) hHeld ?_
    simp only [Act.put, List.setIfInBounds_toArray, List.set_cons_zero, List.set_cons_succ]
    refine take_at (i := 17) 38 ?_ rfl rfl (by kernel_rfl) (by kernel_rfl) (by kernel_rfl) (fun _ _ _ h => h) (.inl ⟨rfl, ?_⟩) hHeld ?_
    rotate_left 1
    · intro w hSw; go_simp; try with_reducible rfl
    simp only [Act.put, List.setIfInBounds_toArray, List.set_cons_zero, List.set_cons_succ]
    refine take_at (i := 18) 39 ?_ rfl rfl (by kernel_rfl) (by kernel_rfl) (by kernel_rfl) (fun _ _ _ h => h) (.inl ⟨rfl, ?_⟩) hHeld ?_
    rotate_left 1
    · intro w hSw; go_simp; try with_reducible rfl
    simp only [Act.put, List.setIfInBounds_toArray, List.set_cons_zero, List.set_cons_succ]
    refine take_at (i := 19) 40 ?_ rfl rfl (by kernel_rfl) (by kernel_rfl) (by kernel_rfl) (fun _ _ _ h => h) (.inl ⟨rfl, ?_⟩) hHeld ?_
    rotate_left 1
    · intro w hSw; go_simp; try with_reducible rfl
    simp only [Act.put, List.setIfInBounds_toArray, List.set_cons_zero, List.set_cons_succ]
    refine take_at (i := 20) 41 (.slice (some ⟨g', 0, none⟩) fl.length cap) rfl rfl (by kernel_rfl) (by kernel_rfl) (by kernel_rfl) (fun _ _ _ h => h) (yields_ld (.tmp 40) 24 (.pointer (some ⟨p, 0, none⟩)) _ LP.out rfl rfl rfl) hHeld ?_
    simp only [Act.put, List.setIfInBounds_toArray, List.set_cons_zero, List.set_cons_succ]
    refine take_at (i := 21) 42 ?_ rfl rfl (by kernel_rfl) (by kernel_rfl) (by kernel_rfl) (fun _ _ _ h => h) (.inl ⟨rfl, ?_⟩) hHeld ?_
    rotate_left 1
    · intro w hSw; go_simp; try with_reducible rfl
    simp only [Act.put, List.setIfInBounds_toArray, List.set_cons_zero, List.set_cons_succ]
    refine take_at (i := 22) 43 (.pointer (some ⟨g', i * 3, none⟩)) rfl rfl (by kernel_rfl) (by kernel_rfl) (by kernel_rfl) (fun _ _ _ h => h) (yields_ix (.tmp 41) (.tmp 42) 24 (.slice (some ⟨g', 0, none⟩) fl.length cap) (.int .i64 (i : Int)) _ (fun W => IX.out W i LI'.out) rfl rfl rfl rfl) hHeld ?_
    simp only [Act.put, List.setIfInBounds_toArray, List.set_cons_zero, List.set_cons_succ]
    refine wpAnyH_ready (rs := [16, 23]) (by kernel_rfl) (by simp) (br_load2 (i := 16) 37 39 (.tmp 36) (.pointer (some ⟨g', j * 3, none⟩)) (.agg #[.int .i64 fj.dst, .slice aj nj cj, .bool fj.hurt]) rfl rfl rfl rfl rfl LJ.out hHeld (fun hH => ?_) (br_load2 (i := 23) 44 39 (.tmp 43) (.pointer (some ⟨g', i * 3, none⟩)) (.agg #[.int .i64 fi.dst, .slice ai ni ci, .bool fi.hurt]) rfl rfl rfl rfl rfl LI.out hHeld (fun hH => ?_) AllReadyH.nil))
    · simp only [Act.put, List.setIfInBounds_toArray, List.set_cons_zero, List.set_cons_succ]
      refine wpAnyH_ready (rs := [23]) (by kernel_rfl) (by simp) (br_load2 (i := 23) 44 39 (.tmp 43) (.pointer (some ⟨g', i * 3, none⟩)) (.agg #[.int .i64 fi.dst, .slice ai ni ci, .bool fi.hurt]) rfl rfl rfl rfl rfl LI.out hHeld (fun hH => ?_) AllReadyH.nil)
      simp only [Act.put, List.setIfInBounds_toArray, List.set_cons_zero, List.set_cons_succ]
      refine take_at (i := 24) 45 (.pointer (some ⟨g', i * 3, none⟩)) rfl rfl (by kernel_rfl) (by kernel_rfl) (by kernel_rfl) (fun _ _ _ h => h) (yields_ix (.tmp 24) (.tmp 25) 24 (.slice (some ⟨g', 0, none⟩) fl.length cap) (.int .i64 (i : Int)) _ (fun W => IX.out W i LI'.out) rfl rfl rfl rfl) hHeld ?_
      simp only [Act.put, List.setIfInBounds_toArray, List.set_cons_zero, List.set_cons_succ]
      refine wpAnyH_ready (rs := [25]) (by kernel_rfl) (by simp) (br_store 39 (.tmp 45) (.tmp 37) (.pointer (some ⟨g', i * 3, none⟩)) (.agg #[.int .i64 fj.dst, .slice aj nj cj, .bool fj.hurt]) _ rfl rfl rfl rfl rfl rfl S1.out P1.out (fun _ => ?_) AllReadyH.nil)
      simp only [Act.put]
      have hHeld := P1.out
      refine take_at (i := 26) 46 (.pointer (some ⟨g', j * 3, none⟩)) rfl rfl (by kernel_rfl) (by kernel_rfl) (by kernel_rfl) (fun _ _ _ h => h) (yields_ix (.tmp 29) (.tmp 30) 24 (.slice (some ⟨g', 0, none⟩) fl.length cap) (.int .i64 (j : Int)) _ (fun W => IX.out W j LJ'.out) rfl rfl rfl rfl) hHeld ?_
      simp only [Act.put, List.setIfInBounds_toArray, List.set_cons_zero, List.set_cons_succ]
      refine wpAnyH_ready (rs := [27]) (by kernel_rfl) (by simp) (br_store 39 (.tmp 46) (.tmp 44) (.pointer (some ⟨g', j * 3, none⟩)) (.agg #[.int .i64 fi.dst, .slice ai ni ci, .bool fi.hurt]) _ rfl rfl rfl rfl rfl rfl S2.out P2.out (fun _ => ?_) AllReadyH.nil)
      simp only [Act.put]
      refine wpAnyH_done (by kernel_rfl) ?_ _
      go_wp2_with fail
      go_meet
      exact ⟨NS.out, BB.out, KK.out⟩
    · simp only [Act.put, List.setIfInBounds_toArray, List.set_cons_zero, List.set_cons_succ]
      refine wpAnyH_ready (rs := [16]) (by kernel_rfl) (by simp) (br_load2 (i := 16) 37 39 (.tmp 36) (.pointer (some ⟨g', j * 3, none⟩)) (.agg #[.int .i64 fj.dst, .slice aj nj cj, .bool fj.hurt]) rfl rfl rfl rfl rfl LJ.out hHeld (fun hH => ?_) AllReadyH.nil)
      simp only [Act.put, List.setIfInBounds_toArray, List.set_cons_zero, List.set_cons_succ]
      refine take_at (i := 24) 45 (.pointer (some ⟨g', i * 3, none⟩)) rfl rfl (by kernel_rfl) (by kernel_rfl) (by kernel_rfl) (fun _ _ _ h => h) (yields_ix (.tmp 24) (.tmp 25) 24 (.slice (some ⟨g', 0, none⟩) fl.length cap) (.int .i64 (i : Int)) _ (fun W => IX.out W i LI'.out) rfl rfl rfl rfl) hHeld ?_
      simp only [Act.put, List.setIfInBounds_toArray, List.set_cons_zero, List.set_cons_succ]
      refine wpAnyH_ready (rs := [25]) (by kernel_rfl) (by simp) (br_store 39 (.tmp 45) (.tmp 37) (.pointer (some ⟨g', i * 3, none⟩)) (.agg #[.int .i64 fj.dst, .slice aj nj cj, .bool fj.hurt]) _ rfl rfl rfl rfl rfl rfl S1.out P1.out (fun _ => ?_) AllReadyH.nil)
      simp only [Act.put]
      have hHeld := P1.out
      refine take_at (i := 26) 46 (.pointer (some ⟨g', j * 3, none⟩)) rfl rfl (by kernel_rfl) (by kernel_rfl) (by kernel_rfl) (fun _ _ _ h => h) (yields_ix (.tmp 29) (.tmp 30) 24 (.slice (some ⟨g', 0, none⟩) fl.length cap) (.int .i64 (j : Int)) _ (fun W => IX.out W j LJ'.out) rfl rfl rfl rfl) hHeld ?_
      simp only [Act.put, List.setIfInBounds_toArray, List.set_cons_zero, List.set_cons_succ]
      refine wpAnyH_ready (rs := [27]) (by kernel_rfl) (by simp) (br_store 39 (.tmp 46) (.tmp 44) (.pointer (some ⟨g', j * 3, none⟩)) (.agg #[.int .i64 fi.dst, .slice ai ni ci, .bool fi.hurt]) _ rfl rfl rfl rfl rfl rfl S2.out P2.out (fun _ => ?_) AllReadyH.nil)
      simp only [Act.put]
      refine wpAnyH_done (by kernel_rfl) ?_ _
      go_wp2_with fail
      go_meet
      exact ⟨NS.out, BB.out, KK.out⟩
  case rest =>
    obtain ⟨hN, hB, hK⟩ := hcut
    have HN' := Lib.hid (And.intro hN (And.intro hB hK))
    clear hN hB hK
    go_wp2
    go_returns
    exact ⟨rfl, HN'.out.1, HN'.out.2.1, HN'.out.2.2⟩
theorem swap_in {w0 : World} (w : World) (p : Nat) (fv : Value) (fl : List Fl) (lost : Int) (h : NetAt w0.heap.size w p fv fl lost) (h0 : Below w0.heap.size w0 w) (i j : Nat) (fi fj : Fl) (hi : fl[i]? = some fi) (hj : fl[j]? = some fj) :
    Calls Try.prog 16 #[.pointer (some ⟨p, 0, none⟩), .int .i64 (i : Int), .int .i64 (j : Int)] w fun e w' => e = .returned (.int .i64 0) ∧ NetAt w0.heap.size w' p fv (swapL fl i j fi fj) lost ∧ Below w0.heap.size w0 w' :=
  (swap_k w p fv fl lost h h0 i j fi fj hi hj).mono fun _ _ ⟨h1, h2, h3, _⟩ => ⟨h1, h2, h3⟩
set_option maxRecDepth 100000 in
set_option maxHeartbeats 1600000 in
theorem swap_out {B : Nat} (w : World) (p : Nat) (fv : Value) (fl : List Fl) (lost : Int) (h : NetAt B w p fv fl lost) (k m : Int) (hk : ¬ (0 ≤ k ∧ k < (fl.length : Int)) ∨ ¬ (0 ≤ m ∧ m < (fl.length : Int))) :
    Calls Try.prog 16 #[.pointer (some ⟨p, 0, none⟩), .int .i64 k, .int .i64 m] w fun e w' => e = .returned (.int .i64 8) ∧ w = w' := by
  have FI := Lib.hid (find_any w p fv fl lost h k)
  have FJ := Lib.hid (find_any w p fv fl lost h m)
  by_cases h1 : 0 ≤ k ∧ k < (fl.length : Int)
  · have h2 := hk.resolve_left (fun x => x h1)
    rw [find_out h2] at FJ
    have e : findF fl.length k = 0 := by unfold findF; rw [if_pos h1]
    rw [e] at FI
    clear h h1 h2 hk e
    go_enter Try.func16, Try.ntmps16
    go_wp2_with fail
    refine FI.out.mono ?_
    rintro e w1 ⟨rfl, rfl⟩
    go_wp2_with fail
    refine FJ.out.mono ?_
    rintro e w2 ⟨rfl, rfl⟩
    go_wp2
    go_returns
    exact ⟨rfl, rfl⟩
  · rw [find_out h1] at FI
    clear h h1 hk
    go_enter Try.func16, Try.ntmps16
    go_wp2_with fail
    refine FI.out.mono ?_
    rintro e w1 ⟨rfl, rfl⟩
    go_wp2
    go_returns
    exact ⟨rfl, rfl⟩
end Go.Proofs.Ytdocfoienbadhaa
