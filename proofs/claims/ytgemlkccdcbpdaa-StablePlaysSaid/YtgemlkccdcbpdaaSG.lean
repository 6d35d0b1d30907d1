/- Mine. -/
import Derived.Test.YtgemlkccdcbpdaaSF
set_option linter.unusedVariables false
namespace Go.Proofs.Ytgemlkccdcbpdaa
open Go.RowKit

/-- A watch, that may be written. -/
structure WAt (W : World) (p : Nat) (sf : Int) (q : Nat) (ms : List Mb) : Prop where
  rd : RdAt W p sf (some ⟨q, 0, none⟩) ms
  may : ∀ i, i < ms.length → W.there q (i * 65) 65
  ne : p ≠ q
  qlt : q < W.heap.size
theorem WAt.step {W W' : World} {p q : Nat} {sf : Int} {ms : List Mb} (h : WAt W p sf q ms) (hb : Below W.heap.size W W') : WAt W' p sf q ms :=
  ⟨h.rd.step hb, fun i hi => there_later h.qlt (h.may i hi) hb, h.ne, Nat.lt_of_lt_of_le h.qlt hb.size⟩
theorem WAt.plt {W : World} {p q : Nat} {sf : Int} {ms : List Mb} (h : WAt W p sf q ms) : p < W.heap.size := World.block_lt_of_cell? W _ h.rd.c0
theorem grown_cell {w w' : World} {q b : Nat} (h : w.grownBy w' (some q)) (hb : b < w.heap.size) (hn : b ≠ q) (o : Nat) : w'.cell? ⟨b, o, none⟩ = w.cell? ⟨b, o, none⟩ :=
  World.cell?_of_block (a := ⟨b, o, none⟩) (h.block b hb (fun e => hn (by injection e)))
theorem WAt.took {W W' : World} {p q : Nat} {sf : Int} {ms : List Mb} (h : WAt W p sf q ms) {i : Nat} (hi : i < ms.length) {m : Mb} (hm : m.1.length = 64) (hr : W'.rangeAt q (i * 65) (mc m)) (hk : Kept W W' q (i * 65)) : WAt W' p sf q (ms.set i m) := by
  have hp := h.plt
  refine ⟨⟨?_, ?_, ?_, ?_, ?_⟩, ?_, h.ne, Nat.lt_of_lt_of_le h.qlt hk.grown.size⟩
  · rw [grown_cell hk.grown hp h.ne]; exact h.rd.c0
  · rw [grown_cell hk.grown hp h.ne, List.length_set]; exact h.rd.c1
  · intro j m' hj
    rw [List.getElem?_set] at hj
    by_cases e : i = j
    · subst e
      rw [if_pos rfl, if_pos hi] at hj
      injection hj with hj
      subst hj
      exact ⟨q, rfl, Nat.lt_of_lt_of_le h.qlt hk.grown.size, hr⟩
    · rw [if_neg e] at hj
      obtain ⟨q', e', hq', hr'⟩ := h.rd.row j m' hj
      injection e' with e'
      injection e' with e' _ _
      subst e'
      have hl := mc_len m' (h.rd.m64 j m' hj)
      exact ⟨q, rfl, Nat.lt_of_lt_of_le h.qlt hk.grown.size, hk.row _ _ (by omega) hr'⟩
  · intro j m' hj
    rw [List.getElem?_set] at hj
    by_cases e : i = j
    · subst e
      rw [if_pos rfl, if_pos hi] at hj
      injection hj with hj
      subst hj
      exact hm
    · rw [if_neg e] at hj
      exact h.rd.m64 j m' hj
  · rw [List.length_set]; exact h.rd.len
  · intro j hj
    rw [List.length_set] at hj
    exact hk.may _ _ (h.may j hj)
theorem kept_from {w W W' : World} {q off : Nat} (hb : Below w.heap.size w W) (hk : Kept W W' q off) : w.grownBy W' (some q) :=
  ⟨hk.grown.os.trans hb.os, hk.grown.tape.trans hb.tape, hk.grown.output.trans hb.output, Nat.le_trans hb.size hk.grown.size, fun k hk' hne => (hk.grown.block k (Nat.lt_of_lt_of_le hk' hb.size) hne).trans (hb.block k hk')⟩
theorem below_grown {w w' : World} (h : Below w.heap.size w w') (r : Option Nat) : w.grownBy w' r := ⟨h.os, h.tape, h.output, h.size, fun k hk _ => h.block k hk⟩
/-- What a member knows behind a word of it. -/
def told (m : Mb) (l : List Int) (t : Int) : Mb := (joinF [m.1, l], max m.2 t)
theorem told_len {m : Mb} {l : List Int} (hm : m.1.length = 64) (hl : l.length = 64) (t : Int) : (told m l t).1.length = 64 := jF_len (jF_len zs_len hm) hl
def toldAt (ms : List Mb) (i : Nat) (l : List Int) (t : Int) : List Mb := ms.set i (told (ms.getD i mz) l t)

set_option maxRecDepth 100000 in
set_option maxHeartbeats 3200000 in
theorem mine_any (w : World) (p q : Nat) (i : Nat) (ms : List Mb) (h : WAt w p (i : Int) q ms) (hi : i < ms.length) (l : List Int) (hl : l.length = 64) (c : Bool) (hc : c = true ↔ RightP l) (t : Int) :
    Calls Try.prog 12 #[.pointer (some ⟨p, 0, none⟩), vw l, .int .i64 t] w fun e w' => e = .returned (.bool (rightM c t)) ∧ WAt w' p (i : Int) q (if rightM c t then toldAt ms i l t else ms) ∧ w.grownBy w' (some q) := by
  have X := Lib.hid (vstep w (.cells (va l) 34))
  have XB := Lib.hid (show VAt 34 (w.alloc (.cells (va l) 34)) w.heap.size l from heap_alloc_new w _)
  have IS := Lib.hid (fun W (h : WAt W p (i : Int) q ms) => ism_any W _ _ ms (.inr ⟨p, _, rfl, h.rd⟩) (i : Int))
  rw [show isM ms.length (i : Int) = true from decide_eq_true (by omega)] at IS
  have RM := Lib.hid (fun W => rightm_any W l hl c hc t)
  have LB := Lib.hid (fun (W : World) (g : Nat) (h : VAt 34 W g l) => load_va v34 W g l hl h)
  obtain ⟨m, hm⟩ : ∃ m, ms[i]? = some m := ⟨_, List.getElem?_eq_getElem hi⟩
  have HM := Lib.hid (h.rd.m64 i m hm)
  have HG := Lib.hid (show toldAt ms i l t = ms.set i (told m l t) by unfold toldAt; rw [List.getD_eq_getElem?_getD, hm]; rfl)
  have HTL := Lib.hid (told_len HM.out hl t)
  have TK := Lib.hid (fun W (h : WAt W p (i : Int) q ms) => take_any W q (i * 65) m HM.out h.qlt (by obtain ⟨q', e, _, hr⟩ := h.rd.row i m hm; injection e with e; injection e with e _ _; subst e; exact hr) (h.may i hi) l hl t)
  have H0 := Lib.hid (h.step X.out)
  have hg0 := Lib.hid (show w.heap.size ≠ q from Ne.symm (Nat.ne_of_lt h.qlt))
  have hlen := h.rd.len
  obtain ⟨W, hW⟩ : ∃ y, w.alloc (.cells (va l) 34) = y := ⟨_, rfl⟩
  rw [hW] at X XB H0
  have HW := Lib.hid hW
  clear hW h hc hm
  have d0 := H0.out.rd.c0
  have d1 := H0.out.rd.c1
  unfold vw at *
  cases hr : rightM c t with
  | false =>
    rw [hr] at RM
    clear hr
    go_enter Try.func12, Try.ntmps12
    go_upto_region 1 with (fail)
    rw [HW.out]
    go_wp2_with fail
    refine (IS.out _ H0.out).mono ?_
    rintro e w1 ⟨rfl, rfl⟩
    go_wp2_with (refine wpList_load_arrG rfl (.tmp 4) 34 rfl (.pointer (some ⟨w.heap.size, 0, none⟩)) _ rfl (LB.out _ _ XB.out) ?_)
    refine (RM.out _).mono ?_
    rintro e w2 ⟨rfl, hb2⟩
    have H2 := Lib.hid (H0.out.step hb2)
    have B2 := Lib.hid (X.out.trans (hb2.mono X.out.size))
    clear hb2
    go_wp2
    go_returns
    exact ⟨rfl, H2.out, below_grown B2.out _⟩
  | true =>
    rw [hr] at RM
    clear hr
    go_enter Try.func12, Try.ntmps12
    go_upto_region 1 with (fail)
    rw [HW.out]
    go_wp2_with fail
    refine (IS.out _ H0.out).mono ?_
    rintro e w1 ⟨rfl, rfl⟩
    go_wp2_with (refine wpList_load_arrG rfl (.tmp 4) 34 rfl (.pointer (some ⟨w.heap.size, 0, none⟩)) _ rfl (LB.out _ _ XB.out) ?_)
    refine (RM.out _).mono ?_
    rintro e w2 ⟨rfl, hb2⟩
    have H2 := Lib.hid (H0.out.step hb2)
    have B2 := Lib.hid (X.out.trans (hb2.mono X.out.size))
    have V2 := Lib.hid (XB.out.step hb2)
    clear hb2 d0 d1
    have hi0 : (0 : Int) ≤ (i : Int) := by omega
    have hi1 : (i : Int) < (ms.length : Int) := by omega
    go_wp2
    have V3 := Lib.hid (show VAt 34 w2.drew w.heap.size l from V2.out)
    have H3 := Lib.hid (H2.out.step (below_drewN w2 1))
    have B3 := Lib.hid (B2.out.trans ((below_drewN w2 1).mono B2.out.size))
    refine wp_region_held_drew (S := fun w' => w'.cell? ⟨p, 0, none⟩ = some (.int .i64 (i : Int)) ∧ w'.cell? ⟨p, 1, none⟩ = some (.slice (some ⟨q, 0, none⟩) ms.length ms.length) ∧ VAt 34 w' w.heap.size l) (by kernel_rfl) ⟨H3.out.rd.c0, H3.out.rd.c1, V3.out⟩ (fun hHeld => ?_)
    obtain ⟨wd, hwd⟩ : ∃ y, w2.drew = y := ⟨_, rfl⟩
    have H3' := Lib.hid (show WAt wd p (i : Int) q ms by rw [← hwd]; exact H3.out)
    have B3' := Lib.hid (show Below w.heap.size w wd by rw [← hwd]; exact B3.out)
    rw [hwd] at hHeld V3 ⊢
    clear hwd H3 B3 H2 B2 V2
    refine take_at (i := 0) 24 ?_ rfl rfl (by kernel_rfl) (by kernel_rfl) (by kernel_rfl) (fun _ _ _ h => h) (.inl ⟨rfl, ?_⟩) hHeld ?_
    rotate_left 1
    · intro w hSw; obtain ⟨s0, s1, s2⟩ := hSw; go_simp; try with_reducible rfl
    simp only [Act.put, List.setIfInBounds_toArray, List.set_cons_zero, List.set_cons_succ]
    refine take_at (i := 1) 25 ?_ rfl rfl (by kernel_rfl) (by kernel_rfl) (by kernel_rfl) (fun _ _ _ h => h) (.inl ⟨rfl, ?_⟩) hHeld ?_
    rotate_left 1
    · intro w hSw; obtain ⟨s0, s1, s2⟩ := hSw; go_simp; try with_reducible rfl
    simp only [Act.put, List.setIfInBounds_toArray, List.set_cons_zero, List.set_cons_succ]
    refine take_at (i := 2) 26 ?_ rfl rfl (by kernel_rfl) (by kernel_rfl) (by kernel_rfl) (fun _ _ _ h => h) (.inl ⟨rfl, ?_⟩) hHeld ?_
    rotate_left 1
    · intro w hSw; obtain ⟨s0, s1, s2⟩ := hSw; go_simp; try with_reducible rfl
    simp only [Act.put, List.setIfInBounds_toArray, List.set_cons_zero, List.set_cons_succ]
    refine take_at (i := 3) 27 ?_ rfl rfl (by kernel_rfl) (by kernel_rfl) (by kernel_rfl) (fun _ _ _ h => h) (.inl ⟨rfl, ?_⟩) hHeld ?_
    rotate_left 1
    · intro w hSw; obtain ⟨s0, s1, s2⟩ := hSw; go_simp; try with_reducible rfl
    simp only [Act.put, List.setIfInBounds_toArray, List.set_cons_zero, List.set_cons_succ]
    refine take_at (i := 4) 28 ?_ rfl rfl (by kernel_rfl) (by kernel_rfl) (by kernel_rfl) (fun _ _ _ h => h) (.inl ⟨rfl, ?_⟩) hHeld ?_
    rotate_left 1
    · intro w hSw; obtain ⟨s0, s1, s2⟩ := hSw; go_simp; try with_reducible rfl
    simp only [Act.put, List.setIfInBounds_toArray, List.set_cons_zero, List.set_cons_succ]
    refine take_at (i := 5) 29 ?_ rfl rfl (by kernel_rfl) (by kernel_rfl) (by kernel_rfl) (fun _ _ _ h => h) (.inl ⟨rfl, ?_⟩) hHeld ?_
    rotate_left 1
    · intro w hSw; obtain ⟨s0, s1, s2⟩ := hSw; go_simp; try with_reducible rfl
    simp only [Act.put, List.setIfInBounds_toArray, List.set_cons_zero, List.set_cons_succ]
    refine take_at (i := 6) 30 ?_ rfl rfl (by kernel_rfl) (by kernel_rfl) (by kernel_rfl) (fun _ _ _ h => h) (.inl ⟨rfl, ?_⟩) hHeld ?_
    rotate_left 1
    · intro w hSw; obtain ⟨s0, s1, s2⟩ := hSw; go_simp; try with_reducible rfl
    simp only [Act.put, List.setIfInBounds_toArray, List.set_cons_zero, List.set_cons_succ]
    refine take_at (i := 7) 31 ?_ rfl rfl (by kernel_rfl) (by kernel_rfl) (by kernel_rfl) (fun _ _ _ h => h) (.inl ⟨rfl, ?_⟩) hHeld ?_
    rotate_left 1
    · intro w hSw; obtain ⟨s0, s1, s2⟩ := hSw; go_simp; try with_reducible rfl
    simp only [Act.put, List.setIfInBounds_toArray, List.set_cons_zero, List.set_cons_succ]
    refine take_at (i := 8) 32 ?_ rfl rfl (by kernel_rfl) (by kernel_rfl) (by kernel_rfl) (fun _ _ _ h => h) (.inl ⟨rfl, ?_⟩) hHeld ?_
    rotate_left 1
    · intro w hSw; obtain ⟨s0, s1, s2⟩ := hSw; go_simp; try with_reducible rfl
    simp only [Act.put, List.setIfInBounds_toArray, List.set_cons_zero, List.set_cons_succ]
    refine take_at (i := 9) 33 (.agg (va l)) rfl rfl (by kernel_rfl) (by kernel_rfl) (by kernel_rfl) (fun _ _ _ h => h) (yields_load (.tmp 4) w.heap.size l hl (fun w h => h.2.2) rfl rfl rfl) hHeld ?_
    simp only [Act.put, List.setIfInBounds_toArray, List.set_cons_zero, List.set_cons_succ]
    refine take_at (i := 10) 34 ?_ rfl rfl (by kernel_rfl) (by kernel_rfl) (by kernel_rfl) (fun _ _ _ h => h) (.inl ⟨rfl, ?_⟩) hHeld ?_
    rotate_left 1
    · intro w hSw; obtain ⟨s0, s1, s2⟩ := hSw; go_simp; try with_reducible rfl
    simp only [Act.put, List.setIfInBounds_toArray, List.set_cons_zero, List.set_cons_succ]
    refine one_call (i := 11) 35 28 #[.pointer (some ⟨q, i * 65, none⟩), .agg (va l), .int .i64 t] rfl rfl (by kernel_rfl) rfl (by go_simp) ?_
    refine (TK.out _ H3'.out).mono ?_
    rintro e w4 ⟨rfl, hr4, hk4⟩
    have H4 := Lib.hid (H3'.out.took hi HTL.out hr4 hk4)
    have G4 := Lib.hid (kept_from B3'.out hk4)
    have S4 := (show w4.cell? ⟨p, 0, none⟩ = some (.int .i64 (i : Int)) ∧ w4.cell? ⟨p, 1, none⟩ = some (.slice (some ⟨q, 0, none⟩) ms.length ms.length) ∧ VAt 34 w4 w.heap.size l from
      ⟨H4.out.rd.c0, by have := H4.out.rd.c1; rwa [List.length_set] at this, (hk4.grown.block _ (lt_of_block V3.out) (fun e => hg0.out (by injection e))).trans V3.out⟩)
    refine ⟨_, rfl, S4, fun _ => ?_⟩
    clear S4 hr4 hk4 hHeld
    simp only [Act.put, List.setIfInBounds_toArray, List.set_cons_zero, List.set_cons_succ]
    refine wpAnyH_done (by kernel_rfl) ?_ _
    go_wp2
    go_returns
    exact ⟨rfl, by rw [HG.out]; exact H4.out, G4.out⟩
end Go.Proofs.Ytgemlkccdcbpdaa
