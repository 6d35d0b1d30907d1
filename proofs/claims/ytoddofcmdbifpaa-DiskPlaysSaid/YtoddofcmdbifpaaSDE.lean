/- Merged by tools/merge.py: SD, SE. -/
import Derived.Test.YtoddofcmdbifpaaSC

set_option linter.unusedVariables false
set_option linter.unusedSimpArgs false
set_option maxRecDepth 100000
namespace Go.Proofs.Ytoddofcmdbifpaa
open Go.RowKit Go.WideMaps Go.Maps

set_option maxHeartbeats 12800000 in
theorem do_sync (w : World) (v : Value) (l : List Fl) (room lasts : Int) (h : RD w v l) (hl : l.length < 80000) (nm nt : ByteArray) (bv : Value) (n : Int) (i : Nat) (x : Fl) (hat : atF l nm = (i : Int)) (hx : l[i]? = some x) (hbl : ∀ x ∈ l, x.b.length ≤ 100000000) (hla : lasts ≤ 9223372036854775807) (l2 : Int) (d2 : Bool) (hr : rst lasts false = (l2, d2, true)) :
    Calls Try.prog 29 #[rdv v room lasts false, .int .i64 2, .string nm, bv, .int .i64 n, .string nt] w fun e w' => ∃ (u : Value) (a5 : Option Addr) (c5 : Nat), e = .returned (.tuple #[rdv u room l2 d2, .int .i64 0]) ∧ RN w w' l u (ins ⟨nm, a5, c5, x.b, (x.b.length : Int)⟩ (dropF l nm)) ∧ Below w.heap.size w w' := by
  obtain ⟨ao, cap, rfl⟩ := h.1.shape
  have H := Lib.hid h
  have S0 := D0.start w (.slice ao l.length cap) room lasts false
  obtain ⟨W0, hW0⟩ : ∃ y, (w.alloc (.cells #[.slice ao l.length cap, .int .i64 room, .int .i64 lasts, .bool false] 29)).alloc (.cells #[.slice none 0 0, .int .i64 0, .int .i64 0, .bool false] 29) = y := ⟨_, rfl⟩
  rw [hW0] at S0
  have HW := Lib.hid hW0
  have K0 := Lib.hid S0
  have AT := Lib.hid (rat_any W0 (.slice ao l.length cap) l room lasts false (h.step S0.bel) nm (by omega))
  rw [hat] at AT
  have hlm := h.1.len
  clear h S0 hW0
  go_enter Try.func29, Try.ntmps29
  go_upto_region 1 with (fail)
  rw [HW.out]
  obtain ⟨c0, c1, c2, c3⟩ := K0.out.g6.cells
  go_wp2_with fail
  refine AT.out.mono ?_
  rintro e w1 ⟨rfl, hb⟩
  have K1 := Lib.hid (K0.out.step hb)
  clear hb c0 c1 c2 c3 AT
  have hxm := List.mem_of_getElem? hx
  have XB := Lib.hid (hbl x hxm)
  have XL := Lib.hid (lies_cap (H.out.2 x hxm))
  have LX := Lib.hid (H.out.2 x hxm)
  have hlt : i < l.length := (List.getElem?_eq_some_iff.1 hx).1
  obtain ⟨g, o, x2, hao, hx2, hg, a0, a1, a2⟩ := rec_at (H.out.1.keep K1.out.bel (Nat.le_refl _)) hlt
  rw [hx] at hx2
  injection hx2 with hx2
  subst hx2
  subst hao
  have hgw : g < w.heap.size := by
    obtain ⟨g', o', x', e, _, hg', _⟩ := rec_at H.out.1 hlt
    injection e with e
    injection e with e
    omega
  clear hx hxm hbl a0
  obtain ⟨c0, c1, c2, c3⟩ := K1.out.g6.cells
  clear c1 c2 c3
  have D5 := Lib.hid (DI.new K1.out nm x.s)
  have BD := Lib.hid (And.intro (hgw) (show w1.cell? ⟨g, o + i * 3 + 1, none⟩ = some (.slice x.a x.b.length x.c) from a1))
  go_upto_region 14 with (fail)
  obtain ⟨W4, hW4⟩ : ∃ y, w1.alloc (.cells #[.string nm, .slice none 0 0, .int .i64 x.s] 66) = y := ⟨_, rfl⟩
  have V4 := vstep w1 (.cells #[.string nm, .slice none 0 0, .int .i64 x.s] 66)
  rw [hW4] at D5 V4 ⊢
  obtain ⟨b, hb17⟩ : ∃ z, w1.heap.size = z := ⟨_, rfl⟩
  rw [hb17] at D5 ⊢
  have B4 := Lib.hid (V4.cell (p := ⟨g, o + i * 3 + 1, none⟩) (by show g < w1.heap.size; have := K1.out.bel.size; omega))
  have C4 := Lib.hid (B4.out.trans a1)
  clear hb17 V4 hW4 B4 BD a1 a2 c0
  have KD := D5.out.step (show Below W4.heap.size W4 W4.drew from (Below.refl _ _).drew)
  have LD : LiesK encB 1 W4.drew (.slice x.a x.b.length x.c) x.b := LX.out.step (D5.out.d.bel.trans ((show Below W4.heap.size W4 W4.drew from (Below.refl _ _).drew).mono D5.out.d.bel.size))
  obtain ⟨a5, c5, w3, W5, q1, q2, q3, q4, q5⟩ := cat_file KD LD (by have := XB.out; simp; omega)
  have SP : ∀ {W'} (P : Nat → Prop), Far P W4.drew W' → (∀ k, P k → b ≤ k) → (W'.cell? ⟨w.heap.size, 0, none⟩ = some (.slice (some ⟨g, o, none⟩) l.length cap) ∧ W'.cell? ⟨g, o + i * 3 + 1, none⟩ = some (.slice x.a x.b.length x.c)) := fun P hf hp =>
    ⟨hf.cell (p := ⟨w.heap.size, 0, none⟩) KD.d.g6.cells.1 (fun q => by have := hp _ q; have := D5.out.lo; dsimp only at *; omega), hf.cell (p := ⟨g, o + i * 3 + 1, none⟩) C4.out (fun q => by have := hp _ q; have := D5.out.lo; dsimp only at *; omega)⟩
  have S0 := Lib.hid (SP (fun _ => False) (Far.refl _ _) (fun k q => q.elim))
  have S3 := Lib.hid (SP _ q4 (fun k q => Nat.le_of_lt q))
  have S5 := Lib.hid (SP _ q5 (fun k q => q))
  have LV0 := Lib.hid (ldV33 (W := W4.drew) KD.g.cells.2.1)
  have HAP := Lib.hid q1
  have HST := Lib.hid q2
  have I5 := Lib.hid (show DI w W5 (.slice (some ⟨g, o, none⟩) l.length cap) room lasts false b ⟨nm, a5, c5, x.b, x.s⟩ from q3)
  have F5 := Lib.hid q5
  have IX := Lib.hid (fun W => ix27 (W := W) (g := g) (o := o) (c := cap) hlt (by omega))
  clear q1 q2 q3 q4 q5 SP KD LD
  rw [List.nil_append] at HAP HST
  refine wp_region_held_drew (S := fun W => W.cell? ⟨w.heap.size, 0, none⟩ = some (.slice (some ⟨g, o, none⟩) l.length cap) ∧ W.cell? ⟨g, o + i * 3 + 1, none⟩ = some (.slice x.a x.b.length x.c)) (by kernel_rfl) S0.out (fun _ => ?_)
  refine take_at (i := 0) 57 ?_ rfl rfl (by kernel_rfl) (by kernel_rfl) (by kernel_rfl) (fun _ _ _ h => h) (.inl ⟨rfl, ?_⟩) S0.out ?_
  rotate_left 1
  · intro w hSw; go_simp; try with_reducible rfl
  simp only [Act.put, List.setIfInBounds_toArray, List.set_cons_zero, List.set_cons_succ]
  refine take_at (i := 2) 59 ?_ rfl rfl (by kernel_rfl) (by kernel_rfl) (by kernel_rfl) (fun _ _ _ h => h) (.inl ⟨rfl, ?_⟩) S0.out ?_
  rotate_left 1
  · intro w hSw; go_simp; try with_reducible rfl
  simp only [Act.put, List.setIfInBounds_toArray, List.set_cons_zero, List.set_cons_succ]
  refine take_at (i := 3) 60 (.slice (some ⟨g, o, none⟩) l.length cap) rfl rfl (by kernel_rfl) (by kernel_rfl) (by kernel_rfl) (fun _ _ _ h => h) (yields_ld (.tmp 59) 27 (.pointer (some ⟨w.heap.size, 0, none⟩)) _ (fun W hS => ldV27 hS.1) rfl rfl rfl) S0.out ?_
  simp only [Act.put, List.setIfInBounds_toArray, List.set_cons_zero, List.set_cons_succ]
  refine take_at (i := 4) 61 ?_ rfl rfl (by kernel_rfl) (by kernel_rfl) (by kernel_rfl) (fun _ _ _ h => h) (.inl ⟨rfl, ?_⟩) S0.out ?_
  rotate_left 1
  · intro w hSw; go_simp; try with_reducible rfl
  simp only [Act.put, List.setIfInBounds_toArray, List.set_cons_zero, List.set_cons_succ]
  refine take_at (i := 5) 62 (.pointer (some ⟨g, o + i * 3, none⟩)) rfl rfl (by kernel_rfl) (by kernel_rfl) (by kernel_rfl) (fun _ _ _ h => h) (yields_ix (.tmp 60) (.tmp 61) 27 (.slice (some ⟨g, o, none⟩) l.length cap) (.int .i64 (i : Int)) _ (fun W => IX.out W) rfl rfl rfl rfl) S0.out ?_
  simp only [Act.put, List.setIfInBounds_toArray, List.set_cons_zero, List.set_cons_succ]
  refine take_at (i := 6) 63 ?_ rfl rfl (by kernel_rfl) (by kernel_rfl) (by kernel_rfl) (fun _ _ _ h => h) (.inl ⟨rfl, ?_⟩) S0.out ?_
  rotate_left 1
  · intro w hSw; go_simp; try with_reducible rfl
  simp only [Act.put, List.setIfInBounds_toArray, List.set_cons_zero, List.set_cons_succ]
  refine take_at (i := 7) 64 (.slice x.a x.b.length x.c) rfl rfl (by kernel_rfl) (by kernel_rfl) (by kernel_rfl) (fun _ _ _ h => h) (yields_ld (.tmp 63) 33 (.pointer (some ⟨g, o + i * 3 + 1, none⟩)) _ (fun W hS => ldV33 hS.2) rfl rfl rfl) S0.out ?_
  simp only [Act.put, List.setIfInBounds_toArray, List.set_cons_zero, List.set_cons_succ]
  refine wpAnyH_ready (rs := [1]) (by kernel_rfl) (by simp) (br_load (i := 1) 58 (.tmp 57) 33 (.pointer (some ⟨b, 1, none⟩)) (.slice none 0 0) rfl rfl rfl rfl rfl LV0.out S0.out (fun _ => ?_) AllReadyH.nil)
  simp only [Act.put, List.setIfInBounds_toArray, List.set_cons_zero, List.set_cons_succ]
  refine one_append (i := 8) 65 (.tmp 58) (.tmp 64) 33 33 rfl rfl (by kernel_rfl) rfl rfl (.slice none 0 0) (.slice x.a x.b.length x.c) (.slice a5 x.b.length c5) w3 rfl rfl (HAP.out _) S3.out (fun _ => ?_)
  simp only [Act.put, List.setIfInBounds_toArray, List.set_cons_zero, List.set_cons_succ]
  refine take_at (i := 9) 66 ?_ rfl rfl (by kernel_rfl) (by kernel_rfl) (by kernel_rfl) (fun _ _ _ h => h) (.inl ⟨rfl, ?_⟩) S3.out ?_
  rotate_left 1
  · intro w hSw; go_simp; try with_reducible rfl
  simp only [Act.put, List.setIfInBounds_toArray, List.set_cons_zero, List.set_cons_succ]
  refine wpAnyH_ready (rs := [10]) (by kernel_rfl) (by simp) (br_store (i := 10) 33 (.tmp 66) (.tmp 65) (.pointer (some ⟨b, 1, none⟩)) (.slice a5 x.b.length c5) W5 rfl rfl rfl rfl rfl rfl HST.out S5.out (fun _ => ?_) AllReadyH.nil)
  simp only [Act.put, List.setIfInBounds_toArray, List.set_cons_zero, List.set_cons_succ]
  refine wpAnyH_done (by kernel_rfl) ?_ _
  clear S0 S3 S5 LV0 HAP HST IX F5 C4 D5 K1
  clear K0 HW
  obtain ⟨c0, c1, c2, c3⟩ := I5.out.d.g6.cells
  obtain ⟨r0, r1, r2⟩ := I5.out.g.cells
  have hxb := XB.out
  have ST := Lib.hid (rstep_any W5 (some ⟨g, o, none⟩) l.length cap room lasts false hla)
  rw [hr] at ST
  go_wp2_with fail
  refine ST.out.mono ?_
  rintro e w6 ⟨rfl, hb⟩
  have I6 := Lib.hid (I5.out.step hb)
  clear hb c0 c1 c2 c3 r0 r1 r2 ST
  have VB := vstep w6 (.cells #[.slice (some ⟨g, o, none⟩) l.length cap, .int .i64 room, .int .i64 l2, .bool d2] 29)
  have I7 := Lib.hid (I6.out.step VB)
  have BX := Lib.hid (RB.new w6 (.slice (some ⟨g, o, none⟩) l.length cap) room l2 d2)
  have BLO := Lib.hid (I6.out.blt)
  have OWN := Lib.hid (fun j (q : (Value.slice a5 x.b.length c5).ownBlock = some j) => (I6.out.row.lt j q).2)
  go_upto_region 30 with (fail)
  obtain ⟨W7, hW7⟩ : ∃ y, w6.alloc (.cells #[.slice (some ⟨g, o, none⟩) l.length cap, .int .i64 room, .int .i64 l2, .bool d2] 29) = y := ⟨_, rfl⟩
  rw [hW7] at I7 BX VB ⊢
  obtain ⟨bx, hbx⟩ : ∃ z, w6.heap.size = z := ⟨_, rfl⟩
  rw [hbx] at BX BLO OWN ⊢
  clear hW7 hbx VB I6
  obtain ⟨c0, c1, c2, c3⟩ := BX.out.cells
  obtain ⟨r0, r1, r2⟩ := I7.out.g.cells
  have J7 := Lib.hid I7.out.dj
  have g0 := I7.out.g.free 0
  have g1 := I7.out.g.free 1
  have g2 := I7.out.g.free 2
  go_upto_region 34 with (fail)
  clear c0 c1 c2 c3 r0 r1 r2 g0 g1 g2
  have J8 := Lib.hid (J7.out.set2 (x.b.length : Int))
  have BX := Lib.hid (BX.out.far (far_set W7 b 2 (.int .i64 (x.b.length : Int))) (fun q => by have := BLO.out; omega))
  obtain ⟨W8, hW8⟩ : ∃ z, W7.setCell ⟨b, 2, none⟩ (.int .i64 (x.b.length : Int)) = z := ⟨_, rfl⟩
  rw [hW8] at J8 BX ⊢
  clear hW8
  obtain ⟨c0, c1, c2, c3⟩ := BX.out.cells
  obtain ⟨r0, r1, r2⟩ := J8.out.g.cells
  have WI := Lib.hid (with_any W8 _ l room l2 d2 (H.out.step J8.out.d.bel) (⟨nm, a5, c5, x.b, (x.b.length : Int)⟩ : Fl) (by omega))
  go_wp2_with fail
  refine WI.out.mono ?_
  rintro e w9 ⟨u9, rfl, ho, hb⟩
  have K9 := Lib.hid (J8.out.step hb)
  have HO := Lib.hid ho
  have HB := Lib.hid (show w.heap.size + 2 ≤ W8.heap.size from by have := J8.out.lo; have := J8.out.blt; omega)
  obtain ⟨ua, uc, rfl⟩ := own_shapeK ho
  clear ho hb WI c0 c1 c2 c3 r0 r1 r2
  obtain ⟨ml, hml⟩ : ∃ ml, ins (⟨nm, a5, c5, x.b, (x.b.length : Int)⟩ : Fl) (dropF l ((⟨nm, a5, c5, x.b, (x.b.length : Int)⟩ : Fl) : Fl).n) = ml := ⟨_, rfl⟩
  simp only [hml] at HO ⊢
  have HML := Lib.hid hml
  clear hml
  obtain ⟨e0, e1, e2, e3⟩ := K9.out.d.g12.cells
  obtain ⟨f0, f1, f2, f3⟩ := K9.out.d.g12.free
  go_wp2
  clear e0 e1 e2 e3 f0 f1 f2 f3
  have LF := K9.out.fin (.slice ua ml.length uc) (.int .i64 room) (.int .i64 l2) (.bool d2)
  obtain ⟨w5, hW5⟩ : ∃ w5, sets4 w9 (w.heap.size + 1) (.slice ua ml.length uc) (.int .i64 room) (.int .i64 l2) (.bool d2) = w5 := ⟨_, rfl⟩
  have hb5 := sets4_row (x' := .slice ua ml.length uc) (y' := room) (z' := l2) (v' := d2) K9.out.d.g12
  have hw5 := sets4_below (x := .slice ua ml.length uc) (y := .int .i64 room) (z := .int .i64 l2) (v := .bool d2) K9.out.d.bel (show w.heap.size ≤ w.heap.size + 1 by omega)
  have ho1 := own_set4 (b := w.heap.size + 1) (x := .slice ua ml.length uc) (y := .int .i64 room) (z := .int .i64 l2) (t := .bool d2) HO.out (by have := HB.out; omega)
  rw [hW5] at hb5 hw5 ho1
  rw [hW5] at LF
  unfold sets4 at hW5
  rw [hW5]
  clear hW5
  obtain ⟨d0, d1, d2, d3⟩ := RB.cells (show RB w5 (w.heap.size + 1) (.slice ua ml.length uc) room l2 d2 from hb5)
  refine bodyPost_ret (by simp [results, Try.results29, go_sem, d0, d1, d2, d3]; try rfl) rfl ?_
  refine ⟨_, rfl, ⟨a5, c5, ?_⟩, hw5⟩
  rw [← HML.out] at ho1 ⊢
  exact rn_ins H.out hw5 nm ho1 (by have := HB.out; omega) LF (fun hne j q => by have := K9.out.own hne j q; have := K9.out.lo; omega)
end Go.Proofs.Ytoddofcmdbifpaa

set_option linter.unusedVariables false
set_option linter.unusedSimpArgs false
set_option maxRecDepth 100000
namespace Go.Proofs.Ytoddofcmdbifpaa
open Go.RowKit Go.WideMaps Go.Maps

set_option maxHeartbeats 12800000 in
theorem do_cut (w : World) (v : Value) (l : List Fl) (room lasts : Int) (h : RD w v l) (hl : l.length < 80000) (nm nt : ByteArray) (bv : Value) (n : Int) (i : Nat) (x : Fl) (hat : atF l nm = (i : Int)) (hx : l[i]? = some x) (hbl : ∀ x ∈ l, x.b.length ≤ 100000000) (k : Nat) (hk : k ≤ x.b.length) (hla : lasts ≤ 9223372036854775807) (l2 : Int) (d2 : Bool) (hr : rst lasts false = (l2, d2, true)) :
    Calls Try.prog 29 #[rdv v room lasts false, .int .i64 3, .string nm, bv, .int .i64 (k : Int), .string nt] w fun e w' => ∃ (u : Value) (a5 : Option Addr) (c5 : Nat), e = .returned (.tuple #[rdv u room l2 d2, .int .i64 0]) ∧ RN w w' l u (ins ⟨nm, a5, c5, x.b.take k, (k : Int)⟩ (dropF l nm)) ∧ Below w.heap.size w w' := by
  obtain ⟨ao, cap, rfl⟩ := h.1.shape
  have H := Lib.hid h
  have S0 := D0.start w (.slice ao l.length cap) room lasts false
  obtain ⟨W0, hW0⟩ : ∃ y, (w.alloc (.cells #[.slice ao l.length cap, .int .i64 room, .int .i64 lasts, .bool false] 29)).alloc (.cells #[.slice none 0 0, .int .i64 0, .int .i64 0, .bool false] 29) = y := ⟨_, rfl⟩
  rw [hW0] at S0
  have HW := Lib.hid hW0
  have K0 := Lib.hid S0
  have AT := Lib.hid (rat_any W0 (.slice ao l.length cap) l room lasts false (h.step S0.bel) nm (by omega))
  rw [hat] at AT
  have hlm := h.1.len
  clear h S0 hW0
  go_enter Try.func29, Try.ntmps29
  go_upto_region 1 with (fail)
  rw [HW.out]
  obtain ⟨c0, c1, c2, c3⟩ := K0.out.g6.cells
  go_wp2_with fail
  refine AT.out.mono ?_
  rintro e w1 ⟨rfl, hb⟩
  have K1 := Lib.hid (K0.out.step hb)
  clear hb c0 c1 c2 c3 AT
  have hxm := List.mem_of_getElem? hx
  have XB := Lib.hid (hbl x hxm)
  have XL := Lib.hid (lies_cap (H.out.2 x hxm))
  have LX := Lib.hid (H.out.2 x hxm)
  have hlt : i < l.length := (List.getElem?_eq_some_iff.1 hx).1
  obtain ⟨g, o, x2, hao, hx2, hg, a0, a1, a2⟩ := rec_at (H.out.1.keep K1.out.bel (Nat.le_refl _)) hlt
  rw [hx] at hx2
  injection hx2 with hx2
  subst hx2
  subst hao
  have hgw : g < w.heap.size := by
    obtain ⟨g', o', x', e, _, hg', _⟩ := rec_at H.out.1 hlt
    injection e with e
    injection e with e
    omega
  clear hx hxm hbl a0
  have hn3 : ¬ (k : Int) < 0 := by omega
  have hn4 : ¬ (x.b.length : Int) < (k : Int) := by omega
  obtain ⟨c0, c1, c2, c3⟩ := K1.out.g6.cells
  clear c1 c2 c3
  have D5 := Lib.hid (DI.new K1.out nm x.s)
  have BD := Lib.hid (And.intro (hgw) (show w1.cell? ⟨g, o + i * 3 + 1, none⟩ = some (.slice x.a x.b.length x.c) from a1))
  go_upto_region 14 with (fail)
  obtain ⟨W4, hW4⟩ : ∃ y, w1.alloc (.cells #[.string nm, .slice none 0 0, .int .i64 x.s] 66) = y := ⟨_, rfl⟩
  have V4 := vstep w1 (.cells #[.string nm, .slice none 0 0, .int .i64 x.s] 66)
  rw [hW4] at D5 V4 ⊢
  obtain ⟨b, hb17⟩ : ∃ z, w1.heap.size = z := ⟨_, rfl⟩
  rw [hb17] at D5 ⊢
  have B4 := Lib.hid (V4.cell (p := ⟨g, o + i * 3 + 1, none⟩) (by show g < w1.heap.size; have := K1.out.bel.size; omega))
  have C4 := Lib.hid (B4.out.trans a1)
  clear hb17 V4 hW4 B4 BD a1 a2 c0
  have KD := D5.out.step (show Below W4.heap.size W4 W4.drew from (Below.refl _ _).drew)
  have LD : LiesK encB 1 W4.drew (.slice x.a x.b.length x.c) x.b := LX.out.step (D5.out.d.bel.trans ((show Below W4.heap.size W4 W4.drew from (Below.refl _ _).drew).mono D5.out.d.bel.size))
  obtain ⟨a5, c5, w3, W5, q1, q2, q3, q4, q5⟩ := cat_file KD LD (by have := XB.out; simp; omega)
  have SP : ∀ {W'} (P : Nat → Prop), Far P W4.drew W' → (∀ k, P k → b ≤ k) → (W'.cell? ⟨w.heap.size, 0, none⟩ = some (.slice (some ⟨g, o, none⟩) l.length cap) ∧ W'.cell? ⟨g, o + i * 3 + 1, none⟩ = some (.slice x.a x.b.length x.c)) := fun P hf hp =>
    ⟨hf.cell (p := ⟨w.heap.size, 0, none⟩) KD.d.g6.cells.1 (fun q => by have := hp _ q; have := D5.out.lo; dsimp only at *; omega), hf.cell (p := ⟨g, o + i * 3 + 1, none⟩) C4.out (fun q => by have := hp _ q; have := D5.out.lo; dsimp only at *; omega)⟩
  have S0 := Lib.hid (SP (fun _ => False) (Far.refl _ _) (fun k q => q.elim))
  have S3 := Lib.hid (SP _ q4 (fun k q => Nat.le_of_lt q))
  have S5 := Lib.hid (SP _ q5 (fun k q => q))
  have LV0 := Lib.hid (ldV33 (W := W4.drew) KD.g.cells.2.1)
  have HAP := Lib.hid q1
  have HST := Lib.hid q2
  have I5 := Lib.hid (show DI w W5 (.slice (some ⟨g, o, none⟩) l.length cap) room lasts false b ⟨nm, a5, c5, x.b, x.s⟩ from q3)
  have F5 := Lib.hid q5
  have IX := Lib.hid (fun W => ix27 (W := W) (g := g) (o := o) (c := cap) hlt (by omega))
  clear q1 q2 q3 q4 q5 SP KD LD
  rw [List.nil_append] at HAP HST
  refine wp_region_held_drew (S := fun W => W.cell? ⟨w.heap.size, 0, none⟩ = some (.slice (some ⟨g, o, none⟩) l.length cap) ∧ W.cell? ⟨g, o + i * 3 + 1, none⟩ = some (.slice x.a x.b.length x.c)) (by kernel_rfl) S0.out (fun _ => ?_)
  refine take_at (i := 0) 57 ?_ rfl rfl (by kernel_rfl) (by kernel_rfl) (by kernel_rfl) (fun _ _ _ h => h) (.inl ⟨rfl, ?_⟩) S0.out ?_
  rotate_left 1
  · intro w hSw; go_simp; try with_reducible rfl
  simp only [Act.put, List.setIfInBounds_toArray, List.set_cons_zero, List.set_cons_succ]
  refine take_at (i := 2) 59 ?_ rfl rfl (by kernel_rfl) (by kernel_rfl) (by kernel_rfl) (fun _ _ _ h => h) (.inl ⟨rfl, ?_⟩) S0.out ?_
  rotate_left 1
  · intro w hSw; go_simp; try with_reducible rfl
  simp only [Act.put, List.setIfInBounds_toArray, List.set_cons_zero, List.set_cons_succ]
  refine take_at (i := 3) 60 (.slice (some ⟨g, o, none⟩) l.length cap) rfl rfl (by kernel_rfl) (by kernel_rfl) (by kernel_rfl) (fun _ _ _ h => h) (yields_ld (.tmp 59) 27 (.pointer (some ⟨w.heap.size, 0, none⟩)) _ (fun W hS => ldV27 hS.1) rfl rfl rfl) S0.out ?_
  simp only [Act.put, List.setIfInBounds_toArray, List.set_cons_zero, List.set_cons_succ]
  refine take_at (i := 4) 61 ?_ rfl rfl (by kernel_rfl) (by kernel_rfl) (by kernel_rfl) (fun _ _ _ h => h) (.inl ⟨rfl, ?_⟩) S0.out ?_
  rotate_left 1
  · intro w hSw; go_simp; try with_reducible rfl
  simp only [Act.put, List.setIfInBounds_toArray, List.set_cons_zero, List.set_cons_succ]
  refine take_at (i := 5) 62 (.pointer (some ⟨g, o + i * 3, none⟩)) rfl rfl (by kernel_rfl) (by kernel_rfl) (by kernel_rfl) (fun _ _ _ h => h) (yields_ix (.tmp 60) (.tmp 61) 27 (.slice (some ⟨g, o, none⟩) l.length cap) (.int .i64 (i : Int)) _ (fun W => IX.out W) rfl rfl rfl rfl) S0.out ?_
  simp only [Act.put, List.setIfInBounds_toArray, List.set_cons_zero, List.set_cons_succ]
  refine take_at (i := 6) 63 ?_ rfl rfl (by kernel_rfl) (by kernel_rfl) (by kernel_rfl) (fun _ _ _ h => h) (.inl ⟨rfl, ?_⟩) S0.out ?_
  rotate_left 1
  · intro w hSw; go_simp; try with_reducible rfl
  simp only [Act.put, List.setIfInBounds_toArray, List.set_cons_zero, List.set_cons_succ]
  refine take_at (i := 7) 64 (.slice x.a x.b.length x.c) rfl rfl (by kernel_rfl) (by kernel_rfl) (by kernel_rfl) (fun _ _ _ h => h) (yields_ld (.tmp 63) 33 (.pointer (some ⟨g, o + i * 3 + 1, none⟩)) _ (fun W hS => ldV33 hS.2) rfl rfl rfl) S0.out ?_
  simp only [Act.put, List.setIfInBounds_toArray, List.set_cons_zero, List.set_cons_succ]
  refine wpAnyH_ready (rs := [1]) (by kernel_rfl) (by simp) (br_load (i := 1) 58 (.tmp 57) 33 (.pointer (some ⟨b, 1, none⟩)) (.slice none 0 0) rfl rfl rfl rfl rfl LV0.out S0.out (fun _ => ?_) AllReadyH.nil)
  simp only [Act.put, List.setIfInBounds_toArray, List.set_cons_zero, List.set_cons_succ]
  refine one_append (i := 8) 65 (.tmp 58) (.tmp 64) 33 33 rfl rfl (by kernel_rfl) rfl rfl (.slice none 0 0) (.slice x.a x.b.length x.c) (.slice a5 x.b.length c5) w3 rfl rfl (HAP.out _) S3.out (fun _ => ?_)
  simp only [Act.put, List.setIfInBounds_toArray, List.set_cons_zero, List.set_cons_succ]
  refine take_at (i := 9) 66 ?_ rfl rfl (by kernel_rfl) (by kernel_rfl) (by kernel_rfl) (fun _ _ _ h => h) (.inl ⟨rfl, ?_⟩) S3.out ?_
  rotate_left 1
  · intro w hSw; go_simp; try with_reducible rfl
  simp only [Act.put, List.setIfInBounds_toArray, List.set_cons_zero, List.set_cons_succ]
  refine wpAnyH_ready (rs := [10]) (by kernel_rfl) (by simp) (br_store (i := 10) 33 (.tmp 66) (.tmp 65) (.pointer (some ⟨b, 1, none⟩)) (.slice a5 x.b.length c5) W5 rfl rfl rfl rfl rfl rfl HST.out S5.out (fun _ => ?_) AllReadyH.nil)
  simp only [Act.put, List.setIfInBounds_toArray, List.set_cons_zero, List.set_cons_succ]
  refine wpAnyH_done (by kernel_rfl) ?_ _
  clear S0 S3 S5 LV0 HAP HST IX F5 C4 D5 K1
  clear K0 HW
  obtain ⟨c0, c1, c2, c3⟩ := I5.out.d.g6.cells
  obtain ⟨r0, r1, r2⟩ := I5.out.g.cells
  have hxb := XB.out
  have ST := Lib.hid (rstep_any W5 (some ⟨g, o, none⟩) l.length cap room lasts false hla)
  rw [hr] at ST
  go_wp2_with fail
  refine ST.out.mono ?_
  rintro e w6 ⟨rfl, hb⟩
  have I6 := Lib.hid (I5.out.step hb)
  clear hb c0 c1 c2 c3 r0 r1 r2 ST
  have VB := vstep w6 (.cells #[.slice (some ⟨g, o, none⟩) l.length cap, .int .i64 room, .int .i64 l2, .bool d2] 29)
  have I7 := Lib.hid (I6.out.step VB)
  have BX := Lib.hid (RB.new w6 (.slice (some ⟨g, o, none⟩) l.length cap) room l2 d2)
  have BLO := Lib.hid (I6.out.blt)
  have OWN := Lib.hid (fun j (q : (Value.slice a5 x.b.length c5).ownBlock = some j) => (I6.out.row.lt j q).2)
  go_upto_region 30 with (fail)
  obtain ⟨W7, hW7⟩ : ∃ y, w6.alloc (.cells #[.slice (some ⟨g, o, none⟩) l.length cap, .int .i64 room, .int .i64 l2, .bool d2] 29) = y := ⟨_, rfl⟩
  rw [hW7] at I7 BX VB ⊢
  obtain ⟨bx, hbx⟩ : ∃ z, w6.heap.size = z := ⟨_, rfl⟩
  rw [hbx] at BX BLO OWN ⊢
  clear hW7 hbx VB I6
  obtain ⟨c0, c1, c2, c3⟩ := BX.out.cells
  obtain ⟨r0, r1, r2⟩ := I7.out.g.cells
  have J7 := Lib.hid I7.out.dj
  have g0 := I7.out.g.free 0
  have g1 := I7.out.g.free 1
  have g2 := I7.out.g.free 2
  have SC5 := lies_cap I7.out.lies
  have sl := fun W => slh33 W a5 x.b.length c5 k (by have := SC5.1; dsimp only at this; omega) SC5.2
  clear SC5
  go_upto_region 36 with (fail)
  clear c0 c1 c2 c3 r0 r1 r2 g0 g1 g2
  have J8 := Lib.hid (J7.out.set1 k hk)
  have BX := Lib.hid (BX.out.far (far_set W7 b 1 (.slice a5 k c5)) (fun q => by have := BLO.out; omega))
  obtain ⟨W8, hW8⟩ : ∃ z, W7.setCell ⟨b, 1, none⟩ (.slice a5 k c5) = z := ⟨_, rfl⟩
  rw [hW8] at J8 BX ⊢
  clear hW8
  clear sl
  obtain ⟨r0, r1, r2⟩ := J8.out.g.cells
  have g2 := J8.out.g.free 2
  go_upto_region 37 with (fail)
  clear r0 r1 r2 g2
  have J9 := Lib.hid (J8.out.set2 (k : Int))
  have BX := Lib.hid (BX.out.far (far_set W8 b 2 (.int .i64 (k : Int))) (fun q => by have := BLO.out; omega))
  obtain ⟨W9, hW9⟩ : ∃ z, W8.setCell ⟨b, 2, none⟩ (.int .i64 (k : Int)) = z := ⟨_, rfl⟩
  rw [hW9] at J9 BX ⊢
  clear hW9
  obtain ⟨tb, htb⟩ : ∃ tb, x.b.take k = tb := ⟨_, rfl⟩
  rw [htb] at J9
  have HTB := Lib.hid htb
  clear htb
  simp only at J9
  obtain ⟨c0, c1, c2, c3⟩ := BX.out.cells
  obtain ⟨r0, r1, r2⟩ := J9.out.g.cells
  have WI := Lib.hid (with_any W9 _ l room l2 d2 (H.out.step J9.out.d.bel) (⟨nm, a5, c5, tb, (k : Int)⟩ : Fl) (by omega))
  go_wp2_with fail
  refine WI.out.mono ?_
  rintro e w9 ⟨u9, rfl, ho, hb⟩
  have K9 := Lib.hid (J9.out.step hb)
  have HO := Lib.hid ho
  have HB := Lib.hid (show w.heap.size + 2 ≤ W9.heap.size from by have := J9.out.lo; have := J9.out.blt; omega)
  obtain ⟨ua, uc, rfl⟩ := own_shapeK ho
  clear ho hb WI c0 c1 c2 c3 r0 r1 r2
  obtain ⟨ml, hml⟩ : ∃ ml, ins (⟨nm, a5, c5, tb, (k : Int)⟩ : Fl) (dropF l ((⟨nm, a5, c5, tb, (k : Int)⟩ : Fl) : Fl).n) = ml := ⟨_, rfl⟩
  simp only [hml] at HO ⊢
  have HML := Lib.hid hml
  clear hml
  obtain ⟨e0, e1, e2, e3⟩ := K9.out.d.g12.cells
  obtain ⟨f0, f1, f2, f3⟩ := K9.out.d.g12.free
  go_wp2
  clear e0 e1 e2 e3 f0 f1 f2 f3
  have LF := K9.out.fin (.slice ua ml.length uc) (.int .i64 room) (.int .i64 l2) (.bool d2)
  obtain ⟨w5, hW5⟩ : ∃ w5, sets4 w9 (w.heap.size + 1) (.slice ua ml.length uc) (.int .i64 room) (.int .i64 l2) (.bool d2) = w5 := ⟨_, rfl⟩
  have hb5 := sets4_row (x' := .slice ua ml.length uc) (y' := room) (z' := l2) (v' := d2) K9.out.d.g12
  have hw5 := sets4_below (x := .slice ua ml.length uc) (y := .int .i64 room) (z := .int .i64 l2) (v := .bool d2) K9.out.d.bel (show w.heap.size ≤ w.heap.size + 1 by omega)
  have ho1 := own_set4 (b := w.heap.size + 1) (x := .slice ua ml.length uc) (y := .int .i64 room) (z := .int .i64 l2) (t := .bool d2) HO.out (by have := HB.out; omega)
  rw [hW5] at hb5 hw5 ho1
  rw [hW5] at LF
  unfold sets4 at hW5
  rw [hW5]
  clear hW5
  obtain ⟨d0, d1, d2, d3⟩ := RB.cells (show RB w5 (w.heap.size + 1) (.slice ua ml.length uc) room l2 d2 from hb5)
  refine bodyPost_ret (by simp [results, Try.results29, go_sem, d0, d1, d2, d3]; try rfl) rfl ?_
  refine ⟨_, rfl, ⟨a5, c5, ?_⟩, hw5⟩
  rw [HTB.out]
  rw [← HML.out] at ho1 ⊢
  exact rn_ins H.out hw5 nm ho1 (by have := HB.out; omega) LF (fun hne j q => by have := K9.out.own hne j q; have := K9.out.lo; omega)
end Go.Proofs.Ytoddofcmdbifpaa
