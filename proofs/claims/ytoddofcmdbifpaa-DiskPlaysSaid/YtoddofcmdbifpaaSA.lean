/- The reference's disk: Do, behind the file's copy. Made by genrz10.py. -/
import Derived.Test.YtoddofcmdbifpaaRY
import Derived.Test.YtoddofcmdbifpaaRZ
set_option linter.unusedVariables false
set_option linter.unusedSimpArgs false
set_option maxRecDepth 100000
namespace Go.Proofs.Ytoddofcmdbifpaa
open Go.RowKit Go.WideMaps Go.Maps

structure DI (w W : World) (v : Value) (room lasts : Int) (dn : Bool) (b : Nat) (f : Fl) : Prop where
  d : D0 w W v room lasts dn
  lo : w.heap.size + 2 ≤ b
  g : FR W b f
  row : W.ownsRow (b + 1) 5 1 (.slice f.a f.b.length f.c) f.b.length (f.b.flatMap encB)
theorem DI.far {w W W' : World} {v : Value} {room lasts : Int} {dn : Bool} {b : Nat} {f : Fl} (h : DI w W v room lasts dn b f) {P : Nat → Prop} (hf : Far P W W') (hp : ∀ k, P k → b < k) (hr : ∀ j, (Value.slice f.a f.b.length f.c).ownBlock = some j → ¬ P j) : DI w W' v room lasts dn b f := by
  have hlo := h.lo
  refine ⟨⟨h.d.g6.far hf (fun q => ?_), h.d.g12.far hf (fun q => ?_), h.d.bel.trans (hf.below h.d.bel.size (fun k q => ?_))⟩, h.lo, h.g.far hf (fun q => ?_), hf.row h.row hr⟩
  · have := hp _ q; omega
  · have := hp _ q; omega
  · have := hp _ q; omega
  · have := hp _ q; omega
theorem DI.step {w W W' : World} {v : Value} {room lasts : Int} {dn : Bool} {b : Nat} {f : Fl} (h : DI w W v room lasts dn b f) (hb : Below W.heap.size W W') : DI w W' v room lasts dn b f :=
  h.far (P := fun _ => False) (Far.of_below hb) (fun k q => q.elim) (fun j _ q => q)
theorem DI.blt {w W : World} {v : Value} {room lasts : Int} {dn : Bool} {b : Nat} {f : Fl} (h : DI w W v room lasts dn b f) : b < W.heap.size := lt_of_block h.g
theorem DI.lies {w W : World} {v : Value} {room lasts : Int} {dn : Bool} {b : Nat} {f : Fl} (h : DI w W v room lasts dn b f) : LiesK encB 1 W (.slice f.a f.b.length f.c) f.b := own_liesK encB_len h.row
theorem FR.free {w : World} {g : Nat} {f : Fl} (h : FR w g f) (j : Nat) : w.frozen? ⟨g, j, none⟩ = false := frozen_of_row _ _ _ _ _ h
/-- Bytes put behind those of the file in the box. -/
theorem cat_file {w W : World} {v : Value} {room lasts : Int} {dn : Bool} {b : Nat} {f : Fl} (h : DI w W v room lasts dn b f) {xv : Value} {xs : List Int} (hx : LiesK encB 1 W xv xs) (hl : f.b.length + xs.length ≤ 200000000) :
    ∃ a' c' w3 w4, (∀ ty, (Builtin.append_ #[33, 33] ty #[.slice f.a f.b.length f.c, xv]).run Try.prog W = .ok (.slice a' (f.b ++ xs).length c') w3) ∧
      (Instr.storeAt 33 (.pointer (some ⟨b, 1, none⟩)) (.slice a' (f.b ++ xs).length c')).run Try.prog w3 = .ok () w4 ∧ DI w w4 v room lasts dn b ⟨f.n, a', c', f.b ++ xs, f.s⟩ ∧
      Far (fun k => b < k) W w3 ∧ Far (fun k => b ≤ k) W w4 := by
  obtain ⟨i0, hi, hz0, hz1, hz2⟩ := info_parts info5
  obtain ⟨v', w3, h2, h3, h4, _⟩ := run_append_src_own (P := Try.prog) W (b + 1) 33 33 0 5 i0 (.int .u8 0) 1 1 Try.u33 hi hz0 hz1 hz2 rfl (by decide) (.slice f.a f.b.length f.c) f.b.length (f.b.flatMap encB) h.row xv xs.length (xs.flatMap encB) (hx.src Try.u33 encB_len (by decide) encB_one) (by unfold maxLen; omega) (by omega) (by have := h.blt; omega)
  obtain ⟨a', c', rfl⟩ := own_shapeK h3
  have hl1 : (f.b ++ xs).length = f.b.length + xs.length := List.length_append
  have ap : ∀ k, (Value.slice f.a f.b.length f.c).ownBlock = some k → b < k := fun k q => by have := (h.row.lt k q).1; omega
  have f3 : Far (fun k => b < k) W w3 := Far.of_grown h4 (fun k e => ap k e)
  have h3' : w3.ownsRow (b + 1) 5 1 (.slice a' (f.b.length + xs.length) c') (f.b.length + xs.length) ((f.b ++ xs).flatMap encB) := by rw [List.flatMap_append]; exact h3
  have g3 : FR w3 b f := h.g.far f3 (fun q => absurd q (Nat.lt_irrefl _))
  have d3 : D0 w w3 v room lasts dn := ⟨h.d.g6.far f3 (fun q => by have := h.lo; omega), h.d.g12.far f3 (fun q => by have := h.lo; omega), h.d.bel.trans (f3.below h.d.bel.size (fun k q => by have := h.lo; omega))⟩
  have f4 := far_set w3 b 1 (.slice a' (f.b.length + xs.length) c')
  have hlo := h.lo
  refine ⟨a', c', w3, w3.setCell ⟨b, 1, none⟩ (.slice a' (f.b.length + xs.length) c'), fun ty => by rw [hl1]; exact h2, by rw [hl1]; exact run_storeV33 w3 b 1 a' _ c' _ g3.cells.2.1 (g3.free 1), ⟨⟨d3.g6.far f4 (fun q => by omega), d3.g12.far f4 (fun q => by omega), d3.bel.trans (f4.below d3.bel.size (fun k q => by omega))⟩, h.lo, ?_, ?_⟩, f3, ?_⟩
  · show FR _ b ⟨f.n, a', c', f.b ++ xs, f.s⟩
    unfold FR at g3 ⊢
    rw [hl1]
    exact row_setC (j := 1) (u := .slice a' (f.b.length + xs.length) c') g3
  · rw [hl1]
    refine f4.row h3' (fun j e q => ?_)
    subst q
    have := (h3'.lt _ e).1
    omega
  · exact (⟨f3.os, f3.tape, f3.output, f3.size, fun k hk q => f3.block k hk (fun e => q (by omega))⟩ : Far (fun k => b ≤ k) W w3).trans f4 (fun k _ q => by subst q; exact Nat.le_refl _)
theorem lies_oldfar {α : Type} {enc : α → List Value} {k : Nat} {w W : World} {u : Value} {l : List α} (h : LiesK enc k w u l) (hb : Below w.heap.size w W) : LiesK enc k W u l := h.step hb
/-- The file's cell, ahead of the copy. -/
theorem DI.new {w W : World} {v : Value} {room lasts : Int} {dn : Bool} (h : D0 w W v room lasts dn) (nm : ByteArray) (s : Int) : DI w (W.alloc (.cells #[.string nm, .slice none 0 0, .int .i64 s] 66)) v room lasts dn W.heap.size ⟨nm, none, 0, [], s⟩ :=
  ⟨h.step (vstep W _), h.big, heap_alloc_new W _, World.ownsRow_nil _ _ _ _⟩
set_option maxHeartbeats 6400000 in
theorem do_full (w : World) (v : Value) (l : List Fl) (room lasts : Int) (h : RD w v l) (hl : l.length < 80000) (nm nt : ByteArray) (bv : Value) (n : Int) (i : Nat) (x : Fl) (hat : atF l nm = (i : Int)) (hx : l[i]? = some x) (hbl : ∀ x ∈ l, x.b.length ≤ 100000000) (bs : List Int) (hbv : LiesK encB 1 w bv bs) (hu : usedF l ≤ 100000000) (hro : 0 ≤ room ∧ room ≤ 16777216) (hful : room - (usedF l : Int) < (bs.length : Int)) :
    Calls Try.prog 29 #[rdv v room lasts false, .int .i64 1, .string nm, bv, .int .i64 n, .string nt] w fun e w' => e = .returned (.tuple #[rdv v room lasts false, .int .i64 7]) ∧ Below w.heap.size w w' := by
  obtain ⟨ba, bc, rfl⟩ := hbv.shape
  have hbm := hbv.len
  clear hbv
  obtain ⟨ao, cap, rfl⟩ := h.1.shape
  have H := Lib.hid h
  have S0 := D0.start w (.slice ao l.length cap) room lasts false
  obtain ⟨W0, hW0⟩ : ∃ y, (w.alloc (.cells #[.slice ao l.length cap, .int .i64 room, .int .i64 lasts, .bool false] 29)).alloc (.cells #[.slice none 0 0, .int .i64 0, .int .i64 0, .bool false] 29) = y := ⟨_, rfl⟩
  rw [hW0] at S0
  have HW := Lib.hid hW0
  have K0 := Lib.hid S0
  have AT := Lib.hid (rat_any W0 (.slice ao l.length cap) l room lasts false (h.step S0.bel) nm (by omega))
  rw [hat] at AT
  have hlm := h.1.len
  clear h S0 hW0
  go_enter Try.func29, Try.ntmps29
  go_upto_region 1 with (fail)
  rw [HW.out]
  obtain ⟨c0, c1, c2, c3⟩ := K0.out.g6.cells
  go_wp2_with fail
  refine AT.out.mono ?_
  rintro e w1 ⟨rfl, hb⟩
  have K1 := Lib.hid (K0.out.step hb)
  clear hb c0 c1 c2 c3 AT
  have hxm := List.mem_of_getElem? hx
  have XB := Lib.hid (hbl x hxm)
  have XL := Lib.hid (lies_cap (H.out.2 x hxm))
  have LX := Lib.hid (H.out.2 x hxm)
  have hlt : i < l.length := (List.getElem?_eq_some_iff.1 hx).1
  obtain ⟨g, o, x2, hao, hx2, hg, a0, a1, a2⟩ := rec_at (H.out.1.keep K1.out.bel (Nat.le_refl _)) hlt
  rw [hx] at hx2
  injection hx2 with hx2
  subst hx2
  subst hao
  have hgw : g < w.heap.size := by
    obtain ⟨g', o', x', e, _, hg', _⟩ := rec_at H.out.1 hlt
    injection e with e
    injection e with e
    omega
  clear hx hxm hbl a0
  obtain ⟨c0, c1, c2, c3⟩ := K1.out.g6.cells
  clear c1 c2 c3
  have D5 := Lib.hid (DI.new K1.out nm x.s)
  have BD := Lib.hid (And.intro (hgw) (show w1.cell? ⟨g, o + i * 3 + 1, none⟩ = some (.slice x.a x.b.length x.c) from a1))
  go_upto_region 14 with (fail)
  obtain ⟨W4, hW4⟩ : ∃ y, w1.alloc (.cells #[.string nm, .slice none 0 0, .int .i64 x.s] 66) = y := ⟨_, rfl⟩
  have V4 := vstep w1 (.cells #[.string nm, .slice none 0 0, .int .i64 x.s] 66)
  rw [hW4] at D5 V4 ⊢
  obtain ⟨b, hb17⟩ : ∃ z, w1.heap.size = z := ⟨_, rfl⟩
  rw [hb17] at D5 ⊢
  have B4 := Lib.hid (V4.cell (p := ⟨g, o + i * 3 + 1, none⟩) (by show g < w1.heap.size; have := K1.out.bel.size; omega))
  have C4 := Lib.hid (B4.out.trans a1)
  clear hb17 V4 hW4 B4 BD a1 a2 c0
  have KD := D5.out.step (show Below W4.heap.size W4 W4.drew from (Below.refl _ _).drew)
  have LD : LiesK encB 1 W4.drew (.slice x.a x.b.length x.c) x.b := LX.out.step (D5.out.d.bel.trans ((show Below W4.heap.size W4 W4.drew from (Below.refl _ _).drew).mono D5.out.d.bel.size))
  obtain ⟨a5, c5, w3, W5, q1, q2, q3, q4, q5⟩ := cat_file KD LD (by have := XB.out; simp; omega)
  have SP : ∀ {W'} (P : Nat → Prop), Far P W4.drew W' → (∀ k, P k → b ≤ k) → (W'.cell? ⟨w.heap.size, 0, none⟩ = some (.slice (some ⟨g, o, none⟩) l.length cap) ∧ W'.cell? ⟨g, o + i * 3 + 1, none⟩ = some (.slice x.a x.b.length x.c)) := fun P hf hp =>
    ⟨hf.cell (p := ⟨w.heap.size, 0, none⟩) KD.d.g6.cells.1 (fun q => by have := hp _ q; have := D5.out.lo; dsimp only at *; omega), hf.cell (p := ⟨g, o + i * 3 + 1, none⟩) C4.out (fun q => by have := hp _ q; have := D5.out.lo; dsimp only at *; omega)⟩
  have S0 := Lib.hid (SP (fun _ => False) (Far.refl _ _) (fun k q => q.elim))
  have S3 := Lib.hid (SP _ q4 (fun k q => Nat.le_of_lt q))
  have S5 := Lib.hid (SP _ q5 (fun k q => q))
  have LV0 := Lib.hid (ldV33 (W := W4.drew) KD.g.cells.2.1)
  have HAP := Lib.hid q1
  have HST := Lib.hid q2
  have I5 := Lib.hid (show DI w W5 (.slice (some ⟨g, o, none⟩) l.length cap) room lasts false b ⟨nm, a5, c5, x.b, x.s⟩ from q3)
  have F5 := Lib.hid q5
  have IX := Lib.hid (fun W => ix27 (W := W) (g := g) (o := o) (c := cap) hlt (by omega))
  clear q1 q2 q3 q4 q5 SP KD LD
  rw [List.nil_append] at HAP HST
  refine wp_region_held_drew (S := fun W => W.cell? ⟨w.heap.size, 0, none⟩ = some (.slice (some ⟨g, o, none⟩) l.length cap) ∧ W.cell? ⟨g, o + i * 3 + 1, none⟩ = some (.slice x.a x.b.length x.c)) (by kernel_rfl) S0.out (fun _ => ?_)
  refine take_at (i := 0) 57 ?_ rfl rfl (by kernel_rfl) (by kernel_rfl) (by kernel_rfl) (fun _ _ _ h => h) (.inl ⟨rfl, ?_⟩) S0.out ?_
  rotate_left 1
  · intro w hSw; go_simp; try with_reducible rfl
  simp only [Act.put, List.setIfInBounds_toArray, List.set_cons_zero, List.set_cons_succ]
  refine take_at (i := 2) 59 ?_ rfl rfl (by kernel_rfl) (by kernel_rfl) (by kernel_rfl) (fun _ _ _ h => h) (.inl ⟨rfl, ?_⟩) S0.out ?_
  rotate_left 1
  · intro w hSw; go_simp; try with_reducible rfl
  simp only [Act.put, List.setIfInBounds_toArray, List.set_cons_zero, List.set_cons_succ]
  refine take_at (i := 3) 60 (.slice (some ⟨g, o, none⟩) l.length cap) rfl rfl (by kernel_rfl) (by kernel_rfl) (by kernel_rfl) (fun _ _ _ h => h) (yields_ld (.tmp 59) 27 (.pointer (some ⟨w.heap.size, 0, none⟩)) _ (fun W hS => ldV27 hS.1) rfl rfl rfl) S0.out ?_
  simp only [Act.put, List.setIfInBounds_toArray, List.set_cons_zero, List.set_cons_succ]
  refine take_at (i := 4) 61 ?_ rfl rfl (by kernel_rfl) (by kernel_rfl) (by kernel_rfl) (fun _ _ _ h => h) (.inl ⟨rfl, ?_⟩) S0.out ?_
  rotate_left 1
  · intro w hSw; go_simp; try with_reducible rfl
  simp only [Act.put, List.setIfInBounds_toArray, List.set_cons_zero, List.set_cons_succ]
  refine take_at (i := 5) 62 (.pointer (some ⟨g, o + i * 3, none⟩)) rfl rfl (by kernel_rfl) (by kernel_rfl) (by kernel_rfl) (fun _ _ _ h => h) (yields_ix (.tmp 60) (.tmp 61) 27 (.slice (some ⟨g, o, none⟩) l.length cap) (.int .i64 (i : Int)) _ (fun W => IX.out W) rfl rfl rfl rfl) S0.out ?_
  simp only [Act.put, List.setIfInBounds_toArray, List.set_cons_zero, List.set_cons_succ]
  refine take_at (i := 6) 63 ?_ rfl rfl (by kernel_rfl) (by kernel_rfl) (by kernel_rfl) (fun _ _ _ h => h) (.inl ⟨rfl, ?_⟩) S0.out ?_
  rotate_left 1
  · intro w hSw; go_simp; try with_reducible rfl
  simp only [Act.put, List.setIfInBounds_toArray, List.set_cons_zero, List.set_cons_succ]
  refine take_at (i := 7) 64 (.slice x.a x.b.length x.c) rfl rfl (by kernel_rfl) (by kernel_rfl) (by kernel_rfl) (fun _ _ _ h => h) (yields_ld (.tmp 63) 33 (.pointer (some ⟨g, o + i * 3 + 1, none⟩)) _ (fun W hS => ldV33 hS.2) rfl rfl rfl) S0.out ?_
  simp only [Act.put, List.setIfInBounds_toArray, List.set_cons_zero, List.set_cons_succ]
  refine wpAnyH_ready (rs := [1]) (by kernel_rfl) (by simp) (br_load (i := 1) 58 (.tmp 57) 33 (.pointer (some ⟨b, 1, none⟩)) (.slice none 0 0) rfl rfl rfl rfl rfl LV0.out S0.out (fun _ => ?_) AllReadyH.nil)
  simp only [Act.put, List.setIfInBounds_toArray, List.set_cons_zero, List.set_cons_succ]
  refine one_append (i := 8) 65 (.tmp 58) (.tmp 64) 33 33 rfl rfl (by kernel_rfl) rfl rfl (.slice none 0 0) (.slice x.a x.b.length x.c) (.slice a5 x.b.length c5) w3 rfl rfl (HAP.out _) S3.out (fun _ => ?_)
  simp only [Act.put, List.setIfInBounds_toArray, List.set_cons_zero, List.set_cons_succ]
  refine take_at (i := 9) 66 ?_ rfl rfl (by kernel_rfl) (by kernel_rfl) (by kernel_rfl) (fun _ _ _ h => h) (.inl ⟨rfl, ?_⟩) S3.out ?_
  rotate_left 1
  · intro w hSw; go_simp; try with_reducible rfl
  simp only [Act.put, List.setIfInBounds_toArray, List.set_cons_zero, List.set_cons_succ]
  refine wpAnyH_ready (rs := [10]) (by kernel_rfl) (by simp) (br_store (i := 10) 33 (.tmp 66) (.tmp 65) (.pointer (some ⟨b, 1, none⟩)) (.slice a5 x.b.length c5) W5 rfl rfl rfl rfl rfl rfl HST.out S5.out (fun _ => ?_) AllReadyH.nil)
  simp only [Act.put, List.setIfInBounds_toArray, List.set_cons_zero, List.set_cons_succ]
  refine wpAnyH_done (by kernel_rfl) ?_ _
  clear S0 S3 S5 LV0 HAP HST IX F5 C4 D5 K1
  clear K0 HW
  obtain ⟨us, hus⟩ : ∃ us, usedF l = us := ⟨_, rfl⟩
  have UU := Lib.hid (fun z : Later W5 => later_call (rused_any z.w (.slice (some ⟨g, o, none⟩) l.length cap) l room lasts false (H.out.step ((I5.out.step z.below).d.bel)) (by omega) hu))
  rw [hus] at UU hful hu
  clear hus
  have CC : ∀ z : Later W5, z.w.cell? ⟨w.heap.size, 1, none⟩ = some (.int .i64 room) := fun z => (I5.out.step z.below).d.g6.cells.2.1
  have D_0 : ∀ z : Later W5, z.w.cell? ⟨w.heap.size, 0, none⟩ = some (.slice (some ⟨g, o, none⟩) l.length cap) := fun z => (I5.out.step z.below).d.g6.cells.1
  have D_2 : ∀ z : Later W5, z.w.cell? ⟨w.heap.size, 2, none⟩ = some (.int .i64 lasts) := fun z => (I5.out.step z.below).d.g6.cells.2.2.1
  have D_3 : ∀ z : Later W5, z.w.cell? ⟨w.heap.size, 3, none⟩ = some (.bool false) := fun z => (I5.out.step z.below).d.g6.cells.2.2.2
  obtain ⟨bl, hbl⟩ : ∃ bl, bs.length = bl := ⟨_, rfl⟩
  rw [hbl] at hful hbm
  simp only [hbl]
  clear hbl
  go_upto_region 16 with (fail)
  refine wp_region_later (by kernel_rfl) (by kernel_rfl) ?_
  repeat (go_big_quiet_step (first | (go_at_call 30; with_reducible exact UU.out _)))
  refine wpQuiet_nil ?_
  rintro _ ⟨z, rfl⟩
  have I6 := Lib.hid (I5.out.step z.below)
  clear CC D_0 D_2 D_3 UU
  generalize z.w = W6 at *
  obtain ⟨c0, c1, c2, c3⟩ := I6.out.d.g6.cells
  obtain ⟨e0, e1, e2, e3⟩ := I6.out.d.g12.cells
  obtain ⟨f0, f1, f2, f3⟩ := I6.out.d.g12.free
  go_wp2
  clear c0 c1 c2 c3 e0 e1 e2 e3 f0 f1 f2 f3
  obtain ⟨w5, hW5⟩ : ∃ w5, sets4 W6 (w.heap.size + 1) (.slice (some ⟨g, o, none⟩) l.length cap) (.int .i64 room) (.int .i64 lasts) (.bool false) = w5 := ⟨_, rfl⟩
  have hb5 := sets4_row (x' := .slice (some ⟨g, o, none⟩) l.length cap) (y' := room) (z' := lasts) (v' := false) I6.out.d.g12
  have hw5 := sets4_below (x := .slice (some ⟨g, o, none⟩) l.length cap) (y := .int .i64 room) (z := .int .i64 lasts) (v := .bool false) I6.out.d.bel (show w.heap.size ≤ w.heap.size + 1 by omega)
  rw [hW5] at hb5 hw5
  unfold sets4 at hW5
  rw [hW5]
  clear hW5
  obtain ⟨d0, d1, d2, d3⟩ := RB.cells (show RB w5 (w.heap.size + 1) (.slice (some ⟨g, o, none⟩) l.length cap) room lasts false from hb5)
  refine bodyPost_ret (by simp [results, Try.results29, go_sem, d0, d1, d2, d3]; try rfl) rfl ?_
  exact ⟨rfl, hw5⟩
set_option maxHeartbeats 6400000 in
theorem do_cutbad (w : World) (v : Value) (l : List Fl) (room lasts : Int) (h : RD w v l) (hl : l.length < 80000) (nm nt : ByteArray) (bv : Value) (n : Int) (i : Nat) (x : Fl) (hat : atF l nm = (i : Int)) (hx : l[i]? = some x) (hbl : ∀ x ∈ l, x.b.length ≤ 100000000) (hn : n < 0 ∨ (x.b.length : Int) < n) :
    Calls Try.prog 29 #[rdv v room lasts false, .int .i64 3, .string nm, bv, .int .i64 n, .string nt] w fun e w' => e = .returned (.tuple #[rdv v room lasts false, .int .i64 2]) ∧ Below w.heap.size w w' := by
  obtain ⟨ao, cap, rfl⟩ := h.1.shape
  have H := Lib.hid h
  have S0 := D0.start w (.slice ao l.length cap) room lasts false
  obtain ⟨W0, hW0⟩ : ∃ y, (w.alloc (.cells #[.slice ao l.length cap, .int .i64 room, .int .i64 lasts, .bool false] 29)).alloc (.cells #[.slice none 0 0, .int .i64 0, .int .i64 0, .bool false] 29) = y := ⟨_, rfl⟩
  rw [hW0] at S0
  have HW := Lib.hid hW0
  have K0 := Lib.hid S0
  have AT := Lib.hid (rat_any W0 (.slice ao l.length cap) l room lasts false (h.step S0.bel) nm (by omega))
  rw [hat] at AT
  have hlm := h.1.len
  clear h S0 hW0
  go_enter Try.func29, Try.ntmps29
  go_upto_region 1 with (fail)
  rw [HW.out]
  obtain ⟨c0, c1, c2, c3⟩ := K0.out.g6.cells
  go_wp2_with fail
  refine AT.out.mono ?_
  rintro e w1 ⟨rfl, hb⟩
  have K1 := Lib.hid (K0.out.step hb)
  clear hb c0 c1 c2 c3 AT
  have hxm := List.mem_of_getElem? hx
  have XB := Lib.hid (hbl x hxm)
  have XL := Lib.hid (lies_cap (H.out.2 x hxm))
  have LX := Lib.hid (H.out.2 x hxm)
  have hlt : i < l.length := (List.getElem?_eq_some_iff.1 hx).1
  obtain ⟨g, o, x2, hao, hx2, hg, a0, a1, a2⟩ := rec_at (H.out.1.keep K1.out.bel (Nat.le_refl _)) hlt
  rw [hx] at hx2
  injection hx2 with hx2
  subst hx2
  subst hao
  have hgw : g < w.heap.size := by
    obtain ⟨g', o', x', e, _, hg', _⟩ := rec_at H.out.1 hlt
    injection e with e
    injection e with e
    omega
  clear hx hxm hbl a0
  obtain ⟨c0, c1, c2, c3⟩ := K1.out.g6.cells
  clear c1 c2 c3
  have D5 := Lib.hid (DI.new K1.out nm x.s)
  have BD := Lib.hid (And.intro (hgw) (show w1.cell? ⟨g, o + i * 3 + 1, none⟩ = some (.slice x.a x.b.length x.c) from a1))
  go_upto_region 14 with (fail)
  obtain ⟨W4, hW4⟩ : ∃ y, w1.alloc (.cells #[.string nm, .slice none 0 0, .int .i64 x.s] 66) = y := ⟨_, rfl⟩
  have V4 := vstep w1 (.cells #[.string nm, .slice none 0 0, .int .i64 x.s] 66)
  rw [hW4] at D5 V4 ⊢
  obtain ⟨b, hb17⟩ : ∃ z, w1.heap.size = z := ⟨_, rfl⟩
  rw [hb17] at D5 ⊢
  have B4 := Lib.hid (V4.cell (p := ⟨g, o + i * 3 + 1, none⟩) (by show g < w1.heap.size; have := K1.out.bel.size; omega))
  have C4 := Lib.hid (B4.out.trans a1)
  clear hb17 V4 hW4 B4 BD a1 a2 c0
  have KD := D5.out.step (show Below W4.heap.size W4 W4.drew from (Below.refl _ _).drew)
  have LD : LiesK encB 1 W4.drew (.slice x.a x.b.length x.c) x.b := LX.out.step (D5.out.d.bel.trans ((show Below W4.heap.size W4 W4.drew from (Below.refl _ _).drew).mono D5.out.d.bel.size))
  obtain ⟨a5, c5, w3, W5, q1, q2, q3, q4, q5⟩ := cat_file KD LD (by have := XB.out; simp; omega)
  have SP : ∀ {W'} (P : Nat → Prop), Far P W4.drew W' → (∀ k, P k → b ≤ k) → (W'.cell? ⟨w.heap.size, 0, none⟩ = some (.slice (some ⟨g, o, none⟩) l.length cap) ∧ W'.cell? ⟨g, o + i * 3 + 1, none⟩ = some (.slice x.a x.b.length x.c)) := fun P hf hp =>
    ⟨hf.cell (p := ⟨w.heap.size, 0, none⟩) KD.d.g6.cells.1 (fun q => by have := hp _ q; have := D5.out.lo; dsimp only at *; omega), hf.cell (p := ⟨g, o + i * 3 + 1, none⟩) C4.out (fun q => by have := hp _ q; have := D5.out.lo; dsimp only at *; omega)⟩
  have S0 := Lib.hid (SP (fun _ => False) (Far.refl _ _) (fun k q => q.elim))
  have S3 := Lib.hid (SP _ q4 (fun k q => Nat.le_of_lt q))
  have S5 := Lib.hid (SP _ q5 (fun k q => q))
  have LV0 := Lib.hid (ldV33 (W := W4.drew) KD.g.cells.2.1)
  have HAP := Lib.hid q1
  have HST := Lib.hid q2
  have I5 := Lib.hid (show DI w W5 (.slice (some ⟨g, o, none⟩) l.length cap) room lasts false b ⟨nm, a5, c5, x.b, x.s⟩ from q3)
  have F5 := Lib.hid q5
  have IX := Lib.hid (fun W => ix27 (W := W) (g := g) (o := o) (c := cap) hlt (by omega))
  clear q1 q2 q3 q4 q5 SP KD LD
  rw [List.nil_append] at HAP HST
  refine wp_region_held_drew (S := fun W => W.cell? ⟨w.heap.size, 0, none⟩ = some (.slice (some ⟨g, o, none⟩) l.length cap) ∧ W.cell? ⟨g, o + i * 3 + 1, none⟩ = some (.slice x.a x.b.length x.c)) (by kernel_rfl) S0.out (fun _ => ?_)
  refine take_at (i := 0) 57 ?_ rfl rfl (by kernel_rfl) (by kernel_rfl) (by kernel_rfl) (fun _ _ _ h => h) (.inl ⟨rfl, ?_⟩) S0.out ?_
  rotate_left 1
  · intro w hSw; go_simp; try with_reducible rfl
  simp only [Act.put, List.setIfInBounds_toArray, List.set_cons_zero, List.set_cons_succ]
  refine take_at (i := 2) 59 ?_ rfl rfl (by kernel_rfl) (by kernel_rfl) (by kernel_rfl) (fun _ _ _ h => h) (.inl ⟨rfl, ?_⟩) S0.out ?_
  rotate_left 1
  · intro w hSw; go_simp; try with_reducible rfl
  simp only [Act.put, List.setIfInBounds_toArray, List.set_cons_zero, List.set_cons_succ]
  refine take_at (i := 3) 60 (.slice (some ⟨g, o, none⟩) l.length cap) rfl rfl (by kernel_rfl) (by kernel_rfl) (by kernel_rfl) (fun _ _ _ h => h) (yields_ld (.tmp 59) 27 (.pointer (some ⟨w.heap.size, 0, none⟩)) _ (fun W hS => ldV27 hS.1) rfl rfl rfl) S0.out ?_
  simp only [Act.put, List.setIfInBounds_toArray, List.set_cons_zero, List.set_cons_succ]
  refine take_at (i := 4) 61 ?_ rfl rfl (by kernel_rfl) (by kernel_rfl) (by kernel_rfl) (fun _ _ _ h => h) (.inl ⟨rfl, ?_⟩) S0.out ?_
  rotate_left 1
  · intro w hSw; go_simp; try with_reducible rfl
  simp only [Act.put, List.setIfInBounds_toArray, List.set_cons_zero, List.set_cons_succ]
  refine take_at (i := 5) 62 (.pointer (some ⟨g, o + i * 3, none⟩)) rfl rfl (by kernel_rfl) (by kernel_rfl) (by kernel_rfl) (fun _ _ _ h => h) (yields_ix (.tmp 60) (.tmp 61) 27 (.slice (some ⟨g, o, none⟩) l.length cap) (.int .i64 (i : Int)) _ (fun W => IX.out W) rfl rfl rfl rfl) S0.out ?_
  simp only [Act.put, List.setIfInBounds_toArray, List.set_cons_zero, List.set_cons_succ]
  refine take_at (i := 6) 63 ?_ rfl rfl (by kernel_rfl) (by kernel_rfl) (by kernel_rfl) (fun _ _ _ h => h) (.inl ⟨rfl, ?_⟩) S0.out ?_
  rotate_left 1
  · intro w hSw; go_simp; try with_reducible rfl
  simp only [Act.put, List.setIfInBounds_toArray, List.set_cons_zero, List.set_cons_succ]
  refine take_at (i := 7) 64 (.slice x.a x.b.length x.c) rfl rfl (by kernel_rfl) (by kernel_rfl) (by kernel_rfl) (fun _ _ _ h => h) (yields_ld (.tmp 63) 33 (.pointer (some ⟨g, o + i * 3 + 1, none⟩)) _ (fun W hS => ldV33 hS.2) rfl rfl rfl) S0.out ?_
  simp only [Act.put, List.setIfInBounds_toArray, List.set_cons_zero, List.set_cons_succ]
  refine wpAnyH_ready (rs := [1]) (by kernel_rfl) (by simp) (br_load (i := 1) 58 (.tmp 57) 33 (.pointer (some ⟨b, 1, none⟩)) (.slice none 0 0) rfl rfl rfl rfl rfl LV0.out S0.out (fun _ => ?_) AllReadyH.nil)
  simp only [Act.put, List.setIfInBounds_toArray, List.set_cons_zero, List.set_cons_succ]
  refine one_append (i := 8) 65 (.tmp 58) (.tmp 64) 33 33 rfl rfl (by kernel_rfl) rfl rfl (.slice none 0 0) (.slice x.a x.b.length x.c) (.slice a5 x.b.length c5) w3 rfl rfl (HAP.out _) S3.out (fun _ => ?_)
  simp only [Act.put, List.setIfInBounds_toArray, List.set_cons_zero, List.set_cons_succ]
  refine take_at (i := 9) 66 ?_ rfl rfl (by kernel_rfl) (by kernel_rfl) (by kernel_rfl) (fun _ _ _ h => h) (.inl ⟨rfl, ?_⟩) S3.out ?_
  rotate_left 1
  · intro w hSw; go_simp; try with_reducible rfl
  simp only [Act.put, List.setIfInBounds_toArray, List.set_cons_zero, List.set_cons_succ]
  refine wpAnyH_ready (rs := [10]) (by kernel_rfl) (by simp) (br_store (i := 10) 33 (.tmp 66) (.tmp 65) (.pointer (some ⟨b, 1, none⟩)) (.slice a5 x.b.length c5) W5 rfl rfl rfl rfl rfl rfl HST.out S5.out (fun _ => ?_) AllReadyH.nil)
  simp only [Act.put, List.setIfInBounds_toArray, List.set_cons_zero, List.set_cons_succ]
  refine wpAnyH_done (by kernel_rfl) ?_ _
  clear S0 S3 S5 LV0 HAP HST IX F5 C4 D5 K1
  clear K0 HW
  obtain ⟨c0, c1, c2, c3⟩ := I5.out.d.g6.cells
  obtain ⟨r0, r1, r2⟩ := I5.out.g.cells
  have hxb := XB.out
  rcases hn with hn | hn
  · clear r0 r2
    obtain ⟨e0, e1, e2, e3⟩ := I5.out.d.g12.cells
    obtain ⟨f0, f1, f2, f3⟩ := I5.out.d.g12.free
    go_wp2
    clear c0 c1 c2 c3 e0 e1 e2 e3 f0 f1 f2 f3
    obtain ⟨w5, hW5⟩ : ∃ w5, sets4 W5 (w.heap.size + 1) (.slice (some ⟨g, o, none⟩) l.length cap) (.int .i64 room) (.int .i64 lasts) (.bool false) = w5 := ⟨_, rfl⟩
    have hb5 := sets4_row (x' := .slice (some ⟨g, o, none⟩) l.length cap) (y' := room) (z' := lasts) (v' := false) I5.out.d.g12
    have hw5 := sets4_below (x := .slice (some ⟨g, o, none⟩) l.length cap) (y := .int .i64 room) (z := .int .i64 lasts) (v := .bool false) I5.out.d.bel (show w.heap.size ≤ w.heap.size + 1 by omega)
    rw [hW5] at hb5 hw5
    unfold sets4 at hW5
    rw [hW5]
    clear hW5
    obtain ⟨d0, d1, d2, d3⟩ := RB.cells (show RB w5 (w.heap.size + 1) (.slice (some ⟨g, o, none⟩) l.length cap) room lasts false from hb5)
    refine bodyPost_ret (by simp [results, Try.results29, go_sem, d0, d1, d2, d3]; try rfl) rfl ?_
    exact ⟨rfl, hw5⟩
  · have hn0 : ¬ n < 0 := by omega
    clear r0 r2
    obtain ⟨e0, e1, e2, e3⟩ := I5.out.d.g12.cells
    obtain ⟨f0, f1, f2, f3⟩ := I5.out.d.g12.free
    go_wp2
    clear c0 c1 c2 c3 e0 e1 e2 e3 f0 f1 f2 f3
    obtain ⟨w5, hW5⟩ : ∃ w5, sets4 W5 (w.heap.size + 1) (.slice (some ⟨g, o, none⟩) l.length cap) (.int .i64 room) (.int .i64 lasts) (.bool false) = w5 := ⟨_, rfl⟩
    have hb5 := sets4_row (x' := .slice (some ⟨g, o, none⟩) l.length cap) (y' := room) (z' := lasts) (v' := false) I5.out.d.g12
    have hw5 := sets4_below (x := .slice (some ⟨g, o, none⟩) l.length cap) (y := .int .i64 room) (z := .int .i64 lasts) (v := .bool false) I5.out.d.bel (show w.heap.size ≤ w.heap.size + 1 by omega)
    rw [hW5] at hb5 hw5
    unfold sets4 at hW5
    rw [hW5]
    clear hW5
    obtain ⟨d0, d1, d2, d3⟩ := RB.cells (show RB w5 (w.heap.size + 1) (.slice (some ⟨g, o, none⟩) l.length cap) room lasts false from hb5)
    refine bodyPost_ret (by simp [results, Try.results29, go_sem, d0, d1, d2, d3]; try rfl) rfl ?_
    exact ⟨rfl, hw5⟩
set_option maxHeartbeats 6400000 in
theorem do_stop2 (w : World) (v : Value) (l : List Fl) (room lasts : Int) (h : RD w v l) (hl : l.length < 80000) (nm nt : ByteArray) (bv : Value) (n : Int) (i : Nat) (x : Fl) (hat : atF l nm = (i : Int)) (hx : l[i]? = some x) (hbl : ∀ x ∈ l, x.b.length ≤ 100000000) (hla : lasts ≤ 9223372036854775807) (l2 : Int) (d2 : Bool) (hr : rst lasts false = (l2, d2, false)) :
    Calls Try.prog 29 #[rdv v room lasts false, .int .i64 2, .string nm, bv, .int .i64 n, .string nt] w fun e w' => e = .returned (.tuple #[rdv v room l2 d2, .int .i64 12]) ∧ Below w.heap.size w w' := by
  obtain ⟨ao, cap, rfl⟩ := h.1.shape
  have H := Lib.hid h
  have S0 := D0.start w (.slice ao l.length cap) room lasts false
  obtain ⟨W0, hW0⟩ : ∃ y, (w.alloc (.cells #[.slice ao l.length cap, .int .i64 room, .int .i64 lasts, .bool false] 29)).alloc (.cells #[.slice none 0 0, .int .i64 0, .int .i64 0, .bool false] 29) = y := ⟨_, rfl⟩
  rw [hW0] at S0
  have HW := Lib.hid hW0
  have K0 := Lib.hid S0
  have AT := Lib.hid (rat_any W0 (.slice ao l.length cap) l room lasts false (h.step S0.bel) nm (by omega))
  rw [hat] at AT
  have hlm := h.1.len
  clear h S0 hW0
  go_enter Try.func29, Try.ntmps29
  go_upto_region 1 with (fail)
  rw [HW.out]
  obtain ⟨c0, c1, c2, c3⟩ := K0.out.g6.cells
  go_wp2_with fail
  refine AT.out.mono ?_
  rintro e w1 ⟨rfl, hb⟩
  have K1 := Lib.hid (K0.out.step hb)
  clear hb c0 c1 c2 c3 AT
  have hxm := List.mem_of_getElem? hx
  have XB := Lib.hid (hbl x hxm)
  have XL := Lib.hid (lies_cap (H.out.2 x hxm))
  have LX := Lib.hid (H.out.2 x hxm)
  have hlt : i < l.length := (List.getElem?_eq_some_iff.1 hx).1
  obtain ⟨g, o, x2, hao, hx2, hg, a0, a1, a2⟩ := rec_at (H.out.1.keep K1.out.bel (Nat.le_refl _)) hlt
  rw [hx] at hx2
  injection hx2 with hx2
  subst hx2
  subst hao
  have hgw : g < w.heap.size := by
    obtain ⟨g', o', x', e, _, hg', _⟩ := rec_at H.out.1 hlt
    injection e with e
    injection e with e
    omega
  clear hx hxm hbl a0
  obtain ⟨c0, c1, c2, c3⟩ := K1.out.g6.cells
  clear c1 c2 c3
  have D5 := Lib.hid (DI.new K1.out nm x.s)
  have BD := Lib.hid (And.intro (hgw) (show w1.cell? ⟨g, o + i * 3 + 1, none⟩ = some (.slice x.a x.b.length x.c) from a1))
  go_upto_region 14 with (fail)
  obtain ⟨W4, hW4⟩ : ∃ y, w1.alloc (.cells #[.string nm, .slice none 0 0, .int .i64 x.s] 66) = y := ⟨_, rfl⟩
  have V4 := vstep w1 (.cells #[.string nm, .slice none 0 0, .int .i64 x.s] 66)
  rw [hW4] at D5 V4 ⊢
  obtain ⟨b, hb17⟩ : ∃ z, w1.heap.size = z := ⟨_, rfl⟩
  rw [hb17] at D5 ⊢
  have B4 := Lib.hid (V4.cell (p := ⟨g, o + i * 3 + 1, none⟩) (by show g < w1.heap.size; have := K1.out.bel.size; omega))
  have C4 := Lib.hid (B4.out.trans a1)
  clear hb17 V4 hW4 B4 BD a1 a2 c0
  have KD := D5.out.step (show Below W4.heap.size W4 W4.drew from (Below.refl _ _).drew)
  have LD : LiesK encB 1 W4.drew (.slice x.a x.b.length x.c) x.b := LX.out.step (D5.out.d.bel.trans ((show Below W4.heap.size W4 W4.drew from (Below.refl _ _).drew).mono D5.out.d.bel.size))
  obtain ⟨a5, c5, w3, W5, q1, q2, q3, q4, q5⟩ := cat_file KD LD (by have := XB.out; simp; omega)
  have SP : ∀ {W'} (P : Nat → Prop), Far P W4.drew W' → (∀ k, P k → b ≤ k) → (W'.cell? ⟨w.heap.size, 0, none⟩ = some (.slice (some ⟨g, o, none⟩) l.length cap) ∧ W'.cell? ⟨g, o + i * 3 + 1, none⟩ = some (.slice x.a x.b.length x.c)) := fun P hf hp =>
    ⟨hf.cell (p := ⟨w.heap.size, 0, none⟩) KD.d.g6.cells.1 (fun q => by have := hp _ q; have := D5.out.lo; dsimp only at *; omega), hf.cell (p := ⟨g, o + i * 3 + 1, none⟩) C4.out (fun q => by have := hp _ q; have := D5.out.lo; dsimp only at *; omega)⟩
  have S0 := Lib.hid (SP (fun _ => False) (Far.refl _ _) (fun k q => q.elim))
  have S3 := Lib.hid (SP _ q4 (fun k q => Nat.le_of_lt q))
  have S5 := Lib.hid (SP _ q5 (fun k q => q))
  have LV0 := Lib.hid (ldV33 (W := W4.drew) KD.g.cells.2.1)
  have HAP := Lib.hid q1
  have HST := Lib.hid q2
  have I5 := Lib.hid (show DI w W5 (.slice (some ⟨g, o, none⟩) l.length cap) room lasts false b ⟨nm, a5, c5, x.b, x.s⟩ from q3)
  have F5 := Lib.hid q5
  have IX := Lib.hid (fun W => ix27 (W := W) (g := g) (o := o) (c := cap) hlt (by omega))
  clear q1 q2 q3 q4 q5 SP KD LD
  rw [List.nil_append] at HAP HST
  refine wp_region_held_drew (S := fun W => W.cell? ⟨w.heap.size, 0, none⟩ = some (.slice (some ⟨g, o, none⟩) l.length cap) ∧ W.cell? ⟨g, o + i * 3 + 1, none⟩ = some (.slice x.a x.b.length x.c)) (by kernel_rfl) S0.out (fun _ => ?_)
  refine take_at (i := 0) 57 ?_ rfl rfl (by kernel_rfl) (by kernel_rfl) (by kernel_rfl) (fun _ _ _ h => h) (.inl ⟨rfl, ?_⟩) S0.out ?_
  rotate_left 1
  · intro w hSw; go_simp; try with_reducible rfl
  simp only [Act.put, List.setIfInBounds_toArray, List.set_cons_zero, List.set_cons_succ]
  refine take_at (i := 2) 59 ?_ rfl rfl (by kernel_rfl) (by kernel_rfl) (by kernel_rfl) (fun _ _ _ h => h) (.inl ⟨rfl, ?_⟩) S0.out ?_
  rotate_left 1
  · intro w hSw; go_simp; try with_reducible rfl
  simp only [Act.put, List.setIfInBounds_toArray, List.set_cons_zero, List.set_cons_succ]
  refine take_at (i := 3) 60 (.slice (some ⟨g, o, none⟩) l.length cap) rfl rfl (by kernel_rfl) (by kernel_rfl) (by kernel_rfl) (fun _ _ _ h => h) (yields_ld (.tmp 59) 27 (.pointer (some ⟨w.heap.size, 0, none⟩)) _ (fun W hS => ldV27 hS.1) rfl rfl rfl) S0.out ?_
  simp only [Act.put, List.setIfInBounds_toArray, List.set_cons_zero, List.set_cons_succ]
  refine take_at (i := 4) 61 ?_ rfl rfl (by kernel_rfl) (by kernel_rfl) (by kernel_rfl) (fun _ _ _ h => h) (.inl ⟨rfl, ?_⟩) S0.out ?_
  rotate_left 1
  · intro w hSw; go_simp; try with_reducible rfl
  simp only [Act.put, List.setIfInBounds_toArray, List.set_cons_zero, List.set_cons_succ]
  refine take_at (i := 5) 62 (.pointer (some ⟨g, o + i * 3, none⟩)) rfl rfl (by kernel_rfl) (by kernel_rfl) (by kernel_rfl) (fun _ _ _ h => h) (yields_ix (.tmp 60) (.tmp 61) 27 (.slice (some ⟨g, o, none⟩) l.length cap) (.int .i64 (i : Int)) _ (fun W => IX.out W) rfl rfl rfl rfl) S0.out ?_
  simp only [Act.put, List.setIfInBounds_toArray, List.set_cons_zero, List.set_cons_succ]
  refine take_at (i := 6) 63 ?_ rfl rfl (by kernel_rfl) (by kernel_rfl) (by kernel_rfl) (fun _ _ _ h => h) (.inl ⟨rfl, ?_⟩) S0.out ?_
  rotate_left 1
  · intro w hSw; go_simp; try with_reducible rfl
  simp only [Act.put, List.setIfInBounds_toArray, List.set_cons_zero, List.set_cons_succ]
  refine take_at (i := 7) 64 (.slice x.a x.b.length x.c) rfl rfl (by kernel_rfl) (by kernel_rfl) (by kernel_rfl) (fun _ _ _ h => h) (yields_ld (.tmp 63) 33 (.pointer (some ⟨g, o + i * 3 + 1, none⟩)) _ (fun W hS => ldV33 hS.2) rfl rfl rfl) S0.out ?_
  simp only [Act.put, List.setIfInBounds_toArray, List.set_cons_zero, List.set_cons_succ]
  refine wpAnyH_ready (rs := [1]) (by kernel_rfl) (by simp) (br_load (i := 1) 58 (.tmp 57) 33 (.pointer (some ⟨b, 1, none⟩)) (.slice none 0 0) rfl rfl rfl rfl rfl LV0.out S0.out (fun _ => ?_) AllReadyH.nil)
  simp only [Act.put, List.setIfInBounds_toArray, List.set_cons_zero, List.set_cons_succ]
  refine one_append (i := 8) 65 (.tmp 58) (.tmp 64) 33 33 rfl rfl (by kernel_rfl) rfl rfl (.slice none 0 0) (.slice x.a x.b.length x.c) (.slice a5 x.b.length c5) w3 rfl rfl (HAP.out _) S3.out (fun _ => ?_)
  simp only [Act.put, List.setIfInBounds_toArray, List.set_cons_zero, List.set_cons_succ]
  refine take_at (i := 9) 66 ?_ rfl rfl (by kernel_rfl) (by kernel_rfl) (by kernel_rfl) (fun _ _ _ h => h) (.inl ⟨rfl, ?_⟩) S3.out ?_
  rotate_left 1
  · intro w hSw; go_simp; try with_reducible rfl
  simp only [Act.put, List.setIfInBounds_toArray, List.set_cons_zero, List.set_cons_succ]
  refine wpAnyH_ready (rs := [10]) (by kernel_rfl) (by simp) (br_store (i := 10) 33 (.tmp 66) (.tmp 65) (.pointer (some ⟨b, 1, none⟩)) (.slice a5 x.b.length c5) W5 rfl rfl rfl rfl rfl rfl HST.out S5.out (fun _ => ?_) AllReadyH.nil)
  simp only [Act.put, List.setIfInBounds_toArray, List.set_cons_zero, List.set_cons_succ]
  refine wpAnyH_done (by kernel_rfl) ?_ _
  clear S0 S3 S5 LV0 HAP HST IX F5 C4 D5 K1
  clear K0 HW
  obtain ⟨c0, c1, c2, c3⟩ := I5.out.d.g6.cells
  obtain ⟨r0, r1, r2⟩ := I5.out.g.cells
  have hxb := XB.out
  have ST := Lib.hid (rstep_any W5 (some ⟨g, o, none⟩) l.length cap room lasts false hla)
  rw [hr] at ST
  go_wp2_with fail
  refine ST.out.mono ?_
  rintro e w6 ⟨rfl, hb⟩
  have I6 := Lib.hid (I5.out.step hb)
  clear hb c0 c1 c2 c3 r0 r1 r2 ST
  have VB := vstep w6 (.cells #[.slice (some ⟨g, o, none⟩) l.length cap, .int .i64 room, .int .i64 l2, .bool d2] 29)
  have I7 := Lib.hid (I6.out.step VB)
  have BX := Lib.hid (RB.new w6 (.slice (some ⟨g, o, none⟩) l.length cap) room l2 d2)
  have BLO := Lib.hid (I6.out.blt)
  have OWN := Lib.hid (fun j (q : (Value.slice a5 x.b.length c5).ownBlock = some j) => (I6.out.row.lt j q).2)
  go_upto_region 30 with (fail)
  obtain ⟨W7, hW7⟩ : ∃ y, w6.alloc (.cells #[.slice (some ⟨g, o, none⟩) l.length cap, .int .i64 room, .int .i64 l2, .bool d2] 29) = y := ⟨_, rfl⟩
  rw [hW7] at I7 BX VB ⊢
  obtain ⟨bx, hbx⟩ : ∃ z, w6.heap.size = z := ⟨_, rfl⟩
  rw [hbx] at BX BLO OWN ⊢
  clear hW7 hbx VB I6
  obtain ⟨c0, c1, c2, c3⟩ := BX.out.cells
  obtain ⟨e0, e1, e2, e3⟩ := I7.out.d.g12.cells
  obtain ⟨f0, f1, f2, f3⟩ := I7.out.d.g12.free
  go_wp2
  clear c0 c1 c2 c3 e0 e1 e2 e3 f0 f1 f2 f3
  obtain ⟨w5, hW5⟩ : ∃ w5, sets4 W7 (w.heap.size + 1) (.slice (some ⟨g, o, none⟩) l.length cap) (.int .i64 room) (.int .i64 l2) (.bool d2) = w5 := ⟨_, rfl⟩
  have hb5 := sets4_row (x' := .slice (some ⟨g, o, none⟩) l.length cap) (y' := room) (z' := l2) (v' := d2) I7.out.d.g12
  have hw5 := sets4_below (x := .slice (some ⟨g, o, none⟩) l.length cap) (y := .int .i64 room) (z := .int .i64 l2) (v := .bool d2) I7.out.d.bel (show w.heap.size ≤ w.heap.size + 1 by omega)
  rw [hW5] at hb5 hw5
  unfold sets4 at hW5
  rw [hW5]
  clear hW5
  obtain ⟨d0, d1, d2, d3⟩ := RB.cells (show RB w5 (w.heap.size + 1) (.slice (some ⟨g, o, none⟩) l.length cap) room l2 d2 from hb5)
  refine bodyPost_ret (by simp [results, Try.results29, go_sem, d0, d1, d2, d3]; try rfl) rfl ?_
  exact ⟨rfl, hw5⟩
set_option maxHeartbeats 6400000 in
theorem do_stop3 (w : World) (v : Value) (l : List Fl) (room lasts : Int) (h : RD w v l) (hl : l.length < 80000) (nm nt : ByteArray) (bv : Value) (n : Int) (i : Nat) (x : Fl) (hat : atF l nm = (i : Int)) (hx : l[i]? = some x) (hbl : ∀ x ∈ l, x.b.length ≤ 100000000) (hn : 0 ≤ n ∧ n ≤ (x.b.length : Int)) (hla : lasts ≤ 9223372036854775807) (l2 : Int) (d2 : Bool) (hr : rst lasts false = (l2, d2, false)) :
    Calls Try.prog 29 #[rdv v room lasts false, .int .i64 3, .string nm, bv, .int .i64 n, .string nt] w fun e w' => e = .returned (.tuple #[rdv v room l2 d2, .int .i64 12]) ∧ Below w.heap.size w w' := by
  obtain ⟨ao, cap, rfl⟩ := h.1.shape
  have H := Lib.hid h
  have S0 := D0.start w (.slice ao l.length cap) room lasts false
  obtain ⟨W0, hW0⟩ : ∃ y, (w.alloc (.cells #[.slice ao l.length cap, .int .i64 room, .int .i64 lasts, .bool false] 29)).alloc (.cells #[.slice none 0 0, .int .i64 0, .int .i64 0, .bool false] 29) = y := ⟨_, rfl⟩
  rw [hW0] at S0
  have HW := Lib.hid hW0
  have K0 := Lib.hid S0
  have AT := Lib.hid (rat_any W0 (.slice ao l.length cap) l room lasts false (h.step S0.bel) nm (by omega))
  rw [hat] at AT
  have hlm := h.1.len
  clear h S0 hW0
  go_enter Try.func29, Try.ntmps29
  go_upto_region 1 with (fail)
  rw [HW.out]
  obtain ⟨c0, c1, c2, c3⟩ := K0.out.g6.cells
  go_wp2_with fail
  refine AT.out.mono ?_
  rintro e w1 ⟨rfl, hb⟩
  have K1 := Lib.hid (K0.out.step hb)
  clear hb c0 c1 c2 c3 AT
  have hxm := List.mem_of_getElem? hx
  have XB := Lib.hid (hbl x hxm)
  have XL := Lib.hid (lies_cap (H.out.2 x hxm))
  have LX := Lib.hid (H.out.2 x hxm)
  have hlt : i < l.length := (List.getElem?_eq_some_iff.1 hx).1
  obtain ⟨g, o, x2, hao, hx2, hg, a0, a1, a2⟩ := rec_at (H.out.1.keep K1.out.bel (Nat.le_refl _)) hlt
  rw [hx] at hx2
  injection hx2 with hx2
  subst hx2
  subst hao
  have hgw : g < w.heap.size := by
    obtain ⟨g', o', x', e, _, hg', _⟩ := rec_at H.out.1 hlt
    injection e with e
    injection e with e
    omega
  clear hx hxm hbl a0
  obtain ⟨c0, c1, c2, c3⟩ := K1.out.g6.cells
  clear c1 c2 c3
  have D5 := Lib.hid (DI.new K1.out nm x.s)
  have BD := Lib.hid (And.intro (hgw) (show w1.cell? ⟨g, o + i * 3 + 1, none⟩ = some (.slice x.a x.b.length x.c) from a1))
  go_upto_region 14 with (fail)
  obtain ⟨W4, hW4⟩ : ∃ y, w1.alloc (.cells #[.string nm, .slice none 0 0, .int .i64 x.s] 66) = y := ⟨_, rfl⟩
  have V4 := vstep w1 (.cells #[.string nm, .slice none 0 0, .int .i64 x.s] 66)
  rw [hW4] at D5 V4 ⊢
  obtain ⟨b, hb17⟩ : ∃ z, w1.heap.size = z := ⟨_, rfl⟩
  rw [hb17] at D5 ⊢
  have B4 := Lib.hid (V4.cell (p := ⟨g, o + i * 3 + 1, none⟩) (by show g < w1.heap.size; have := K1.out.bel.size; omega))
  have C4 := Lib.hid (B4.out.trans a1)
  clear hb17 V4 hW4 B4 BD a1 a2 c0
  have KD := D5.out.step (show Below W4.heap.size W4 W4.drew from (Below.refl _ _).drew)
  have LD : LiesK encB 1 W4.drew (.slice x.a x.b.length x.c) x.b := LX.out.step (D5.out.d.bel.trans ((show Below W4.heap.size W4 W4.drew from (Below.refl _ _).drew).mono D5.out.d.bel.size))
  obtain ⟨a5, c5, w3, W5, q1, q2, q3, q4, q5⟩ := cat_file KD LD (by have := XB.out; simp; omega)
  have SP : ∀ {W'} (P : Nat → Prop), Far P W4.drew W' → (∀ k, P k → b ≤ k) → (W'.cell? ⟨w.heap.size, 0, none⟩ = some (.slice (some ⟨g, o, none⟩) l.length cap) ∧ W'.cell? ⟨g, o + i * 3 + 1, none⟩ = some (.slice x.a x.b.length x.c)) := fun P hf hp =>
    ⟨hf.cell (p := ⟨w.heap.size, 0, none⟩) KD.d.g6.cells.1 (fun q => by have := hp _ q; have := D5.out.lo; dsimp only at *; omega), hf.cell (p := ⟨g, o + i * 3 + 1, none⟩) C4.out (fun q => by have := hp _ q; have := D5.out.lo; dsimp only at *; omega)⟩
  have S0 := Lib.hid (SP (fun _ => False) (Far.refl _ _) (fun k q => q.elim))
  have S3 := Lib.hid (SP _ q4 (fun k q => Nat.le_of_lt q))
  have S5 := Lib.hid (SP _ q5 (fun k q => q))
  have LV0 := Lib.hid (ldV33 (W := W4.drew) KD.g.cells.2.1)
  have HAP := Lib.hid q1
  have HST := Lib.hid q2
  have I5 := Lib.hid (show DI w W5 (.slice (some ⟨g, o, none⟩) l.length cap) room lasts false b ⟨nm, a5, c5, x.b, x.s⟩ from q3)
  have F5 := Lib.hid q5
  have IX := Lib.hid (fun W => ix27 (W := W) (g := g) (o := o) (c := cap) hlt (by omega))
  clear q1 q2 q3 q4 q5 SP KD LD
  rw [List.nil_append] at HAP HST
  refine wp_region_held_drew (S := fun W => W.cell? ⟨w.heap.size, 0, none⟩ = some (.slice (some ⟨g, o, none⟩) l.length cap) ∧ W.cell? ⟨g, o + i * 3 + 1, none⟩ = some (.slice x.a x.b.length x.c)) (by kernel_rfl) S0.out (fun _ => ?_)
  refine take_at (i := 0) 57 ?_ rfl rfl (by kernel_rfl) (by kernel_rfl) (by kernel_rfl) (fun _ _ _ h => h) (.inl ⟨rfl, ?_⟩) S0.out ?_
  rotate_left 1
  · intro w hSw; go_simp; try with_reducible rfl
  simp only [Act.put, List.setIfInBounds_toArray, List.set_cons_zero, List.set_cons_succ]
  refine take_at (i := 2) 59 ?_ rfl rfl (by kernel_rfl) (by kernel_rfl) (by kernel_rfl) (fun _ _ _ h => h) (.inl ⟨rfl, ?_⟩) S0.out ?_
  rotate_left 1
  · intro w hSw; go_simp; try with_reducible rfl
  simp only [Act.put, List.setIfInBounds_toArray, List.set_cons_zero, List.set_cons_succ]
  refine take_at (i := 3) 60 (.slice (some ⟨g, o, none⟩) l.length cap) rfl rfl (by kernel_rfl) (by kernel_rfl) (by kernel_rfl) (fun _ _ _ h => h) (yields_ld (.tmp 59) 27 (.pointer (some ⟨w.heap.size, 0, none⟩)) _ (fun W hS => ldV27 hS.1) rfl rfl rfl) S0.out ?_
  simp only [Act.put, List.setIfInBounds_toArray, List.set_cons_zero, List.set_cons_succ]
  refine take_at (i := 4) 61 ?_ rfl rfl (by kernel_rfl) (by kernel_rfl) (by kernel_rfl) (fun _ _ _ h => h) (.inl ⟨rfl, ?_⟩) S0.out ?_
  rotate_left 1
  · intro w hSw; go_simp; try with_reducible rfl
  simp only [Act.put, List.setIfInBounds_toArray, List.set_cons_zero, List.set_cons_succ]
  refine take_at (i := 5) 62 (.pointer (some ⟨g, o + i * 3, none⟩)) rfl rfl (by kernel_rfl) (by kernel_rfl) (by kernel_rfl) (fun _ _ _ h => h) (yields_ix (.tmp 60) (.tmp 61) 27 (.slice (some ⟨g, o, none⟩) l.length cap) (.int .i64 (i : Int)) _ (fun W => IX.out W) rfl rfl rfl rfl) S0.out ?_
  simp only [Act.put, List.setIfInBounds_toArray, List.set_cons_zero, List.set_cons_succ]
  refine take_at (i := 6) 63 ?_ rfl rfl (by kernel_rfl) (by kernel_rfl) (by kernel_rfl) (fun _ _ _ h => h) (.inl ⟨rfl, ?_⟩) S0.out ?_
  rotate_left 1
  · intro w hSw; go_simp; try with_reducible rfl
  simp only [Act.put, List.setIfInBounds_toArray, List.set_cons_zero, List.set_cons_succ]
  refine take_at (i := 7) 64 (.slice x.a x.b.length x.c) rfl rfl (by kernel_rfl) (by kernel_rfl) (by kernel_rfl) (fun _ _ _ h => h) (yields_ld (.tmp 63) 33 (.pointer (some ⟨g, o + i * 3 + 1, none⟩)) _ (fun W hS => ldV33 hS.2) rfl rfl rfl) S0.out ?_
  simp only [Act.put, List.setIfInBounds_toArray, List.set_cons_zero, List.set_cons_succ]
  refine wpAnyH_ready (rs := [1]) (by kernel_rfl) (by simp) (br_load (i := 1) 58 (.tmp 57) 33 (.pointer (some ⟨b, 1, none⟩)) (.slice none 0 0) rfl rfl rfl rfl rfl LV0.out S0.out (fun _ => ?_) AllReadyH.nil)
  simp only [Act.put, List.setIfInBounds_toArray, List.set_cons_zero, List.set_cons_succ]
  refine one_append (i := 8) 65 (.tmp 58) (.tmp 64) 33 33 rfl rfl (by kernel_rfl) rfl rfl (.slice none 0 0) (.slice x.a x.b.length x.c) (.slice a5 x.b.length c5) w3 rfl rfl (HAP.out _) S3.out (fun _ => ?_)
  simp only [Act.put, List.setIfInBounds_toArray, List.set_cons_zero, List.set_cons_succ]
  refine take_at (i := 9) 66 ?_ rfl rfl (by kernel_rfl) (by kernel_rfl) (by kernel_rfl) (fun _ _ _ h => h) (.inl ⟨rfl, ?_⟩) S3.out ?_
  rotate_left 1
  · intro w hSw; go_simp; try with_reducible rfl
  simp only [Act.put, List.setIfInBounds_toArray, List.set_cons_zero, List.set_cons_succ]
  refine wpAnyH_ready (rs := [10]) (by kernel_rfl) (by simp) (br_store (i := 10) 33 (.tmp 66) (.tmp 65) (.pointer (some ⟨b, 1, none⟩)) (.slice a5 x.b.length c5) W5 rfl rfl rfl rfl rfl rfl HST.out S5.out (fun _ => ?_) AllReadyH.nil)
  simp only [Act.put, List.setIfInBounds_toArray, List.set_cons_zero, List.set_cons_succ]
  refine wpAnyH_done (by kernel_rfl) ?_ _
  clear S0 S3 S5 LV0 HAP HST IX F5 C4 D5 K1
  clear K0 HW
  obtain ⟨hn1, hn2⟩ := hn
  have hn3 : ¬ n < 0 := by omega
  have hn4 : ¬ (x.b.length : Int) < n := by omega
  obtain ⟨c0, c1, c2, c3⟩ := I5.out.d.g6.cells
  obtain ⟨r0, r1, r2⟩ := I5.out.g.cells
  have hxb := XB.out
  have ST := Lib.hid (rstep_any W5 (some ⟨g, o, none⟩) l.length cap room lasts false hla)
  rw [hr] at ST
  go_wp2_with fail
  refine ST.out.mono ?_
  rintro e w6 ⟨rfl, hb⟩
  have I6 := Lib.hid (I5.out.step hb)
  clear hb c0 c1 c2 c3 r0 r1 r2 ST
  have VB := vstep w6 (.cells #[.slice (some ⟨g, o, none⟩) l.length cap, .int .i64 room, .int .i64 l2, .bool d2] 29)
  have I7 := Lib.hid (I6.out.step VB)
  have BX := Lib.hid (RB.new w6 (.slice (some ⟨g, o, none⟩) l.length cap) room l2 d2)
  have BLO := Lib.hid (I6.out.blt)
  have OWN := Lib.hid (fun j (q : (Value.slice a5 x.b.length c5).ownBlock = some j) => (I6.out.row.lt j q).2)
  go_upto_region 30 with (fail)
  obtain ⟨W7, hW7⟩ : ∃ y, w6.alloc (.cells #[.slice (some ⟨g, o, none⟩) l.length cap, .int .i64 room, .int .i64 l2, .bool d2] 29) = y := ⟨_, rfl⟩
  rw [hW7] at I7 BX VB ⊢
  obtain ⟨bx, hbx⟩ : ∃ z, w6.heap.size = z := ⟨_, rfl⟩
  rw [hbx] at BX BLO OWN ⊢
  clear hW7 hbx VB I6
  obtain ⟨c0, c1, c2, c3⟩ := BX.out.cells
  obtain ⟨e0, e1, e2, e3⟩ := I7.out.d.g12.cells
  obtain ⟨f0, f1, f2, f3⟩ := I7.out.d.g12.free
  go_wp2
  clear c0 c1 c2 c3 e0 e1 e2 e3 f0 f1 f2 f3
  obtain ⟨w5, hW5⟩ : ∃ w5, sets4 W7 (w.heap.size + 1) (.slice (some ⟨g, o, none⟩) l.length cap) (.int .i64 room) (.int .i64 l2) (.bool d2) = w5 := ⟨_, rfl⟩
  have hb5 := sets4_row (x' := .slice (some ⟨g, o, none⟩) l.length cap) (y' := room) (z' := l2) (v' := d2) I7.out.d.g12
  have hw5 := sets4_below (x := .slice (some ⟨g, o, none⟩) l.length cap) (y := .int .i64 room) (z := .int .i64 l2) (v := .bool d2) I7.out.d.bel (show w.heap.size ≤ w.heap.size + 1 by omega)
  rw [hW5] at hb5 hw5
  unfold sets4 at hW5
  rw [hW5]
  clear hW5
  obtain ⟨d0, d1, d2, d3⟩ := RB.cells (show RB w5 (w.heap.size + 1) (.slice (some ⟨g, o, none⟩) l.length cap) room l2 d2 from hb5)
  refine bodyPost_ret (by simp [results, Try.results29, go_sem, d0, d1, d2, d3]; try rfl) rfl ?_
  exact ⟨rfl, hw5⟩
set_option maxHeartbeats 6400000 in
theorem do_stop4 (w : World) (v : Value) (l : List Fl) (room lasts : Int) (h : RD w v l) (hl : l.length < 80000) (nm nt : ByteArray) (bv : Value) (n : Int) (i : Nat) (x : Fl) (hat : atF l nm = (i : Int)) (hx : l[i]? = some x) (hbl : ∀ x ∈ l, x.b.length ≤ 100000000) (hla : lasts ≤ 9223372036854775807) (l2 : Int) (d2 : Bool) (hr : rst lasts false = (l2, d2, false)) :
    Calls Try.prog 29 #[rdv v room lasts false, .int .i64 4, .string nm, bv, .int .i64 n, .string nt] w fun e w' => e = .returned (.tuple #[rdv v room l2 d2, .int .i64 12]) ∧ Below w.heap.size w w' := by
  obtain ⟨ao, cap, rfl⟩ := h.1.shape
  have H := Lib.hid h
  have S0 := D0.start w (.slice ao l.length cap) room lasts false
  obtain ⟨W0, hW0⟩ : ∃ y, (w.alloc (.cells #[.slice ao l.length cap, .int .i64 room, .int .i64 lasts, .bool false] 29)).alloc (.cells #[.slice none 0 0, .int .i64 0, .int .i64 0, .bool false] 29) = y := ⟨_, rfl⟩
  rw [hW0] at S0
  have HW := Lib.hid hW0
  have K0 := Lib.hid S0
  have AT := Lib.hid (rat_any W0 (.slice ao l.length cap) l room lasts false (h.step S0.bel) nm (by omega))
  rw [hat] at AT
  have hlm := h.1.len
  clear h S0 hW0
  go_enter Try.func29, Try.ntmps29
  go_upto_region 1 with (fail)
  rw [HW.out]
  obtain ⟨c0, c1, c2, c3⟩ := K0.out.g6.cells
  go_wp2_with fail
  refine AT.out.mono ?_
  rintro e w1 ⟨rfl, hb⟩
  have K1 := Lib.hid (K0.out.step hb)
  clear hb c0 c1 c2 c3 AT
  have hxm := List.mem_of_getElem? hx
  have XB := Lib.hid (hbl x hxm)
  have XL := Lib.hid (lies_cap (H.out.2 x hxm))
  have LX := Lib.hid (H.out.2 x hxm)
  have hlt : i < l.length := (List.getElem?_eq_some_iff.1 hx).1
  obtain ⟨g, o, x2, hao, hx2, hg, a0, a1, a2⟩ := rec_at (H.out.1.keep K1.out.bel (Nat.le_refl _)) hlt
  rw [hx] at hx2
  injection hx2 with hx2
  subst hx2
  subst hao
  have hgw : g < w.heap.size := by
    obtain ⟨g', o', x', e, _, hg', _⟩ := rec_at H.out.1 hlt
    injection e with e
    injection e with e
    omega
  clear hx hxm hbl a0
  obtain ⟨c0, c1, c2, c3⟩ := K1.out.g6.cells
  clear c1 c2 c3
  have D5 := Lib.hid (DI.new K1.out nm x.s)
  have BD := Lib.hid (And.intro (hgw) (show w1.cell? ⟨g, o + i * 3 + 1, none⟩ = some (.slice x.a x.b.length x.c) from a1))
  go_upto_region 14 with (fail)
  obtain ⟨W4, hW4⟩ : ∃ y, w1.alloc (.cells #[.string nm, .slice none 0 0, .int .i64 x.s] 66) = y := ⟨_, rfl⟩
  have V4 := vstep w1 (.cells #[.string nm, .slice none 0 0, .int .i64 x.s] 66)
  rw [hW4] at D5 V4 ⊢
  obtain ⟨b, hb17⟩ : ∃ z, w1.heap.size = z := ⟨_, rfl⟩
  rw [hb17] at D5 ⊢
  have B4 := Lib.hid (V4.cell (p := ⟨g, o + i * 3 + 1, none⟩) (by show g < w1.heap.size; have := K1.out.bel.size; omega))
  have C4 := Lib.hid (B4.out.trans a1)
  clear hb17 V4 hW4 B4 BD a1 a2 c0
  have KD := D5.out.step (show Below W4.heap.size W4 W4.drew from (Below.refl _ _).drew)
  have LD : LiesK encB 1 W4.drew (.slice x.a x.b.length x.c) x.b := LX.out.step (D5.out.d.bel.trans ((show Below W4.heap.size W4 W4.drew from (Below.refl _ _).drew).mono D5.out.d.bel.size))
  obtain ⟨a5, c5, w3, W5, q1, q2, q3, q4, q5⟩ := cat_file KD LD (by have := XB.out; simp; omega)
  have SP : ∀ {W'} (P : Nat → Prop), Far P W4.drew W' → (∀ k, P k → b ≤ k) → (W'.cell? ⟨w.heap.size, 0, none⟩ = some (.slice (some ⟨g, o, none⟩) l.length cap) ∧ W'.cell? ⟨g, o + i * 3 + 1, none⟩ = some (.slice x.a x.b.length x.c)) := fun P hf hp =>
    ⟨hf.cell (p := ⟨w.heap.size, 0, none⟩) KD.d.g6.cells.1 (fun q => by have := hp _ q; have := D5.out.lo; dsimp only at *; omega), hf.cell (p := ⟨g, o + i * 3 + 1, none⟩) C4.out (fun q => by have := hp _ q; have := D5.out.lo; dsimp only at *; omega)⟩
  have S0 := Lib.hid (SP (fun _ => False) (Far.refl _ _) (fun k q => q.elim))
  have S3 := Lib.hid (SP _ q4 (fun k q => Nat.le_of_lt q))
  have S5 := Lib.hid (SP _ q5 (fun k q => q))
  have LV0 := Lib.hid (ldV33 (W := W4.drew) KD.g.cells.2.1)
  have HAP := Lib.hid q1
  have HST := Lib.hid q2
  have I5 := Lib.hid (show DI w W5 (.slice (some ⟨g, o, none⟩) l.length cap) room lasts false b ⟨nm, a5, c5, x.b, x.s⟩ from q3)
  have F5 := Lib.hid q5
  have IX := Lib.hid (fun W => ix27 (W := W) (g := g) (o := o) (c := cap) hlt (by omega))
  clear q1 q2 q3 q4 q5 SP KD LD
  rw [List.nil_append] at HAP HST
  refine wp_region_held_drew (S := fun W => W.cell? ⟨w.heap.size, 0, none⟩ = some (.slice (some ⟨g, o, none⟩) l.length cap) ∧ W.cell? ⟨g, o + i * 3 + 1, none⟩ = some (.slice x.a x.b.length x.c)) (by kernel_rfl) S0.out (fun _ => ?_)
  refine take_at (i := 0) 57 ?_ rfl rfl (by kernel_rfl) (by kernel_rfl) (by kernel_rfl) (fun _ _ _ h => h) (.inl ⟨rfl, ?_⟩) S0.out ?_
  rotate_left 1
  · intro w hSw; go_simp; try with_reducible rfl
  simp only [Act.put, List.setIfInBounds_toArray, List.set_cons_zero, List.set_cons_succ]
  refine take_at (i := 2) 59 ?_ rfl rfl (by kernel_rfl) (by kernel_rfl) (by kernel_rfl) (fun _ _ _ h => h) (.inl ⟨rfl, ?_⟩) S0.out ?_
  rotate_left 1
  · intro w hSw; go_simp; try with_reducible rfl
  simp only [Act.put, List.setIfInBounds_toArray, List.set_cons_zero, List.set_cons_succ]
  refine take_at (i := 3) 60 (.slice (some ⟨g, o, none⟩) l.length cap) rfl rfl (by kernel_rfl) (by kernel_rfl) (by kernel_rfl) (fun _ _ _ h => h) (yields_ld (.tmp 59) 27 (.pointer (some ⟨w.heap.size, 0, none⟩)) _ (fun W hS => ldV27 hS.1) rfl rfl rfl) S0.out ?_
  simp only [Act.put, List.setIfInBounds_toArray, List.set_cons_zero, List.set_cons_succ]
  refine take_at (i := 4) 61 ?_ rfl rfl (by kernel_rfl) (by kernel_rfl) (by kernel_rfl) (fun _ _ _ h => h) (.inl ⟨rfl, ?_⟩) S0.out ?_
  rotate_left 1
  · intro w hSw; go_simp; try with_reducible rfl
  simp only [Act.put, List.setIfInBounds_toArray, List.set_cons_zero, List.set_cons_succ]
  refine take_at (i := 5) 62 (.pointer (some ⟨g, o + i * 3, none⟩)) rfl rfl (by kernel_rfl) (by kernel_rfl) (by kernel_rfl) (fun _ _ _ h => h) (yields_ix (.tmp 60) (.tmp 61) 27 (.slice (some ⟨g, o, none⟩) l.length cap) (.int .i64 (i : Int)) _ (fun W => IX.out W) rfl rfl rfl rfl) S0.out ?_
  simp only [Act.put, List.setIfInBounds_toArray, List.set_cons_zero, List.set_cons_succ]
  refine take_at (i := 6) 63 ?_ rfl rfl (by kernel_rfl) (by kernel_rfl) (by kernel_rfl) (fun _ _ _ h => h) (.inl ⟨rfl, ?_⟩) S0.out ?_
  rotate_left 1
  · intro w hSw; go_simp; try with_reducible rfl
  simp only [Act.put, List.setIfInBounds_toArray, List.set_cons_zero, List.set_cons_succ]
  refine take_at (i := 7) 64 (.slice x.a x.b.length x.c) rfl rfl (by kernel_rfl) (by kernel_rfl) (by kernel_rfl) (fun _ _ _ h => h) (yields_ld (.tmp 63) 33 (.pointer (some ⟨g, o + i * 3 + 1, none⟩)) _ (fun W hS => ldV33 hS.2) rfl rfl rfl) S0.out ?_
  simp only [Act.put, List.setIfInBounds_toArray, List.set_cons_zero, List.set_cons_succ]
  refine wpAnyH_ready (rs := [1]) (by kernel_rfl) (by simp) (br_load (i := 1) 58 (.tmp 57) 33 (.pointer (some ⟨b, 1, none⟩)) (.slice none 0 0) rfl rfl rfl rfl rfl LV0.out S0.out (fun _ => ?_) AllReadyH.nil)
  simp only [Act.put, List.setIfInBounds_toArray, List.set_cons_zero, List.set_cons_succ]
  refine one_append (i := 8) 65 (.tmp 58) (.tmp 64) 33 33 rfl rfl (by kernel_rfl) rfl rfl (.slice none 0 0) (.slice x.a x.b.length x.c) (.slice a5 x.b.length c5) w3 rfl rfl (HAP.out _) S3.out (fun _ => ?_)
  simp only [Act.put, List.setIfInBounds_toArray, List.set_cons_zero, List.set_cons_succ]
  refine take_at (i := 9) 66 ?_ rfl rfl (by kernel_rfl) (by kernel_rfl) (by kernel_rfl) (fun _ _ _ h => h) (.inl ⟨rfl, ?_⟩) S3.out ?_
  rotate_left 1
  · intro w hSw; go_simp; try with_reducible rfl
  simp only [Act.put, List.setIfInBounds_toArray, List.set_cons_zero, List.set_cons_succ]
  refine wpAnyH_ready (rs := [10]) (by kernel_rfl) (by simp) (br_store (i := 10) 33 (.tmp 66) (.tmp 65) (.pointer (some ⟨b, 1, none⟩)) (.slice a5 x.b.length c5) W5 rfl rfl rfl rfl rfl rfl HST.out S5.out (fun _ => ?_) AllReadyH.nil)
  simp only [Act.put, List.setIfInBounds_toArray, List.set_cons_zero, List.set_cons_succ]
  refine wpAnyH_done (by kernel_rfl) ?_ _
  clear S0 S3 S5 LV0 HAP HST IX F5 C4 D5 K1
  clear K0 HW
  obtain ⟨c0, c1, c2, c3⟩ := I5.out.d.g6.cells
  obtain ⟨r0, r1, r2⟩ := I5.out.g.cells
  have hxb := XB.out
  have ST := Lib.hid (rstep_any W5 (some ⟨g, o, none⟩) l.length cap room lasts false hla)
  rw [hr] at ST
  go_wp2_with fail
  refine ST.out.mono ?_
  rintro e w6 ⟨rfl, hb⟩
  have I6 := Lib.hid (I5.out.step hb)
  clear hb c0 c1 c2 c3 r0 r1 r2 ST
  have VB := vstep w6 (.cells #[.slice (some ⟨g, o, none⟩) l.length cap, .int .i64 room, .int .i64 l2, .bool d2] 29)
  have I7 := Lib.hid (I6.out.step VB)
  have BX := Lib.hid (RB.new w6 (.slice (some ⟨g, o, none⟩) l.length cap) room l2 d2)
  have BLO := Lib.hid (I6.out.blt)
  have OWN := Lib.hid (fun j (q : (Value.slice a5 x.b.length c5).ownBlock = some j) => (I6.out.row.lt j q).2)
  go_upto_region 30 with (fail)
  obtain ⟨W7, hW7⟩ : ∃ y, w6.alloc (.cells #[.slice (some ⟨g, o, none⟩) l.length cap, .int .i64 room, .int .i64 l2, .bool d2] 29) = y := ⟨_, rfl⟩
  rw [hW7] at I7 BX VB ⊢
  obtain ⟨bx, hbx⟩ : ∃ z, w6.heap.size = z := ⟨_, rfl⟩
  rw [hbx] at BX BLO OWN ⊢
  clear hW7 hbx VB I6
  obtain ⟨c0, c1, c2, c3⟩ := BX.out.cells
  obtain ⟨e0, e1, e2, e3⟩ := I7.out.d.g12.cells
  obtain ⟨f0, f1, f2, f3⟩ := I7.out.d.g12.free
  go_wp2
  clear c0 c1 c2 c3 e0 e1 e2 e3 f0 f1 f2 f3
  obtain ⟨w5, hW5⟩ : ∃ w5, sets4 W7 (w.heap.size + 1) (.slice (some ⟨g, o, none⟩) l.length cap) (.int .i64 room) (.int .i64 l2) (.bool d2) = w5 := ⟨_, rfl⟩
  have hb5 := sets4_row (x' := .slice (some ⟨g, o, none⟩) l.length cap) (y' := room) (z' := l2) (v' := d2) I7.out.d.g12
  have hw5 := sets4_below (x := .slice (some ⟨g, o, none⟩) l.length cap) (y := .int .i64 room) (z := .int .i64 l2) (v := .bool d2) I7.out.d.bel (show w.heap.size ≤ w.heap.size + 1 by omega)
  rw [hW5] at hb5 hw5
  unfold sets4 at hW5
  rw [hW5]
  clear hW5
  obtain ⟨d0, d1, d2, d3⟩ := RB.cells (show RB w5 (w.heap.size + 1) (.slice (some ⟨g, o, none⟩) l.length cap) room l2 d2 from hb5)
  refine bodyPost_ret (by simp [results, Try.results29, go_sem, d0, d1, d2, d3]; try rfl) rfl ?_
  exact ⟨rfl, hw5⟩
set_option maxHeartbeats 6400000 in
theorem do_stop5 (w : World) (v : Value) (l : List Fl) (room lasts : Int) (h : RD w v l) (hl : l.length < 80000) (nm nt : ByteArray) (bv : Value) (n : Int) (i : Nat) (x : Fl) (hat : atF l nm = (i : Int)) (hx : l[i]? = some x) (hbl : ∀ x ∈ l, x.b.length ≤ 100000000) (hla : lasts ≤ 9223372036854775807) (l2 : Int) (d2 : Bool) (hr : rst lasts false = (l2, d2, false)) :
    Calls Try.prog 29 #[rdv v room lasts false, .int .i64 5, .string nm, bv, .int .i64 n, .string nt] w fun e w' => e = .returned (.tuple #[rdv v room l2 d2, .int .i64 12]) ∧ Below w.heap.size w w' := by
  obtain ⟨ao, cap, rfl⟩ := h.1.shape
  have H := Lib.hid h
  have S0 := D0.start w (.slice ao l.length cap) room lasts false
  obtain ⟨W0, hW0⟩ : ∃ y, (w.alloc (.cells #[.slice ao l.length cap, .int .i64 room, .int .i64 lasts, .bool false] 29)).alloc (.cells #[.slice none 0 0, .int .i64 0, .int .i64 0, .bool false] 29) = y := ⟨_, rfl⟩
  rw [hW0] at S0
  have HW := Lib.hid hW0
  have K0 := Lib.hid S0
  have AT := Lib.hid (rat_any W0 (.slice ao l.length cap) l room lasts false (h.step S0.bel) nm (by omega))
  rw [hat] at AT
  have hlm := h.1.len
  clear h S0 hW0
  go_enter Try.func29, Try.ntmps29
  go_upto_region 1 with (fail)
  rw [HW.out]
  obtain ⟨c0, c1, c2, c3⟩ := K0.out.g6.cells
  go_wp2_with fail
  refine AT.out.mono ?_
  rintro e w1 ⟨rfl, hb⟩
  have K1 := Lib.hid (K0.out.step hb)
  clear hb c0 c1 c2 c3 AT
  have hxm := List.mem_of_getElem? hx
  have XB := Lib.hid (hbl x hxm)
  have XL := Lib.hid (lies_cap (H.out.2 x hxm))
  have LX := Lib.hid (H.out.2 x hxm)
  have hlt : i < l.length := (List.getElem?_eq_some_iff.1 hx).1
  obtain ⟨g, o, x2, hao, hx2, hg, a0, a1, a2⟩ := rec_at (H.out.1.keep K1.out.bel (Nat.le_refl _)) hlt
  rw [hx] at hx2
  injection hx2 with hx2
  subst hx2
  subst hao
  have hgw : g < w.heap.size := by
    obtain ⟨g', o', x', e, _, hg', _⟩ := rec_at H.out.1 hlt
    injection e with e
    injection e with e
    omega
  clear hx hxm hbl a0
  obtain ⟨c0, c1, c2, c3⟩ := K1.out.g6.cells
  clear c1 c2 c3
  have D5 := Lib.hid (DI.new K1.out nm x.s)
  have BD := Lib.hid (And.intro (hgw) (show w1.cell? ⟨g, o + i * 3 + 1, none⟩ = some (.slice x.a x.b.length x.c) from a1))
  go_upto_region 14 with (fail)
  obtain ⟨W4, hW4⟩ : ∃ y, w1.alloc (.cells #[.string nm, .slice none 0 0, .int .i64 x.s] 66) = y := ⟨_, rfl⟩
  have V4 := vstep w1 (.cells #[.string nm, .slice none 0 0, .int .i64 x.s] 66)
  rw [hW4] at D5 V4 ⊢
  obtain ⟨b, hb17⟩ : ∃ z, w1.heap.size = z := ⟨_, rfl⟩
  rw [hb17] at D5 ⊢
  have B4 := Lib.hid (V4.cell (p := ⟨g, o + i * 3 + 1, none⟩) (by show g < w1.heap.size; have := K1.out.bel.size; omega))
  have C4 := Lib.hid (B4.out.trans a1)
  clear hb17 V4 hW4 B4 BD a1 a2 c0
  have KD := D5.out.step (show Below W4.heap.size W4 W4.drew from (Below.refl _ _).drew)
  have LD : LiesK encB 1 W4.drew (.slice x.a x.b.length x.c) x.b := LX.out.step (D5.out.d.bel.trans ((show Below W4.heap.size W4 W4.drew from (Below.refl _ _).drew).mono D5.out.d.bel.size))
  obtain ⟨a5, c5, w3, W5, q1, q2, q3, q4, q5⟩ := cat_file KD LD (by have := XB.out; simp; omega)
  have SP : ∀ {W'} (P : Nat → Prop), Far P W4.drew W' → (∀ k, P k → b ≤ k) → (W'.cell? ⟨w.heap.size, 0, none⟩ = some (.slice (some ⟨g, o, none⟩) l.length cap) ∧ W'.cell? ⟨g, o + i * 3 + 1, none⟩ = some (.slice x.a x.b.length x.c)) := fun P hf hp =>
    ⟨hf.cell (p := ⟨w.heap.size, 0, none⟩) KD.d.g6.cells.1 (fun q => by have := hp _ q; have := D5.out.lo; dsimp only at *; omega), hf.cell (p := ⟨g, o + i * 3 + 1, none⟩) C4.out (fun q => by have := hp _ q; have := D5.out.lo; dsimp only at *; omega)⟩
  have S0 := Lib.hid (SP (fun _ => False) (Far.refl _ _) (fun k q => q.elim))
  have S3 := Lib.hid (SP _ q4 (fun k q => Nat.le_of_lt q))
  have S5 := Lib.hid (SP _ q5 (fun k q => q))
  have LV0 := Lib.hid (ldV33 (W := W4.drew) KD.g.cells.2.1)
  have HAP := Lib.hid q1
  have HST := Lib.hid q2
  have I5 := Lib.hid (show DI w W5 (.slice (some ⟨g, o, none⟩) l.length cap) room lasts false b ⟨nm, a5, c5, x.b, x.s⟩ from q3)
  have F5 := Lib.hid q5
  have IX := Lib.hid (fun W => ix27 (W := W) (g := g) (o := o) (c := cap) hlt (by omega))
  clear q1 q2 q3 q4 q5 SP KD LD
  rw [List.nil_append] at HAP HST
  refine wp_region_held_drew (S := fun W => W.cell? ⟨w.heap.size, 0, none⟩ = some (.slice (some ⟨g, o, none⟩) l.length cap) ∧ W.cell? ⟨g, o + i * 3 + 1, none⟩ = some (.slice x.a x.b.length x.c)) (by kernel_rfl) S0.out (fun _ => ?_)
  refine take_at (i := 0) 57 ?_ rfl rfl (by kernel_rfl) (by kernel_rfl) (by kernel_rfl) (fun _ _ _ h => h) (.inl ⟨rfl, ?_⟩) S0.out ?_
  rotate_left 1
  · intro w hSw; go_simp; try with_reducible rfl
  simp only [Act.put, List.setIfInBounds_toArray, List.set_cons_zero, List.set_cons_succ]
  refine take_at (i := 2) 59 ?_ rfl rfl (by kernel_rfl) (by kernel_rfl) (by kernel_rfl) (fun _ _ _ h => h) (.inl ⟨rfl, ?_⟩) S0.out ?_
  rotate_left 1
  · intro w hSw; go_simp; try with_reducible rfl
  simp only [Act.put, List.setIfInBounds_toArray, List.set_cons_zero, List.set_cons_succ]
  refine take_at (i := 3) 60 (.slice (some ⟨g, o, none⟩) l.length cap) rfl rfl (by kernel_rfl) (by kernel_rfl) (by kernel_rfl) (fun _ _ _ h => h) (yields_ld (.tmp 59) 27 (.pointer (some ⟨w.heap.size, 0, none⟩)) _ (fun W hS => ldV27 hS.1) rfl rfl rfl) S0.out ?_
  simp only [Act.put, List.setIfInBounds_toArray, List.set_cons_zero, List.set_cons_succ]
  refine take_at (i := 4) 61 ?_ rfl rfl (by kernel_rfl) (by kernel_rfl) (by kernel_rfl) (fun _ _ _ h => h) (.inl ⟨rfl, ?_⟩) S0.out ?_
  rotate_left 1
  · intro w hSw; go_simp; try with_reducible rfl
  simp only [Act.put, List.setIfInBounds_toArray, List.set_cons_zero, List.set_cons_succ]
  refine take_at (i := 5) 62 (.pointer (some ⟨g, o + i * 3, none⟩)) rfl rfl (by kernel_rfl) (by kernel_rfl) (by kernel_rfl) (fun _ _ _ h => h) (yields_ix (.tmp 60) (.tmp 61) 27 (.slice (some ⟨g, o, none⟩) l.length cap) (.int .i64 (i : Int)) _ (fun W => IX.out W) rfl rfl rfl rfl) S0.out ?_
  simp only [Act.put, List.setIfInBounds_toArray, List.set_cons_zero, List.set_cons_succ]
  refine take_at (i := 6) 63 ?_ rfl rfl (by kernel_rfl) (by kernel_rfl) (by kernel_rfl) (fun _ _ _ h => h) (.inl ⟨rfl, ?_⟩) S0.out ?_
  rotate_left 1
  · intro w hSw; go_simp; try with_reducible rfl
  simp only [Act.put, List.setIfInBounds_toArray, List.set_cons_zero, List.set_cons_succ]
  refine take_at (i := 7) 64 (.slice x.a x.b.length x.c) rfl rfl (by kernel_rfl) (by kernel_rfl) (by kernel_rfl) (fun _ _ _ h => h) (yields_ld (.tmp 63) 33 (.pointer (some ⟨g, o + i * 3 + 1, none⟩)) _ (fun W hS => ldV33 hS.2) rfl rfl rfl) S0.out ?_
  simp only [Act.put, List.setIfInBounds_toArray, List.set_cons_zero, List.set_cons_succ]
  refine wpAnyH_ready (rs := [1]) (by kernel_rfl) (by simp) (br_load (i := 1) 58 (.tmp 57) 33 (.pointer (some ⟨b, 1, none⟩)) (.slice none 0 0) rfl rfl rfl rfl rfl LV0.out S0.out (fun _ => ?_) AllReadyH.nil)
  simp only [Act.put, List.setIfInBounds_toArray, List.set_cons_zero, List.set_cons_succ]
  refine one_append (i := 8) 65 (.tmp 58) (.tmp 64) 33 33 rfl rfl (by kernel_rfl) rfl rfl (.slice none 0 0) (.slice x.a x.b.length x.c) (.slice a5 x.b.length c5) w3 rfl rfl (HAP.out _) S3.out (fun _ => ?_)
  simp only [Act.put, List.setIfInBounds_toArray, List.set_cons_zero, List.set_cons_succ]
  refine take_at (i := 9) 66 ?_ rfl rfl (by kernel_rfl) (by kernel_rfl) (by kernel_rfl) (fun _ _ _ h => h) (.inl ⟨rfl, ?_⟩) S3.out ?_
  rotate_left 1
  · intro w hSw; go_simp; try with_reducible rfl
  simp only [Act.put, List.setIfInBounds_toArray, List.set_cons_zero, List.set_cons_succ]
  refine wpAnyH_ready (rs := [10]) (by kernel_rfl) (by simp) (br_store (i := 10) 33 (.tmp 66) (.tmp 65) (.pointer (some ⟨b, 1, none⟩)) (.slice a5 x.b.length c5) W5 rfl rfl rfl rfl rfl rfl HST.out S5.out (fun _ => ?_) AllReadyH.nil)
  simp only [Act.put, List.setIfInBounds_toArray, List.set_cons_zero, List.set_cons_succ]
  refine wpAnyH_done (by kernel_rfl) ?_ _
  clear S0 S3 S5 LV0 HAP HST IX F5 C4 D5 K1
  clear K0 HW
  obtain ⟨c0, c1, c2, c3⟩ := I5.out.d.g6.cells
  obtain ⟨r0, r1, r2⟩ := I5.out.g.cells
  have hxb := XB.out
  have ST := Lib.hid (rstep_any W5 (some ⟨g, o, none⟩) l.length cap room lasts false hla)
  rw [hr] at ST
  go_wp2_with fail
  refine ST.out.mono ?_
  rintro e w6 ⟨rfl, hb⟩
  have I6 := Lib.hid (I5.out.step hb)
  clear hb c0 c1 c2 c3 r0 r1 r2 ST
  have VB := vstep w6 (.cells #[.slice (some ⟨g, o, none⟩) l.length cap, .int .i64 room, .int .i64 l2, .bool d2] 29)
  have I7 := Lib.hid (I6.out.step VB)
  have BX := Lib.hid (RB.new w6 (.slice (some ⟨g, o, none⟩) l.length cap) room l2 d2)
  have BLO := Lib.hid (I6.out.blt)
  have OWN := Lib.hid (fun j (q : (Value.slice a5 x.b.length c5).ownBlock = some j) => (I6.out.row.lt j q).2)
  go_upto_region 30 with (fail)
  obtain ⟨W7, hW7⟩ : ∃ y, w6.alloc (.cells #[.slice (some ⟨g, o, none⟩) l.length cap, .int .i64 room, .int .i64 l2, .bool d2] 29) = y := ⟨_, rfl⟩
  rw [hW7] at I7 BX VB ⊢
  obtain ⟨bx, hbx⟩ : ∃ z, w6.heap.size = z := ⟨_, rfl⟩
  rw [hbx] at BX BLO OWN ⊢
  clear hW7 hbx VB I6
  obtain ⟨c0, c1, c2, c3⟩ := BX.out.cells
  obtain ⟨e0, e1, e2, e3⟩ := I7.out.d.g12.cells
  obtain ⟨f0, f1, f2, f3⟩ := I7.out.d.g12.free
  go_wp2
  clear c0 c1 c2 c3 e0 e1 e2 e3 f0 f1 f2 f3
  obtain ⟨w5, hW5⟩ : ∃ w5, sets4 W7 (w.heap.size + 1) (.slice (some ⟨g, o, none⟩) l.length cap) (.int .i64 room) (.int .i64 l2) (.bool d2) = w5 := ⟨_, rfl⟩
  have hb5 := sets4_row (x' := .slice (some ⟨g, o, none⟩) l.length cap) (y' := room) (z' := l2) (v' := d2) I7.out.d.g12
  have hw5 := sets4_below (x := .slice (some ⟨g, o, none⟩) l.length cap) (y := .int .i64 room) (z := .int .i64 l2) (v := .bool d2) I7.out.d.bel (show w.heap.size ≤ w.heap.size + 1 by omega)
  rw [hW5] at hb5 hw5
  unfold sets4 at hW5
  rw [hW5]
  clear hW5
  obtain ⟨d0, d1, d2, d3⟩ := RB.cells (show RB w5 (w.heap.size + 1) (.slice (some ⟨g, o, none⟩) l.length cap) room l2 d2 from hb5)
  refine bodyPost_ret (by simp [results, Try.results29, go_sem, d0, d1, d2, d3]; try rfl) rfl ?_
  exact ⟨rfl, hw5⟩
end Go.Proofs.Ytoddofcmdbifpaa
