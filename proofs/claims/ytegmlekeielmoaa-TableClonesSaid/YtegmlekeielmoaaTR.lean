/- The chapter's example of tables. Made by gentr13.py, with tools/drawn.py. -/
import Derived.Test.YtegmlekeielmoaaRH
set_option linter.unusedVariables false
set_option maxRecDepth 100000
namespace Go.Proofs.Ytegmlekeielmoaa
open Go.RowKit Go.WideMaps Go.Maps

def xa : Rw := ⟨1, 0, 0, 0, ⟨#[97]⟩, true⟩
def xb : Rw := ⟨2, 0, 1, 0, ⟨#[98]⟩, false⟩
theorem i64s (x : Int) (h : -1000 ≤ x ∧ x ≤ 1000) : I64 x := by unfold I64; omega
theorem xa_ok : xa.ok := ⟨i64s 1 (by omega), i64s 0 (by omega), i64s 0 (by omega), i64s 0 (by omega)⟩
theorem xb_ok : xb.ok := ⟨i64s 2 (by omega), i64s 0 (by omega), i64s 1 (by omega), i64s 0 (by omega)⟩
theorem set_ab : setF (setF [] xa) xb = [xa, xb] := by simp [setF, ltR, ltS, xa, xb]
theorem kids_ab : kidsF [xa, xb] 1 0 = [(2, 0)] := by simp [kidsF, atP, stOf, xa, xb]
theorem load24 (W : World) (g : Nat) (t r : Int) (h : StAt W g t r) : (Instr.loadAt 24 (.pointer (some ⟨g, 0, none⟩))).run Try.prog W = .ok (.agg #[.int .i64 t, .int .i64 r]) W := by
  obtain ⟨c0, c1⟩ := h.cells
  go_simp
theorem bs43 (W : World) (t r : Int) : (Instr.buildSlice 43 1 #[(0, .agg #[.int .i64 t, .int .i64 r])]).run Try.prog W = .ok (.slice (some ⟨W.heap.size, 0, none⟩) 1 1) (W.alloc (.cells #[.int .i64 t, .int .i64 r] 24)) := by go_simp
set_option maxHeartbeats 6400000 in
theorem awake_any (w : World) : Calls Try.prog 24 #[] w fun e w' => e = .returned (.bool true) ∧ Below w.heap.size w w' := by
  have N := Lib.hid (new_any w)
  have B97 : (#[97] : Array UInt8) = #[97] := rfl
  go_enter Try.func24, Try.ntmps24
  go_wp2_with fail
  refine N.out.mono ?_
  rintro e w1 ⟨p, b, rfl, h1, h2, h3, h4⟩
  have B2 := vstep w1 (.cells #[.int .i64 1, .int .i64 0] 24)
  have B3 := vstep (w1.alloc (.cells #[.int .i64 1, .int .i64 0] 24)) (.cells #[.int .i64 2, .int .i64 0] 24)
  have T2 := Lib.hid ((h1.step B2).step B3)
  have SA := Lib.hid ((StAt.new w1 1 0).step B3)
  have SB := Lib.hid (show StAt ((w1.alloc (.cells #[.int .i64 1, .int .i64 0] 24)).alloc (.cells #[.int .i64 2, .int .i64 0] 24)) (w1.heap.size + 1) 2 0 from by have := StAt.new (w1.alloc (.cells #[.int .i64 1, .int .i64 0] 24)) 2 0; rwa [World.size_alloc] at this)
  have BB := Lib.hid (h4.trans ((B2.trans (B3.mono B2.size)).mono h4.size))
  have PB := Lib.hid (And.intro h1.plt h1.blt)
  have PW := Lib.hid h3
  clear h1 h2 h3 h4 B2 B3 N
  go_upto_region 3 with (fail)
  obtain ⟨w2, hw2⟩ : ∃ y, (w1.alloc (.cells #[.int .i64 1, .int .i64 0] 24)).alloc (.cells #[.int .i64 2, .int .i64 0] 24) = y := ⟨_, rfl⟩
  rw [hw2] at T2 SA SB BB ⊢
  clear hw2
  have C1 := Lib.hid (set_any w2 p b [] T2.out (by simp) xa xa_ok)
  dsimp only [xa] at C1
  obtain ⟨c1, c2⟩ := SA.out.cells
  obtain ⟨d1, d2⟩ := SB.out.cells
  go_wp2_with fail
  refine C1.out.mono ?_
  rintro e w3 ⟨rfl, ho⟩
  have T3 := Lib.hid (show TabI w3 p b (setF [] xa) from ho.tab)
  have SA3 := Lib.hid (show StAt w3 w1.heap.size 1 0 from (ho.grow.block _ (lt_of_block SA.out) (fun e => by injection e with e; have := PB.out; omega)).trans SA.out)
  have SB3 := Lib.hid (show StAt w3 (w1.heap.size + 1) 2 0 from (ho.grow.block _ (lt_of_block SB.out) (fun e => by injection e with e; have := PB.out; omega)).trans SB.out)
  have BB3 := Lib.hid (BB.out.trans (ho.below PW.out BB.out.size))
  clear ho c1 c2 d1 d2 C1
  have C2 := Lib.hid (set_any w3 p b _ T3.out (by have := setF_len [] xa; simp at this; omega) xb xb_ok)
  rw [set_ab] at C2
  dsimp only [xb] at C2
  obtain ⟨c1, c2⟩ := SA3.out.cells
  obtain ⟨d1, d2⟩ := SB3.out.cells
  go_wp2_with fail
  refine C2.out.mono ?_
  rintro e w4 ⟨rfl, ho⟩
  have T4 := Lib.hid (show TabI w4 p b [xa, xb] from ho.tab)
  have SA4 := Lib.hid (show StAt w4 w1.heap.size 1 0 from (ho.grow.block _ (lt_of_block SA3.out) (fun e => by injection e with e; have := PB.out; omega)).trans SA3.out)
  have SB4 := Lib.hid (show StAt w4 (w1.heap.size + 1) 2 0 from (ho.grow.block _ (lt_of_block SB3.out) (fun e => by injection e with e; have := PB.out; omega)).trans SB3.out)
  have BB4 := Lib.hid (BB3.out.trans (ho.below PW.out BB3.out.size))
  clear ho c1 c2 d1 d2 C2
  have A1 := Lib.hid (fun W (hb : Below w4.heap.size w4 W) => above_any W p b _ (T4.out.step hb) (by simp) 1 0 2 0 (i64s 2 (by omega)) (i64s 0 (by omega)))
  rw [show aboveF [xa, xb] 1 0 [xa, xb].length 2 0 = true from by rfl] at A1
  have A2 := Lib.hid (fun W (hb : Below w4.heap.size w4 W) => above_any W p b _ (T4.out.step hb) (by simp) 0 0 2 0 (i64s 2 (by omega)) (i64s 0 (by omega)))
  rw [show aboveF [xa, xb] 0 0 [xa, xb].length 2 0 = true from by rfl] at A2
  have A3 := Lib.hid (fun W (hb : Below w4.heap.size w4 W) => above_any W p b _ (T4.out.step hb) (by simp) 2 0 1 0 (i64s 1 (by omega)) (i64s 0 (by omega)))
  rw [show aboveF [xa, xb] 2 0 [xa, xb].length 1 0 = false from by rfl] at A3
  have KD := Lib.hid (fun W (hb : Below w4.heap.size w4 W) => kids_any W p b _ (T4.out.step hb) (by simp) 1 0)
  rw [kids_ab] at KD
  have LN := Lib.hid (fun W (hb : Below w4.heap.size w4 W) => (show Calls Try.prog 32 #[.pointer (some ⟨p, 0, none⟩)] W fun e w' => e = .returned (.int .i64 2) ∧ Below W.heap.size W w' from (len_any W p b _ (T4.out.step hb)).mono (by rintro e w' ⟨rfl, rfl⟩; exact ⟨rfl, Below.refl _ _⟩)))
  have SM := Lib.hid (fun W v1 v2 l m (h1 : LiesK encS 2 W v1 l) (h2 : LiesK encS 2 W v2 m) => same_any W v1 v2 l m h1 h2)
  have LA := Lib.hid (fun W (hb : Below w4.heap.size w4 W) => load24 W _ _ _ (SA4.out.step hb))
  have LB := Lib.hid (fun W (hb : Below w4.heap.size w4 W) => load24 W _ _ _ (SB4.out.step hb))
  have bs1 := fun W => bs43 W 2 0
  clear T4 SA4 SB4 T3 SA3 SB3 T2 SA SB BB BB3
  go_upto_region 5 with (fail)
  refine wp_region_held_drew (S := fun w' => Below w4.heap.size w4 w') (by kernel_rfl) (Below.refl _ _).drew (fun hHeld => ?_)
  have BV := Lib.hid (show Below w4.heap.size w4 w4.drew from (Below.refl _ _).drew)
  clear hHeld
  refine take_at (i := 0) 20 ?_ rfl rfl (by kernel_rfl) (by kernel_rfl) (by kernel_rfl) (fun _ _ _ h => h) (.inl ⟨rfl, ?_⟩) BV.out ?_
  rotate_left 1
  · intro w hSw; go_simp; try with_reducible rfl
  simp only [Act.put, List.setIfInBounds_toArray, List.set_cons_zero, List.set_cons_succ]
  refine take_at (i := 1) 21 (.agg #[.int .i64 1, .int .i64 0]) rfl rfl (by kernel_rfl) (by kernel_rfl) (by kernel_rfl) (fun _ _ _ h => h) (yields_ld (.tmp 2) 24 (.pointer (some ⟨w1.heap.size, 0, none⟩)) _ LA.out rfl rfl rfl) BV.out ?_
  simp only [Act.put, List.setIfInBounds_toArray, List.set_cons_zero, List.set_cons_succ]
  refine take_at (i := 2) 22 (.agg #[.int .i64 2, .int .i64 0]) rfl rfl (by kernel_rfl) (by kernel_rfl) (by kernel_rfl) (fun _ _ _ h => h) (yields_ld (.tmp 3) 24 (.pointer (some ⟨w1.heap.size + 1, 0, none⟩)) _ LB.out rfl rfl rfl) BV.out ?_
  simp only [Act.put, List.setIfInBounds_toArray, List.set_cons_zero, List.set_cons_succ]
  refine wpAnyH_ready (rs := [3]) (by kernel_rfl) (by simp) (br_call (i := 3) 23 27 #[.pointer (some ⟨p, 0, none⟩), .agg #[.int .i64 1, .int .i64 0], .agg #[.int .i64 2, .int .i64 0]] rfl rfl rfl (by go_simp) ((A1.out _ BV.out).mono ?_) AllReadyH.nil)
  rintro e v1 ⟨rfl, hb⟩
  have BV := Lib.hid (BV.out.trans (hb.mono BV.out.size))
  clear hb
  refine ⟨_, rfl, BV.out, fun _ => ?_⟩
  simp only [Act.put, List.setIfInBounds_toArray, List.set_cons_zero, List.set_cons_succ]
  refine take_at (i := 4) 24 ?_ rfl rfl (by kernel_rfl) (by kernel_rfl) (by kernel_rfl) (fun _ _ _ h => h) (.inl ⟨rfl, ?_⟩) BV.out ?_
  rotate_left 1
  · intro w hSw; go_simp; try with_reducible rfl
  simp only [Act.put, List.setIfInBounds_toArray, List.set_cons_zero, List.set_cons_succ]
  refine take_at (i := 5) 25 ?_ rfl rfl (by kernel_rfl) (by kernel_rfl) (by kernel_rfl) (fun _ _ _ h => h) (.inl ⟨rfl, ?_⟩) BV.out ?_
  rotate_left 1
  · intro w hSw; go_simp; try with_reducible rfl
  simp only [Act.put, List.setIfInBounds_toArray, List.set_cons_zero, List.set_cons_succ]
  refine take_at (i := 6) 26 ?_ rfl rfl (by kernel_rfl) (by kernel_rfl) (by kernel_rfl) (fun _ _ _ h => h) (.inl ⟨rfl, ?_⟩) BV.out ?_
  rotate_left 1
  · intro w hSw; go_simp; try with_reducible rfl
  simp only [Act.put, List.setIfInBounds_toArray, List.set_cons_zero, List.set_cons_succ]
  refine take_at (i := 7) 27 (.agg #[.int .i64 2, .int .i64 0]) rfl rfl (by kernel_rfl) (by kernel_rfl) (by kernel_rfl) (fun _ _ _ h => h) (yields_ld (.tmp 3) 24 (.pointer (some ⟨w1.heap.size + 1, 0, none⟩)) _ LB.out rfl rfl rfl) BV.out ?_
  simp only [Act.put, List.setIfInBounds_toArray, List.set_cons_zero, List.set_cons_succ]
  refine wpAnyH_ready (rs := [8]) (by kernel_rfl) (by simp) (br_call (i := 8) 28 27 #[.pointer (some ⟨p, 0, none⟩), .agg #[.int .i64 0, .int .i64 0], .agg #[.int .i64 2, .int .i64 0]] rfl rfl rfl (by go_simp) ((A2.out _ BV.out).mono ?_) AllReadyH.nil)
  rintro e v2 ⟨rfl, hb⟩
  have BV := Lib.hid (BV.out.trans (hb.mono BV.out.size))
  clear hb
  refine ⟨_, rfl, BV.out, fun _ => ?_⟩
  simp only [Act.put, List.setIfInBounds_toArray, List.set_cons_zero, List.set_cons_succ]
  refine take_at (i := 9) 29 ?_ rfl rfl (by kernel_rfl) (by kernel_rfl) (by kernel_rfl) (fun _ _ _ h => h) (.inl ⟨rfl, ?_⟩) BV.out ?_
  rotate_left 1
  · intro w hSw; go_simp; try with_reducible rfl
  simp only [Act.put, List.setIfInBounds_toArray, List.set_cons_zero, List.set_cons_succ]
  refine take_at (i := 10) 30 ?_ rfl rfl (by kernel_rfl) (by kernel_rfl) (by kernel_rfl) (fun _ _ _ h => h) (.inl ⟨rfl, ?_⟩) BV.out ?_
  rotate_left 1
  · intro w hSw; go_simp; try with_reducible rfl
  simp only [Act.put, List.setIfInBounds_toArray, List.set_cons_zero, List.set_cons_succ]
  refine take_at (i := 11) 31 ?_ rfl rfl (by kernel_rfl) (by kernel_rfl) (by kernel_rfl) (fun _ _ _ h => h) (.inl ⟨rfl, ?_⟩) BV.out ?_
  rotate_left 1
  · intro w hSw; go_simp; try with_reducible rfl
  simp only [Act.put, List.setIfInBounds_toArray, List.set_cons_zero, List.set_cons_succ]
  refine take_at (i := 12) 32 (.agg #[.int .i64 2, .int .i64 0]) rfl rfl (by kernel_rfl) (by kernel_rfl) (by kernel_rfl) (fun _ _ _ h => h) (yields_ld (.tmp 3) 24 (.pointer (some ⟨w1.heap.size + 1, 0, none⟩)) _ LB.out rfl rfl rfl) BV.out ?_
  simp only [Act.put, List.setIfInBounds_toArray, List.set_cons_zero, List.set_cons_succ]
  refine take_at (i := 13) 33 (.agg #[.int .i64 1, .int .i64 0]) rfl rfl (by kernel_rfl) (by kernel_rfl) (by kernel_rfl) (fun _ _ _ h => h) (yields_ld (.tmp 2) 24 (.pointer (some ⟨w1.heap.size, 0, none⟩)) _ LA.out rfl rfl rfl) BV.out ?_
  simp only [Act.put, List.setIfInBounds_toArray, List.set_cons_zero, List.set_cons_succ]
  refine wpAnyH_ready (rs := [14]) (by kernel_rfl) (by simp) (br_call (i := 14) 34 27 #[.pointer (some ⟨p, 0, none⟩), .agg #[.int .i64 2, .int .i64 0], .agg #[.int .i64 1, .int .i64 0]] rfl rfl rfl (by go_simp) ((A3.out _ BV.out).mono ?_) AllReadyH.nil)
  rintro e v3 ⟨rfl, hb⟩
  have BV := Lib.hid (BV.out.trans (hb.mono BV.out.size))
  clear hb
  refine ⟨_, rfl, BV.out, fun _ => ?_⟩
  simp only [Act.put, List.setIfInBounds_toArray, List.set_cons_zero, List.set_cons_succ]
  refine take_at (i := 15) 35 ?_ rfl rfl (by kernel_rfl) (by kernel_rfl) (by kernel_rfl) (fun _ _ _ h => h) (.inl ⟨rfl, ?_⟩) BV.out ?_
  rotate_left 1
  · intro w hSw; go_simp; try with_reducible rfl
  simp only [Act.put, List.setIfInBounds_toArray, List.set_cons_zero, List.set_cons_succ]
  refine take_at (i := 16) 36 ?_ rfl rfl (by kernel_rfl) (by kernel_rfl) (by kernel_rfl) (fun _ _ _ h => h) (.inl ⟨rfl, ?_⟩) BV.out ?_
  rotate_left 1
  · intro w hSw; go_simp; try with_reducible rfl
  simp only [Act.put, List.setIfInBounds_toArray, List.set_cons_zero, List.set_cons_succ]
  refine take_at (i := 17) 37 ?_ rfl rfl (by kernel_rfl) (by kernel_rfl) (by kernel_rfl) (fun _ _ _ h => h) (.inl ⟨rfl, ?_⟩) BV.out ?_
  rotate_left 1
  · intro w hSw; go_simp; try with_reducible rfl
  simp only [Act.put, List.setIfInBounds_toArray, List.set_cons_zero, List.set_cons_succ]
  refine take_at (i := 18) 38 ?_ rfl rfl (by kernel_rfl) (by kernel_rfl) (by kernel_rfl) (fun _ _ _ h => h) (.inl ⟨rfl, ?_⟩) BV.out ?_
  rotate_left 1
  · intro w hSw; go_simp; try with_reducible rfl
  simp only [Act.put, List.setIfInBounds_toArray, List.set_cons_zero, List.set_cons_succ]
  refine take_at (i := 19) 39 (.agg #[.int .i64 1, .int .i64 0]) rfl rfl (by kernel_rfl) (by kernel_rfl) (by kernel_rfl) (fun _ _ _ h => h) (yields_ld (.tmp 2) 24 (.pointer (some ⟨w1.heap.size, 0, none⟩)) _ LA.out rfl rfl rfl) BV.out ?_
  simp only [Act.put, List.setIfInBounds_toArray, List.set_cons_zero, List.set_cons_succ]
  refine take_at (i := 21) 41 (.agg #[.int .i64 2, .int .i64 0]) rfl rfl (by kernel_rfl) (by kernel_rfl) (by kernel_rfl) (fun _ _ _ h => h) (yields_ld (.tmp 3) 24 (.pointer (some ⟨w1.heap.size + 1, 0, none⟩)) _ LB.out rfl rfl rfl) BV.out ?_
  simp only [Act.put, List.setIfInBounds_toArray, List.set_cons_zero, List.set_cons_succ]
  refine wpAnyH_ready (rs := [20, 22]) (by kernel_rfl) (by simp) (br_call (i := 20) 40 19 #[.pointer (some ⟨p, 0, none⟩), .agg #[.int .i64 1, .int .i64 0]] rfl rfl rfl (by go_simp) ((KD.out _ BV.out).mono ?_) (br_bslice (i := 22) 42 43 1 _ #[(0, .agg #[.int .i64 2, .int .i64 0])] _ _ rfl rfl rfl rfl rfl (bs1 v3) (BV.out.trans ((vstep v3 _).mono BV.out.size)) (fun _ => ?_) AllReadyH.nil))
  · rintro e v4 ⟨vk, rfl, ho, hb⟩
    have BV := Lib.hid (BV.out.trans (hb.mono BV.out.size))
    have SK := Lib.hid (own_liesK encS_len ho)
    clear ho
    clear hb
    refine ⟨_, rfl, BV.out, fun _ => ?_⟩
    simp only [Act.put, List.setIfInBounds_toArray, List.set_cons_zero, List.set_cons_succ]
    refine wpAnyH_ready (rs := [22]) (by kernel_rfl) (by simp) (br_bslice (i := 22) 42 43 1 _ #[(0, .agg #[.int .i64 2, .int .i64 0])] _ _ rfl rfl rfl rfl rfl (bs1 v4) (BV.out.trans ((vstep v4 _).mono BV.out.size)) (fun _ => ?_) AllReadyH.nil)
    obtain ⟨v5, hv5⟩ : ∃ x, v4.alloc (.cells #[.int .i64 2, .int .i64 0] 24) = x := ⟨_, rfl⟩
    have hb : Below v4.heap.size v4 v5 := by rw [← hv5]; exact vstep v4 _
    have SL := Lib.hid (show LiesK encS 2 v5 (.slice (some ⟨v4.heap.size, 0, none⟩) 1 1) [((2 : Int), (0 : Int))] from by rw [← hv5]; exact one_liesK (p := ((2 : Int), (0 : Int))) encS_len (heap_alloc_new v4 _))
    rw [hv5]
    obtain ⟨k5, hk5⟩ : ∃ x, v4.heap.size = x := ⟨_, rfl⟩
    rw [hk5] at SL ⊢
    have BV := Lib.hid (BV.out.trans (hb.mono BV.out.size))
    have SK := Lib.hid (SK.out.step hb)
    clear hb hv5 hk5
    simp only [Act.put, List.setIfInBounds_toArray, List.set_cons_zero, List.set_cons_succ]
    refine wpAnyH_ready (rs := [23]) (by kernel_rfl) (by simp) (br_call (i := 23) 43 18 #[vk, .slice (some ⟨k5, 0, none⟩) 1 1] rfl rfl rfl (by go_simp) (((SM.out _ _ _ _ _ SK.out SL.out)).mono ?_) AllReadyH.nil)
    rintro e v6 ⟨rfl, hb⟩
    have BV := Lib.hid (BV.out.trans (hb.mono BV.out.size))
    have SK := Lib.hid (SK.out.step hb)
    have SL := Lib.hid (SL.out.step hb)
    clear hb
    refine ⟨_, rfl, BV.out, fun _ => ?_⟩
    simp only [Act.put, List.setIfInBounds_toArray, List.set_cons_zero, List.set_cons_succ]
    refine take_at (i := 24) 44 ?_ rfl rfl (by kernel_rfl) (by kernel_rfl) (by kernel_rfl) (fun _ _ _ h => h) (.inl ⟨rfl, ?_⟩) BV.out ?_
    rotate_left 1
    · intro w hSw; go_simp; try with_reducible rfl
    simp only [Act.put, List.setIfInBounds_toArray, List.set_cons_zero, List.set_cons_succ]
    refine take_at (i := 25) 45 ?_ rfl rfl (by kernel_rfl) (by kernel_rfl) (by kernel_rfl) (fun _ _ _ h => h) (.inl ⟨rfl, ?_⟩) BV.out ?_
    rotate_left 1
    · intro w hSw; go_simp; try with_reducible rfl
    simp only [Act.put, List.setIfInBounds_toArray, List.set_cons_zero, List.set_cons_succ]
    refine take_at (i := 26) 46 ?_ rfl rfl (by kernel_rfl) (by kernel_rfl) (by kernel_rfl) (fun _ _ _ h => h) (.inl ⟨rfl, ?_⟩) BV.out ?_
    rotate_left 1
    · intro w hSw; go_simp; try with_reducible rfl
    simp only [Act.put, List.setIfInBounds_toArray, List.set_cons_zero, List.set_cons_succ]
    refine wpAnyH_ready (rs := [27]) (by kernel_rfl) (by simp) (br_call (i := 27) 47 32 #[.pointer (some ⟨p, 0, none⟩)] rfl rfl rfl (by go_simp) ((LN.out _ BV.out).mono ?_) AllReadyH.nil)
    rintro e v7 ⟨rfl, hb⟩
    have BV := Lib.hid (BV.out.trans (hb.mono BV.out.size))
    have SK := Lib.hid (SK.out.step hb)
    have SL := Lib.hid (SL.out.step hb)
    clear hb
    refine ⟨_, rfl, BV.out, fun _ => ?_⟩
    simp only [Act.put, List.setIfInBounds_toArray, List.set_cons_zero, List.set_cons_succ]
    refine take_at (i := 28) 48 ?_ rfl rfl (by kernel_rfl) (by kernel_rfl) (by kernel_rfl) (fun _ _ _ h => h) (.inl ⟨rfl, ?_⟩) BV.out ?_
    rotate_left 1
    · intro w hSw; go_simp; try with_reducible rfl
    simp only [Act.put, List.setIfInBounds_toArray, List.set_cons_zero, List.set_cons_succ]
    refine take_at (i := 29) 49 ?_ rfl rfl (by kernel_rfl) (by kernel_rfl) (by kernel_rfl) (fun _ _ _ h => h) (.inl ⟨rfl, ?_⟩) BV.out ?_
    rotate_left 1
    · intro w hSw; go_simp; try with_reducible rfl
    simp only [Act.put, List.setIfInBounds_toArray, List.set_cons_zero, List.set_cons_succ]
    refine take_at (i := 30) 0 ?_ rfl rfl (by kernel_rfl) (by kernel_rfl) (by kernel_rfl) (fun _ _ _ h => h) (.inl ⟨rfl, ?_⟩) BV.out ?_
    rotate_left 1
    · intro w hSw; go_simp; try with_reducible rfl
    simp only [Act.put, List.setIfInBounds_toArray, List.set_cons_zero]
    refine wpAnyH_done (by kernel_rfl) ?_ _
    go_wp2
    go_returns
    exact ⟨rfl, BB4.out.trans (BV.out.mono BB4.out.size)⟩
  · obtain ⟨v8, hv8⟩ : ∃ x, v3.alloc (.cells #[.int .i64 2, .int .i64 0] 24) = x := ⟨_, rfl⟩
    have hb : Below v3.heap.size v3 v8 := by rw [← hv8]; exact vstep v3 _
    have SL := Lib.hid (show LiesK encS 2 v8 (.slice (some ⟨v3.heap.size, 0, none⟩) 1 1) [((2 : Int), (0 : Int))] from by rw [← hv8]; exact one_liesK (p := ((2 : Int), (0 : Int))) encS_len (heap_alloc_new v3 _))
    rw [hv8]
    obtain ⟨k8, hk8⟩ : ∃ x, v3.heap.size = x := ⟨_, rfl⟩
    rw [hk8] at SL ⊢
    have BV := Lib.hid (BV.out.trans (hb.mono BV.out.size))
    clear hb hv8 hk8
    simp only [Act.put, List.setIfInBounds_toArray, List.set_cons_zero, List.set_cons_succ]
    refine wpAnyH_ready (rs := [20]) (by kernel_rfl) (by simp) (br_call (i := 20) 40 19 #[.pointer (some ⟨p, 0, none⟩), .agg #[.int .i64 1, .int .i64 0]] rfl rfl rfl (by go_simp) ((KD.out _ BV.out).mono ?_) AllReadyH.nil)
    rintro e v9 ⟨vk, rfl, ho, hb⟩
    have BV := Lib.hid (BV.out.trans (hb.mono BV.out.size))
    have SL := Lib.hid (SL.out.step hb)
    have SK := Lib.hid (own_liesK encS_len ho)
    clear ho
    clear hb
    refine ⟨_, rfl, BV.out, fun _ => ?_⟩
    simp only [Act.put, List.setIfInBounds_toArray, List.set_cons_zero, List.set_cons_succ]
    refine wpAnyH_ready (rs := [23]) (by kernel_rfl) (by simp) (br_call (i := 23) 43 18 #[vk, .slice (some ⟨k8, 0, none⟩) 1 1] rfl rfl rfl (by go_simp) (((SM.out _ _ _ _ _ SK.out SL.out)).mono ?_) AllReadyH.nil)
    rintro e v10 ⟨rfl, hb⟩
    have BV := Lib.hid (BV.out.trans (hb.mono BV.out.size))
    have SL := Lib.hid (SL.out.step hb)
    have SK := Lib.hid (SK.out.step hb)
    clear hb
    refine ⟨_, rfl, BV.out, fun _ => ?_⟩
    simp only [Act.put, List.setIfInBounds_toArray, List.set_cons_zero, List.set_cons_succ]
    refine take_at (i := 24) 44 ?_ rfl rfl (by kernel_rfl) (by kernel_rfl) (by kernel_rfl) (fun _ _ _ h => h) (.inl ⟨rfl, ?_⟩) BV.out ?_
    rotate_left 1
    · intro w hSw; go_simp; try with_reducible rfl
    simp only [Act.put, List.setIfInBounds_toArray, List.set_cons_zero, List.set_cons_succ]
    refine take_at (i := 25) 45 ?_ rfl rfl (by kernel_rfl) (by kernel_rfl) (by kernel_rfl) (fun _ _ _ h => h) (.inl ⟨rfl, ?_⟩) BV.out ?_
    rotate_left 1
    · intro w hSw; go_simp; try with_reducible rfl
    simp only [Act.put, List.setIfInBounds_toArray, List.set_cons_zero, List.set_cons_succ]
    refine take_at (i := 26) 46 ?_ rfl rfl (by kernel_rfl) (by kernel_rfl) (by kernel_rfl) (fun _ _ _ h => h) (.inl ⟨rfl, ?_⟩) BV.out ?_
    rotate_left 1
    · intro w hSw; go_simp; try with_reducible rfl
    simp only [Act.put, List.setIfInBounds_toArray, List.set_cons_zero, List.set_cons_succ]
    refine wpAnyH_ready (rs := [27]) (by kernel_rfl) (by simp) (br_call (i := 27) 47 32 #[.pointer (some ⟨p, 0, none⟩)] rfl rfl rfl (by go_simp) ((LN.out _ BV.out).mono ?_) AllReadyH.nil)
    rintro e v11 ⟨rfl, hb⟩
    have BV := Lib.hid (BV.out.trans (hb.mono BV.out.size))
    have SL := Lib.hid (SL.out.step hb)
    have SK := Lib.hid (SK.out.step hb)
    clear hb
    refine ⟨_, rfl, BV.out, fun _ => ?_⟩
    simp only [Act.put, List.setIfInBounds_toArray, List.set_cons_zero, List.set_cons_succ]
    refine take_at (i := 28) 48 ?_ rfl rfl (by kernel_rfl) (by kernel_rfl) (by kernel_rfl) (fun _ _ _ h => h) (.inl ⟨rfl, ?_⟩) BV.out ?_
    rotate_left 1
    · intro w hSw; go_simp; try with_reducible rfl
    simp only [Act.put, List.setIfInBounds_toArray, List.set_cons_zero, List.set_cons_succ]
    refine take_at (i := 29) 49 ?_ rfl rfl (by kernel_rfl) (by kernel_rfl) (by kernel_rfl) (fun _ _ _ h => h) (.inl ⟨rfl, ?_⟩) BV.out ?_
    rotate_left 1
    · intro w hSw; go_simp; try with_reducible rfl
    simp only [Act.put, List.setIfInBounds_toArray, List.set_cons_zero, List.set_cons_succ]
    refine take_at (i := 30) 0 ?_ rfl rfl (by kernel_rfl) (by kernel_rfl) (by kernel_rfl) (fun _ _ _ h => h) (.inl ⟨rfl, ?_⟩) BV.out ?_
    rotate_left 1
    · intro w hSw; go_simp; try with_reducible rfl
    simp only [Act.put, List.setIfInBounds_toArray, List.set_cons_zero]
    refine wpAnyH_done (by kernel_rfl) ?_ _
    go_wp2
    go_returns
    exact ⟨rfl, BB4.out.trans (BV.out.mono BB4.out.size)⟩

end Go.Proofs.Ytegmlekeielmoaa
