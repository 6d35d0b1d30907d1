/- The chapter's example of fates; FateNobody's law. Made by genfc13.py. -/
import Derived.Test.YtegmlekeielmoaaFB
set_option linter.unusedVariables false
set_option maxRecDepth 100000
namespace Go.Proofs.Ytegmlekeielmoaa
open Go.RowKit Go.WideMaps Go.Maps

def yd : Rw := ⟨1, 0, 0, 1, ⟨#[100]⟩, true⟩
def yx : Rw := ⟨2, 1, 1, 0, ⟨#[120]⟩, false⟩
theorem yd_ok : yd.ok := ⟨i64s 1 (by omega), i64s 0 (by omega), i64s 0 (by omega), i64s 1 (by omega)⟩
theorem yx_ok : yx.ok := ⟨i64s 2 (by omega), i64s 1 (by omega), i64s 1 (by omega), i64s 0 (by omega)⟩
theorem set_dx : setF (setF [] yd) yx = [yd, yx] := by simp [setF, ltR, ltS, yd, yx]
theorem fate_d : fateF [yd, yx] 1 0 = 1 := by rfl
theorem fate_x : fateF [yd, yx] 2 1 = 2 := by rfl
theorem all_dx : allF [yd, yx] 2 = [(2, 1)] := by rfl
theorem top_dx : topF [yd, yx] 2 2 1 = (2, 1) := by rfl
theorem bs43' (W : World) (t r : Int) : (Instr.buildSlice 43 1 #[(0, .agg #[.int .i64 t, .int .i64 r])]).run Try.prog W = .ok (.slice (some ⟨W.heap.size, 0, none⟩) 1 1) (W.alloc (.cells #[.int .i64 t, .int .i64 r] 24)) := by go_simp
def TwoS (W : World) (n1 n2 : Nat) : Prop := StAt W n1 1 0 ∧ StAt W n2 2 1
theorem TwoS.step {W W' : World} {n1 n2 : Nat} (h : TwoS W n1 n2) (hb : Below W.heap.size W W') : TwoS W' n1 n2 := ⟨h.1.step hb, h.2.step hb⟩
theorem TwoS.turn {W W' : World} {n1 n2 p b : Nat} {l : List Rw} (h : TwoS W n1 n2) (ho : TOut W W' p b l) (h1 : b < n1) (h2 : b < n2) : TwoS W' n1 n2 :=
  ⟨(ho.grow.block _ (lt_of_block h.1) (fun e => by injection e; omega)).trans h.1, (ho.grow.block _ (lt_of_block h.2) (fun e => by injection e; omega)).trans h.2⟩
set_option maxHeartbeats 6400000 in
theorem fawake_any (w : World) : Calls Try.prog 34 #[] w fun e w' => e = .returned (.bool true) ∧ Below w.heap.size w w' := by
  have N := Lib.hid (new_any w)
  go_enter Try.func34, Try.ntmps34
  go_wp2_with fail
  refine N.out.mono ?_
  rintro e w1 ⟨p, b, rfl, h1, h2, h3, h4⟩
  have B2 := vstep w1 (.cells #[.int .i64 1, .int .i64 0] 24)
  have B3 := vstep (w1.alloc (.cells #[.int .i64 1, .int .i64 0] 24)) (.cells #[.int .i64 2, .int .i64 1] 24)
  have T2 := Lib.hid ((h1.step B2).step B3)
  have SS := Lib.hid (show TwoS ((w1.alloc (.cells #[.int .i64 1, .int .i64 0] 24)).alloc (.cells #[.int .i64 2, .int .i64 1] 24)) w1.heap.size (w1.heap.size + 1) from ⟨(StAt.new w1 1 0).step B3, by have := StAt.new (w1.alloc (.cells #[.int .i64 1, .int .i64 0] 24)) 2 1; rwa [World.size_alloc] at this⟩)
  have BB := Lib.hid (h4.trans ((B2.trans (B3.mono B2.size)).mono h4.size))
  have PB := Lib.hid (show b < w1.heap.size ∧ b < w1.heap.size + 1 from ⟨h1.blt, by have := h1.blt; omega⟩)
  have PW := Lib.hid h3
  clear h1 h2 h3 h4 B2 B3 N
  go_upto_region 3 with (fail)
  obtain ⟨w2, hw2⟩ : ∃ y, (w1.alloc (.cells #[.int .i64 1, .int .i64 0] 24)).alloc (.cells #[.int .i64 2, .int .i64 1] 24) = y := ⟨_, rfl⟩
  rw [hw2] at T2 SS BB ⊢
  clear hw2
  obtain ⟨n1, hn1⟩ : ∃ k, w1.heap.size = k := ⟨_, rfl⟩
  rw [hn1] at SS PB ⊢
  obtain ⟨n2, hn2⟩ : ∃ k, n1 + 1 = k := ⟨_, rfl⟩
  rw [hn2] at SS PB ⊢
  clear hn1 hn2
  have LA := fun W (h : TwoS W n1 n2) => load24 W _ _ _ h.1
  have LB := fun W (h : TwoS W n1 n2) => load24 W _ _ _ h.2
  have TT := Lib.hid (T2.out.step (show Below w2.heap.size w2 w2.drew from (Below.refl _ _).drew))
  have BW := Lib.hid (BB.out.trans ((show Below w2.heap.size w2 w2.drew from (Below.refl _ _).drew).mono BB.out.size))
  clear T2 BB
  refine wp_region_held_drew (S := fun W => TwoS W n1 n2) (by kernel_rfl) (SS.out.step (show Below w2.heap.size w2 w2.drew from (Below.refl _ _).drew)) (fun hHeld => ?_)
  have BV := Lib.hid (SS.out.step (show Below w2.heap.size w2 w2.drew from (Below.refl _ _).drew))
  clear hHeld
  refine take_at (i := 0) 7 ?_ rfl rfl (by kernel_rfl) (by kernel_rfl) (by kernel_rfl) (fun _ _ _ h => h) (.inl ⟨rfl, ?_⟩) BV.out ?_
  rotate_left 1
  · intro w hSw; go_simp; try with_reducible rfl
  simp only [Act.put, List.setIfInBounds_toArray, List.set_cons_zero, List.set_cons_succ]
  refine take_at (i := 1) 8 (.agg #[.int .i64 1, .int .i64 0]) rfl rfl (by kernel_rfl) (by kernel_rfl) (by kernel_rfl) (fun _ _ _ h => h) (yields_ld (.tmp 2) 24 (.pointer (some ⟨n1, 0, none⟩)) _ LA rfl rfl rfl) BV.out ?_
  simp only [Act.put, List.setIfInBounds_toArray, List.set_cons_zero, List.set_cons_succ]
  refine wpAnyH_ready (rs := [2]) (by kernel_rfl) (by simp) (br_call (i := 2) 9 50 #[] rfl rfl rfl (by go_simp) ((trash_any _).mono ?_) AllReadyH.nil)
  rintro e v1 ⟨rfl, hb⟩
  have BV := Lib.hid (BV.out.step hb)
  have BW := Lib.hid (BW.out.trans (hb.mono BW.out.size))
  have TT := Lib.hid (TT.out.step hb)
  clear hb
  refine ⟨_, rfl, BV.out, fun _ => ?_⟩
  simp only [Act.put, List.setIfInBounds_toArray, List.set_cons_zero, List.set_cons_succ]
  refine take_at (i := 3) 10 ?_ rfl rfl (by kernel_rfl) (by kernel_rfl) (by kernel_rfl) (fun _ _ _ h => h) (.inl ⟨rfl, ?_⟩) BV.out ?_
  rotate_left 1
  · intro w hSw; go_simp; try with_reducible rfl
  simp only [Act.put, List.setIfInBounds_toArray, List.set_cons_zero, List.set_cons_succ]
  refine wpAnyH_ready (rs := [4]) (by kernel_rfl) (by simp) (br_call (i := 4) 11 11 #[.pointer (some ⟨p, 0, none⟩), .agg #[.int .i64 1, .int .i64 0], .agg #[.int .i64 0, .int .i64 1, .string ⟨#[100]⟩, .bool true]] rfl rfl rfl (by go_simp) ((set_any _ p b [] TT.out (by simp) yd yd_ok).mono ?_) AllReadyH.nil)
  rintro e v2 ⟨rfl, ho⟩
  have BV := Lib.hid (BV.out.turn ho PB.out.1 PB.out.2)
  have BW := Lib.hid (BW.out.trans (ho.below PW.out BW.out.size))
  have TT := Lib.hid (show TabI v2 p b (setF [] yd) from ho.tab)
  clear ho
  refine ⟨_, rfl, BV.out, fun _ => ?_⟩
  simp only [Act.put, List.setIfInBounds_toArray, List.set_cons_zero, List.set_cons_succ]
  refine take_at (i := 5) 12 ?_ rfl rfl (by kernel_rfl) (by kernel_rfl) (by kernel_rfl) (fun _ _ _ h => h) (.inl ⟨rfl, ?_⟩) BV.out ?_
  rotate_left 1
  · intro w hSw; go_simp; try with_reducible rfl
  simp only [Act.put, List.setIfInBounds_toArray, List.set_cons_zero, List.set_cons_succ]
  refine take_at (i := 6) 13 ?_ rfl rfl (by kernel_rfl) (by kernel_rfl) (by kernel_rfl) (fun _ _ _ h => h) (.inl ⟨rfl, ?_⟩) BV.out ?_
  rotate_left 1
  · intro w hSw; go_simp; try with_reducible rfl
  simp only [Act.put, List.setIfInBounds_toArray, List.set_cons_zero, List.set_cons_succ]
  refine take_at (i := 7) 14 ?_ rfl rfl (by kernel_rfl) (by kernel_rfl) (by kernel_rfl) (fun _ _ _ h => h) (.inl ⟨rfl, ?_⟩) BV.out ?_
  rotate_left 1
  · intro w hSw; go_simp; try with_reducible rfl
  simp only [Act.put, List.setIfInBounds_toArray, List.set_cons_zero, List.set_cons_succ]
  refine take_at (i := 8) 15 (.agg #[.int .i64 2, .int .i64 1]) rfl rfl (by kernel_rfl) (by kernel_rfl) (by kernel_rfl) (fun _ _ _ h => h) (yields_ld (.tmp 3) 24 (.pointer (some ⟨n2, 0, none⟩)) _ LB rfl rfl rfl) BV.out ?_
  simp only [Act.put, List.setIfInBounds_toArray, List.set_cons_zero, List.set_cons_succ]
  refine take_at (i := 9) 16 (.agg #[.int .i64 1, .int .i64 0]) rfl rfl (by kernel_rfl) (by kernel_rfl) (by kernel_rfl) (fun _ _ _ h => h) (yields_ld (.tmp 2) 24 (.pointer (some ⟨n1, 0, none⟩)) _ LA rfl rfl rfl) BV.out ?_
  simp only [Act.put, List.setIfInBounds_toArray, List.set_cons_zero, List.set_cons_succ]
  refine take_at (i := 10) 17 ?_ rfl rfl (by kernel_rfl) (by kernel_rfl) (by kernel_rfl) (fun _ _ _ h => h) (.inl ⟨rfl, ?_⟩) BV.out ?_
  rotate_left 1
  · intro w hSw; go_simp; try with_reducible rfl
  simp only [Act.put, List.setIfInBounds_toArray, List.set_cons_zero, List.set_cons_succ]
  refine wpAnyH_ready (rs := [11]) (by kernel_rfl) (by simp) (br_call (i := 11) 18 11 #[.pointer (some ⟨p, 0, none⟩), .agg #[.int .i64 2, .int .i64 1], .agg #[.int .i64 1, .int .i64 0, .string ⟨#[120]⟩, .bool false]] rfl rfl rfl (by go_simp) ((set_any _ p b _ TT.out (by have := setF_len [] yd; simp at this; omega) yx yx_ok).mono ?_) AllReadyH.nil)
  rintro e v3 ⟨rfl, ho⟩
  have BV := Lib.hid (BV.out.turn ho PB.out.1 PB.out.2)
  have BW := Lib.hid (BW.out.trans (ho.below PW.out BW.out.size))
  have TT := Lib.hid (show TabI v3 p b [yd, yx] from by rw [← set_dx]; exact ho.tab)
  clear ho
  refine ⟨_, rfl, BV.out, fun _ => ?_⟩
  simp only [Act.put, List.setIfInBounds_toArray, List.set_cons_zero, List.set_cons_succ]
  refine take_at (i := 12) 19 ?_ rfl rfl (by kernel_rfl) (by kernel_rfl) (by kernel_rfl) (fun _ _ _ h => h) (.inl ⟨rfl, ?_⟩) BV.out ?_
  rotate_left 1
  · intro w hSw; go_simp; try with_reducible rfl
  simp only [Act.put, List.setIfInBounds_toArray, List.set_cons_zero, List.set_cons_succ]
  refine take_at (i := 13) 20 ?_ rfl rfl (by kernel_rfl) (by kernel_rfl) (by kernel_rfl) (fun _ _ _ h => h) (.inl ⟨rfl, ?_⟩) BV.out ?_
  rotate_left 1
  · intro w hSw; go_simp; try with_reducible rfl
  simp only [Act.put, List.setIfInBounds_toArray, List.set_cons_zero, List.set_cons_succ]
  refine wpAnyH_done (by kernel_rfl) ?_ _
  have TW := Lib.hid TT.out
  have SW := Lib.hid BV.out
  clear LA LB BV TT SS
  go_upto_region 5 with (fail)
  have F1 := Lib.hid (fun W (hb : Below v3.heap.size v3 W) => of_any W p b _ (TW.out.step hb) 1 0 (i64s 1 (by omega)) (i64s 0 (by omega)))
  rw [fate_d] at F1
  have F2 := Lib.hid (fun W (hb : Below v3.heap.size v3 W) => of_any W p b _ (TW.out.step hb) 2 1 (i64s 2 (by omega)) (i64s 1 (by omega)))
  rw [fate_x] at F2
  have AL := Lib.hid (fun W (hb : Below v3.heap.size v3 W) => all_any W p b _ (TW.out.step hb) (by simp) 2)
  rw [all_dx] at AL
  have TP := Lib.hid (fun W (hb : Below v3.heap.size v3 W) => top_any W p b _ (TW.out.step hb) (by simp) 2 1 (i64s 2 (by omega)) (i64s 1 (by omega)))
  rw [show topF [yd, yx] [yd, yx].length 2 1 = (2, 1) from top_dx] at TP
  have LA2 := Lib.hid (fun W (hb : Below v3.heap.size v3 W) => load24 W _ _ _ (SW.out.step hb).1)
  have LB2 := Lib.hid (fun W (hb : Below v3.heap.size v3 W) => load24 W _ _ _ (SW.out.step hb).2)
  have bs1 := fun W => bs43' W 2 1
  clear TW SW
  refine wp_region_held_drew (S := fun w' => Below v3.heap.size v3 w') (by kernel_rfl) (Below.refl _ _).drew (fun hHeld => ?_)
  have BV := Lib.hid (show Below v3.heap.size v3 v3.drew from (Below.refl _ _).drew)
  clear hHeld
  refine take_at (i := 0) 21 ?_ rfl rfl (by kernel_rfl) (by kernel_rfl) (by kernel_rfl) (fun _ _ _ h => h) (.inl ⟨rfl, ?_⟩) BV.out ?_
  rotate_left 1
  · intro w hSw; go_simp; try with_reducible rfl
  simp only [Act.put, List.setIfInBounds_toArray, List.set_cons_zero, List.set_cons_succ]
  refine take_at (i := 1) 22 (.agg #[.int .i64 1, .int .i64 0]) rfl rfl (by kernel_rfl) (by kernel_rfl) (by kernel_rfl) (fun _ _ _ h => h) (yields_ld (.tmp 2) 24 (.pointer (some ⟨n1, 0, none⟩)) _ LA2.out rfl rfl rfl) BV.out ?_
  simp only [Act.put, List.setIfInBounds_toArray, List.set_cons_zero, List.set_cons_succ]
  refine wpAnyH_ready (rs := [2]) (by kernel_rfl) (by simp) (br_call (i := 2) 23 37 #[.pointer (some ⟨p, 0, none⟩), .agg #[.int .i64 1, .int .i64 0]] rfl rfl rfl (by go_simp) ((F1.out _ BV.out).mono ?_) AllReadyH.nil)
  rintro e v21 ⟨rfl, hb⟩
  have BV := Lib.hid (BV.out.trans (hb.mono BV.out.size))
  clear hb
  refine ⟨_, rfl, BV.out, fun _ => ?_⟩
  simp only [Act.put, List.setIfInBounds_toArray, List.set_cons_zero, List.set_cons_succ]
  refine take_at (i := 3) 24 ?_ rfl rfl (by kernel_rfl) (by kernel_rfl) (by kernel_rfl) (fun _ _ _ h => h) (.inl ⟨rfl, ?_⟩) BV.out ?_
  rotate_left 1
  · intro w hSw; go_simp; try with_reducible rfl
  simp only [Act.put, List.setIfInBounds_toArray, List.set_cons_zero, List.set_cons_succ]
  refine take_at (i := 4) 25 ?_ rfl rfl (by kernel_rfl) (by kernel_rfl) (by kernel_rfl) (fun _ _ _ h => h) (.inl ⟨rfl, ?_⟩) BV.out ?_
  rotate_left 1
  · intro w hSw; go_simp; try with_reducible rfl
  simp only [Act.put, List.setIfInBounds_toArray, List.set_cons_zero, List.set_cons_succ]
  refine take_at (i := 5) 26 ?_ rfl rfl (by kernel_rfl) (by kernel_rfl) (by kernel_rfl) (fun _ _ _ h => h) (.inl ⟨rfl, ?_⟩) BV.out ?_
  rotate_left 1
  · intro w hSw; go_simp; try with_reducible rfl
  simp only [Act.put, List.setIfInBounds_toArray, List.set_cons_zero, List.set_cons_succ]
  refine take_at (i := 6) 27 (.agg #[.int .i64 2, .int .i64 1]) rfl rfl (by kernel_rfl) (by kernel_rfl) (by kernel_rfl) (fun _ _ _ h => h) (yields_ld (.tmp 3) 24 (.pointer (some ⟨n2, 0, none⟩)) _ LB2.out rfl rfl rfl) BV.out ?_
  simp only [Act.put, List.setIfInBounds_toArray, List.set_cons_zero, List.set_cons_succ]
  refine wpAnyH_ready (rs := [7]) (by kernel_rfl) (by simp) (br_call (i := 7) 28 37 #[.pointer (some ⟨p, 0, none⟩), .agg #[.int .i64 2, .int .i64 1]] rfl rfl rfl (by go_simp) ((F2.out _ BV.out).mono ?_) AllReadyH.nil)
  rintro e v22 ⟨rfl, hb⟩
  have BV := Lib.hid (BV.out.trans (hb.mono BV.out.size))
  clear hb
  refine ⟨_, rfl, BV.out, fun _ => ?_⟩
  simp only [Act.put, List.setIfInBounds_toArray, List.set_cons_zero, List.set_cons_succ]
  refine take_at (i := 8) 29 ?_ rfl rfl (by kernel_rfl) (by kernel_rfl) (by kernel_rfl) (fun _ _ _ h => h) (.inl ⟨rfl, ?_⟩) BV.out ?_
  rotate_left 1
  · intro w hSw; go_simp; try with_reducible rfl
  simp only [Act.put, List.setIfInBounds_toArray, List.set_cons_zero, List.set_cons_succ]
  refine take_at (i := 9) 30 ?_ rfl rfl (by kernel_rfl) (by kernel_rfl) (by kernel_rfl) (fun _ _ _ h => h) (.inl ⟨rfl, ?_⟩) BV.out ?_
  rotate_left 1
  · intro w hSw; go_simp; try with_reducible rfl
  simp only [Act.put, List.setIfInBounds_toArray, List.set_cons_zero, List.set_cons_succ]
  refine take_at (i := 10) 31 ?_ rfl rfl (by kernel_rfl) (by kernel_rfl) (by kernel_rfl) (fun _ _ _ h => h) (.inl ⟨rfl, ?_⟩) BV.out ?_
  rotate_left 1
  · intro w hSw; go_simp; try with_reducible rfl
  simp only [Act.put, List.setIfInBounds_toArray, List.set_cons_zero, List.set_cons_succ]
  refine take_at (i := 11) 32 ?_ rfl rfl (by kernel_rfl) (by kernel_rfl) (by kernel_rfl) (fun _ _ _ h => h) (.inl ⟨rfl, ?_⟩) BV.out ?_
  rotate_left 1
  · intro w hSw; go_simp; try with_reducible rfl
  simp only [Act.put, List.setIfInBounds_toArray, List.set_cons_zero, List.set_cons_succ]
  refine take_at (i := 13) 34 (.agg #[.int .i64 2, .int .i64 1]) rfl rfl (by kernel_rfl) (by kernel_rfl) (by kernel_rfl) (fun _ _ _ h => h) (yields_ld (.tmp 3) 24 (.pointer (some ⟨n2, 0, none⟩)) _ LB2.out rfl rfl rfl) BV.out ?_
  simp only [Act.put, List.setIfInBounds_toArray, List.set_cons_zero, List.set_cons_succ]
  refine wpAnyH_ready (rs := [12, 14]) (by kernel_rfl) (by simp) (br_call (i := 12) 33 35 #[.pointer (some ⟨p, 0, none⟩), .int .i64 2] rfl rfl rfl (by go_simp) ((AL.out _ BV.out).mono ?_) (br_bslice (i := 14) 35 43 1 _ #[(0, .agg #[.int .i64 2, .int .i64 1])] _ _ rfl rfl rfl rfl rfl (bs1 v22) (BV.out.trans ((vstep v22 _).mono BV.out.size)) (fun _ => ?_) AllReadyH.nil))
  · rintro e v23 ⟨vk, rfl, ho, hb⟩
    have BV := Lib.hid (BV.out.trans (hb.mono BV.out.size))
    have SK := Lib.hid (own_liesK encS_len ho)
    clear ho
    clear hb
    refine ⟨_, rfl, BV.out, fun _ => ?_⟩
    simp only [Act.put, List.setIfInBounds_toArray, List.set_cons_zero, List.set_cons_succ]
    refine wpAnyH_ready (rs := [14]) (by kernel_rfl) (by simp) (br_bslice (i := 14) 35 43 1 _ #[(0, .agg #[.int .i64 2, .int .i64 1])] _ _ rfl rfl rfl rfl rfl (bs1 v23) (BV.out.trans ((vstep v23 _).mono BV.out.size)) (fun _ => ?_) AllReadyH.nil)
    obtain ⟨v24, hv24⟩ : ∃ x, v23.alloc (.cells #[.int .i64 2, .int .i64 1] 24) = x := ⟨_, rfl⟩
    have hb : Below v23.heap.size v23 v24 := by rw [← hv24]; exact vstep v23 _
    have SL := Lib.hid (show LiesK encS 2 v24 (.slice (some ⟨v23.heap.size, 0, none⟩) 1 1) [((2 : Int), (1 : Int))] from by rw [← hv24]; exact one_liesK (p := ((2 : Int), (1 : Int))) encS_len (heap_alloc_new v23 _))
    rw [hv24]
    obtain ⟨k24, hk24⟩ : ∃ x, v23.heap.size = x := ⟨_, rfl⟩
    rw [hk24] at SL ⊢
    have BV := Lib.hid (BV.out.trans (hb.mono BV.out.size))
    have SK := Lib.hid (SK.out.step hb)
    clear hb hv24 hk24
    simp only [Act.put, List.setIfInBounds_toArray, List.set_cons_zero, List.set_cons_succ]
    refine wpAnyH_ready (rs := [15]) (by kernel_rfl) (by simp) (br_call (i := 15) 36 18 #[vk, .slice (some ⟨k24, 0, none⟩) 1 1] rfl rfl rfl (by go_simp) ((same_self _ _ _ _ SK.out SL.out).mono ?_) AllReadyH.nil)
    rintro e v25 ⟨rfl, hb⟩
    have BV := Lib.hid (BV.out.trans (hb.mono BV.out.size))
    have SK := Lib.hid (SK.out.step hb)
    have SL := Lib.hid (SL.out.step hb)
    clear hb
    refine ⟨_, rfl, BV.out, fun _ => ?_⟩
    simp only [Act.put, List.setIfInBounds_toArray, List.set_cons_zero, List.set_cons_succ]
    refine take_at (i := 16) 37 ?_ rfl rfl (by kernel_rfl) (by kernel_rfl) (by kernel_rfl) (fun _ _ _ h => h) (.inl ⟨rfl, ?_⟩) BV.out ?_
    rotate_left 1
    · intro w hSw; go_simp; try with_reducible rfl
    simp only [Act.put, List.setIfInBounds_toArray, List.set_cons_zero, List.set_cons_succ]
    refine take_at (i := 17) 38 ?_ rfl rfl (by kernel_rfl) (by kernel_rfl) (by kernel_rfl) (fun _ _ _ h => h) (.inl ⟨rfl, ?_⟩) BV.out ?_
    rotate_left 1
    · intro w hSw; go_simp; try with_reducible rfl
    simp only [Act.put, List.setIfInBounds_toArray, List.set_cons_zero, List.set_cons_succ]
    refine take_at (i := 18) 39 ?_ rfl rfl (by kernel_rfl) (by kernel_rfl) (by kernel_rfl) (fun _ _ _ h => h) (.inl ⟨rfl, ?_⟩) BV.out ?_
    rotate_left 1
    · intro w hSw; go_simp; try with_reducible rfl
    simp only [Act.put, List.setIfInBounds_toArray, List.set_cons_zero, List.set_cons_succ]
    refine take_at (i := 19) 40 (.agg #[.int .i64 2, .int .i64 1]) rfl rfl (by kernel_rfl) (by kernel_rfl) (by kernel_rfl) (fun _ _ _ h => h) (yields_ld (.tmp 3) 24 (.pointer (some ⟨n2, 0, none⟩)) _ LB2.out rfl rfl rfl) BV.out ?_
    simp only [Act.put, List.setIfInBounds_toArray, List.set_cons_zero, List.set_cons_succ]
    refine take_at (i := 21) 42 (.agg #[.int .i64 2, .int .i64 1]) rfl rfl (by kernel_rfl) (by kernel_rfl) (by kernel_rfl) (fun _ _ _ h => h) (yields_ld (.tmp 3) 24 (.pointer (some ⟨n2, 0, none⟩)) _ LB2.out rfl rfl rfl) BV.out ?_
    simp only [Act.put, List.setIfInBounds_toArray, List.set_cons_zero, List.set_cons_succ]
    refine wpAnyH_ready (rs := [20]) (by kernel_rfl) (by simp) (br_call (i := 20) 41 40 #[.pointer (some ⟨p, 0, none⟩), .agg #[.int .i64 2, .int .i64 1]] rfl rfl rfl (by go_simp) ((TP.out _ BV.out).mono ?_) AllReadyH.nil)
    rintro e v26 ⟨rfl, hb⟩
    have BV := Lib.hid (BV.out.trans (hb.mono BV.out.size))
    have SK := Lib.hid (SK.out.step hb)
    have SL := Lib.hid (SL.out.step hb)
    clear hb
    refine ⟨_, rfl, BV.out, fun _ => ?_⟩
    simp only [Act.put, List.setIfInBounds_toArray, List.set_cons_zero, List.set_cons_succ]
    refine take_at (i := 22) 43 ?_ rfl rfl (by kernel_rfl) (by kernel_rfl) (by kernel_rfl) (fun _ _ _ h => h) (.inl ⟨rfl, ?_⟩) BV.out ?_
    rotate_left 1
    · intro w hSw; go_simp; try with_reducible rfl
    simp only [Act.put, List.setIfInBounds_toArray, List.set_cons_zero, List.set_cons_succ]
    refine take_at (i := 23) 44 ?_ rfl rfl (by kernel_rfl) (by kernel_rfl) (by kernel_rfl) (fun _ _ _ h => h) (.inl ⟨rfl, ?_⟩) BV.out ?_
    rotate_left 1
    · intro w hSw; go_simp; try with_reducible rfl
    simp only [Act.put, List.setIfInBounds_toArray, List.set_cons_zero, List.set_cons_succ]
    refine take_at (i := 24) 0 ?_ rfl rfl (by kernel_rfl) (by kernel_rfl) (by kernel_rfl) (fun _ _ _ h => h) (.inl ⟨rfl, ?_⟩) BV.out ?_
    rotate_left 1
    · intro w hSw; go_simp; try with_reducible rfl
    simp only [Act.put, List.setIfInBounds_toArray, List.set_cons_zero, List.set_cons_succ]
    refine wpAnyH_done (by kernel_rfl) ?_ _
    go_wp2
    go_returns
    exact ⟨rfl, BW.out.trans (BV.out.mono BW.out.size)⟩
  · obtain ⟨v27, hv27⟩ : ∃ x, v22.alloc (.cells #[.int .i64 2, .int .i64 1] 24) = x := ⟨_, rfl⟩
    have hb : Below v22.heap.size v22 v27 := by rw [← hv27]; exact vstep v22 _
    have SL := Lib.hid (show LiesK encS 2 v27 (.slice (some ⟨v22.heap.size, 0, none⟩) 1 1) [((2 : Int), (1 : Int))] from by rw [← hv27]; exact one_liesK (p := ((2 : Int), (1 : Int))) encS_len (heap_alloc_new v22 _))
    rw [hv27]
    obtain ⟨k27, hk27⟩ : ∃ x, v22.heap.size = x := ⟨_, rfl⟩
    rw [hk27] at SL ⊢
    have BV := Lib.hid (BV.out.trans (hb.mono BV.out.size))
    clear hb hv27 hk27
    simp only [Act.put, List.setIfInBounds_toArray, List.set_cons_zero, List.set_cons_succ]
    refine wpAnyH_ready (rs := [12]) (by kernel_rfl) (by simp) (br_call (i := 12) 33 35 #[.pointer (some ⟨p, 0, none⟩), .int .i64 2] rfl rfl rfl (by go_simp) ((AL.out _ BV.out).mono ?_) AllReadyH.nil)
    rintro e v28 ⟨vk, rfl, ho, hb⟩
    have BV := Lib.hid (BV.out.trans (hb.mono BV.out.size))
    have SL := Lib.hid (SL.out.step hb)
    have SK := Lib.hid (own_liesK encS_len ho)
    clear ho
    clear hb
    refine ⟨_, rfl, BV.out, fun _ => ?_⟩
    simp only [Act.put, List.setIfInBounds_toArray, List.set_cons_zero, List.set_cons_succ]
    refine wpAnyH_ready (rs := [15]) (by kernel_rfl) (by simp) (br_call (i := 15) 36 18 #[vk, .slice (some ⟨k27, 0, none⟩) 1 1] rfl rfl rfl (by go_simp) ((same_self _ _ _ _ SK.out SL.out).mono ?_) AllReadyH.nil)
    rintro e v29 ⟨rfl, hb⟩
    have BV := Lib.hid (BV.out.trans (hb.mono BV.out.size))
    have SL := Lib.hid (SL.out.step hb)
    have SK := Lib.hid (SK.out.step hb)
    clear hb
    refine ⟨_, rfl, BV.out, fun _ => ?_⟩
    simp only [Act.put, List.setIfInBounds_toArray, List.set_cons_zero, List.set_cons_succ]
    refine take_at (i := 16) 37 ?_ rfl rfl (by kernel_rfl) (by kernel_rfl) (by kernel_rfl) (fun _ _ _ h => h) (.inl ⟨rfl, ?_⟩) BV.out ?_
    rotate_left 1
    · intro w hSw; go_simp; try with_reducible rfl
    simp only [Act.put, List.setIfInBounds_toArray, List.set_cons_zero, List.set_cons_succ]
    refine take_at (i := 17) 38 ?_ rfl rfl (by kernel_rfl) (by kernel_rfl) (by kernel_rfl) (fun _ _ _ h => h) (.inl ⟨rfl, ?_⟩) BV.out ?_
    rotate_left 1
    · intro w hSw; go_simp; try with_reducible rfl
    simp only [Act.put, List.setIfInBounds_toArray, List.set_cons_zero, List.set_cons_succ]
    refine take_at (i := 18) 39 ?_ rfl rfl (by kernel_rfl) (by kernel_rfl) (by kernel_rfl) (fun _ _ _ h => h) (.inl ⟨rfl, ?_⟩) BV.out ?_
    rotate_left 1
    · intro w hSw; go_simp; try with_reducible rfl
    simp only [Act.put, List.setIfInBounds_toArray, List.set_cons_zero, List.set_cons_succ]
    refine take_at (i := 19) 40 (.agg #[.int .i64 2, .int .i64 1]) rfl rfl (by kernel_rfl) (by kernel_rfl) (by kernel_rfl) (fun _ _ _ h => h) (yields_ld (.tmp 3) 24 (.pointer (some ⟨n2, 0, none⟩)) _ LB2.out rfl rfl rfl) BV.out ?_
    simp only [Act.put, List.setIfInBounds_toArray, List.set_cons_zero, List.set_cons_succ]
    refine take_at (i := 21) 42 (.agg #[.int .i64 2, .int .i64 1]) rfl rfl (by kernel_rfl) (by kernel_rfl) (by kernel_rfl) (fun _ _ _ h => h) (yields_ld (.tmp 3) 24 (.pointer (some ⟨n2, 0, none⟩)) _ LB2.out rfl rfl rfl) BV.out ?_
    simp only [Act.put, List.setIfInBounds_toArray, List.set_cons_zero, List.set_cons_succ]
    refine wpAnyH_ready (rs := [20]) (by kernel_rfl) (by simp) (br_call (i := 20) 41 40 #[.pointer (some ⟨p, 0, none⟩), .agg #[.int .i64 2, .int .i64 1]] rfl rfl rfl (by go_simp) ((TP.out _ BV.out).mono ?_) AllReadyH.nil)
    rintro e v30 ⟨rfl, hb⟩
    have BV := Lib.hid (BV.out.trans (hb.mono BV.out.size))
    have SL := Lib.hid (SL.out.step hb)
    have SK := Lib.hid (SK.out.step hb)
    clear hb
    refine ⟨_, rfl, BV.out, fun _ => ?_⟩
    simp only [Act.put, List.setIfInBounds_toArray, List.set_cons_zero, List.set_cons_succ]
    refine take_at (i := 22) 43 ?_ rfl rfl (by kernel_rfl) (by kernel_rfl) (by kernel_rfl) (fun _ _ _ h => h) (.inl ⟨rfl, ?_⟩) BV.out ?_
    rotate_left 1
    · intro w hSw; go_simp; try with_reducible rfl
    simp only [Act.put, List.setIfInBounds_toArray, List.set_cons_zero, List.set_cons_succ]
    refine take_at (i := 23) 44 ?_ rfl rfl (by kernel_rfl) (by kernel_rfl) (by kernel_rfl) (fun _ _ _ h => h) (.inl ⟨rfl, ?_⟩) BV.out ?_
    rotate_left 1
    · intro w hSw; go_simp; try with_reducible rfl
    simp only [Act.put, List.setIfInBounds_toArray, List.set_cons_zero, List.set_cons_succ]
    refine take_at (i := 24) 0 ?_ rfl rfl (by kernel_rfl) (by kernel_rfl) (by kernel_rfl) (fun _ _ _ h => h) (.inl ⟨rfl, ?_⟩) BV.out ?_
    rotate_left 1
    · intro w hSw; go_simp; try with_reducible rfl
    simp only [Act.put, List.setIfInBounds_toArray, List.set_cons_zero, List.set_cons_succ]
    refine wpAnyH_done (by kernel_rfl) ?_ _
    go_wp2
    go_returns
    exact ⟨rfl, BW.out.trans (BV.out.mono BW.out.size)⟩
set_option maxHeartbeats 3200000 in
theorem fnobody_law (w : World) (t r : Int) (k : Int) :
    Calls Try.prog 9 #[.agg #[.int .i64 t, .int .i64 r], .int .i64 k] w fun e w' => e = .returned (.bool true) ∧ Below w.heap.size w w' := by
  have B0 := Lib.hid (vstep w (.cells #[.int .i64 t, .int .i64 r] 24))
  have S0 := Lib.hid (StAt.new w t r)
  obtain ⟨W0, hW0⟩ : ∃ y, w.alloc (.cells #[.int .i64 t, .int .i64 r] 24) = y := ⟨_, rfl⟩
  rw [hW0] at B0 S0
  have HW := Lib.hid hW0
  clear hW0
  go_enter Try.func9, Try.ntmps9
  go_upto_region 1 with (fail)
  rw [HW.out]
  go_upto_region 2 with (fail)
  have LA := Lib.hid (fun W (hb : Below W0.heap.size W0 W) => load24 W _ _ _ (S0.out.step hb))
  refine wp_region_held_drew (S := fun w' => Below W0.heap.size W0 w') (by kernel_rfl) (Below.refl _ _).drew (fun hHeld => ?_)
  have BV := Lib.hid (show Below W0.heap.size W0 W0.drew from (Below.refl _ _).drew)
  clear hHeld
  refine take_at (i := 0) 6 ?_ rfl rfl (by kernel_rfl) (by kernel_rfl) (by kernel_rfl) (fun _ _ _ h => h) (.inl ⟨rfl, ?_⟩) BV.out ?_
  rotate_left 1
  · intro w hSw; go_simp; try with_reducible rfl
  simp only [Act.put, List.setIfInBounds_toArray, List.set_cons_zero, List.set_cons_succ]
  refine take_at (i := 1) 7 (.agg #[.int .i64 t, .int .i64 r]) rfl rfl (by kernel_rfl) (by kernel_rfl) (by kernel_rfl) (fun _ _ _ h => h) (yields_ld (.tmp 2) 24 (.pointer (some ⟨w.heap.size, 0, none⟩)) _ LA.out rfl rfl rfl) BV.out ?_
  simp only [Act.put, List.setIfInBounds_toArray, List.set_cons_zero, List.set_cons_succ]
  refine wpAnyH_ready (rs := [2]) (by kernel_rfl) (by simp) (br_call (i := 2) 8 37 #[.pointer none, .agg #[.int .i64 t, .int .i64 r]] rfl rfl rfl (by go_simp) ((of_dead _ _ (.inl rfl) t r).mono ?_) AllReadyH.nil)
  rintro e v1 ⟨rfl, hb⟩
  have BV := Lib.hid (BV.out.trans (hb.mono BV.out.size))
  clear hb
  refine ⟨_, rfl, BV.out, fun _ => ?_⟩
  simp only [Act.put, List.setIfInBounds_toArray, List.set_cons_zero, List.set_cons_succ]
  refine take_at (i := 3) 9 ?_ rfl rfl (by kernel_rfl) (by kernel_rfl) (by kernel_rfl) (fun _ _ _ h => h) (.inl ⟨rfl, ?_⟩) BV.out ?_
  rotate_left 1
  · intro w hSw; go_simp; try with_reducible rfl
  simp only [Act.put, List.setIfInBounds_toArray, List.set_cons_zero, List.set_cons_succ]
  refine take_at (i := 4) 10 ?_ rfl rfl (by kernel_rfl) (by kernel_rfl) (by kernel_rfl) (fun _ _ _ h => h) (.inl ⟨rfl, ?_⟩) BV.out ?_
  rotate_left 1
  · intro w hSw; go_simp; try with_reducible rfl
  simp only [Act.put, List.setIfInBounds_toArray, List.set_cons_zero, List.set_cons_succ]
  refine take_at (i := 5) 11 ?_ rfl rfl (by kernel_rfl) (by kernel_rfl) (by kernel_rfl) (fun _ _ _ h => h) (.inl ⟨rfl, ?_⟩) BV.out ?_
  rotate_left 1
  · intro w hSw; go_simp; try with_reducible rfl
  simp only [Act.put, List.setIfInBounds_toArray, List.set_cons_zero, List.set_cons_succ]
  refine take_at (i := 6) 12 ?_ rfl rfl (by kernel_rfl) (by kernel_rfl) (by kernel_rfl) (fun _ _ _ h => h) (.inl ⟨rfl, ?_⟩) BV.out ?_
  rotate_left 1
  · intro w hSw; go_simp; try with_reducible rfl
  simp only [Act.put, List.setIfInBounds_toArray, List.set_cons_zero, List.set_cons_succ]
  refine wpAnyH_ready (rs := [7]) (by kernel_rfl) (by simp) (br_call (i := 7) 13 35 #[.pointer none, .int .i64 k] rfl rfl rfl (by go_simp) ((all_dead _ _ (.inl rfl) k).mono ?_) AllReadyH.nil)
  rintro e v2 ⟨rfl, hb⟩
  have BV := Lib.hid (BV.out.trans (hb.mono BV.out.size))
  clear hb
  refine ⟨_, rfl, BV.out, fun _ => ?_⟩
  simp only [Act.put, List.setIfInBounds_toArray, List.set_cons_zero, List.set_cons_succ]
  refine take_at (i := 8) 14 ?_ rfl rfl (by kernel_rfl) (by kernel_rfl) (by kernel_rfl) (fun _ _ _ h => h) (.inl ⟨rfl, ?_⟩) BV.out ?_
  rotate_left 1
  · intro w hSw; go_simp; try with_reducible rfl
  simp only [Act.put, List.setIfInBounds_toArray, List.set_cons_zero, List.set_cons_succ]
  refine take_at (i := 9) 15 ?_ rfl rfl (by kernel_rfl) (by kernel_rfl) (by kernel_rfl) (fun _ _ _ h => h) (.inl ⟨rfl, ?_⟩) BV.out ?_
  rotate_left 1
  · intro w hSw; go_simp; try with_reducible rfl
  simp only [Act.put, List.setIfInBounds_toArray, List.set_cons_zero, List.set_cons_succ]
  refine take_at (i := 10) 16 ?_ rfl rfl (by kernel_rfl) (by kernel_rfl) (by kernel_rfl) (fun _ _ _ h => h) (.inl ⟨rfl, ?_⟩) BV.out ?_
  rotate_left 1
  · intro w hSw; go_simp; try with_reducible rfl
  simp only [Act.put, List.setIfInBounds_toArray, List.set_cons_zero, List.set_cons_succ]
  refine take_at (i := 11) 17 ?_ rfl rfl (by kernel_rfl) (by kernel_rfl) (by kernel_rfl) (fun _ _ _ h => h) (.inl ⟨rfl, ?_⟩) BV.out ?_
  rotate_left 1
  · intro w hSw; go_simp; try with_reducible rfl
  simp only [Act.put, List.setIfInBounds_toArray, List.set_cons_zero, List.set_cons_succ]
  refine take_at (i := 12) 18 ?_ rfl rfl (by kernel_rfl) (by kernel_rfl) (by kernel_rfl) (fun _ _ _ h => h) (.inl ⟨rfl, ?_⟩) BV.out ?_
  rotate_left 1
  · intro w hSw; go_simp; try with_reducible rfl
  simp only [Act.put, List.setIfInBounds_toArray, List.set_cons_zero, List.set_cons_succ]
  refine take_at (i := 13) 19 (.agg #[.int .i64 t, .int .i64 r]) rfl rfl (by kernel_rfl) (by kernel_rfl) (by kernel_rfl) (fun _ _ _ h => h) (yields_ld (.tmp 2) 24 (.pointer (some ⟨w.heap.size, 0, none⟩)) _ LA.out rfl rfl rfl) BV.out ?_
  simp only [Act.put, List.setIfInBounds_toArray, List.set_cons_zero, List.set_cons_succ]
  refine take_at (i := 15) 21 (.agg #[.int .i64 t, .int .i64 r]) rfl rfl (by kernel_rfl) (by kernel_rfl) (by kernel_rfl) (fun _ _ _ h => h) (yields_ld (.tmp 2) 24 (.pointer (some ⟨w.heap.size, 0, none⟩)) _ LA.out rfl rfl rfl) BV.out ?_
  simp only [Act.put, List.setIfInBounds_toArray, List.set_cons_zero, List.set_cons_succ]
  refine wpAnyH_ready (rs := [14]) (by kernel_rfl) (by simp) (br_call (i := 14) 20 40 #[.pointer none, .agg #[.int .i64 t, .int .i64 r]] rfl rfl rfl (by go_simp) ((top_dead _ _ (.inl rfl) t r).mono ?_) AllReadyH.nil)
  rintro e v3 ⟨rfl, hb⟩
  have BV := Lib.hid (BV.out.trans (hb.mono BV.out.size))
  clear hb
  refine ⟨_, rfl, BV.out, fun _ => ?_⟩
  simp only [Act.put, List.setIfInBounds_toArray, List.set_cons_zero, List.set_cons_succ]
  refine take_at (i := 16) 22 ?_ rfl rfl (by kernel_rfl) (by kernel_rfl) (by kernel_rfl) (fun _ _ _ h => h) (.inl ⟨rfl, ?_⟩) BV.out ?_
  rotate_left 1
  · intro w hSw; go_simp; try with_reducible rfl
  simp only [Act.put, List.setIfInBounds_toArray, List.set_cons_zero, List.set_cons_succ]
  refine take_at (i := 17) 23 ?_ rfl rfl (by kernel_rfl) (by kernel_rfl) (by kernel_rfl) (fun _ _ _ h => h) (.inl ⟨rfl, ?_⟩) BV.out ?_
  rotate_left 1
  · intro w hSw; go_simp; try with_reducible rfl
  simp only [Act.put, List.setIfInBounds_toArray, List.set_cons_zero, List.set_cons_succ]
  refine take_at (i := 18) 24 ?_ rfl rfl (by kernel_rfl) (by kernel_rfl) (by kernel_rfl) (fun _ _ _ h => h) (.inl ⟨rfl, ?_⟩) BV.out ?_
  rotate_left 1
  · intro w hSw; go_simp; try with_reducible rfl
  simp only [Act.put, List.setIfInBounds_toArray, List.set_cons_zero, List.set_cons_succ]
  refine wpAnyH_ready (rs := [19]) (by kernel_rfl) (by simp) (br_call (i := 19) 25 34 #[] rfl rfl rfl (by go_simp) ((fawake_any _).mono ?_) AllReadyH.nil)
  rintro e v4 ⟨rfl, hb⟩
  have BV := Lib.hid (BV.out.trans (hb.mono BV.out.size))
  clear hb
  refine ⟨_, rfl, BV.out, fun _ => ?_⟩
  simp only [Act.put, List.setIfInBounds_toArray, List.set_cons_zero, List.set_cons_succ]
  refine take_at (i := 20) 26 ?_ rfl rfl (by kernel_rfl) (by kernel_rfl) (by kernel_rfl) (fun _ _ _ h => h) (.inl ⟨rfl, ?_⟩) BV.out ?_
  rotate_left 1
  · intro w hSw; go_simp; try with_reducible rfl
  simp only [Act.put, List.setIfInBounds_toArray, List.set_cons_zero, List.set_cons_succ]
  refine take_at (i := 21) 4 ?_ rfl rfl (by kernel_rfl) (by kernel_rfl) (by kernel_rfl) (fun _ _ _ h => h) (.inl ⟨rfl, ?_⟩) BV.out ?_
  rotate_left 1
  · intro w hSw; go_simp; try with_reducible rfl
  simp only [Act.put, List.setIfInBounds_toArray, List.set_cons_zero, List.set_cons_succ]
  refine wpAnyH_done (by kernel_rfl) ?_ _
  go_wp2
  go_returns
  exact ⟨rfl, B0.out.trans (BV.out.mono B0.out.size)⟩
end Go.Proofs.Ytegmlekeielmoaa
