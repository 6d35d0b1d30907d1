/- TableNobody's law. Made by genub13.py, with tools/drawn.py. -/
import Derived.Test.YtegmlekeielmoaaUA
set_option linter.unusedVariables false
set_option maxRecDepth 100000
namespace Go.Proofs.Ytegmlekeielmoaa
open Go.RowKit Go.WideMaps Go.Maps

theorem load29 (W : World) (g : Nat) (pt pr : Int) (nm : ByteArray) (d : Bool) (h : EnB 29 W g pt pr nm d) : (Instr.loadAt 29 (.pointer (some ⟨g, 0, none⟩))).run Try.prog W = .ok (.agg #[.int .i64 pt, .int .i64 pr, .string nm, .bool d]) W := by
  obtain ⟨c0, c1, c2, c3⟩ := h.cells
  go_simp
theorem len_one (w : World) (p b : Nat) (x : Rw) (h : TabI w p b [x]) : Calls Try.prog 32 #[.pointer (some ⟨p, 0, none⟩)] w fun e w' => e = .returned (.int .i64 1) ∧ Below w.heap.size w w' := (len_any w p b [x] h).mono (by rintro e w' ⟨rfl, rfl⟩; exact ⟨rfl, Below.refl _ _⟩)
structure Nob (w W : World) (t r pt pr : Int) (nm : ByteArray) (d : Bool) : Prop where
  bel : Below w.heap.size w W
  st : StAt W w.heap.size t r
  en : EnB 29 W (w.heap.size + 1) pt pr nm d
  z : W.heap[w.heap.size + 2]? = some (.cells #[.map none] 61 (0, 0))
  sl : W.heap[w.heap.size + 3]? = some (.cells #[.pointer none, .pointer (some ⟨w.heap.size + 2, 0, none⟩)] 25 (0, 0))
theorem Nob.step {w W W' : World} {t r pt pr : Int} {nm : ByteArray} {d : Bool} (h : Nob w W t r pt pr nm d) (hb : Below W.heap.size W W') : Nob w W' t r pt pr nm d :=
  ⟨h.bel.trans (hb.mono h.bel.size), h.st.step hb, h.en.step hb, (hb.block _ (lt_of_block h.z)).trans h.z, (hb.block _ (lt_of_block h.sl)).trans h.sl⟩
theorem Nob.new (w : World) (t r pt pr : Int) (nm : ByteArray) (d : Bool) : Nob w ((((w.alloc (.cells #[.int .i64 t, .int .i64 r] 24)).alloc (.cells #[.int .i64 pt, .int .i64 pr, .string nm, .bool d] 29)).alloc (.cells #[.map none] 61)).alloc (.cells #[.pointer none, .pointer (some ⟨w.heap.size + 2, 0, none⟩)] 25)) t r pt pr nm d := by
  have B1 := vstep w (.cells #[.int .i64 t, .int .i64 r] 24)
  have B2 := vstep (w.alloc (.cells #[.int .i64 t, .int .i64 r] 24)) (.cells #[.int .i64 pt, .int .i64 pr, .string nm, .bool d] 29)
  have B3 := vstep ((w.alloc (.cells #[.int .i64 t, .int .i64 r] 24)).alloc (.cells #[.int .i64 pt, .int .i64 pr, .string nm, .bool d] 29)) (.cells #[.map none] 61)
  have B4 := vstep (((w.alloc (.cells #[.int .i64 t, .int .i64 r] 24)).alloc (.cells #[.int .i64 pt, .int .i64 pr, .string nm, .bool d] 29)).alloc (.cells #[.map none] 61)) (.cells #[.pointer none, .pointer (some ⟨w.heap.size + 2, 0, none⟩)] 25)
  have s1 : (w.alloc (.cells #[.int .i64 t, .int .i64 r] 24)).heap.size = w.heap.size + 1 := by simp
  have s2 : ((w.alloc (.cells #[.int .i64 t, .int .i64 r] 24)).alloc (.cells #[.int .i64 pt, .int .i64 pr, .string nm, .bool d] 29)).heap.size = w.heap.size + 2 := by simp
  have s3 : (((w.alloc (.cells #[.int .i64 t, .int .i64 r] 24)).alloc (.cells #[.int .i64 pt, .int .i64 pr, .string nm, .bool d] 29)).alloc (.cells #[.map none] 61)).heap.size = w.heap.size + 3 := by simp
  refine ⟨((B1.trans (B2.mono (by omega))).trans (B3.mono (by omega))).trans (B4.mono (by omega)), (((StAt.new w t r).step B2).step B3).step B4, ?_, ?_, ?_⟩
  · have := heap_alloc_new (w.alloc (.cells #[.int .i64 t, .int .i64 r] 24)) (.cells #[.int .i64 pt, .int .i64 pr, .string nm, .bool d] 29)
    rw [s1] at this
    exact EnB.step (EnB.step this B3) B4
  · have := heap_alloc_new ((w.alloc (.cells #[.int .i64 t, .int .i64 r] 24)).alloc (.cells #[.int .i64 pt, .int .i64 pr, .string nm, .bool d] 29)) (.cells #[.map none] 61)
    rw [s2] at this
    exact (B4.block _ (by omega)).trans this
  · have := heap_alloc_new (((w.alloc (.cells #[.int .i64 t, .int .i64 r] 24)).alloc (.cells #[.int .i64 pt, .int .i64 pr, .string nm, .bool d] 29)).alloc (.cells #[.map none] 61)) (.cells #[.pointer none, .pointer (some ⟨w.heap.size + 2, 0, none⟩)] 25)
    rw [s3] at this
    exact this
theorem Nob.at {w W : World} {t r pt pr : Int} {nm : ByteArray} {d : Bool} (h : Nob w W t r pt pr nm d) {i : Nat} (hi : i < 2) : ∃ u, W.cell? ⟨w.heap.size + 3, i, none⟩ = some u ∧ Dead W u := by
  obtain rfl | rfl : i = 0 ∨ i = 1 := by omega
  · exact ⟨.pointer none, by rw [cell_of_row _ _ _ _ _ _ h.sl]; rfl, .inl rfl⟩
  · exact ⟨.pointer (some ⟨w.heap.size + 2, 0, none⟩), by rw [cell_of_row _ _ _ _ _ _ h.sl]; rfl, .inr ⟨_, rfl, h.z⟩⟩
set_option maxHeartbeats 6400000 in
theorem nobody_law (w : World) (t r : Int) (ht : I64 t) (hr : I64 r) (pt pr : Int) (nm : ByteArray) (d : Bool) (hpt : I64 pt) (hpr : I64 pr) :
    Calls Try.prog 6 #[.agg #[.int .i64 t, .int .i64 r], .agg #[.int .i64 pt, .int .i64 pr, .string nm, .bool d]] w fun e w' => e = .returned (.bool true) ∧ Below w.heap.size w w' := by
  have N0 := Lib.hid (Nob.new w t r pt pr nm d)
  have OK := Lib.hid (show Rw.ok ⟨t, r, pt, pr, nm, d⟩ from ⟨ht, hr, hpt, hpr⟩)
  clear ht hr hpt hpr
  go_enter Try.func6, Try.ntmps6
  go_upto_region 4 with (fail)
  obtain ⟨w1, hw1⟩ : ∃ y, (((w.alloc (.cells #[.int .i64 t, .int .i64 r] 24)).alloc (.cells #[.int .i64 pt, .int .i64 pr, .string nm, .bool d] 29)).alloc (.cells #[.map none] 61)).alloc (.cells #[.pointer none, .pointer (some ⟨w.heap.size + 2, 0, none⟩)] 25) = y := ⟨_, rfl⟩
  rw [hw1] at N0 ⊢
  clear hw1
  go_loopw [7] (fun kv wr => ∃ i : Nat, kv = .int .i64 i ∧ i ≤ 2 ∧ Hid (Nob w wr t r pt pr nm d)) (fun kv _ => 2 - (intOf kv).toNat)
  case atStart => exact ⟨0, rfl, Nat.zero_le _, N0⟩
  case round =>
    obtain ⟨i, rfl, hi, hJ⟩ := hrel
    by_cases hlt : i < 2
    · obtain ⟨u, hu, hd⟩ := hJ.out.at hlt
      have D0 := Lib.hid hd
      have G := Lib.hid (get_dead wr u hd t r)
      obtain ⟨c1, c2⟩ := hJ.out.st.cells
      clear hd
      go_wp2_with fail
      refine G.out.mono ?_
      rintro e w6 ⟨rfl, hb⟩
      have B6 := vstep w6 (.cells #[.int .i64 0, .int .i64 0, .string ⟨#[]⟩, .bool false] 34)
      have D := Lib.hid ((D0.out.step hb).step B6)
      have NB := Lib.hid ((hJ.out.step hb).step B6)
      clear hb c1 c2 hu B6 G D0 hJ N0
      go_upto_region 8 with (fail)
      obtain ⟨w7, hw7⟩ : ∃ y, w6.alloc (.cells #[.int .i64 0, .int .i64 0, .string ⟨#[]⟩, .bool false] 34) = y := ⟨_, rfl⟩
      rw [hw7] at D NB ⊢
      clear hw7
      have DD := Lib.hid (fun W (hb : Below w7.heap.size w7 W) => D.out.step hb)
      have LA := Lib.hid (fun W (hb : Below w7.heap.size w7 W) => load24 W _ _ _ (NB.out.st.step hb))
      have LE := Lib.hid (fun W (hb : Below w7.heap.size w7 W) => load29 W _ _ _ _ _ (NB.out.en.step hb))
      have NS := Lib.hid (fun W (hb : Below w7.heap.size w7 W) => NB.out.step hb)
      have BV := Lib.hid (Below.refl w7.heap.size w7)
      clear D NB
      refine wp_region_held_drew (S := fun w' => Below w7.heap.size w7 w') (by kernel_rfl) (Below.refl _ _).drew (fun hHeld => ?_)
      have BV := Lib.hid (show Below w7.heap.size w7 w7.drew from (Below.refl _ _).drew)
      clear hHeld
      refine take_at (i := 0) 32 ?_ rfl rfl (by kernel_rfl) (by kernel_rfl) (by kernel_rfl) (fun _ _ _ h => h) (.inl ⟨rfl, ?_⟩) BV.out ?_
      rotate_left 1
      · intro w hSw; go_simp; try with_reducible rfl
      simp only [Act.put, List.setIfInBounds_toArray, List.set_cons_zero, List.set_cons_succ]
      refine take_at (i := 1) 33 ?_ rfl rfl (by kernel_rfl) (by kernel_rfl) (by kernel_rfl) (fun _ _ _ h => h) (.inl ⟨rfl, ?_⟩) BV.out ?_
      rotate_left 1
      · intro w hSw; go_simp; try with_reducible rfl
      simp only [Act.put, List.setIfInBounds_toArray, List.set_cons_zero, List.set_cons_succ]
      refine take_at (i := 2) 34 ?_ rfl rfl (by kernel_rfl) (by kernel_rfl) (by kernel_rfl) (fun _ _ _ h => h) (.inl ⟨rfl, ?_⟩) BV.out ?_
      rotate_left 1
      · intro w hSw; go_simp; try with_reducible rfl
      simp only [Act.put, List.setIfInBounds_toArray, List.set_cons_zero, List.set_cons_succ]
      refine take_at (i := 3) 35 (.agg #[.int .i64 t, .int .i64 r]) rfl rfl (by kernel_rfl) (by kernel_rfl) (by kernel_rfl) (fun _ _ _ h => h) (yields_ld (.tmp 2) 24 (.pointer (some ⟨w.heap.size, 0, none⟩)) _ LA.out rfl rfl rfl) BV.out ?_
      simp only [Act.put, List.setIfInBounds_toArray, List.set_cons_zero, List.set_cons_succ]
      refine take_at (i := 4) 36 (.agg #[.int .i64 pt, .int .i64 pr, .string nm, .bool d]) rfl rfl (by kernel_rfl) (by kernel_rfl) (by kernel_rfl) (fun _ _ _ h => h) (yields_ld (.tmp 3) 29 (.pointer (some ⟨w.heap.size + 1, 0, none⟩)) _ LE.out rfl rfl rfl) BV.out ?_
      simp only [Act.put, List.setIfInBounds_toArray, List.set_cons_zero, List.set_cons_succ]
      refine wpAnyH_ready (rs := [5]) (by kernel_rfl) (by simp) (br_call (i := 5) 37 12 #[.agg #[.int .i64 pt, .int .i64 pr, .string nm, .bool d]] rfl rfl rfl (by go_simp) ((to_any _ pt pr nm d).mono ?_) AllReadyH.nil)
      rintro e v1 ⟨rfl, hb⟩
      have BV := Lib.hid (BV.out.trans (hb.mono BV.out.size))
      clear hb
      refine ⟨_, rfl, BV.out, fun _ => ?_⟩
      simp only [Act.put, List.setIfInBounds_toArray, List.set_cons_zero, List.set_cons_succ]
      refine wpAnyH_ready (rs := [6]) (by kernel_rfl) (by simp) (br_call (i := 6) 38 11 #[u, .agg #[.int .i64 t, .int .i64 r], .agg #[.int .i64 pt, .int .i64 pr, .string nm, .bool d]] rfl rfl rfl (by go_simp) ((set_dead _ u (DD.out _ BV.out) t r pt pr nm d).mono ?_) AllReadyH.nil)
      rintro e v2 ⟨rfl, hb⟩
      have BV := Lib.hid (BV.out.trans (hb.mono BV.out.size))
      clear hb
      refine ⟨_, rfl, BV.out, fun _ => ?_⟩
      simp only [Act.put, List.setIfInBounds_toArray, List.set_cons_zero, List.set_cons_succ]
      refine take_at (i := 7) 39 ?_ rfl rfl (by kernel_rfl) (by kernel_rfl) (by kernel_rfl) (fun _ _ _ h => h) (.inl ⟨rfl, ?_⟩) BV.out ?_
      rotate_left 1
      · intro w hSw; go_simp; try with_reducible rfl
      simp only [Act.put, List.setIfInBounds_toArray, List.set_cons_zero, List.set_cons_succ]
      refine take_at (i := 8) 40 ?_ rfl rfl (by kernel_rfl) (by kernel_rfl) (by kernel_rfl) (fun _ _ _ h => h) (.inl ⟨rfl, ?_⟩) BV.out ?_
      rotate_left 1
      · intro w hSw; go_simp; try with_reducible rfl
      simp only [Act.put, List.setIfInBounds_toArray, List.set_cons_zero, List.set_cons_succ]
      refine take_at (i := 9) 41 ?_ rfl rfl (by kernel_rfl) (by kernel_rfl) (by kernel_rfl) (fun _ _ _ h => h) (.inl ⟨rfl, ?_⟩) BV.out ?_
      rotate_left 1
      · intro w hSw; go_simp; try with_reducible rfl
      simp only [Act.put, List.setIfInBounds_toArray, List.set_cons_zero, List.set_cons_succ]
      refine take_at (i := 10) 42 ?_ rfl rfl (by kernel_rfl) (by kernel_rfl) (by kernel_rfl) (fun _ _ _ h => h) (.inl ⟨rfl, ?_⟩) BV.out ?_
      rotate_left 1
      · intro w hSw; go_simp; try with_reducible rfl
      simp only [Act.put, List.setIfInBounds_toArray, List.set_cons_zero, List.set_cons_succ]
      refine take_at (i := 11) 43 (.agg #[.int .i64 t, .int .i64 r]) rfl rfl (by kernel_rfl) (by kernel_rfl) (by kernel_rfl) (fun _ _ _ h => h) (yields_ld (.tmp 2) 24 (.pointer (some ⟨w.heap.size, 0, none⟩)) _ LA.out rfl rfl rfl) BV.out ?_
      simp only [Act.put, List.setIfInBounds_toArray, List.set_cons_zero, List.set_cons_succ]
      refine wpAnyH_ready (rs := [12]) (by kernel_rfl) (by simp) (br_call (i := 12) 44 15 #[u, .agg #[.int .i64 t, .int .i64 r]] rfl rfl rfl (by go_simp) ((drop_dead _ u (DD.out _ BV.out) t r).mono ?_) AllReadyH.nil)
      rintro e v3 ⟨rfl, hb⟩
      have BV := Lib.hid (BV.out.trans (hb.mono BV.out.size))
      clear hb
      refine ⟨_, rfl, BV.out, fun _ => ?_⟩
      simp only [Act.put, List.setIfInBounds_toArray, List.set_cons_zero, List.set_cons_succ]
      refine take_at (i := 13) 45 ?_ rfl rfl (by kernel_rfl) (by kernel_rfl) (by kernel_rfl) (fun _ _ _ h => h) (.inl ⟨rfl, ?_⟩) BV.out ?_
      rotate_left 1
      · intro w hSw; go_simp; try with_reducible rfl
      simp only [Act.put, List.setIfInBounds_toArray, List.set_cons_zero, List.set_cons_succ]
      refine take_at (i := 14) 46 ?_ rfl rfl (by kernel_rfl) (by kernel_rfl) (by kernel_rfl) (fun _ _ _ h => h) (.inl ⟨rfl, ?_⟩) BV.out ?_
      rotate_left 1
      · intro w hSw; go_simp; try with_reducible rfl
      simp only [Act.put, List.setIfInBounds_toArray, List.set_cons_zero, List.set_cons_succ]
      refine take_at (i := 15) 47 ?_ rfl rfl (by kernel_rfl) (by kernel_rfl) (by kernel_rfl) (fun _ _ _ h => h) (.inl ⟨rfl, ?_⟩) BV.out ?_
      rotate_left 1
      · intro w hSw; go_simp; try with_reducible rfl
      simp only [Act.put, List.setIfInBounds_toArray, List.set_cons_zero, List.set_cons_succ]
      refine wpAnyH_ready (rs := [16]) (by kernel_rfl) (by simp) (br_call (i := 16) 48 32 #[u] rfl rfl rfl (by go_simp) ((len_dead _ u (DD.out _ BV.out)).mono ?_) AllReadyH.nil)
      rintro e v4 ⟨rfl, hb⟩
      have BV := Lib.hid (BV.out.trans (hb.mono BV.out.size))
      clear hb
      refine ⟨_, rfl, BV.out, fun _ => ?_⟩
      simp only [Act.put, List.setIfInBounds_toArray, List.set_cons_zero, List.set_cons_succ]
      refine take_at (i := 17) 49 ?_ rfl rfl (by kernel_rfl) (by kernel_rfl) (by kernel_rfl) (fun _ _ _ h => h) (.inl ⟨rfl, ?_⟩) BV.out ?_
      rotate_left 1
      · intro w hSw; go_simp; try with_reducible rfl
      simp only [Act.put, List.setIfInBounds_toArray, List.set_cons_zero, List.set_cons_succ]
      refine take_at (i := 18) 50 ?_ rfl rfl (by kernel_rfl) (by kernel_rfl) (by kernel_rfl) (fun _ _ _ h => h) (.inl ⟨rfl, ?_⟩) BV.out ?_
      rotate_left 1
      · intro w hSw; go_simp; try with_reducible rfl
      simp only [Act.put, List.setIfInBounds_toArray, List.set_cons_zero, List.set_cons_succ]
      refine take_at (i := 19) 51 ?_ rfl rfl (by kernel_rfl) (by kernel_rfl) (by kernel_rfl) (fun _ _ _ h => h) (.inl ⟨rfl, ?_⟩) BV.out ?_
      rotate_left 1
      · intro w hSw; go_simp; try with_reducible rfl
      simp only [Act.put, List.setIfInBounds_toArray, List.set_cons_zero, List.set_cons_succ]
      refine take_at (i := 20) 52 ?_ rfl rfl (by kernel_rfl) (by kernel_rfl) (by kernel_rfl) (fun _ _ _ h => h) (.inl ⟨rfl, ?_⟩) BV.out ?_
      rotate_left 1
      · intro w hSw; go_simp; try with_reducible rfl
      simp only [Act.put, List.setIfInBounds_toArray, List.set_cons_zero, List.set_cons_succ]
      refine take_at (i := 23) 55 ?_ rfl rfl (by kernel_rfl) (by kernel_rfl) (by kernel_rfl) (fun _ _ _ h => h) (.inl ⟨rfl, ?_⟩) BV.out ?_
      rotate_left 1
      · intro w hSw; go_simp; try with_reducible rfl
      simp only [Act.put, List.setIfInBounds_toArray, List.set_cons_zero, List.set_cons_succ]
      refine take_at (i := 24) 56 (.agg #[.int .i64 t, .int .i64 r]) rfl rfl (by kernel_rfl) (by kernel_rfl) (by kernel_rfl) (fun _ _ _ h => h) (yields_ld (.tmp 2) 24 (.pointer (some ⟨w.heap.size, 0, none⟩)) _ LA.out rfl rfl rfl) BV.out ?_
      simp only [Act.put, List.setIfInBounds_toArray, List.set_cons_zero, List.set_cons_succ]
      refine wpAnyH_ready (rs := [21]) (by kernel_rfl) (by simp) (br_call (i := 21) 53 22 #[u] rfl rfl rfl (by go_simp) ((nodes_dead _ u (DD.out _ BV.out)).mono ?_) AllReadyH.nil)
      rintro e v5 ⟨rfl, hb⟩
      have BV := Lib.hid (BV.out.trans (hb.mono BV.out.size))
      clear hb
      refine ⟨_, rfl, BV.out, fun _ => ?_⟩
      simp only [Act.put, List.setIfInBounds_toArray, List.set_cons_zero, List.set_cons_succ]
      refine take_at (i := 22) 54 ?_ rfl rfl (by kernel_rfl) (by kernel_rfl) (by kernel_rfl) (fun _ _ _ h => h) (.inl ⟨rfl, ?_⟩) BV.out ?_
      rotate_left 1
      · intro w hSw; go_simp; try with_reducible rfl
      simp only [Act.put, List.setIfInBounds_toArray, List.set_cons_zero, List.set_cons_succ]
      refine wpAnyH_ready (rs := [25]) (by kernel_rfl) (by simp) (br_call (i := 25) 57 19 #[u, .agg #[.int .i64 t, .int .i64 r]] rfl rfl rfl (by go_simp) ((kids_dead _ u (DD.out _ BV.out) t r).mono ?_) AllReadyH.nil)
      rintro e v6 ⟨rfl, hb⟩
      have BV := Lib.hid (BV.out.trans (hb.mono BV.out.size))
      clear hb
      refine ⟨_, rfl, BV.out, fun _ => ?_⟩
      simp only [Act.put, List.setIfInBounds_toArray, List.set_cons_zero, List.set_cons_succ]
      refine take_at (i := 26) 58 ?_ rfl rfl (by kernel_rfl) (by kernel_rfl) (by kernel_rfl) (fun _ _ _ h => h) (.inl ⟨rfl, ?_⟩) BV.out ?_
      rotate_left 1
      · intro w hSw; go_simp; try with_reducible rfl
      simp only [Act.put, List.setIfInBounds_toArray, List.set_cons_zero, List.set_cons_succ]
      refine take_at (i := 27) 59 ?_ rfl rfl (by kernel_rfl) (by kernel_rfl) (by kernel_rfl) (fun _ _ _ h => h) (.inl ⟨rfl, ?_⟩) BV.out ?_
      rotate_left 1
      · intro w hSw; go_simp; try with_reducible rfl
      simp only [Act.put, List.setIfInBounds_toArray, List.set_cons_zero, List.set_cons_succ]
      refine take_at (i := 28) 60 ?_ rfl rfl (by kernel_rfl) (by kernel_rfl) (by kernel_rfl) (fun _ _ _ h => h) (.inl ⟨rfl, ?_⟩) BV.out ?_
      rotate_left 1
      · intro w hSw; go_simp; try with_reducible rfl
      simp only [Act.put, List.setIfInBounds_toArray, List.set_cons_zero, List.set_cons_succ]
      refine take_at (i := 29) 61 ?_ rfl rfl (by kernel_rfl) (by kernel_rfl) (by kernel_rfl) (fun _ _ _ h => h) (.inl ⟨rfl, ?_⟩) BV.out ?_
      rotate_left 1
      · intro w hSw; go_simp; try with_reducible rfl
      simp only [Act.put, List.setIfInBounds_toArray, List.set_cons_zero, List.set_cons_succ]
      refine take_at (i := 30) 62 ?_ rfl rfl (by kernel_rfl) (by kernel_rfl) (by kernel_rfl) (fun _ _ _ h => h) (.inl ⟨rfl, ?_⟩) BV.out ?_
      rotate_left 1
      · intro w hSw; go_simp; try with_reducible rfl
      simp only [Act.put, List.setIfInBounds_toArray, List.set_cons_zero, List.set_cons_succ]
      refine take_at (i := 31) 63 ?_ rfl rfl (by kernel_rfl) (by kernel_rfl) (by kernel_rfl) (fun _ _ _ h => h) (.inl ⟨rfl, ?_⟩) BV.out ?_
      rotate_left 1
      · intro w hSw; go_simp; try with_reducible rfl
      simp only [Act.put, List.setIfInBounds_toArray, List.set_cons_zero, List.set_cons_succ]
      refine take_at (i := 32) 64 (.agg #[.int .i64 t, .int .i64 r]) rfl rfl (by kernel_rfl) (by kernel_rfl) (by kernel_rfl) (fun _ _ _ h => h) (yields_ld (.tmp 2) 24 (.pointer (some ⟨w.heap.size, 0, none⟩)) _ LA.out rfl rfl rfl) BV.out ?_
      simp only [Act.put, List.setIfInBounds_toArray, List.set_cons_zero, List.set_cons_succ]
      refine take_at (i := 33) 65 (.agg #[.int .i64 t, .int .i64 r]) rfl rfl (by kernel_rfl) (by kernel_rfl) (by kernel_rfl) (fun _ _ _ h => h) (yields_ld (.tmp 2) 24 (.pointer (some ⟨w.heap.size, 0, none⟩)) _ LA.out rfl rfl rfl) BV.out ?_
      simp only [Act.put, List.setIfInBounds_toArray, List.set_cons_zero, List.set_cons_succ]
      refine wpAnyH_ready (rs := [34]) (by kernel_rfl) (by simp) (br_call (i := 34) 66 27 #[u, .agg #[.int .i64 t, .int .i64 r], .agg #[.int .i64 t, .int .i64 r]] rfl rfl rfl (by go_simp) ((above_dead _ u (DD.out _ BV.out) t r t r).mono ?_) AllReadyH.nil)
      rintro e v7 ⟨rfl, hb⟩
      have BV := Lib.hid (BV.out.trans (hb.mono BV.out.size))
      clear hb
      refine ⟨_, rfl, BV.out, fun _ => ?_⟩
      simp only [Act.put, List.setIfInBounds_toArray, List.set_cons_zero, List.set_cons_succ]
      refine take_at (i := 35) 67 ?_ rfl rfl (by kernel_rfl) (by kernel_rfl) (by kernel_rfl) (fun _ _ _ h => h) (.inl ⟨rfl, ?_⟩) BV.out ?_
      rotate_left 1
      · intro w hSw; go_simp; try with_reducible rfl
      simp only [Act.put, List.setIfInBounds_toArray, List.set_cons_zero, List.set_cons_succ]
      refine take_at (i := 36) 68 ?_ rfl rfl (by kernel_rfl) (by kernel_rfl) (by kernel_rfl) (fun _ _ _ h => h) (.inl ⟨rfl, ?_⟩) BV.out ?_
      rotate_left 1
      · intro w hSw; go_simp; try with_reducible rfl
      simp only [Act.put, List.setIfInBounds_toArray, List.set_cons_zero, List.set_cons_succ]
      refine take_at (i := 37) 69 ?_ rfl rfl (by kernel_rfl) (by kernel_rfl) (by kernel_rfl) (fun _ _ _ h => h) (.inl ⟨rfl, ?_⟩) BV.out ?_
      rotate_left 1
      · intro w hSw; go_simp; try with_reducible rfl
      simp only [Act.put, List.setIfInBounds_toArray, List.set_cons_zero, List.set_cons_succ]
      refine take_at (i := 38) 70 ?_ rfl rfl (by kernel_rfl) (by kernel_rfl) (by kernel_rfl) (fun _ _ _ h => h) (.inl ⟨rfl, ?_⟩) BV.out ?_
      rotate_left 1
      · intro w hSw; go_simp; try with_reducible rfl
      simp only [Act.put, List.setIfInBounds_toArray, List.set_cons_zero, List.set_cons_succ]
      refine wpAnyH_ready (rs := [39]) (by kernel_rfl) (by simp) (br_call (i := 39) 71 29 #[u, .pointer none] rfl rfl rfl (by go_simp) ((same_dead _ u _ (DD.out _ BV.out) (.inl rfl)).mono ?_) AllReadyH.nil)
      rintro e v8 ⟨rfl, hb⟩
      have BV := Lib.hid (BV.out.trans (hb.mono BV.out.size))
      clear hb
      refine ⟨_, rfl, BV.out, fun _ => ?_⟩
      simp only [Act.put, List.setIfInBounds_toArray, List.set_cons_zero, List.set_cons_succ]
      refine take_at (i := 40) 72 ?_ rfl rfl (by kernel_rfl) (by kernel_rfl) (by kernel_rfl) (fun _ _ _ h => h) (.inl ⟨rfl, ?_⟩) BV.out ?_
      rotate_left 1
      · intro w hSw; go_simp; try with_reducible rfl
      simp only [Act.put, List.setIfInBounds_toArray, List.set_cons_zero, List.set_cons_succ]
      refine take_at (i := 41) 73 ?_ rfl rfl (by kernel_rfl) (by kernel_rfl) (by kernel_rfl) (fun _ _ _ h => h) (.inl ⟨rfl, ?_⟩) BV.out ?_
      rotate_left 1
      · intro w hSw; go_simp; try with_reducible rfl
      simp only [Act.put, List.setIfInBounds_toArray, List.set_cons_zero, List.set_cons_succ]
      refine wpAnyH_done (by kernel_rfl) ?_ _
      have CL := Lib.hid (clone_dead _ u (DD.out _ BV.out))
      go_wp2_with fail
      refine CL.out.mono ?_
      rintro e wc ⟨q, qb, rfl, k1, k2, k3, k4⟩
      have BC := Lib.hid (BV.out.trans (k4.mono BV.out.size))
      have T0 := Lib.hid k1
      have QB := Lib.hid (Nat.le_trans BV.out.size k3)
      clear k1 k2 k3 k4 CL
      go_upto_region 11 with (fail)
      have TC := Lib.hid (T0.out.step (show Below wc.heap.size wc wc.drew from (Below.refl _ _).drew))
      clear T0
      refine wp_region_held_drew (S := fun w' => Below w7.heap.size w7 w') (by kernel_rfl) (BC.out.drew) (fun hHeld => ?_)
      have BV := Lib.hid (show Below w7.heap.size w7 wc.drew from BC.out.drew)
      clear hHeld
      refine take_at (i := 0) 76 ?_ rfl rfl (by kernel_rfl) (by kernel_rfl) (by kernel_rfl) (fun _ _ _ h => h) (.inl ⟨rfl, ?_⟩) BV.out ?_
      rotate_left 1
      · intro w hSw; go_simp; try with_reducible rfl
      simp only [Act.put, List.setIfInBounds_toArray, List.set_cons_zero, List.set_cons_succ]
      refine take_at (i := 1) 77 ?_ rfl rfl (by kernel_rfl) (by kernel_rfl) (by kernel_rfl) (fun _ _ _ h => h) (.inl ⟨rfl, ?_⟩) BV.out ?_
      rotate_left 1
      · intro w hSw; go_simp; try with_reducible rfl
      simp only [Act.put, List.setIfInBounds_toArray, List.set_cons_zero, List.set_cons_succ]
      refine take_at (i := 2) 78 ?_ rfl rfl (by kernel_rfl) (by kernel_rfl) (by kernel_rfl) (fun _ _ _ h => h) (.inl ⟨rfl, ?_⟩) BV.out ?_
      rotate_left 1
      · intro w hSw; go_simp; try with_reducible rfl
      simp only [Act.put, List.setIfInBounds_toArray, List.set_cons_zero, List.set_cons_succ]
      refine take_at (i := 3) 79 ?_ rfl rfl (by kernel_rfl) (by kernel_rfl) (by kernel_rfl) (fun _ _ _ h => h) (.inl ⟨rfl, ?_⟩) BV.out ?_
      rotate_left 1
      · intro w hSw; go_simp; try with_reducible rfl
      simp only [Act.put, List.setIfInBounds_toArray, List.set_cons_zero, List.set_cons_succ]
      refine take_at (i := 4) 80 (.agg #[.int .i64 t, .int .i64 r]) rfl rfl (by kernel_rfl) (by kernel_rfl) (by kernel_rfl) (fun _ _ _ h => h) (yields_ld (.tmp 2) 24 (.pointer (some ⟨w.heap.size, 0, none⟩)) _ LA.out rfl rfl rfl) BV.out ?_
      simp only [Act.put, List.setIfInBounds_toArray, List.set_cons_zero, List.set_cons_succ]
      refine take_at (i := 5) 81 (.agg #[.int .i64 pt, .int .i64 pr, .string nm, .bool d]) rfl rfl (by kernel_rfl) (by kernel_rfl) (by kernel_rfl) (fun _ _ _ h => h) (yields_ld (.tmp 3) 29 (.pointer (some ⟨w.heap.size + 1, 0, none⟩)) _ LE.out rfl rfl rfl) BV.out ?_
      simp only [Act.put, List.setIfInBounds_toArray, List.set_cons_zero, List.set_cons_succ]
      refine wpAnyH_ready (rs := [6]) (by kernel_rfl) (by simp) (br_call (i := 6) 82 12 #[.agg #[.int .i64 pt, .int .i64 pr, .string nm, .bool d]] rfl rfl rfl (by go_simp) ((to_any _ pt pr nm d).mono ?_) AllReadyH.nil)
      rintro e v1 ⟨rfl, hb⟩
      have BV := Lib.hid (BV.out.trans (hb.mono BV.out.size))
      have TC := Lib.hid (TC.out.step hb)
      clear hb
      refine ⟨_, rfl, BV.out, fun _ => ?_⟩
      simp only [Act.put, List.setIfInBounds_toArray, List.set_cons_zero, List.set_cons_succ]
      refine wpAnyH_ready (rs := [7]) (by kernel_rfl) (by simp) (br_call (i := 7) 83 11 #[.pointer (some ⟨q, 0, none⟩), .agg #[.int .i64 t, .int .i64 r], .agg #[.int .i64 pt, .int .i64 pr, .string nm, .bool d]] rfl rfl rfl (by go_simp) ((set_any _ q qb [] TC.out (by simp) ⟨t, r, pt, pr, nm, d⟩ OK.out).mono ?_) AllReadyH.nil)
      rintro e v2 ⟨rfl, ho⟩
      have BV := Lib.hid (BV.out.trans (ho.below QB.out BV.out.size))
      have TC := Lib.hid (show TabI v2 q qb [⟨t, r, pt, pr, nm, d⟩] from ho.tab)
      clear ho
      refine ⟨_, rfl, BV.out, fun _ => ?_⟩
      simp only [Act.put, List.setIfInBounds_toArray, List.set_cons_zero, List.set_cons_succ]
      refine take_at (i := 8) 84 ?_ rfl rfl (by kernel_rfl) (by kernel_rfl) (by kernel_rfl) (fun _ _ _ h => h) (.inl ⟨rfl, ?_⟩) BV.out ?_
      rotate_left 1
      · intro w hSw; go_simp; try with_reducible rfl
      simp only [Act.put, List.setIfInBounds_toArray, List.set_cons_zero, List.set_cons_succ]
      refine take_at (i := 9) 85 ?_ rfl rfl (by kernel_rfl) (by kernel_rfl) (by kernel_rfl) (fun _ _ _ h => h) (.inl ⟨rfl, ?_⟩) BV.out ?_
      rotate_left 1
      · intro w hSw; go_simp; try with_reducible rfl
      simp only [Act.put, List.setIfInBounds_toArray, List.set_cons_zero, List.set_cons_succ]
      refine take_at (i := 10) 86 ?_ rfl rfl (by kernel_rfl) (by kernel_rfl) (by kernel_rfl) (fun _ _ _ h => h) (.inl ⟨rfl, ?_⟩) BV.out ?_
      rotate_left 1
      · intro w hSw; go_simp; try with_reducible rfl
      simp only [Act.put, List.setIfInBounds_toArray, List.set_cons_zero, List.set_cons_succ]
      refine take_at (i := 11) 87 ?_ rfl rfl (by kernel_rfl) (by kernel_rfl) (by kernel_rfl) (fun _ _ _ h => h) (.inl ⟨rfl, ?_⟩) BV.out ?_
      rotate_left 1
      · intro w hSw; go_simp; try with_reducible rfl
      simp only [Act.put, List.setIfInBounds_toArray, List.set_cons_zero, List.set_cons_succ]
      refine wpAnyH_ready (rs := [12]) (by kernel_rfl) (by simp) (br_call (i := 12) 88 32 #[.pointer (some ⟨q, 0, none⟩)] rfl rfl rfl (by go_simp) ((len_one _ q qb _ TC.out).mono ?_) AllReadyH.nil)
      rintro e v3 ⟨rfl, hb⟩
      have BV := Lib.hid (BV.out.trans (hb.mono BV.out.size))
      have TC := Lib.hid (TC.out.step hb)
      clear hb
      refine ⟨_, rfl, BV.out, fun _ => ?_⟩
      simp only [Act.put, List.setIfInBounds_toArray, List.set_cons_zero, List.set_cons_succ]
      refine take_at (i := 13) 89 ?_ rfl rfl (by kernel_rfl) (by kernel_rfl) (by kernel_rfl) (fun _ _ _ h => h) (.inl ⟨rfl, ?_⟩) BV.out ?_
      rotate_left 1
      · intro w hSw; go_simp; try with_reducible rfl
      simp only [Act.put, List.setIfInBounds_toArray, List.set_cons_zero, List.set_cons_succ]
      refine take_at (i := 14) 90 ?_ rfl rfl (by kernel_rfl) (by kernel_rfl) (by kernel_rfl) (fun _ _ _ h => h) (.inl ⟨rfl, ?_⟩) BV.out ?_
      rotate_left 1
      · intro w hSw; go_simp; try with_reducible rfl
      simp only [Act.put, List.setIfInBounds_toArray, List.set_cons_zero, List.set_cons_succ]
      refine take_at (i := 15) 91 ?_ rfl rfl (by kernel_rfl) (by kernel_rfl) (by kernel_rfl) (fun _ _ _ h => h) (.inl ⟨rfl, ?_⟩) BV.out ?_
      rotate_left 1
      · intro w hSw; go_simp; try with_reducible rfl
      simp only [Act.put, List.setIfInBounds_toArray, List.set_cons_zero, List.set_cons_succ]
      refine take_at (i := 16) 92 ?_ rfl rfl (by kernel_rfl) (by kernel_rfl) (by kernel_rfl) (fun _ _ _ h => h) (.inl ⟨rfl, ?_⟩) BV.out ?_
      rotate_left 1
      · intro w hSw; go_simp; try with_reducible rfl
      simp only [Act.put, List.setIfInBounds_toArray, List.set_cons_zero, List.set_cons_succ]
      refine take_at (i := 17) 93 ?_ rfl rfl (by kernel_rfl) (by kernel_rfl) (by kernel_rfl) (fun _ _ _ h => h) (.inl ⟨rfl, ?_⟩) BV.out ?_
      rotate_left 1
      · intro w hSw; go_simp; try with_reducible rfl
      simp only [Act.put, List.setIfInBounds_toArray, List.set_cons_zero, List.set_cons_succ]
      refine wpAnyH_ready (rs := [18]) (by kernel_rfl) (by simp) (br_call (i := 18) 94 29 #[.pointer (some ⟨q, 0, none⟩), u] rfl rfl rfl (by go_simp) ((same_more _ q qb _ u TC.out (DD.out _ BV.out)).mono ?_) AllReadyH.nil)
      rintro e v4 ⟨rfl, hb⟩
      have BV := Lib.hid (BV.out.trans (hb.mono BV.out.size))
      have TC := Lib.hid (TC.out.step hb)
      clear hb
      refine ⟨_, rfl, BV.out, fun _ => ?_⟩
      simp only [Act.put, List.setIfInBounds_toArray, List.set_cons_zero, List.set_cons_succ]
      refine take_at (i := 19) 95 ?_ rfl rfl (by kernel_rfl) (by kernel_rfl) (by kernel_rfl) (fun _ _ _ h => h) (.inl ⟨rfl, ?_⟩) BV.out ?_
      rotate_left 1
      · intro w hSw; go_simp; try with_reducible rfl
      simp only [Act.put, List.setIfInBounds_toArray, List.set_cons_zero, List.set_cons_succ]
      refine wpAnyH_done (by kernel_rfl) ?_ _
      have NE := Lib.hid (NS.out _ BV.out)
      clear TC BC QB DD LA LE NS BV
      go_wp2
      go_roundw
      case rel => exact ⟨i + 1, by go_num, by omega, NE⟩
      case measure => simp [intOf]; omega
    · have AW := Lib.hid (awake_any wr)
      have HJ := Lib.hid hJ.out.bel
      clear hJ N0
      go_wp2_with fail
      refine AW.out.mono ?_
      rintro e w2 ⟨rfl, hb⟩
      have FIN := Lib.hid (HJ.out.trans (hb.mono HJ.out.size))
      clear hb
      go_wp2
      go_returns
      exact ⟨rfl, FIN.out⟩
end Go.Proofs.Ytegmlekeielmoaa
