/- HoldNobody's law. Made by genhw27.py, with tools/drawn.py. -/
import Derived.Test.YtgnnpfainoppeaaDoorHV
set_option linter.unusedVariables false
set_option linter.unusedSimpArgs false
set_option maxRecDepth 100000
namespace Go.Proofs.YtgnnpfainoppeaaDoor
open Go.RowKit
open Ve (zs zs_len vw)

theorem ldS {W : World} {g o : Nat} {a b : Int} (h0 : W.cell? ⟨g, o, none⟩ = some (.int .i64 a)) (h1 : W.cell? ⟨g, o + 1, none⟩ = some (.int .i64 b)) : (Instr.loadAt 38 (.pointer (some ⟨g, o, none⟩))).run Tryd.prog W = .ok (.agg #[.int .i64 a, .int .i64 b]) W := by
  go_simp
theorem bsR (W : World) (a b c : Int) : (Instr.buildSlice 56 1 #[(0, .agg #[.int .i64 a, .int .i64 b, .int .i64 c])]).run Tryd.prog W = .ok (.slice (some ⟨W.heap.size, 0, none⟩) 1 1) (W.alloc (.cells #[.int .i64 a, .int .i64 b, .int .i64 c] 70)) := by
  go_simp
  try rfl
def BxR (W : World) (k : Nat) : Prop := W.heap[k]? = some (.cells #[.int .i64 0, .int .i64 1, .int .i64 9] 70 (0, 0))
theorem BxR.step {W W' : World} {k : Nat} (h : BxR W k) (hb : Below W.heap.size W W') : BxR W' k := (hb.block _ (lt_of_block h)).trans h
structure Nob (w W : World) (o : O) : Prop where
  bel : Below w.heap.size w W
  o : W.heap[w.heap.size]? = some (.cells (oCells o) 40 (0, 0))
  z : HK W w.heap.size (w.heap.size + 1) deadS
  sl : W.heap[w.heap.size + 2]? = some (.cells #[.pointer none, pv (w.heap.size + 1)] 29 (0, 0))
theorem Nob.step {w W W' : World} {o : O} (h : Nob w W o) (hb : Below W.heap.size W W') : Nob w W' o :=
  ⟨h.bel.trans (hb.mono h.bel.size), (hb.block _ (lt_of_block h.o)).trans h.o, h.z.step hb, (hb.block _ (lt_of_block h.sl)).trans h.sl⟩
theorem Nob.new (w : World) (o : O) : Nob w (((w.alloc (.cells (oCells o) 40)).alloc (.cells (hca deadS) 66)).alloc (.cells #[.pointer none, pv (w.heap.size + 1)] 29)) o := by
  have B1 := vstep w (.cells (oCells o) 40)
  have B2 := vstep (w.alloc (.cells (oCells o) 40)) (.cells (hca deadS) 66)
  have B3 := vstep ((w.alloc (.cells (oCells o) 40)).alloc (.cells (hca deadS) 66)) (.cells #[.pointer none, pv (w.heap.size + 1)] 29)
  have s1 : (w.alloc (.cells (oCells o) 40)).heap.size = w.heap.size + 1 := by simp
  have s2 : ((w.alloc (.cells (oCells o) 40)).alloc (.cells (hca deadS) 66)).heap.size = w.heap.size + 2 := by simp
  refine ⟨(B1.trans (B2.mono (by omega))).trans (B3.mono (by omega)), ?_, ?_, ?_⟩
  · exact (B3.block _ (by omega)).trans ((B2.block _ (by omega)).trans (heap_alloc_new w _))
  · have := hk_new (w := w.alloc (.cells (oCells o) 40)) (B := w.heap.size) (l := zs) zs_len (by omega) false
    rw [s1] at this
    exact this.step B3
  · have := heap_alloc_new ((w.alloc (.cells (oCells o) 40)).alloc (.cells (hca deadS) 66)) (.cells #[.pointer none, pv (w.heap.size + 1)] 29)
    rw [s2] at this
    exact this
theorem Nob.at {w W : World} {o : O} (h : Nob w W o) {i : Nat} (hi : i < 2) : ∃ u, W.cell? ⟨w.heap.size + 2, i, none⟩ = some u ∧ Dead w.heap.size W u ∧ (∀ k, u = pv k → k = w.heap.size + 1) ∧ (i = 0 → u = .pointer none) := by
  obtain rfl | rfl : i = 0 ∨ i = 1 := by omega
  · exact ⟨.pointer none, by rw [cell_of_row _ _ _ _ _ _ h.sl]; rfl, .inl rfl, (fun k e => by cases e), fun _ => rfl⟩
  · exact ⟨pv (w.heap.size + 1), by rw [cell_of_row _ _ _ _ _ _ h.sl]; rfl, .inr ⟨_, rfl, h.z⟩, (fun k e => by injection e with e; injection e with e; injection e with e; exact e.symm), fun e => by cases e⟩
set_option maxHeartbeats 6400000 in
theorem nobody_law (w : World) (o : O) (n : Int) (ht : Ve.Tab w) :
    Calls Tryd.prog 6 #[oV o, .int .i64 n] w fun e w' => e = .returned (.bool true) ∧ Below w.heap.size w w' := by
  have N0 := Lib.hid (Nob.new w o)
  have BZ := Lib.hid (fun W => build66z W)
  have HT := Lib.hid ht
  have HO := Lib.hid (show oV o = .agg (oCells o) from rfl)
  rw [HO.out]
  obtain ⟨A, hA⟩ : ∃ A, oCells o = A := ⟨_, rfl⟩
  have HA := Lib.hid hA
  obtain ⟨Z, hZ⟩ : ∃ Z, hca deadS = Z := ⟨_, rfl⟩
  rw [hA, hZ] at N0
  rw [hZ] at BZ
  rw [hA]
  clear hA hZ ht
  go_enter Tryd.func6, Tryd.ntmps6
  go_upto_region 4 with (first | refine wpList_build_arr rfl 66 rfl _ (BZ.out _) ?_)
  obtain ⟨w1, hw1⟩ : ∃ y, ((w.alloc (.cells A 40)).alloc (.cells Z 66)).alloc (.cells #[.pointer none, .pointer (some ⟨w.heap.size + 1, 0, none⟩)] 29) = y := ⟨_, rfl⟩
  have e1 : ((w.alloc (.cells A 40)).alloc (.cells Z 66)).alloc (.cells #[.pointer none, pv (w.heap.size + 1)] 29) = w1 := hw1
  rw [e1] at N0
  rw [hw1]
  clear hw1 e1 BZ
  go_loopw [7] (fun kv wr => ∃ i : Nat, kv = .int .i64 i ∧ i ≤ 2 ∧ Hid (Below w.heap.size w wr) ∧ Hid (i < 2 → Nob w wr o)) (fun kv _ => 2 - (intOf kv).toNat)
  case atStart => exact ⟨0, rfl, Nat.zero_le _, Lib.hid N0.out.bel, Lib.hid (fun _ => N0.out)⟩
  case round =>
    obtain ⟨i, rfl, hi, hJ1, hJ2⟩ := hrel
    by_cases hlt : i < 2
    · have hN := hJ2.out hlt
      obtain ⟨u, hu, hd, hk, h0⟩ := hN.at hlt
      have NW := Lib.hid hN
      have UK := Lib.hid hk
      have U0 := Lib.hid h0
      have D0 := Lib.hid hd
      have G0 := get_dead wr hd n 1
      rw [show oV O0 = .agg #[.int .i64 0, .int .i64 0, .int .i64 0, .int .i64 0, .int .i64 0, .int .i64 0, .int .i64 0, .string ⟨#[]⟩, .bool false] from rfl] at G0
      have G := Lib.hid G0
      clear hd hk h0 hN G0 N0 hJ1 hJ2
      go_wp2_with fail
      refine G.out.mono ?_
      rintro e w6 ⟨rfl, hb⟩
      have B6 := vstep w6 (.cells #[.int .i64 0, .int .i64 0, .int .i64 0, .int .i64 0, .int .i64 0, .int .i64 0, .int .i64 0, .string ⟨#[]⟩, .bool false] 40)
      have D := Lib.hid ((D0.out.step hb).step B6)
      have NB := Lib.hid ((NW.out.step hb).step B6)
      clear hb hu B6 G D0 NW
      go_upto_region 8 with (fail)
      obtain ⟨w7, hw7⟩ : ∃ y, w6.alloc (.cells #[.int .i64 0, .int .i64 0, .int .i64 0, .int .i64 0, .int .i64 0, .int .i64 0, .int .i64 0, .string ⟨#[]⟩, .bool false] 40) = y := ⟨_, rfl⟩
      rw [hw7] at D NB ⊢
      clear hw7
      have OB := Lib.hid (fun W (hb : Far (fun k => u = pv k) w7 W) => show W.heap[w.heap.size]? = some (.cells (oCells o) 40 (0, 0)) from (hb.block _ (lt_of_block NB.out.o) (fun q => by have := UK.out _ q; omega)).trans NB.out.o)
      have LA := Lib.hid (fun W (hb : Far (fun k => u = pv k) w7 W) => ldO (box_o (OB.out W hb)))
      have LS := Lib.hid (fun W (hb : Far (fun k => u = pv k) w7 W) => ldS (W := W) (g := w.heap.size) (o := 0) (a := o.t) (b := o.r) (box3 (OB.out W hb)).1 (box3 (OB.out W hb)).2.1)
      have NS := Lib.hid (fun W (hb : Far (fun k => u = pv k) w7 W) => (show Below w.heap.size w W ∧ (i + 1 < 2 → Nob w W o) from by
        refine ⟨NB.out.bel.trans (hb.below NB.out.bel.size (fun k q => by have := UK.out _ q; omega)), fun hi1 => ?_⟩
        have e := U0.out (by omega)
        exact NB.out.step ⟨hb.os, hb.tape, hb.output, hb.size, fun k hk => hb.block k hk (fun q => by rw [e] at q; cases q)⟩))
      have BL := Lib.hid (fun W (hb : Far (fun k => u = pv k) w7 W) => (NS.out W hb).1.size)
      have HV := Lib.hid (show vw zs = .agg (Ve.va zs) from rfl)
      have WT := Lib.hid (fun W => (show Calls Tryd.prog 29 #[.agg (Ve.va zs), .int .i64 0, .int .i64 9] W fun e w' => e = .returned (.agg (Ve.va (Ve.withF zs 0 9))) ∧ Below W.heap.size W w' from Ve.with_any W zs zs_len 0 9))
      have W64 := Lib.hid (show (Ve.withF zs 0 9).length = 64 by decide +kernel)
      clear NB
      have D := Lib.hid (D.out.step (Below.refl w7.heap.size w7).drew)
      refine wp_region_held_drew (S := fun W => Far (fun k => u = pv k) w7 W) (by kernel_rfl) (Far.of_below (P := fun k => u = pv k) (Below.refl w7.heap.size w7).drew) (fun hHeld => ?_)
      have BV := Lib.hid (Far.of_below (P := fun k => u = pv k) (Below.refl w7.heap.size w7).drew)
      clear hHeld
      refine take_at (i := 0) 31 ?_ rfl rfl (by kernel_rfl) (by kernel_rfl) (by kernel_rfl) (fun _ _ _ h => h) (.inl ⟨rfl, ?_⟩) BV.out ?_
      rotate_left 1
      · intro w hSw; go_simp; try with_reducible rfl
      simp only [Act.put, List.setIfInBounds_toArray, List.set_cons_zero, List.set_cons_succ]
      refine take_at (i := 1) 32 ?_ rfl rfl (by kernel_rfl) (by kernel_rfl) (by kernel_rfl) (fun _ _ _ h => h) (.inl ⟨rfl, ?_⟩) BV.out ?_
      rotate_left 1
      · intro w hSw; go_simp; try with_reducible rfl
      simp only [Act.put, List.setIfInBounds_toArray, List.set_cons_zero, List.set_cons_succ]
      refine take_at (i := 2) 33 ?_ rfl rfl (by kernel_rfl) (by kernel_rfl) (by kernel_rfl) (fun _ _ _ h => h) (.inl ⟨rfl, ?_⟩) BV.out ?_
      rotate_left 1
      · intro w hSw; go_simp; try with_reducible rfl
      simp only [Act.put, List.setIfInBounds_toArray, List.set_cons_zero, List.set_cons_succ]
      refine take_at (i := 3) 34 (oV o) rfl rfl (by kernel_rfl) (by kernel_rfl) (by kernel_rfl) (fun _ _ _ h => h) (yields_ld (.tmp 2) 40 (.pointer (some ⟨w.heap.size, 0, none⟩)) _ LA.out rfl rfl rfl) BV.out ?_
      simp only [Act.put, List.setIfInBounds_toArray, List.set_cons_zero, List.set_cons_succ]
      refine wpAnyH_ready (rs := [4]) (by kernel_rfl) (by simp) (br_call (i := 4) 35 13 #[u, oV o] rfl rfl rfl (by go_simp) ((put_dead _ D.out o).mono ?_) AllReadyH.nil)
      rintro e v1 ⟨rfl, hb⟩
      have BV := Lib.hid (BV.out.then hb)
      have D := Lib.hid (D.out.step hb)
      clear hb
      refine ⟨_, rfl, BV.out, fun _ => ?_⟩
      simp only [Act.put, List.setIfInBounds_toArray, List.set_cons_zero, List.set_cons_succ]
      refine take_at (i := 5) 36 ?_ rfl rfl (by kernel_rfl) (by kernel_rfl) (by kernel_rfl) (fun _ _ _ h => h) (.inl ⟨rfl, ?_⟩) BV.out ?_
      rotate_left 1
      · intro w hSw; go_simp; try with_reducible rfl
      simp only [Act.put, List.setIfInBounds_toArray, List.set_cons_zero, List.set_cons_succ]
      refine take_at (i := 6) 37 ?_ rfl rfl (by kernel_rfl) (by kernel_rfl) (by kernel_rfl) (fun _ _ _ h => h) (.inl ⟨rfl, ?_⟩) BV.out ?_
      rotate_left 1
      · intro w hSw; go_simp; try with_reducible rfl
      simp only [Act.put, List.setIfInBounds_toArray, List.set_cons_zero, List.set_cons_succ]
      refine take_at (i := 7) 38 ?_ rfl rfl (by kernel_rfl) (by kernel_rfl) (by kernel_rfl) (fun _ _ _ h => h) (.inl ⟨rfl, ?_⟩) BV.out ?_
      rotate_left 1
      · intro w hSw; go_simp; try with_reducible rfl
      simp only [Act.put, List.setIfInBounds_toArray, List.set_cons_zero, List.set_cons_succ]
      refine take_at (i := 8) 39 ?_ rfl rfl (by kernel_rfl) (by kernel_rfl) (by kernel_rfl) (fun _ _ _ h => h) (.inl ⟨rfl, ?_⟩) BV.out ?_
      rotate_left 1
      · intro w hSw; go_simp; try with_reducible rfl
      simp only [Act.put, List.setIfInBounds_toArray, List.set_cons_zero, List.set_cons_succ]
      refine take_at (i := 10) 41 (.agg (Ve.va zs)) rfl rfl (by kernel_rfl) (by kernel_rfl) (by kernel_rfl) (fun _ _ _ h => h) (yields_b27 rfl rfl) BV.out ?_
      simp only [Act.put, List.setIfInBounds_toArray, List.set_cons_zero, List.set_cons_succ]
      refine wpAnyH_ready (rs := [9]) (by kernel_rfl) (by simp) (br_call (i := 9) 40 24 #[u] rfl rfl rfl (by go_simp) ((known_dead _ D.out).mono ?_) AllReadyH.nil)
      rintro e v2 ⟨rfl, hb⟩
      have BV := Lib.hid (BV.out.then hb)
      have D := Lib.hid (D.out.step hb)
      clear hb
      refine ⟨_, rfl, BV.out, fun _ => ?_⟩
      simp only [Act.put, List.setIfInBounds_toArray, List.set_cons_zero, List.set_cons_succ]
      refine take_at (i := 11) 42 (.bool false) rfl rfl (by kernel_rfl) (by kernel_rfl) (by kernel_rfl) (fun _ _ _ h => h) (yields_neqV (.tmp 40) (.tmp 41) zs zs_len rfl rfl rfl rfl) BV.out ?_
      simp only [Act.put, List.setIfInBounds_toArray, List.set_cons_zero, List.set_cons_succ]
      refine take_at (i := 12) 43 ?_ rfl rfl (by kernel_rfl) (by kernel_rfl) (by kernel_rfl) (fun _ _ _ h => h) (.inl ⟨rfl, ?_⟩) BV.out ?_
      rotate_left 1
      · intro w hSw; go_simp; try with_reducible rfl
      simp only [Act.put, List.setIfInBounds_toArray, List.set_cons_zero, List.set_cons_succ]
      refine take_at (i := 13) 44 ?_ rfl rfl (by kernel_rfl) (by kernel_rfl) (by kernel_rfl) (fun _ _ _ h => h) (.inl ⟨rfl, ?_⟩) BV.out ?_
      rotate_left 1
      · intro w hSw; go_simp; try with_reducible rfl
      simp only [Act.put, List.setIfInBounds_toArray, List.set_cons_zero, List.set_cons_succ]
      refine take_at (i := 14) 45 ?_ rfl rfl (by kernel_rfl) (by kernel_rfl) (by kernel_rfl) (fun _ _ _ h => h) (.inl ⟨rfl, ?_⟩) BV.out ?_
      rotate_left 1
      · intro w hSw; go_simp; try with_reducible rfl
      simp only [Act.put, List.setIfInBounds_toArray, List.set_cons_zero, List.set_cons_succ]
      refine take_at (i := 16) 47 (.agg (Ve.va zs)) rfl rfl (by kernel_rfl) (by kernel_rfl) (by kernel_rfl) (fun _ _ _ h => h) (yields_b27 rfl rfl) BV.out ?_
      simp only [Act.put, List.setIfInBounds_toArray, List.set_cons_zero, List.set_cons_succ]
      refine wpAnyH_ready (rs := [15]) (by kernel_rfl) (by simp) (br_call (i := 15) 46 26 #[u] rfl rfl rfl (by go_simp) ((base_dead _ D.out).mono ?_) AllReadyH.nil)
      rintro e v3 ⟨rfl, hb⟩
      have BV := Lib.hid (BV.out.then hb)
      have D := Lib.hid (D.out.step hb)
      clear hb
      refine ⟨_, rfl, BV.out, fun _ => ?_⟩
      simp only [Act.put, List.setIfInBounds_toArray, List.set_cons_zero, List.set_cons_succ]
      refine take_at (i := 17) 48 (.bool false) rfl rfl (by kernel_rfl) (by kernel_rfl) (by kernel_rfl) (fun _ _ _ h => h) (yields_neqV (.tmp 46) (.tmp 47) zs zs_len rfl rfl rfl rfl) BV.out ?_
      simp only [Act.put, List.setIfInBounds_toArray, List.set_cons_zero, List.set_cons_succ]
      refine take_at (i := 18) 49 ?_ rfl rfl (by kernel_rfl) (by kernel_rfl) (by kernel_rfl) (fun _ _ _ h => h) (.inl ⟨rfl, ?_⟩) BV.out ?_
      rotate_left 1
      · intro w hSw; go_simp; try with_reducible rfl
      simp only [Act.put, List.setIfInBounds_toArray, List.set_cons_zero, List.set_cons_succ]
      refine take_at (i := 19) 50 ?_ rfl rfl (by kernel_rfl) (by kernel_rfl) (by kernel_rfl) (fun _ _ _ h => h) (.inl ⟨rfl, ?_⟩) BV.out ?_
      rotate_left 1
      · intro w hSw; go_simp; try with_reducible rfl
      simp only [Act.put, List.setIfInBounds_toArray, List.set_cons_zero, List.set_cons_succ]
      refine take_at (i := 20) 51 ?_ rfl rfl (by kernel_rfl) (by kernel_rfl) (by kernel_rfl) (fun _ _ _ h => h) (.inl ⟨rfl, ?_⟩) BV.out ?_
      rotate_left 1
      · intro w hSw; go_simp; try with_reducible rfl
      simp only [Act.put, List.setIfInBounds_toArray, List.set_cons_zero, List.set_cons_succ]
      refine take_at (i := 22) 53 ?_ rfl rfl (by kernel_rfl) (by kernel_rfl) (by kernel_rfl) (fun _ _ _ h => h) (.inl ⟨rfl, ?_⟩) BV.out ?_
      rotate_left 1
      · intro w hSw; go_simp; try with_reducible rfl
      simp only [Act.put, List.setIfInBounds_toArray, List.set_cons_zero, List.set_cons_succ]
      refine take_at (i := 25) 56 ?_ rfl rfl (by kernel_rfl) (by kernel_rfl) (by kernel_rfl) (fun _ _ _ h => h) (.inl ⟨rfl, ?_⟩) BV.out ?_
      rotate_left 1
      · intro w hSw; go_simp; try with_reducible rfl
      simp only [Act.put, List.setIfInBounds_toArray, List.set_cons_zero, List.set_cons_succ]
      refine take_at (i := 29) 60 ?_ rfl rfl (by kernel_rfl) (by kernel_rfl) (by kernel_rfl) (fun _ _ _ h => h) (.inl ⟨rfl, ?_⟩) BV.out ?_
      rotate_left 1
      · intro w hSw; go_simp; try with_reducible rfl
      simp only [Act.put, List.setIfInBounds_toArray, List.set_cons_zero, List.set_cons_succ]
      refine take_at (i := 30) 61 ?_ rfl rfl (by kernel_rfl) (by kernel_rfl) (by kernel_rfl) (fun _ _ _ h => h) (.inl ⟨rfl, ?_⟩) BV.out ?_
      rotate_left 1
      · intro w hSw; go_simp; try with_reducible rfl
      simp only [Act.put, List.setIfInBounds_toArray, List.set_cons_zero, List.set_cons_succ]
      refine wpAnyH_ready (rs := [21, 31]) (by kernel_rfl) (by simp) (br_call (i := 21) 52 27 #[u] rfl rfl rfl (by go_simp) ((len_dead _ D.out).mono ?_) (br_bslice (i := 31) 62 56 1 _ #[(0, .agg #[.int .i64 0, .int .i64 1, .int .i64 9])] _ _ rfl rfl rfl rfl rfl ((fun W => bsR W 0 1 9) v3) (BV.out.then (vstep v3 _)) (fun _ => ?_) AllReadyH.nil))
      · rintro e v4 ⟨rfl, hb⟩
        have BV := Lib.hid (BV.out.then hb)
        have D := Lib.hid (D.out.step hb)
        clear hb
        refine ⟨_, rfl, BV.out, fun _ => ?_⟩
        simp only [Act.put, List.setIfInBounds_toArray, List.set_cons_zero, List.set_cons_succ]
        refine wpAnyH_ready (rs := [23, 31]) (by kernel_rfl) (by simp) (br_call (i := 23) 54 28 #[u] rfl rfl rfl (by go_simp) ((time_dead _ D.out).mono ?_) (br_bslice (i := 31) 62 56 1 _ #[(0, .agg #[.int .i64 0, .int .i64 1, .int .i64 9])] _ _ rfl rfl rfl rfl rfl ((fun W => bsR W 0 1 9) v4) (BV.out.then (vstep v4 _)) (fun _ => ?_) AllReadyH.nil))
        · rintro e v5 ⟨rfl, hb⟩
          have BV := Lib.hid (BV.out.then hb)
          have D := Lib.hid (D.out.step hb)
          clear hb
          refine ⟨_, rfl, BV.out, fun _ => ?_⟩
          simp only [Act.put, List.setIfInBounds_toArray, List.set_cons_zero, List.set_cons_succ]
          refine take_at (i := 24) 55 ?_ rfl rfl (by kernel_rfl) (by kernel_rfl) (by kernel_rfl) (fun _ _ _ h => h) (.inl ⟨rfl, ?_⟩) BV.out ?_
          rotate_left 1
          · intro w hSw; go_simp; try with_reducible rfl
          simp only [Act.put, List.setIfInBounds_toArray, List.set_cons_zero, List.set_cons_succ]
          refine wpAnyH_ready (rs := [26, 31]) (by kernel_rfl) (by simp) (br_call (i := 26) 57 25 #[u] rfl rfl rfl (by go_simp) ((all_dead _ D.out).mono ?_) (br_bslice (i := 31) 62 56 1 _ #[(0, .agg #[.int .i64 0, .int .i64 1, .int .i64 9])] _ _ rfl rfl rfl rfl rfl ((fun W => bsR W 0 1 9) v5) (BV.out.then (vstep v5 _)) (fun _ => ?_) AllReadyH.nil))
          · rintro e v6 ⟨a2, c2, rfl, hb⟩
            have BV := Lib.hid (BV.out.then hb)
            have D := Lib.hid (D.out.step hb)
            clear hb
            refine ⟨_, rfl, BV.out, fun _ => ?_⟩
            simp only [Act.put, List.setIfInBounds_toArray, List.set_cons_zero, List.set_cons_succ]
            refine take_at (i := 27) 58 ?_ rfl rfl (by kernel_rfl) (by kernel_rfl) (by kernel_rfl) (fun _ _ _ h => h) (.inl ⟨rfl, ?_⟩) BV.out ?_
            rotate_left 1
            · intro w hSw; go_simp; try with_reducible rfl
            simp only [Act.put, List.setIfInBounds_toArray, List.set_cons_zero, List.set_cons_succ]
            refine take_at (i := 28) 59 ?_ rfl rfl (by kernel_rfl) (by kernel_rfl) (by kernel_rfl) (fun _ _ _ h => h) (.inl ⟨rfl, ?_⟩) BV.out ?_
            rotate_left 1
            · intro w hSw; go_simp; try with_reducible rfl
            simp only [Act.put, List.setIfInBounds_toArray, List.set_cons_zero, List.set_cons_succ]
            refine wpAnyH_ready (rs := [31]) (by kernel_rfl) (by simp) (br_bslice (i := 31) 62 56 1 _ #[(0, .agg #[.int .i64 0, .int .i64 1, .int .i64 9])] _ _ rfl rfl rfl rfl rfl ((fun W => bsR W 0 1 9) v6) (BV.out.then (vstep v6 _)) (fun _ => ?_) AllReadyH.nil)
            obtain ⟨v7, hv7⟩ : ∃ zz, v6.alloc (.cells #[.int .i64 0, .int .i64 1, .int .i64 9] 70) = zz := ⟨_, rfl⟩
            have hb : Below v6.heap.size v6 v7 := by rw [← hv7]; exact vstep v6 _
            have RB := Lib.hid (show BxR v7 v6.heap.size from by rw [← hv7]; exact heap_alloc_new v6 (.cells #[.int .i64 0, .int .i64 1, .int .i64 9] 70))
            rw [hv7]
            obtain ⟨k7, hk7⟩ : ∃ zz, v6.heap.size = zz := ⟨_, rfl⟩
            rw [hk7] at RB ⊢
            have BV := Lib.hid (BV.out.then hb)
            have D := Lib.hid (D.out.step hb)
            clear hb hv7 hk7
            simp only [Act.put, List.setIfInBounds_toArray, List.set_cons_zero, List.set_cons_succ]
            refine wpAnyH_ready (rs := [32]) (by kernel_rfl) (by simp) (br_call (i := 32) 63 20 #[u, .slice (some ⟨k7, 0, none⟩) 1 1, .int .i64 9] rfl rfl rfl (by go_simp) ((take_dead _ D.out _ 0 1 9 RB.out).mono ?_) AllReadyH.nil)
            rintro e v8 ⟨a3, c3, rfl, hb⟩
            have BV := Lib.hid (BV.out.then hb)
            have D := Lib.hid (D.out.step hb)
            have RB := Lib.hid (RB.out.step hb)
            clear hb
            refine ⟨_, rfl, BV.out, fun _ => ?_⟩
            simp only [Act.put, List.setIfInBounds_toArray, List.set_cons_zero, List.set_cons_succ]
            refine take_at (i := 33) 64 ?_ rfl rfl (by kernel_rfl) (by kernel_rfl) (by kernel_rfl) (fun _ _ _ h => h) (.inl ⟨rfl, ?_⟩) BV.out ?_
            rotate_left 1
            · intro w hSw; go_simp; try with_reducible rfl
            simp only [Act.put, List.setIfInBounds_toArray, List.set_cons_zero, List.set_cons_succ]
            refine take_at (i := 34) 65 ?_ rfl rfl (by kernel_rfl) (by kernel_rfl) (by kernel_rfl) (fun _ _ _ h => h) (.inl ⟨rfl, ?_⟩) BV.out ?_
            rotate_left 1
            · intro w hSw; go_simp; try with_reducible rfl
            simp only [Act.put, List.setIfInBounds_toArray, List.set_cons_zero, List.set_cons_succ]
            refine take_at (i := 35) 66 ?_ rfl rfl (by kernel_rfl) (by kernel_rfl) (by kernel_rfl) (fun _ _ _ h => h) (.inl ⟨rfl, ?_⟩) BV.out ?_
            rotate_left 1
            · intro w hSw; go_simp; try with_reducible rfl
            simp only [Act.put, List.setIfInBounds_toArray, List.set_cons_zero, List.set_cons_succ]
            refine take_at (i := 36) 67 ?_ rfl rfl (by kernel_rfl) (by kernel_rfl) (by kernel_rfl) (fun _ _ _ h => h) (.inl ⟨rfl, ?_⟩) BV.out ?_
            rotate_left 1
            · intro w hSw; go_simp; try with_reducible rfl
            simp only [Act.put, List.setIfInBounds_toArray, List.set_cons_zero, List.set_cons_succ]
            refine take_at (i := 37) 68 ?_ rfl rfl (by kernel_rfl) (by kernel_rfl) (by kernel_rfl) (fun _ _ _ h => h) (.inl ⟨rfl, ?_⟩) BV.out ?_
            rotate_left 1
            · intro w hSw; go_simp; try with_reducible rfl
            simp only [Act.put, List.setIfInBounds_toArray, List.set_cons_zero, List.set_cons_succ]
            refine take_at (i := 38) 69 ?_ rfl rfl (by kernel_rfl) (by kernel_rfl) (by kernel_rfl) (fun _ _ _ h => h) (.inl ⟨rfl, ?_⟩) BV.out ?_
            rotate_left 1
            · intro w hSw; go_simp; try with_reducible rfl
            simp only [Act.put, List.setIfInBounds_toArray, List.set_cons_zero, List.set_cons_succ]
            refine take_at (i := 39) 70 (.agg (Ve.va zs)) rfl rfl (by kernel_rfl) (by kernel_rfl) (by kernel_rfl) (fun _ _ _ h => h) (yields_b27 rfl rfl) BV.out ?_
            simp only [Act.put, List.setIfInBounds_toArray, List.set_cons_zero, List.set_cons_succ]
            refine take_at (i := 41) 72 ?_ rfl rfl (by kernel_rfl) (by kernel_rfl) (by kernel_rfl) (fun _ _ _ h => h) (.inl ⟨rfl, ?_⟩) BV.out ?_
            rotate_left 1
            · intro w hSw; go_simp; try with_reducible rfl
            simp only [Act.put, List.setIfInBounds_toArray, List.set_cons_zero, List.set_cons_succ]
            refine take_at (i := 42) 73 (.agg #[.int .i64 o.t, .int .i64 o.r]) rfl rfl (by kernel_rfl) (by kernel_rfl) (by kernel_rfl) (fun _ _ _ h => h) (yields_ld (.tmp 72) 38 (.pointer (some ⟨w.heap.size, 0, none⟩)) _ LS.out rfl rfl rfl) BV.out ?_
            simp only [Act.put, List.setIfInBounds_toArray, List.set_cons_zero, List.set_cons_succ]
            refine wpAnyH_ready (rs := [40]) (by kernel_rfl) (by simp) (br_call (i := 40) 71 29 #[.agg (Ve.va zs), .int .i64 0, .int .i64 9] rfl rfl rfl (by go_simp) ((WT.out _).mono ?_) AllReadyH.nil)
            rintro e v9 ⟨rfl, hb⟩
            have BV := Lib.hid (BV.out.then hb)
            have D := Lib.hid (D.out.step hb)
            have RB := Lib.hid (RB.out.step hb)
            clear hb
            refine ⟨_, rfl, BV.out, fun _ => ?_⟩
            simp only [Act.put, List.setIfInBounds_toArray, List.set_cons_zero, List.set_cons_succ]
            refine wpAnyH_ready (rs := [43]) (by kernel_rfl) (by simp) (br_call (i := 43) 74 15 #[u, .agg (Ve.va (Ve.withF zs 0 9)), .agg #[.int .i64 o.t, .int .i64 o.r]] rfl rfl rfl (by go_simp) ((trim_dead _ D.out (BL.out _ BV.out) (Ve.withF zs 0 9) W64.out o.t o.r).mono ?_) AllReadyH.nil)
            rintro e v10 ⟨rfl, ho⟩
            have BV := Lib.hid (BV.out.trans ho (fun k _ q => q))
            clear ho
            refine ⟨_, rfl, BV.out, fun _ => ?_⟩
            simp only [Act.put, List.setIfInBounds_toArray, List.set_cons_zero, List.set_cons_succ]
            refine take_at (i := 44) 75 ?_ rfl rfl (by kernel_rfl) (by kernel_rfl) (by kernel_rfl) (fun _ _ _ h => h) (.inl ⟨rfl, ?_⟩) BV.out ?_
            rotate_left 1
            · intro w hSw; go_simp; try with_reducible rfl
            simp only [Act.put, List.setIfInBounds_toArray, List.set_cons_zero, List.set_cons_succ]
            refine take_at (i := 45) 76 ?_ rfl rfl (by kernel_rfl) (by kernel_rfl) (by kernel_rfl) (fun _ _ _ h => h) (.inl ⟨rfl, ?_⟩) BV.out ?_
            rotate_left 1
            · intro w hSw; go_simp; try with_reducible rfl
            simp only [Act.put, List.setIfInBounds_toArray, List.set_cons_zero, List.set_cons_succ]
            refine wpAnyH_done (by kernel_rfl) ?_ _
            have NE := Lib.hid (NS.out _ BV.out)
            clear D OB LA LS NS BV BL
            go_wp2
            go_roundw
            case rel => exact ⟨i + 1, by go_num, by omega, Lib.hid NE.out.1, Lib.hid NE.out.2⟩
            case measure => simp [intOf]; omega
          · obtain ⟨v11, hv11⟩ : ∃ zz, v5.alloc (.cells #[.int .i64 0, .int .i64 1, .int .i64 9] 70) = zz := ⟨_, rfl⟩
            have hb : Below v5.heap.size v5 v11 := by rw [← hv11]; exact vstep v5 _
            have RB := Lib.hid (show BxR v11 v5.heap.size from by rw [← hv11]; exact heap_alloc_new v5 (.cells #[.int .i64 0, .int .i64 1, .int .i64 9] 70))
            rw [hv11]
            obtain ⟨k11, hk11⟩ : ∃ zz, v5.heap.size = zz := ⟨_, rfl⟩
            rw [hk11] at RB ⊢
            have BV := Lib.hid (BV.out.then hb)
            have D := Lib.hid (D.out.step hb)
            clear hb hv11 hk11
            simp only [Act.put, List.setIfInBounds_toArray, List.set_cons_zero, List.set_cons_succ]
            refine wpAnyH_ready (rs := [26]) (by kernel_rfl) (by simp) (br_call (i := 26) 57 25 #[u] rfl rfl rfl (by go_simp) ((all_dead _ D.out).mono ?_) AllReadyH.nil)
            rintro e v12 ⟨a2, c2, rfl, hb⟩
            have BV := Lib.hid (BV.out.then hb)
            have D := Lib.hid (D.out.step hb)
            have RB := Lib.hid (RB.out.step hb)
            clear hb
            refine ⟨_, rfl, BV.out, fun _ => ?_⟩
            simp only [Act.put, List.setIfInBounds_toArray, List.set_cons_zero, List.set_cons_succ]
            refine take_at (i := 27) 58 ?_ rfl rfl (by kernel_rfl) (by kernel_rfl) (by kernel_rfl) (fun _ _ _ h => h) (.inl ⟨rfl, ?_⟩) BV.out ?_
            rotate_left 1
            · intro w hSw; go_simp; try with_reducible rfl
            simp only [Act.put, List.setIfInBounds_toArray, List.set_cons_zero, List.set_cons_succ]
            refine take_at (i := 28) 59 ?_ rfl rfl (by kernel_rfl) (by kernel_rfl) (by kernel_rfl) (fun _ _ _ h => h) (.inl ⟨rfl, ?_⟩) BV.out ?_
            rotate_left 1
            · intro w hSw; go_simp; try with_reducible rfl
            simp only [Act.put, List.setIfInBounds_toArray, List.set_cons_zero, List.set_cons_succ]
            refine wpAnyH_ready (rs := [32]) (by kernel_rfl) (by simp) (br_call (i := 32) 63 20 #[u, .slice (some ⟨k11, 0, none⟩) 1 1, .int .i64 9] rfl rfl rfl (by go_simp) ((take_dead _ D.out _ 0 1 9 RB.out).mono ?_) AllReadyH.nil)
            rintro e v13 ⟨a3, c3, rfl, hb⟩
            have BV := Lib.hid (BV.out.then hb)
            have D := Lib.hid (D.out.step hb)
            have RB := Lib.hid (RB.out.step hb)
            clear hb
            refine ⟨_, rfl, BV.out, fun _ => ?_⟩
            simp only [Act.put, List.setIfInBounds_toArray, List.set_cons_zero, List.set_cons_succ]
            refine take_at (i := 33) 64 ?_ rfl rfl (by kernel_rfl) (by kernel_rfl) (by kernel_rfl) (fun _ _ _ h => h) (.inl ⟨rfl, ?_⟩) BV.out ?_
            rotate_left 1
            · intro w hSw; go_simp; try with_reducible rfl
            simp only [Act.put, List.setIfInBounds_toArray, List.set_cons_zero, List.set_cons_succ]
            refine take_at (i := 34) 65 ?_ rfl rfl (by kernel_rfl) (by kernel_rfl) (by kernel_rfl) (fun _ _ _ h => h) (.inl ⟨rfl, ?_⟩) BV.out ?_
            rotate_left 1
            · intro w hSw; go_simp; try with_reducible rfl
            simp only [Act.put, List.setIfInBounds_toArray, List.set_cons_zero, List.set_cons_succ]
            refine take_at (i := 35) 66 ?_ rfl rfl (by kernel_rfl) (by kernel_rfl) (by kernel_rfl) (fun _ _ _ h => h) (.inl ⟨rfl, ?_⟩) BV.out ?_
            rotate_left 1
            · intro w hSw; go_simp; try with_reducible rfl
            simp only [Act.put, List.setIfInBounds_toArray, List.set_cons_zero, List.set_cons_succ]
            refine take_at (i := 36) 67 ?_ rfl rfl (by kernel_rfl) (by kernel_rfl) (by kernel_rfl) (fun _ _ _ h => h) (.inl ⟨rfl, ?_⟩) BV.out ?_
            rotate_left 1
            · intro w hSw; go_simp; try with_reducible rfl
            simp only [Act.put, List.setIfInBounds_toArray, List.set_cons_zero, List.set_cons_succ]
            refine take_at (i := 37) 68 ?_ rfl rfl (by kernel_rfl) (by kernel_rfl) (by kernel_rfl) (fun _ _ _ h => h) (.inl ⟨rfl, ?_⟩) BV.out ?_
            rotate_left 1
            · intro w hSw; go_simp; try with_reducible rfl
            simp only [Act.put, List.setIfInBounds_toArray, List.set_cons_zero, List.set_cons_succ]
            refine take_at (i := 38) 69 ?_ rfl rfl (by kernel_rfl) (by kernel_rfl) (by kernel_rfl) (fun _ _ _ h => h) (.inl ⟨rfl, ?_⟩) BV.out ?_
            rotate_left 1
            · intro w hSw; go_simp; try with_reducible rfl
            simp only [Act.put, List.setIfInBounds_toArray, List.set_cons_zero, List.set_cons_succ]
            refine take_at (i := 39) 70 (.agg (Ve.va zs)) rfl rfl (by kernel_rfl) (by kernel_rfl) (by kernel_rfl) (fun _ _ _ h => h) (yields_b27 rfl rfl) BV.out ?_
            simp only [Act.put, List.setIfInBounds_toArray, List.set_cons_zero, List.set_cons_succ]
            refine take_at (i := 41) 72 ?_ rfl rfl (by kernel_rfl) (by kernel_rfl) (by kernel_rfl) (fun _ _ _ h => h) (.inl ⟨rfl, ?_⟩) BV.out ?_
            rotate_left 1
            · intro w hSw; go_simp; try with_reducible rfl
            simp only [Act.put, List.setIfInBounds_toArray, List.set_cons_zero, List.set_cons_succ]
            refine take_at (i := 42) 73 (.agg #[.int .i64 o.t, .int .i64 o.r]) rfl rfl (by kernel_rfl) (by kernel_rfl) (by kernel_rfl) (fun _ _ _ h => h) (yields_ld (.tmp 72) 38 (.pointer (some ⟨w.heap.size, 0, none⟩)) _ LS.out rfl rfl rfl) BV.out ?_
            simp only [Act.put, List.setIfInBounds_toArray, List.set_cons_zero, List.set_cons_succ]
            refine wpAnyH_ready (rs := [40]) (by kernel_rfl) (by simp) (br_call (i := 40) 71 29 #[.agg (Ve.va zs), .int .i64 0, .int .i64 9] rfl rfl rfl (by go_simp) ((WT.out _).mono ?_) AllReadyH.nil)
            rintro e v14 ⟨rfl, hb⟩
            have BV := Lib.hid (BV.out.then hb)
            have D := Lib.hid (D.out.step hb)
            have RB := Lib.hid (RB.out.step hb)
            clear hb
            refine ⟨_, rfl, BV.out, fun _ => ?_⟩
            simp only [Act.put, List.setIfInBounds_toArray, List.set_cons_zero, List.set_cons_succ]
            refine wpAnyH_ready (rs := [43]) (by kernel_rfl) (by simp) (br_call (i := 43) 74 15 #[u, .agg (Ve.va (Ve.withF zs 0 9)), .agg #[.int .i64 o.t, .int .i64 o.r]] rfl rfl rfl (by go_simp) ((trim_dead _ D.out (BL.out _ BV.out) (Ve.withF zs 0 9) W64.out o.t o.r).mono ?_) AllReadyH.nil)
            rintro e v15 ⟨rfl, ho⟩
            have BV := Lib.hid (BV.out.trans ho (fun k _ q => q))
            clear ho
            refine ⟨_, rfl, BV.out, fun _ => ?_⟩
            simp only [Act.put, List.setIfInBounds_toArray, List.set_cons_zero, List.set_cons_succ]
            refine take_at (i := 44) 75 ?_ rfl rfl (by kernel_rfl) (by kernel_rfl) (by kernel_rfl) (fun _ _ _ h => h) (.inl ⟨rfl, ?_⟩) BV.out ?_
            rotate_left 1
            · intro w hSw; go_simp; try with_reducible rfl
            simp only [Act.put, List.setIfInBounds_toArray, List.set_cons_zero, List.set_cons_succ]
            refine take_at (i := 45) 76 ?_ rfl rfl (by kernel_rfl) (by kernel_rfl) (by kernel_rfl) (fun _ _ _ h => h) (.inl ⟨rfl, ?_⟩) BV.out ?_
            rotate_left 1
            · intro w hSw; go_simp; try with_reducible rfl
            simp only [Act.put, List.setIfInBounds_toArray, List.set_cons_zero, List.set_cons_succ]
            refine wpAnyH_done (by kernel_rfl) ?_ _
            have NE := Lib.hid (NS.out _ BV.out)
            clear D OB LA LS NS BV BL
            go_wp2
            go_roundw
            case rel => exact ⟨i + 1, by go_num, by omega, Lib.hid NE.out.1, Lib.hid NE.out.2⟩
            case measure => simp [intOf]; omega
        · obtain ⟨v16, hv16⟩ : ∃ zz, v4.alloc (.cells #[.int .i64 0, .int .i64 1, .int .i64 9] 70) = zz := ⟨_, rfl⟩
          have hb : Below v4.heap.size v4 v16 := by rw [← hv16]; exact vstep v4 _
          have RB := Lib.hid (show BxR v16 v4.heap.size from by rw [← hv16]; exact heap_alloc_new v4 (.cells #[.int .i64 0, .int .i64 1, .int .i64 9] 70))
          rw [hv16]
          obtain ⟨k16, hk16⟩ : ∃ zz, v4.heap.size = zz := ⟨_, rfl⟩
          rw [hk16] at RB ⊢
          have BV := Lib.hid (BV.out.then hb)
          have D := Lib.hid (D.out.step hb)
          clear hb hv16 hk16
          simp only [Act.put, List.setIfInBounds_toArray, List.set_cons_zero, List.set_cons_succ]
          refine wpAnyH_ready (rs := [23]) (by kernel_rfl) (by simp) (br_call (i := 23) 54 28 #[u] rfl rfl rfl (by go_simp) ((time_dead _ D.out).mono ?_) AllReadyH.nil)
          rintro e v17 ⟨rfl, hb⟩
          have BV := Lib.hid (BV.out.then hb)
          have D := Lib.hid (D.out.step hb)
          have RB := Lib.hid (RB.out.step hb)
          clear hb
          refine ⟨_, rfl, BV.out, fun _ => ?_⟩
          simp only [Act.put, List.setIfInBounds_toArray, List.set_cons_zero, List.set_cons_succ]
          refine take_at (i := 24) 55 ?_ rfl rfl (by kernel_rfl) (by kernel_rfl) (by kernel_rfl) (fun _ _ _ h => h) (.inl ⟨rfl, ?_⟩) BV.out ?_
          rotate_left 1
          · intro w hSw; go_simp; try with_reducible rfl
          simp only [Act.put, List.setIfInBounds_toArray, List.set_cons_zero, List.set_cons_succ]
          refine wpAnyH_ready (rs := [26]) (by kernel_rfl) (by simp) (br_call (i := 26) 57 25 #[u] rfl rfl rfl (by go_simp) ((all_dead _ D.out).mono ?_) AllReadyH.nil)
          rintro e v18 ⟨a2, c2, rfl, hb⟩
          have BV := Lib.hid (BV.out.then hb)
          have D := Lib.hid (D.out.step hb)
          have RB := Lib.hid (RB.out.step hb)
          clear hb
          refine ⟨_, rfl, BV.out, fun _ => ?_⟩
          simp only [Act.put, List.setIfInBounds_toArray, List.set_cons_zero, List.set_cons_succ]
          refine take_at (i := 27) 58 ?_ rfl rfl (by kernel_rfl) (by kernel_rfl) (by kernel_rfl) (fun _ _ _ h => h) (.inl ⟨rfl, ?_⟩) BV.out ?_
          rotate_left 1
          · intro w hSw; go_simp; try with_reducible rfl
          simp only [Act.put, List.setIfInBounds_toArray, List.set_cons_zero, List.set_cons_succ]
          refine take_at (i := 28) 59 ?_ rfl rfl (by kernel_rfl) (by kernel_rfl) (by kernel_rfl) (fun _ _ _ h => h) (.inl ⟨rfl, ?_⟩) BV.out ?_
          rotate_left 1
          · intro w hSw; go_simp; try with_reducible rfl
          simp only [Act.put, List.setIfInBounds_toArray, List.set_cons_zero, List.set_cons_succ]
          refine wpAnyH_ready (rs := [32]) (by kernel_rfl) (by simp) (br_call (i := 32) 63 20 #[u, .slice (some ⟨k16, 0, none⟩) 1 1, .int .i64 9] rfl rfl rfl (by go_simp) ((take_dead _ D.out _ 0 1 9 RB.out).mono ?_) AllReadyH.nil)
          rintro e v19 ⟨a3, c3, rfl, hb⟩
          have BV := Lib.hid (BV.out.then hb)
          have D := Lib.hid (D.out.step hb)
          have RB := Lib.hid (RB.out.step hb)
          clear hb
          refine ⟨_, rfl, BV.out, fun _ => ?_⟩
          simp only [Act.put, List.setIfInBounds_toArray, List.set_cons_zero, List.set_cons_succ]
          refine take_at (i := 33) 64 ?_ rfl rfl (by kernel_rfl) (by kernel_rfl) (by kernel_rfl) (fun _ _ _ h => h) (.inl ⟨rfl, ?_⟩) BV.out ?_
          rotate_left 1
          · intro w hSw; go_simp; try with_reducible rfl
          simp only [Act.put, List.setIfInBounds_toArray, List.set_cons_zero, List.set_cons_succ]
          refine take_at (i := 34) 65 ?_ rfl rfl (by kernel_rfl) (by kernel_rfl) (by kernel_rfl) (fun _ _ _ h => h) (.inl ⟨rfl, ?_⟩) BV.out ?_
          rotate_left 1
          · intro w hSw; go_simp; try with_reducible rfl
          simp only [Act.put, List.setIfInBounds_toArray, List.set_cons_zero, List.set_cons_succ]
          refine take_at (i := 35) 66 ?_ rfl rfl (by kernel_rfl) (by kernel_rfl) (by kernel_rfl) (fun _ _ _ h => h) (.inl ⟨rfl, ?_⟩) BV.out ?_
          rotate_left 1
          · intro w hSw; go_simp; try with_reducible rfl
          simp only [Act.put, List.setIfInBounds_toArray, List.set_cons_zero, List.set_cons_succ]
          refine take_at (i := 36) 67 ?_ rfl rfl (by kernel_rfl) (by kernel_rfl) (by kernel_rfl) (fun _ _ _ h => h) (.inl ⟨rfl, ?_⟩) BV.out ?_
          rotate_left 1
          · intro w hSw; go_simp; try with_reducible rfl
          simp only [Act.put, List.setIfInBounds_toArray, List.set_cons_zero, List.set_cons_succ]
          refine take_at (i := 37) 68 ?_ rfl rfl (by kernel_rfl) (by kernel_rfl) (by kernel_rfl) (fun _ _ _ h => h) (.inl ⟨rfl, ?_⟩) BV.out ?_
          rotate_left 1
          · intro w hSw; go_simp; try with_reducible rfl
          simp only [Act.put, List.setIfInBounds_toArray, List.set_cons_zero, List.set_cons_succ]
          refine take_at (i := 38) 69 ?_ rfl rfl (by kernel_rfl) (by kernel_rfl) (by kernel_rfl) (fun _ _ _ h => h) (.inl ⟨rfl, ?_⟩) BV.out ?_
          rotate_left 1
          · intro w hSw; go_simp; try with_reducible rfl
          simp only [Act.put, List.setIfInBounds_toArray, List.set_cons_zero, List.set_cons_succ]
          refine take_at (i := 39) 70 (.agg (Ve.va zs)) rfl rfl (by kernel_rfl) (by kernel_rfl) (by kernel_rfl) (fun _ _ _ h => h) (yields_b27 rfl rfl) BV.out ?_
          simp only [Act.put, List.setIfInBounds_toArray, List.set_cons_zero, List.set_cons_succ]
          refine take_at (i := 41) 72 ?_ rfl rfl (by kernel_rfl) (by kernel_rfl) (by kernel_rfl) (fun _ _ _ h => h) (.inl ⟨rfl, ?_⟩) BV.out ?_
          rotate_left 1
          · intro w hSw; go_simp; try with_reducible rfl
          simp only [Act.put, List.setIfInBounds_toArray, List.set_cons_zero, List.set_cons_succ]
          refine take_at (i := 42) 73 (.agg #[.int .i64 o.t, .int .i64 o.r]) rfl rfl (by kernel_rfl) (by kernel_rfl) (by kernel_rfl) (fun _ _ _ h => h) (yields_ld (.tmp 72) 38 (.pointer (some ⟨w.heap.size, 0, none⟩)) _ LS.out rfl rfl rfl) BV.out ?_
          simp only [Act.put, List.setIfInBounds_toArray, List.set_cons_zero, List.set_cons_succ]
          refine wpAnyH_ready (rs := [40]) (by kernel_rfl) (by simp) (br_call (i := 40) 71 29 #[.agg (Ve.va zs), .int .i64 0, .int .i64 9] rfl rfl rfl (by go_simp) ((WT.out _).mono ?_) AllReadyH.nil)
          rintro e v20 ⟨rfl, hb⟩
          have BV := Lib.hid (BV.out.then hb)
          have D := Lib.hid (D.out.step hb)
          have RB := Lib.hid (RB.out.step hb)
          clear hb
          refine ⟨_, rfl, BV.out, fun _ => ?_⟩
          simp only [Act.put, List.setIfInBounds_toArray, List.set_cons_zero, List.set_cons_succ]
          refine wpAnyH_ready (rs := [43]) (by kernel_rfl) (by simp) (br_call (i := 43) 74 15 #[u, .agg (Ve.va (Ve.withF zs 0 9)), .agg #[.int .i64 o.t, .int .i64 o.r]] rfl rfl rfl (by go_simp) ((trim_dead _ D.out (BL.out _ BV.out) (Ve.withF zs 0 9) W64.out o.t o.r).mono ?_) AllReadyH.nil)
          rintro e v21 ⟨rfl, ho⟩
          have BV := Lib.hid (BV.out.trans ho (fun k _ q => q))
          clear ho
          refine ⟨_, rfl, BV.out, fun _ => ?_⟩
          simp only [Act.put, List.setIfInBounds_toArray, List.set_cons_zero, List.set_cons_succ]
          refine take_at (i := 44) 75 ?_ rfl rfl (by kernel_rfl) (by kernel_rfl) (by kernel_rfl) (fun _ _ _ h => h) (.inl ⟨rfl, ?_⟩) BV.out ?_
          rotate_left 1
          · intro w hSw; go_simp; try with_reducible rfl
          simp only [Act.put, List.setIfInBounds_toArray, List.set_cons_zero, List.set_cons_succ]
          refine take_at (i := 45) 76 ?_ rfl rfl (by kernel_rfl) (by kernel_rfl) (by kernel_rfl) (fun _ _ _ h => h) (.inl ⟨rfl, ?_⟩) BV.out ?_
          rotate_left 1
          · intro w hSw; go_simp; try with_reducible rfl
          simp only [Act.put, List.setIfInBounds_toArray, List.set_cons_zero, List.set_cons_succ]
          refine wpAnyH_done (by kernel_rfl) ?_ _
          have NE := Lib.hid (NS.out _ BV.out)
          clear D OB LA LS NS BV BL
          go_wp2
          go_roundw
          case rel => exact ⟨i + 1, by go_num, by omega, Lib.hid NE.out.1, Lib.hid NE.out.2⟩
          case measure => simp [intOf]; omega
      · obtain ⟨v22, hv22⟩ : ∃ zz, v3.alloc (.cells #[.int .i64 0, .int .i64 1, .int .i64 9] 70) = zz := ⟨_, rfl⟩
        have hb : Below v3.heap.size v3 v22 := by rw [← hv22]; exact vstep v3 _
        have RB := Lib.hid (show BxR v22 v3.heap.size from by rw [← hv22]; exact heap_alloc_new v3 (.cells #[.int .i64 0, .int .i64 1, .int .i64 9] 70))
        rw [hv22]
        obtain ⟨k22, hk22⟩ : ∃ zz, v3.heap.size = zz := ⟨_, rfl⟩
        rw [hk22] at RB ⊢
        have BV := Lib.hid (BV.out.then hb)
        have D := Lib.hid (D.out.step hb)
        clear hb hv22 hk22
        simp only [Act.put, List.setIfInBounds_toArray, List.set_cons_zero, List.set_cons_succ]
        refine wpAnyH_ready (rs := [21]) (by kernel_rfl) (by simp) (br_call (i := 21) 52 27 #[u] rfl rfl rfl (by go_simp) ((len_dead _ D.out).mono ?_) AllReadyH.nil)
        rintro e v23 ⟨rfl, hb⟩
        have BV := Lib.hid (BV.out.then hb)
        have D := Lib.hid (D.out.step hb)
        have RB := Lib.hid (RB.out.step hb)
        clear hb
        refine ⟨_, rfl, BV.out, fun _ => ?_⟩
        simp only [Act.put, List.setIfInBounds_toArray, List.set_cons_zero, List.set_cons_succ]
        refine wpAnyH_ready (rs := [23]) (by kernel_rfl) (by simp) (br_call (i := 23) 54 28 #[u] rfl rfl rfl (by go_simp) ((time_dead _ D.out).mono ?_) AllReadyH.nil)
        rintro e v24 ⟨rfl, hb⟩
        have BV := Lib.hid (BV.out.then hb)
        have D := Lib.hid (D.out.step hb)
        have RB := Lib.hid (RB.out.step hb)
        clear hb
        refine ⟨_, rfl, BV.out, fun _ => ?_⟩
        simp only [Act.put, List.setIfInBounds_toArray, List.set_cons_zero, List.set_cons_succ]
        refine take_at (i := 24) 55 ?_ rfl rfl (by kernel_rfl) (by kernel_rfl) (by kernel_rfl) (fun _ _ _ h => h) (.inl ⟨rfl, ?_⟩) BV.out ?_
        rotate_left 1
        · intro w hSw; go_simp; try with_reducible rfl
        simp only [Act.put, List.setIfInBounds_toArray, List.set_cons_zero, List.set_cons_succ]
        refine wpAnyH_ready (rs := [26]) (by kernel_rfl) (by simp) (br_call (i := 26) 57 25 #[u] rfl rfl rfl (by go_simp) ((all_dead _ D.out).mono ?_) AllReadyH.nil)
        rintro e v25 ⟨a2, c2, rfl, hb⟩
        have BV := Lib.hid (BV.out.then hb)
        have D := Lib.hid (D.out.step hb)
        have RB := Lib.hid (RB.out.step hb)
        clear hb
        refine ⟨_, rfl, BV.out, fun _ => ?_⟩
        simp only [Act.put, List.setIfInBounds_toArray, List.set_cons_zero, List.set_cons_succ]
        refine take_at (i := 27) 58 ?_ rfl rfl (by kernel_rfl) (by kernel_rfl) (by kernel_rfl) (fun _ _ _ h => h) (.inl ⟨rfl, ?_⟩) BV.out ?_
        rotate_left 1
        · intro w hSw; go_simp; try with_reducible rfl
        simp only [Act.put, List.setIfInBounds_toArray, List.set_cons_zero, List.set_cons_succ]
        refine take_at (i := 28) 59 ?_ rfl rfl (by kernel_rfl) (by kernel_rfl) (by kernel_rfl) (fun _ _ _ h => h) (.inl ⟨rfl, ?_⟩) BV.out ?_
        rotate_left 1
        · intro w hSw; go_simp; try with_reducible rfl
        simp only [Act.put, List.setIfInBounds_toArray, List.set_cons_zero, List.set_cons_succ]
        refine wpAnyH_ready (rs := [32]) (by kernel_rfl) (by simp) (br_call (i := 32) 63 20 #[u, .slice (some ⟨k22, 0, none⟩) 1 1, .int .i64 9] rfl rfl rfl (by go_simp) ((take_dead _ D.out _ 0 1 9 RB.out).mono ?_) AllReadyH.nil)
        rintro e v26 ⟨a3, c3, rfl, hb⟩
        have BV := Lib.hid (BV.out.then hb)
        have D := Lib.hid (D.out.step hb)
        have RB := Lib.hid (RB.out.step hb)
        clear hb
        refine ⟨_, rfl, BV.out, fun _ => ?_⟩
        simp only [Act.put, List.setIfInBounds_toArray, List.set_cons_zero, List.set_cons_succ]
        refine take_at (i := 33) 64 ?_ rfl rfl (by kernel_rfl) (by kernel_rfl) (by kernel_rfl) (fun _ _ _ h => h) (.inl ⟨rfl, ?_⟩) BV.out ?_
        rotate_left 1
        · intro w hSw; go_simp; try with_reducible rfl
        simp only [Act.put, List.setIfInBounds_toArray, List.set_cons_zero, List.set_cons_succ]
        refine take_at (i := 34) 65 ?_ rfl rfl (by kernel_rfl) (by kernel_rfl) (by kernel_rfl) (fun _ _ _ h => h) (.inl ⟨rfl, ?_⟩) BV.out ?_
        rotate_left 1
        · intro w hSw; go_simp; try with_reducible rfl
        simp only [Act.put, List.setIfInBounds_toArray, List.set_cons_zero, List.set_cons_succ]
        refine take_at (i := 35) 66 ?_ rfl rfl (by kernel_rfl) (by kernel_rfl) (by kernel_rfl) (fun _ _ _ h => h) (.inl ⟨rfl, ?_⟩) BV.out ?_
        rotate_left 1
        · intro w hSw; go_simp; try with_reducible rfl
        simp only [Act.put, List.setIfInBounds_toArray, List.set_cons_zero, List.set_cons_succ]
        refine take_at (i := 36) 67 ?_ rfl rfl (by kernel_rfl) (by kernel_rfl) (by kernel_rfl) (fun _ _ _ h => h) (.inl ⟨rfl, ?_⟩) BV.out ?_
        rotate_left 1
        · intro w hSw; go_simp; try with_reducible rfl
        simp only [Act.put, List.setIfInBounds_toArray, List.set_cons_zero, List.set_cons_succ]
        refine take_at (i := 37) 68 ?_ rfl rfl (by kernel_rfl) (by kernel_rfl) (by kernel_rfl) (fun _ _ _ h => h) (.inl ⟨rfl, ?_⟩) BV.out ?_
        rotate_left 1
        · intro w hSw; go_simp; try with_reducible rfl
        simp only [Act.put, List.setIfInBounds_toArray, List.set_cons_zero, List.set_cons_succ]
        refine take_at (i := 38) 69 ?_ rfl rfl (by kernel_rfl) (by kernel_rfl) (by kernel_rfl) (fun _ _ _ h => h) (.inl ⟨rfl, ?_⟩) BV.out ?_
        rotate_left 1
        · intro w hSw; go_simp; try with_reducible rfl
        simp only [Act.put, List.setIfInBounds_toArray, List.set_cons_zero, List.set_cons_succ]
        refine take_at (i := 39) 70 (.agg (Ve.va zs)) rfl rfl (by kernel_rfl) (by kernel_rfl) (by kernel_rfl) (fun _ _ _ h => h) (yields_b27 rfl rfl) BV.out ?_
        simp only [Act.put, List.setIfInBounds_toArray, List.set_cons_zero, List.set_cons_succ]
        refine take_at (i := 41) 72 ?_ rfl rfl (by kernel_rfl) (by kernel_rfl) (by kernel_rfl) (fun _ _ _ h => h) (.inl ⟨rfl, ?_⟩) BV.out ?_
        rotate_left 1
        · intro w hSw; go_simp; try with_reducible rfl
        simp only [Act.put, List.setIfInBounds_toArray, List.set_cons_zero, List.set_cons_succ]
        refine take_at (i := 42) 73 (.agg #[.int .i64 o.t, .int .i64 o.r]) rfl rfl (by kernel_rfl) (by kernel_rfl) (by kernel_rfl) (fun _ _ _ h => h) (yields_ld (.tmp 72) 38 (.pointer (some ⟨w.heap.size, 0, none⟩)) _ LS.out rfl rfl rfl) BV.out ?_
        simp only [Act.put, List.setIfInBounds_toArray, List.set_cons_zero, List.set_cons_succ]
        refine wpAnyH_ready (rs := [40]) (by kernel_rfl) (by simp) (br_call (i := 40) 71 29 #[.agg (Ve.va zs), .int .i64 0, .int .i64 9] rfl rfl rfl (by go_simp) ((WT.out _).mono ?_) AllReadyH.nil)
        rintro e v27 ⟨rfl, hb⟩
        have BV := Lib.hid (BV.out.then hb)
        have D := Lib.hid (D.out.step hb)
        have RB := Lib.hid (RB.out.step hb)
        clear hb
        refine ⟨_, rfl, BV.out, fun _ => ?_⟩
        simp only [Act.put, List.setIfInBounds_toArray, List.set_cons_zero, List.set_cons_succ]
        refine wpAnyH_ready (rs := [43]) (by kernel_rfl) (by simp) (br_call (i := 43) 74 15 #[u, .agg (Ve.va (Ve.withF zs 0 9)), .agg #[.int .i64 o.t, .int .i64 o.r]] rfl rfl rfl (by go_simp) ((trim_dead _ D.out (BL.out _ BV.out) (Ve.withF zs 0 9) W64.out o.t o.r).mono ?_) AllReadyH.nil)
        rintro e v28 ⟨rfl, ho⟩
        have BV := Lib.hid (BV.out.trans ho (fun k _ q => q))
        clear ho
        refine ⟨_, rfl, BV.out, fun _ => ?_⟩
        simp only [Act.put, List.setIfInBounds_toArray, List.set_cons_zero, List.set_cons_succ]
        refine take_at (i := 44) 75 ?_ rfl rfl (by kernel_rfl) (by kernel_rfl) (by kernel_rfl) (fun _ _ _ h => h) (.inl ⟨rfl, ?_⟩) BV.out ?_
        rotate_left 1
        · intro w hSw; go_simp; try with_reducible rfl
        simp only [Act.put, List.setIfInBounds_toArray, List.set_cons_zero, List.set_cons_succ]
        refine take_at (i := 45) 76 ?_ rfl rfl (by kernel_rfl) (by kernel_rfl) (by kernel_rfl) (fun _ _ _ h => h) (.inl ⟨rfl, ?_⟩) BV.out ?_
        rotate_left 1
        · intro w hSw; go_simp; try with_reducible rfl
        simp only [Act.put, List.setIfInBounds_toArray, List.set_cons_zero, List.set_cons_succ]
        refine wpAnyH_done (by kernel_rfl) ?_ _
        have NE := Lib.hid (NS.out _ BV.out)
        clear D OB LA LS NS BV BL
        go_wp2
        go_roundw
        case rel => exact ⟨i + 1, by go_num, by omega, Lib.hid NE.out.1, Lib.hid NE.out.2⟩
        case measure => simp [intOf]; omega
    · have AW := Lib.hid (awake_any wr (Ve.tab_later HT.out hJ1.out))
      have HJ := Lib.hid hJ1.out
      clear hJ1 hJ2 N0
      go_wp2_with fail
      refine AW.out.mono ?_
      rintro e w2 ⟨rfl, hb⟩
      have FIN := Lib.hid (HJ.out.trans (hb.mono HJ.out.size))
      clear hb
      go_wp2
      go_returns
      exact ⟨rfl, FIN.out⟩
end Go.Proofs.YtgnnpfainoppeaaDoor
