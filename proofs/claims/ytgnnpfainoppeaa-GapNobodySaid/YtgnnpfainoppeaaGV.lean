/- A dead gap's Ready; GapNobody's law. Made by gengv28.py, with tools/drawn.py. -/
import Derived.Test.YtgnnpfainoppeaaGU
set_option linter.unusedVariables false
set_option linter.unusedSimpArgs false
set_option maxRecDepth 100000
namespace Go.Proofs.Ytgnnpfainoppeaa
open Go.RowKit Go.WideMaps Go.Maps Go.WideShapes Go.ChangeMaps
open Ve (zs zs_len vw va RightP cs3 cs3_append)

theorem zero35 (w : World) : (zeroValue 35).run Try.prog w = .ok (oV O0) w := by kernel_rfl
theorem look_none (w : World) {t r : Int} (ht : I64 t) (hr : I64 r) : (Instr.lookup 58 (.map none) (sv t r) true).run Try.prog w = .ok (.tuple #[oV O0, .bool false]) w :=
  Maps.look_nil true Try.keyed Try.underlying58 (zero35 w) (kl_key ht hr)
theorem zs_at {i : Nat} (h : i < 64) : zs[i]? = some 0 := by unfold zs; rw [List.getElem?_replicate, if_pos h]
structure DK (w W : World) (p kv : Nat) : Prop where
  bel : Below w.heap.size w W
  vec : W.heap[kv]? = some (.cells (va zs) 29 (0, 0))
  box : W.heap[p]? = some (.cells #[.map none] 60 (0, 0))
theorem DK.step {w W W' : World} {p kv : Nat} (h : DK w W p kv) (hb : Below W.heap.size W W') : DK w W' p kv :=
  ⟨h.bel.trans (hb.mono h.bel.size), (hb.block _ (lt_of_block h.vec)).trans h.vec, (hb.block _ (lt_of_block h.box)).trans h.box⟩
set_option maxHeartbeats 6400000 in
theorem ready_dead (w : World) (u : Value) (h : Dead w u) (most : Int) : Calls Try.prog 15 #[u, .agg (va zs), .int .i64 most] w fun e w' => ∃ a c, e = .returned (.slice a 0 c) ∧ Below w.heap.size w w' := by
  have B1 := vstep w (.cells (va zs) 29)
  have N1 := heap_alloc_new w (.cells (va zs) 29)
  have D := h.step B1
  obtain ⟨w0, hw0⟩ : ∃ z, w.alloc (.cells (va zs) 29) = z := ⟨_, rfl⟩
  rw [hw0] at N1 B1 D
  have BB := Lib.hid B1
  have LDV := Lib.hid (fun W (h : W.heap[w.heap.size]? = some (.cells (va zs) 29 (0, 0))) => Ve.load_va Ve.v24 W w.heap.size zs zs_len h)
  have IXV := Lib.hid (fun W (i : Nat) (hi : i < 64) => Ve.index_va W (va zs) (by rw [Ve.va_size, zs_len]) i hi 0 (Ve.va_get zs i 0 (zs_at hi)))
  rcases D with rfl | ⟨p, rfl, hp⟩
  · obtain ⟨VA, hVA⟩ : ∃ z, va zs = z := ⟨_, rfl⟩
    rw [hVA] at hw0 ⊢
    clear hVA N1 B1 h LDV IXV
    go_enter Try.func15, Try.ntmps15
    go_wp2
    go_returns
    exact ⟨_, _, rfl, BB.out⟩
  · have K0 := Lib.hid (show DK w w0 p w.heap.size from ⟨B1, N1, hp⟩)
    have DF := Lib.hid (fun W v => deleteFunc_nil W v)
    have c0 := cell_of_one hp
    obtain ⟨VA, hVA⟩ : ∃ z, va zs = z := ⟨_, rfl⟩
    have HVA := Lib.hid hVA
    rw [hVA] at hw0 LDV IXV ⊢
    clear hVA N1 B1 h hp
    go_enter Try.func15, Try.ntmps15
    go_wp2_with fail
    refine (DF.out _ _).mono ?_
    rintro e w1 ⟨rfl, hb⟩
    have K1 := Lib.hid (K0.out.step hb)
    have LV := Lib.hid (LDV.out w1 (by rw [← HVA.out]; exact K1.out.vec))
    clear hb hw0 c0 DF LDV K0 BB
    go_wp2_with (first | (refine Ve.wpList_load_arr rfl (.tmp 4) 29 rfl _ _ rfl LV.out ?_; simp only [Act.put, List.setIfInBounds_toArray, List.set_cons_zero, List.set_cons_succ]))
    clear LV
    go_loopw [7, 22] (fun ov iv wr => ∃ (i : Nat), iv = .int .i64 i ∧ i ≤ 64 ∧ ov = .slice none 0 0 ∧ Hid (DK w wr p w.heap.size)) (fun _ iv _ => 64 - (intOf iv).toNat)
    case atStart => exact ⟨0, rfl, Nat.zero_le _, rfl, K1⟩
    case round =>
      obtain ⟨i, rfl, hi, rfl, HK⟩ := hrel
      by_cases hlt : i < 64
      · have IX := Lib.hid (fun W => IXV.out W i hlt)
        have hi0 : (0 : Int) ≤ (i : Int) := by omega
        have hi1 : (i : Int) < 64 := by omega
        have IXO := fun W => IX.out W
        go_wp2
        clear IX IXO
        refine wp_loop_rounds 1 ?_
        rw [rounds_succ]
        by_cases hm : (0 : Int) < most
        · have B2 := vstep wr (.cells #[.int .i64 (i : Int), .int .i64 1] 72)
          have N2 := heap_alloc_new wr (.cells #[.int .i64 (i : Int), .int .i64 1] 72)
          obtain ⟨w2, hw2⟩ : ∃ z, wr.alloc (.cells #[.int .i64 (i : Int), .int .i64 1] 72) = z := ⟨_, rfl⟩
          rw [hw2] at B2 N2
          obtain ⟨gn, hgn⟩ : ∃ z, wr.heap.size = z := ⟨_, rfl⟩
          rw [hgn] at N2
          have NN := Lib.hid N2
          have K2 := Lib.hid (HK.out.step B2)
          have I1 := Lib.hid (show I64 (i : Int) ∧ I64 1 by unfold I64; omega)
          clear B2 N2
          go_upto_region 10 with fail
          clear hw2 hgn
          have LKM := Lib.hid (fun W (hb : Below w2.heap.size w2 W) => ldM (cell_of_one (K2.out.step hb).box))
          have LKN := Lib.hid (fun W (hb : Below w2.heap.size w2 W) => ldN ((hb.block _ (lt_of_block NN.out)).trans NN.out))
          have LKL := Lib.hid (fun W (hb : Below w2.heap.size w2 W) => look_none W I1.out.1 I1.out.2)
          obtain ⟨gx, hgx⟩ : ∃ z, O0 = z := ⟨_, rfl⟩
          have GX := Lib.hid hgx
          rw [hgx] at LKL
          clear hgx
          refine wp_region_held_drew (S := fun w' => Below w2.heap.size w2 w') (by kernel_rfl) (Below.refl _ _).drew (fun hHeld => ?_)
          have BV := Lib.hid (show Below w2.heap.size w2 w2.drew from (Below.refl _ _).drew)
          clear hHeld
          refine take_at (i := 0) 35 ?_ rfl rfl (by kernel_rfl) (by kernel_rfl) (by kernel_rfl) (fun _ _ _ h => h) (.inl ⟨rfl, ?_⟩) BV.out ?_
          rotate_left 1
          · intro w hSw; go_simp; try with_reducible rfl
          simp only [Act.put, List.setIfInBounds_toArray, List.set_cons_zero, List.set_cons_succ]
          refine take_at (i := 1) 36 ?_ rfl rfl (by kernel_rfl) (by kernel_rfl) (by kernel_rfl) (fun _ _ _ h => h) (.inl ⟨rfl, ?_⟩) BV.out ?_
          rotate_left 1
          · intro w hSw; go_simp; try with_reducible rfl
          simp only [Act.put, List.setIfInBounds_toArray, List.set_cons_zero, List.set_cons_succ]
          refine take_at (i := 2) 37 ?_ rfl rfl (by kernel_rfl) (by kernel_rfl) (by kernel_rfl) (fun _ _ _ h => h) (.inl ⟨rfl, ?_⟩) BV.out ?_
          rotate_left 1
          · intro w hSw; go_simp; try with_reducible rfl
          simp only [Act.put, List.setIfInBounds_toArray, List.set_cons_zero, List.set_cons_succ]
          refine take_at (i := 3) 38 (.map none) rfl rfl (by kernel_rfl) (by kernel_rfl) (by kernel_rfl) (fun _ _ _ h => h) (yields_ld (.tmp 37) 58 (pvo p 0) _ LKM.out rfl rfl rfl) BV.out ?_
          simp only [Act.put, List.setIfInBounds_toArray, List.set_cons_zero, List.set_cons_succ]
          refine take_at (i := 4) 39 (sv (i : Int) 1) rfl rfl (by kernel_rfl) (by kernel_rfl) (by kernel_rfl) (fun _ _ _ h => h) (yields_ld (.tmp 10) 72 (pvo gn 0) _ LKN.out rfl rfl rfl) BV.out ?_
          simp only [Act.put, List.setIfInBounds_toArray, List.set_cons_zero, List.set_cons_succ]
          refine take_at (i := 5) 40 (.tuple #[oV gx, .bool false]) rfl rfl (by kernel_rfl) (by kernel_rfl) (by kernel_rfl) (fun _ _ _ h => h) (yields_look (.tmp 38) (.tmp 39) (.map none) (sv (i : Int) 1) _ LKL.out rfl rfl rfl rfl) BV.out ?_
          simp only [Act.put, List.setIfInBounds_toArray, List.set_cons_zero, List.set_cons_succ]
          refine take_at (i := 6) 34 ?_ rfl rfl (by kernel_rfl) (by kernel_rfl) (by kernel_rfl) (fun _ _ _ h => h) (.inl ⟨rfl, ?_⟩) BV.out ?_
          rotate_left 1
          · intro w hSw; go_simp; try with_reducible rfl
          simp only [Act.put, List.setIfInBounds_toArray, List.set_cons_zero, List.set_cons_succ]
          refine take_at (i := 7) 41 ?_ rfl rfl (by kernel_rfl) (by kernel_rfl) (by kernel_rfl) (fun _ _ _ h => h) (.inl ⟨rfl, ?_⟩) BV.out ?_
          rotate_left 1
          · intro w hSw; go_simp; try with_reducible rfl
          simp only [Act.put, List.setIfInBounds_toArray, List.set_cons_zero, List.set_cons_succ]
          refine take_at (i := 8) 42 ?_ rfl rfl (by kernel_rfl) (by kernel_rfl) (by kernel_rfl) (fun _ _ _ h => h) (.inl ⟨rfl, ?_⟩) BV.out ?_
          rotate_left 1
          · intro w hSw; go_simp; try with_reducible rfl
          simp only [Act.put, List.setIfInBounds_toArray, List.set_cons_zero, List.set_cons_succ]
          refine wpAnyH_ready (rs := [9]) (by kernel_rfl) (by simp) (br_alloc (i := 9) 11 35 (pvo w2.drew.heap.size 0) (w2.drew.alloc (.cells (oCells O0) 35)) rfl rfl rfl rfl (alloc40 w2.drew) (BV.out.trans ((vstep w2.drew _).mono BV.out.size)) (fun _ => ?_) AllReadyH.nil)
          have NB := heap_alloc_new w2.drew (.cells (oCells O0) 35)
          have hb := vstep w2.drew (.cells (oCells O0) 35)
          obtain ⟨v1, hv1⟩ : ∃ zz, w2.drew.alloc (.cells (oCells O0) 35) = zz := ⟨_, rfl⟩
          have KB := Lib.hid BV.out.size
          rw [hv1] at NB hb ⊢
          obtain ⟨kx, hkx⟩ : ∃ zz, w2.drew.heap.size = zz := ⟨_, rfl⟩
          rw [hkx] at NB KB ⊢
          have SB := Lib.hid (store_o v1 kx O0 gx NB)
          have RB := Lib.hid (setRow_heap _ _ _ (oCells gx) _ _ NB)
          clear NB hv1 hkx
          have BV := Lib.hid (BV.out.trans (hb.mono BV.out.size))
          clear hb
          simp only [Act.put, List.setIfInBounds_toArray, List.set_cons_zero, List.set_cons_succ]
          refine wpAnyH_ready (rs := [10]) (by kernel_rfl) (by simp) (br_store (i := 10) 35 (.tmp 11) (.tmp 41) (pvo kx 0) (oV gx) (v1.setRow kx (oCells gx)) rfl rfl rfl rfl rfl rfl SB.out (Ve.below_setRow BV.out KB.out (oCells gx)) (fun _ => ?_) AllReadyH.nil)
          have BV := Lib.hid (Ve.below_setRow BV.out KB.out (oCells gx))
          obtain ⟨wq, hwq⟩ : ∃ zz, v1.setRow kx (oCells gx) = zz := ⟨_, rfl⟩
          rw [hwq] at BV RB ⊢
          clear hwq SB
          simp only [Act.put, List.setIfInBounds_toArray, List.set_cons_zero, List.set_cons_succ]
          refine take_at (i := 11) 12 ?_ rfl rfl (by kernel_rfl) (by kernel_rfl) (by kernel_rfl) (fun _ _ _ h => h) (.inl ⟨rfl, ?_⟩) BV.out ?_
          rotate_left 1
          · intro w hSw; go_simp; try with_reducible rfl
          simp only [Act.put, List.setIfInBounds_toArray, List.set_cons_zero, List.set_cons_succ]
          refine wpAnyH_done (by kernel_rfl) ?_ _
          have K3 := Lib.hid (K2.out.step BV.out)
          clear LKM LKN LKL BV KB K2 NN RB HK
          go_wp2
          go_roundw
          case rel => exact ⟨i + 1, by go_num, by omega, rfl, K3⟩
          case measure => simp [intOf]; omega
        · go_wp2
          go_roundw
          case rel => exact ⟨i + 1, by go_num, by omega, rfl, HK⟩
          case measure => simp [intOf]; omega
      · have h64 : i = 64 := by omega
        subst h64
        go_wp2
        go_returns
        exact ⟨_, _, rfl, HK.out.bel⟩
end Go.Proofs.Ytgnnpfainoppeaa
