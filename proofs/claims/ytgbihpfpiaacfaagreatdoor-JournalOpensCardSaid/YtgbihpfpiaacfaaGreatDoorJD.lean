/- write. Made by genjc12.py. -/
import Derived.Test.YtgbihpfpiaacfaaGreatDoorJC
set_option linter.unusedVariables false
set_option linter.unusedSimpArgs false
set_option maxRecDepth 100000
namespace Go.Proofs.YtgbihpfpiaacfaaGreatDoor
open Go.RowKit Go.Shelf Go.WideMaps Go.Maps

set_option maxHeartbeats 6400000 in
theorem write_fit (w : World) (B q d : Nat) (s : DS) (most f : Int) (l : Nat) (sz : Int) (h : JK w B q d s most f l sz) (hl : 1 ≤ l ∧ l < 100) (hsz : 0 ≤ sz ∧ sz ≤ 100000000) (hll : s.l.length < 1000) (hf : fnd s (sg l) = 0) (ha : s.ar = false)
    (v : Value) (bs : List Int) (hv : LiesK encB 1 w v bs) (hvd : bs ≠ [] → ∀ j, v.ownBlock = some j → ¬ Has d s j) (hbs : bs.length ≤ 100000) (hfit : ¬ (s.room - (usedF s.l : Int) < (bs.length : Int))) :
    Calls Tryz.prog 43 #[.pointer (some ⟨q, 0, none⟩), v] w fun e w' => e = .returned (.int .i64 0) ∧ ∃ a' c', JK w' B q d { s with l := setF s.l ⟨sg l, a', c', (fval s (sg l)).b ++ bs, lenI ((fval s (sg l)).b ++ bs)⟩ } most f l (sz + bs.length) ∧ Far (Lh d s q) w w' := by
  have US := Lib.hid (used_any w B d s h.dk)
  have JW := Lib.hid h
  have c0 : w.cell? ⟨q, 0, none⟩ = some (pv d) := (cell_of_row _ _ _ _ _ _ h.box).trans rfl
  have SZ := Lib.hid (show (sg l).size ≤ maxLen from by have := sg_size hl.2; unfold maxLen; omega)
  have HL := Lib.hid hl
  have HZ := Lib.hid hsz
  have LL := Lib.hid (show s.l.length < 100000 by omega)
  have FN := Lib.hid hf
  have HA := Lib.hid ha
  have LV := Lib.hid hv
  have NV := Lib.hid hvd
  have LB := Lib.hid hbs
  have FT := Lib.hid hfit
  have UB := Lib.hid (show usedF s.l ≤ 16777216 from by have := h.dk.fits; have := h.dk.roomok; omega)
  have FM := Lib.hid (fval_mem h.dk hf)
  have RS := Lib.hid (show Rise s.l from by
    rcases h.dk.map with ⟨_, h1⟩ | ⟨b, _, _, hb⟩
    · rw [h1]; exact List.Pairwise.nil
    · exact hb.rise)
  obtain ⟨va, vc, rfl⟩ := hv.shape
  clear h hl hsz hf ha hv hvd hbs hfit hll
  go_enter Tryz.func43, Tryz.ntmps43
  go_wp2_with fail
  refine US.out.mono ?_
  rintro e w1 ⟨rfl, hb⟩
  have B1 := Lib.hid hb
  have JK1 := Lib.hid (JW.out.step hb)
  have JKd := Lib.hid (JK1.out.step (Below.refl _ _).drew)
  have FKd := Lib.hid (show FK d s q w w1.drew from ⟨Far.of_below (hb.trans ((Below.refl w1.heap.size w1).drew.mono hb.size))⟩)
  have LVd := Lib.hid (LV.out.step (hb.trans ((Below.refl w1.heap.size w1).drew.mono hb.size)))
  clear hb US c0
  go_upto_region 2 with (fail)
  refine wp_region_held_drew (S := (fun w' : World => w'.heap[q]? = some (.cells #[pv d, .int .i64 most, .int .i64 f, .int .i64 (l : Int), .int .i64 sz] 74 (0, 0)))) (by kernel_rfl) (JKd.out.box) (fun hHeld => ?_)
  have BV := Lib.hid (JKd.out.box)
  clear hHeld
  refine take_at (i := 0) 12 ?_ rfl rfl (by kernel_rfl) (by kernel_rfl) (by kernel_rfl) (fun _ _ _ h => h) (.inl ⟨rfl, ?_⟩) BV.out ?_
  rotate_left 1
  · intro w hSw; go_simp; try with_reducible rfl
  simp only [Act.put, List.setIfInBounds_toArray, List.set_cons_zero, List.set_cons_succ]
  refine take_at (i := 1) 13 ?_ rfl rfl (by kernel_rfl) (by kernel_rfl) (by kernel_rfl) (fun _ _ _ h => h) (.inl ⟨rfl, ?_⟩) BV.out ?_
  rotate_left 1
  · intro w hSw; go_simp; try with_reducible rfl
  simp only [Act.put, List.setIfInBounds_toArray, List.set_cons_zero, List.set_cons_succ]
  refine take_at (i := 2) 14 ?_ rfl rfl (by kernel_rfl) (by kernel_rfl) (by kernel_rfl) (fun _ _ _ h => h) (.inl ⟨rfl, ?_⟩) BV.out ?_
  rotate_left 1
  · intro w hSw; go_simp; try with_reducible rfl
  simp only [Act.put, List.setIfInBounds_toArray, List.set_cons_zero, List.set_cons_succ]
  refine take_at (i := 3) 15 (pv d) rfl rfl (by kernel_rfl) (by kernel_rfl) (by kernel_rfl) (fun _ _ _ h => h) (yields_ld (.tmp 14) 23 (.pointer (some ⟨q, 0, none⟩)) _ (fun W hS => ldP hS rfl) rfl rfl rfl) BV.out ?_
  simp only [Act.put, List.setIfInBounds_toArray, List.set_cons_zero, List.set_cons_succ]
  refine take_at (i := 4) 16 ?_ rfl rfl (by kernel_rfl) (by kernel_rfl) (by kernel_rfl) (fun _ _ _ h => h) (.inl ⟨rfl, ?_⟩) BV.out ?_
  rotate_left 1
  · intro w hSw; go_simp; try with_reducible rfl
  simp only [Act.put, List.setIfInBounds_toArray, List.set_cons_zero, List.set_cons_succ]
  refine take_at (i := 5) 17 ?_ rfl rfl (by kernel_rfl) (by kernel_rfl) (by kernel_rfl) (fun _ _ _ h => h) (.inl ⟨rfl, ?_⟩) BV.out ?_
  rotate_left 1
  · intro w hSw; go_simp; try with_reducible rfl
  simp only [Act.put, List.setIfInBounds_toArray, List.set_cons_zero, List.set_cons_succ]
  refine take_at (i := 6) 18 ?_ rfl rfl (by kernel_rfl) (by kernel_rfl) (by kernel_rfl) (fun _ _ _ h => h) (.inl ⟨rfl, ?_⟩) BV.out ?_
  rotate_left 1
  · intro w hSw; go_simp; try with_reducible rfl
  simp only [Act.put, List.setIfInBounds_toArray, List.set_cons_zero, List.set_cons_succ]
  refine take_at (i := 7) 19 (.int .i64 (l : Int)) rfl rfl (by kernel_rfl) (by kernel_rfl) (by kernel_rfl) (fun _ _ _ h => h) (yields_ld (.tmp 18) 3 (.pointer (some ⟨q, 3, none⟩)) _ (fun W hS => ldN (j := 3) hS rfl) rfl rfl rfl) BV.out ?_
  simp only [Act.put, List.setIfInBounds_toArray, List.set_cons_zero, List.set_cons_succ]
  refine take_at (i := 9) 21 ?_ rfl rfl (by kernel_rfl) (by kernel_rfl) (by kernel_rfl) (fun _ _ _ h => h) (.inl ⟨rfl, ?_⟩) BV.out ?_
  rotate_left 1
  · intro w hSw; go_simp; try with_reducible rfl
  simp only [Act.put, List.setIfInBounds_toArray, List.set_cons_zero, List.set_cons_succ]
  refine wpAnyH_ready (rs := [8]) (by kernel_rfl) (by simp) (br_call (i := 8) 20 37 #[.int .i64 (l : Int)] rfl rfl rfl (by go_simp) ((name_b _ l HL.out.2 HL.out.1).mono ?_) AllReadyH.nil)
  rintro e v1 ⟨rfl, hb⟩
  have BV := Lib.hid ((hb.block _ (lt_of_block BV.out)).trans BV.out)
  have JKd := Lib.hid (JKd.out.step hb)
  have LVd := Lib.hid (LVd.out.step hb)
  have FKd := Lib.hid (FKd.out.step hb)
  clear hb
  refine ⟨_, rfl, BV.out, fun _ => ?_⟩
  simp only [Act.put, List.setIfInBounds_toArray, List.set_cons_zero, List.set_cons_succ]
  refine wpAnyH_ready (rs := [10]) (by kernel_rfl) (by simp) (br_call (i := 10) 22 34 #[pv d, .string (sg l), .slice va bs.length vc] rfl rfl rfl (by go_simp) ((append_fit _ B d s JKd.out.dk JKd.out.size (sg l) SZ.out LL.out _ bs LVd.out NV.out (by have := LB.out; omega) FN.out (by have := FT.out; omega) HA.out).mono ?_) AllReadyH.nil)
  rintro e v2 ⟨rfl, a1, c1, ho⟩
  have JKa := Lib.hid (JKd.out.out ho)
  have FKa := Lib.hid (FKd.out.out ho)
  have AO := Lib.hid ho
  have AZ := Lib.hid FKd.out.far.size
  have BV := Lib.hid JKa.out.box
  clear ho
  refine ⟨_, rfl, BV.out, fun _ => ?_⟩
  simp only [Act.put, List.setIfInBounds_toArray, List.set_cons_zero, List.set_cons_succ]
  refine take_at (i := 11) 6 ?_ rfl rfl (by kernel_rfl) (by kernel_rfl) (by kernel_rfl) (fun _ _ _ h => h) (.inl ⟨rfl, ?_⟩) BV.out ?_
  rotate_left 1
  · intro w hSw; go_simp; try with_reducible rfl
  simp only [Act.put, List.setIfInBounds_toArray, List.set_cons_zero, List.set_cons_succ]
  refine wpAnyH_done (by kernel_rfl) ?_ _
  obtain ⟨t, ht⟩ : ∃ t : DS, { s with l := setF s.l ⟨sg l, a1, c1, (fval s (sg l)).b ++ bs, (fval s (sg l)).s⟩ } = t := ⟨_, rfl⟩
  have HT := Lib.hid ht
  have TL := Lib.hid (show t.l = setF s.l ⟨sg l, a1, c1, (fval s (sg l)).b ++ bs, (fval s (sg l)).s⟩ from by rw [← ht])
  rw [ht] at JKa AO
  have SLN := Lib.hid (set_len (x := ⟨sg l, a1, c1, (fval s (sg l)).b ++ bs, (fval s (sg l)).s⟩) RS.out FM.out.1 FM.out.2.1)
  have TU := Lib.hid (show usedF t.l = usedF s.l + bs.length from by
    have := SLN.out.2
    rw [← TL.out] at this
    simp only [List.length_append] at this
    omega)
  have TLL := Lib.hid (show t.l.length < 100000 from by rw [TL.out, SLN.out.1]; exact LL.out)
  have TG := Lib.hid (show getF t.l (sg l) = some ⟨sg l, a1, c1, (fval s (sg l)).b ++ bs, (fval s (sg l)).s⟩ from by rw [TL.out]; exact get_set _ _)
  have TD := Lib.hid (show t.dn = false ∧ t.ar = false from by rw [← ht]; exact ⟨(fnd_some FN.out).2, HA.out⟩)
  have TF := Lib.hid (show fnd t (sg l) = 0 ∧ fval t (sg l) = ⟨sg l, a1, c1, (fval s (sg l)).b ++ bs, (fval s (sg l)).s⟩ from by
    unfold fnd fval
    rw [TD.out.1, TG.out]
    exact ⟨rfl, rfl⟩)
  clear ht JKd LVd FKd
  have JKa' := Lib.hid (JKa.out.step (Below.refl _ _).drew)
  have FKa' := Lib.hid (FKa.out.step (Below.refl _ _).drew)
  go_upto_region 3 with (fail)
  refine wp_region_held_drew (S := (LZ q d most f (l : Int))) (by kernel_rfl) (LZ.of JKa'.out) (fun hHeld => ?_)
  have BV := Lib.hid (LZ.of JKa'.out)
  clear hHeld
  refine take_at (i := 0) 23 ?_ rfl rfl (by kernel_rfl) (by kernel_rfl) (by kernel_rfl) (fun _ _ _ h => h) (.inl ⟨rfl, ?_⟩) BV.out ?_
  rotate_left 1
  · intro w hSw; go_simp; try with_reducible rfl
  simp only [Act.put, List.setIfInBounds_toArray, List.set_cons_zero, List.set_cons_succ]
  refine take_at (i := 1) 24 ?_ rfl rfl (by kernel_rfl) (by kernel_rfl) (by kernel_rfl) (fun _ _ _ h => h) (.inl ⟨rfl, ?_⟩) BV.out ?_
  rotate_left 1
  · intro w hSw; go_simp; try with_reducible rfl
  simp only [Act.put, List.setIfInBounds_toArray, List.set_cons_zero, List.set_cons_succ]
  refine take_at (i := 2) 25 ?_ rfl rfl (by kernel_rfl) (by kernel_rfl) (by kernel_rfl) (fun _ _ _ h => h) (.inl ⟨rfl, ?_⟩) BV.out ?_
  rotate_left 1
  · intro w hSw; go_simp; try with_reducible rfl
  simp only [Act.put, List.setIfInBounds_toArray, List.set_cons_zero, List.set_cons_succ]
  refine take_at (i := 4) 27 ?_ rfl rfl (by kernel_rfl) (by kernel_rfl) (by kernel_rfl) (fun _ _ _ h => h) (.inl ⟨rfl, ?_⟩) BV.out ?_
  rotate_left 1
  · intro w hSw; go_simp; try with_reducible rfl
  simp only [Act.put, List.setIfInBounds_toArray, List.set_cons_zero, List.set_cons_succ]
  refine take_at (i := 5) 28 ?_ rfl rfl (by kernel_rfl) (by kernel_rfl) (by kernel_rfl) (fun _ _ _ h => h) (.inl ⟨rfl, ?_⟩) BV.out ?_
  rotate_left 1
  · intro w hSw; go_simp; try with_reducible rfl
  simp only [Act.put, List.setIfInBounds_toArray, List.set_cons_zero, List.set_cons_succ]
  refine take_at (i := 6) 29 ?_ rfl rfl (by kernel_rfl) (by kernel_rfl) (by kernel_rfl) (fun _ _ _ h => h) (.inl ⟨rfl, ?_⟩) BV.out ?_
  rotate_left 1
  · intro w hSw; go_simp; try with_reducible rfl
  simp only [Act.put, List.setIfInBounds_toArray, List.set_cons_zero, List.set_cons_succ]
  refine take_at (i := 7) 30 (pv d) rfl rfl (by kernel_rfl) (by kernel_rfl) (by kernel_rfl) (fun _ _ _ h => h) (yields_ld (.tmp 29) 23 (.pointer (some ⟨q, 0, none⟩)) _ (fun W hS => LZ.ld hS) rfl rfl rfl) BV.out ?_
  simp only [Act.put, List.setIfInBounds_toArray, List.set_cons_zero, List.set_cons_succ]
  refine take_at (i := 9) 32 ?_ rfl rfl (by kernel_rfl) (by kernel_rfl) (by kernel_rfl) (fun _ _ _ h => h) (.inl ⟨rfl, ?_⟩) BV.out ?_
  rotate_left 1
  · intro w hSw; go_simp; try with_reducible rfl
  simp only [Act.put, List.setIfInBounds_toArray, List.set_cons_zero, List.set_cons_succ]
  refine wpAnyH_ready (rs := [3, 8]) (by kernel_rfl) (by simp) (br_load (i := 3) 26 (.tmp 25) 3 (.pointer (some ⟨q, 4, none⟩)) (.int .i64 sz) rfl rfl rfl rfl rfl (ldN (j := 4) JKa'.out.box rfl) BV.out (fun _ => ?_) (br_call (i := 8) 31 27 #[pv d] rfl rfl rfl (by go_simp) ((used_any _ B d t JKa'.out.dk).mono ?_) AllReadyH.nil))
  · simp only [Act.put, List.setIfInBounds_toArray, List.set_cons_zero, List.set_cons_succ]
    refine wpAnyH_ready (rs := [8]) (by kernel_rfl) (by simp) (br_call (i := 8) 31 27 #[pv d] rfl rfl rfl (by go_simp) ((used_any _ B d t JKa'.out.dk).mono ?_) AllReadyH.nil)
    rintro e v2 ⟨rfl, hb⟩
    have BV := Lib.hid (LZ.step BV.out hb)
    have JKa' := Lib.hid (JKa'.out.step hb)
    have FKa' := Lib.hid (FKa'.out.step hb)
    clear hb
    refine ⟨_, rfl, BV.out, fun _ => ?_⟩
    simp only [Act.put, List.setIfInBounds_toArray, List.set_cons_zero, List.set_cons_succ]
    refine take_at (i := 10) 33 ?_ rfl rfl (by kernel_rfl) (by kernel_rfl) (by kernel_rfl) (fun _ _ _ h => h) (.inl ⟨rfl, ?_⟩) BV.out ?_
    rotate_left 1
    · intro w hSw; go_simp; try with_reducible rfl
    simp only [Act.put, List.setIfInBounds_toArray, List.set_cons_zero, List.set_cons_succ]
    refine take_at (i := 11) 34 ?_ rfl rfl (by kernel_rfl) (by kernel_rfl) (by kernel_rfl) (fun _ _ _ h => h) (.inl ⟨rfl, ?_⟩) BV.out ?_
    rotate_left 1
    · intro w hSw; go_simp; try with_reducible rfl
    simp only [Act.put, List.setIfInBounds_toArray, List.set_cons_zero, List.set_cons_succ]
    refine take_at (i := 12) 35 ?_ rfl rfl (by kernel_rfl) (by kernel_rfl) (by kernel_rfl) (fun _ _ _ h => h) (.inl ⟨rfl, ?_⟩) BV.out ?_
    rotate_left 1
    · intro w hSw; go_simp; try with_reducible rfl
    simp only [Act.put, List.setIfInBounds_toArray, List.set_cons_zero, List.set_cons_succ]
    refine take_at (i := 13) 36 ?_ rfl rfl (by kernel_rfl) (by kernel_rfl) (by kernel_rfl) (fun _ _ _ h => h) (.inl ⟨rfl, ?_⟩) BV.out ?_
    rotate_left 1
    · intro w hSw; go_simp; try with_reducible rfl
    simp only [Act.put, List.setIfInBounds_toArray, List.set_cons_zero, List.set_cons_succ]
    refine wpAnyH_ready (rs := [14]) (by kernel_rfl) (by simp) (br_store (i := 14) 3 (.tmp 36) (.tmp 34) (.pointer (some ⟨q, 4, none⟩)) _ _ rfl rfl rfl rfl rfl rfl (stN JKa'.out.box) (LZ.of (JKa'.out.sized _)) (fun _ => ?_) AllReadyH.nil)
    simp only [Act.put, List.setIfInBounds_toArray, List.set_cons_zero, List.set_cons_succ]
    refine wpAnyH_done (by kernel_rfl) ?_ _
    have hval : IntKind.i64.wrap (sz + IntKind.i64.wrap ((usedF t.l : Int) - (usedF s.l : Int))) = sz + bs.length := by
      have h1 := TU.out
      have h2 := HZ.out
      have h3 := LB.out
      have e1 : (usedF t.l : Int) - (usedF s.l : Int) = (bs.length : Int) := by omega
      rw [e1]
      rw [IntKind.wrap_i64, IntKind.wrap_i64]
      omega
    rw [hval]
    have JKs := Lib.hid (JKa'.out.sized (sz + bs.length))
    obtain ⟨w9, hw9⟩ : ∃ z, World.setCell v2 ⟨q, 4, none⟩ (.int .i64 (sz + bs.length)) = z := ⟨_, rfl⟩
    have FKs := Lib.hid (FK.set (j := 4) (u := .int .i64 (sz + bs.length)) FKa'.out)
    rw [hw9] at JKs FKs ⊢
    clear hw9 hval JKa JKa' FKa FKa'
    have JKt := Lib.hid (JKs.out.step (Below.refl _ _).drew)
    have FKt := Lib.hid (FKs.out.step (Below.refl _ _).drew)
    clear JKs FKs
    go_upto_region 6 with (fail)
    refine wp_region_held_drew (S := (LZ q d most f (l : Int))) (by kernel_rfl) (LZ.of JKt.out) (fun hHeld => ?_)
    have BV := Lib.hid (LZ.of JKt.out)
    clear hHeld
    refine take_at (i := 0) 40 ?_ rfl rfl (by kernel_rfl) (by kernel_rfl) (by kernel_rfl) (fun _ _ _ h => h) (.inl ⟨rfl, ?_⟩) BV.out ?_
    rotate_left 1
    · intro w hSw; go_simp; try with_reducible rfl
    simp only [Act.put, List.setIfInBounds_toArray, List.set_cons_zero, List.set_cons_succ]
    refine take_at (i := 1) 41 ?_ rfl rfl (by kernel_rfl) (by kernel_rfl) (by kernel_rfl) (fun _ _ _ h => h) (.inl ⟨rfl, ?_⟩) BV.out ?_
    rotate_left 1
    · intro w hSw; go_simp; try with_reducible rfl
    simp only [Act.put, List.setIfInBounds_toArray, List.set_cons_zero, List.set_cons_succ]
    refine take_at (i := 2) 42 ?_ rfl rfl (by kernel_rfl) (by kernel_rfl) (by kernel_rfl) (fun _ _ _ h => h) (.inl ⟨rfl, ?_⟩) BV.out ?_
    rotate_left 1
    · intro w hSw; go_simp; try with_reducible rfl
    simp only [Act.put, List.setIfInBounds_toArray, List.set_cons_zero, List.set_cons_succ]
    refine take_at (i := 3) 43 (pv d) rfl rfl (by kernel_rfl) (by kernel_rfl) (by kernel_rfl) (fun _ _ _ h => h) (yields_ld (.tmp 42) 23 (.pointer (some ⟨q, 0, none⟩)) _ (fun W hS => LZ.ld hS) rfl rfl rfl) BV.out ?_
    simp only [Act.put, List.setIfInBounds_toArray, List.set_cons_zero, List.set_cons_succ]
    refine take_at (i := 4) 44 ?_ rfl rfl (by kernel_rfl) (by kernel_rfl) (by kernel_rfl) (fun _ _ _ h => h) (.inl ⟨rfl, ?_⟩) BV.out ?_
    rotate_left 1
    · intro w hSw; go_simp; try with_reducible rfl
    simp only [Act.put, List.setIfInBounds_toArray, List.set_cons_zero, List.set_cons_succ]
    refine take_at (i := 5) 45 ?_ rfl rfl (by kernel_rfl) (by kernel_rfl) (by kernel_rfl) (fun _ _ _ h => h) (.inl ⟨rfl, ?_⟩) BV.out ?_
    rotate_left 1
    · intro w hSw; go_simp; try with_reducible rfl
    simp only [Act.put, List.setIfInBounds_toArray, List.set_cons_zero, List.set_cons_succ]
    refine take_at (i := 6) 46 ?_ rfl rfl (by kernel_rfl) (by kernel_rfl) (by kernel_rfl) (fun _ _ _ h => h) (.inl ⟨rfl, ?_⟩) BV.out ?_
    rotate_left 1
    · intro w hSw; go_simp; try with_reducible rfl
    simp only [Act.put, List.setIfInBounds_toArray, List.set_cons_zero, List.set_cons_succ]
    refine take_at (i := 7) 47 (.int .i64 (l : Int)) rfl rfl (by kernel_rfl) (by kernel_rfl) (by kernel_rfl) (fun _ _ _ h => h) (yields_ld (.tmp 46) 3 (.pointer (some ⟨q, 3, none⟩)) _ (fun W hS => LZ.ldl hS) rfl rfl rfl) BV.out ?_
    simp only [Act.put, List.setIfInBounds_toArray, List.set_cons_zero, List.set_cons_succ]
    refine wpAnyH_ready (rs := [8]) (by kernel_rfl) (by simp) (br_call (i := 8) 48 37 #[.int .i64 (l : Int)] rfl rfl rfl (by go_simp) ((name_b _ l HL.out.2 HL.out.1).mono ?_) AllReadyH.nil)
    rintro e v1 ⟨rfl, hb⟩
    have BV := Lib.hid (LZ.step BV.out hb)
    have JKt := Lib.hid (JKt.out.step hb)
    have FKt := Lib.hid (FKt.out.step hb)
    clear hb
    refine ⟨_, rfl, BV.out, fun _ => ?_⟩
    simp only [Act.put, List.setIfInBounds_toArray, List.set_cons_zero, List.set_cons_succ]
    refine wpAnyH_ready (rs := [9]) (by kernel_rfl) (by simp) (br_call (i := 9) 49 63 #[pv d, .string (sg l)] rfl rfl rfl (by go_simp) ((sync_fit _ B d t JKt.out.dk (sg l) SZ.out TLL.out TF.out.1 TD.out.2).mono ?_) AllReadyH.nil)
    rintro e v2 ⟨rfl, ho⟩
    have JKu := Lib.hid (JKt.out.out ho)
    have FKu := Lib.hid (FKt.out.outs AO.out AZ.out ho)
    have BV := Lib.hid (LZ.of JKu.out)
    clear ho
    refine ⟨_, rfl, BV.out, fun _ => ?_⟩
    simp only [Act.put, List.setIfInBounds_toArray, List.set_cons_zero, List.set_cons_succ]
    refine take_at (i := 10) 4 ?_ rfl rfl (by kernel_rfl) (by kernel_rfl) (by kernel_rfl) (fun _ _ _ h => h) (.inl ⟨rfl, ?_⟩) BV.out ?_
    rotate_left 1
    · intro w hSw; go_simp; try with_reducible rfl
    simp only [Act.put, List.setIfInBounds_toArray, List.set_cons_zero, List.set_cons_succ]
    refine wpAnyH_done (by kernel_rfl) ?_ _
    have EQ : ({ t with l := setF t.l (cutF (fval t (sg l)) (fval t (sg l)).b.length) } : DS) = { s with l := setF s.l ⟨sg l, a1, c1, (fval s (sg l)).b ++ bs, lenI ((fval s (sg l)).b ++ bs)⟩ } := by
      rw [TF.out.2, TL.out]
      unfold cutF
      dsimp only
      rw [List.take_length, set_set (by rfl), ← HT.out]
      rfl
    rw [EQ] at JKu
    clear EQ
    have FIN := Lib.hid (And.intro JKu.out FKu.out.far)
    go_wp2
    go_returns
    exact ⟨rfl, ⟨a1, c1, FIN.out.1⟩, FIN.out.2⟩
  · rintro e v4 ⟨rfl, hb⟩
    have BV := Lib.hid (LZ.step BV.out hb)
    have JKa' := Lib.hid (JKa'.out.step hb)
    have FKa' := Lib.hid (FKa'.out.step hb)
    clear hb
    refine ⟨_, rfl, BV.out, fun _ => ?_⟩
    simp only [Act.put, List.setIfInBounds_toArray, List.set_cons_zero, List.set_cons_succ]
    refine take_at (i := 10) 33 ?_ rfl rfl (by kernel_rfl) (by kernel_rfl) (by kernel_rfl) (fun _ _ _ h => h) (.inl ⟨rfl, ?_⟩) BV.out ?_
    rotate_left 1
    · intro w hSw; go_simp; try with_reducible rfl
    simp only [Act.put, List.setIfInBounds_toArray, List.set_cons_zero, List.set_cons_succ]
    refine wpAnyH_ready (rs := [3]) (by kernel_rfl) (by simp) (br_load (i := 3) 26 (.tmp 25) 3 (.pointer (some ⟨q, 4, none⟩)) (.int .i64 sz) rfl rfl rfl rfl rfl (ldN (j := 4) JKa'.out.box rfl) BV.out (fun _ => ?_) AllReadyH.nil)
    simp only [Act.put, List.setIfInBounds_toArray, List.set_cons_zero, List.set_cons_succ]
    refine take_at (i := 11) 34 ?_ rfl rfl (by kernel_rfl) (by kernel_rfl) (by kernel_rfl) (fun _ _ _ h => h) (.inl ⟨rfl, ?_⟩) BV.out ?_
    rotate_left 1
    · intro w hSw; go_simp; try with_reducible rfl
    simp only [Act.put, List.setIfInBounds_toArray, List.set_cons_zero, List.set_cons_succ]
    refine take_at (i := 12) 35 ?_ rfl rfl (by kernel_rfl) (by kernel_rfl) (by kernel_rfl) (fun _ _ _ h => h) (.inl ⟨rfl, ?_⟩) BV.out ?_
    rotate_left 1
    · intro w hSw; go_simp; try with_reducible rfl
    simp only [Act.put, List.setIfInBounds_toArray, List.set_cons_zero, List.set_cons_succ]
    refine take_at (i := 13) 36 ?_ rfl rfl (by kernel_rfl) (by kernel_rfl) (by kernel_rfl) (fun _ _ _ h => h) (.inl ⟨rfl, ?_⟩) BV.out ?_
    rotate_left 1
    · intro w hSw; go_simp; try with_reducible rfl
    simp only [Act.put, List.setIfInBounds_toArray, List.set_cons_zero, List.set_cons_succ]
    refine wpAnyH_ready (rs := [14]) (by kernel_rfl) (by simp) (br_store (i := 14) 3 (.tmp 36) (.tmp 34) (.pointer (some ⟨q, 4, none⟩)) _ _ rfl rfl rfl rfl rfl rfl (stN JKa'.out.box) (LZ.of (JKa'.out.sized _)) (fun _ => ?_) AllReadyH.nil)
    simp only [Act.put, List.setIfInBounds_toArray, List.set_cons_zero, List.set_cons_succ]
    refine wpAnyH_done (by kernel_rfl) ?_ _
    have hval : IntKind.i64.wrap (sz + IntKind.i64.wrap ((usedF t.l : Int) - (usedF s.l : Int))) = sz + bs.length := by
      have h1 := TU.out
      have h2 := HZ.out
      have h3 := LB.out
      have e1 : (usedF t.l : Int) - (usedF s.l : Int) = (bs.length : Int) := by omega
      rw [e1]
      rw [IntKind.wrap_i64, IntKind.wrap_i64]
      omega
    rw [hval]
    have JKs := Lib.hid (JKa'.out.sized (sz + bs.length))
    obtain ⟨w9, hw9⟩ : ∃ z, World.setCell v4 ⟨q, 4, none⟩ (.int .i64 (sz + bs.length)) = z := ⟨_, rfl⟩
    have FKs := Lib.hid (FK.set (j := 4) (u := .int .i64 (sz + bs.length)) FKa'.out)
    rw [hw9] at JKs FKs ⊢
    clear hw9 hval JKa JKa' FKa FKa'
    have JKt := Lib.hid (JKs.out.step (Below.refl _ _).drew)
    have FKt := Lib.hid (FKs.out.step (Below.refl _ _).drew)
    clear JKs FKs
    go_upto_region 6 with (fail)
    refine wp_region_held_drew (S := (LZ q d most f (l : Int))) (by kernel_rfl) (LZ.of JKt.out) (fun hHeld => ?_)
    have BV := Lib.hid (LZ.of JKt.out)
    clear hHeld
    refine take_at (i := 0) 40 ?_ rfl rfl (by kernel_rfl) (by kernel_rfl) (by kernel_rfl) (fun _ _ _ h => h) (.inl ⟨rfl, ?_⟩) BV.out ?_
    rotate_left 1
    · intro w hSw; go_simp; try with_reducible rfl
    simp only [Act.put, List.setIfInBounds_toArray, List.set_cons_zero, List.set_cons_succ]
    refine take_at (i := 1) 41 ?_ rfl rfl (by kernel_rfl) (by kernel_rfl) (by kernel_rfl) (fun _ _ _ h => h) (.inl ⟨rfl, ?_⟩) BV.out ?_
    rotate_left 1
    · intro w hSw; go_simp; try with_reducible rfl
    simp only [Act.put, List.setIfInBounds_toArray, List.set_cons_zero, List.set_cons_succ]
    refine take_at (i := 2) 42 ?_ rfl rfl (by kernel_rfl) (by kernel_rfl) (by kernel_rfl) (fun _ _ _ h => h) (.inl ⟨rfl, ?_⟩) BV.out ?_
    rotate_left 1
    · intro w hSw; go_simp; try with_reducible rfl
    simp only [Act.put, List.setIfInBounds_toArray, List.set_cons_zero, List.set_cons_succ]
    refine take_at (i := 3) 43 (pv d) rfl rfl (by kernel_rfl) (by kernel_rfl) (by kernel_rfl) (fun _ _ _ h => h) (yields_ld (.tmp 42) 23 (.pointer (some ⟨q, 0, none⟩)) _ (fun W hS => LZ.ld hS) rfl rfl rfl) BV.out ?_
    simp only [Act.put, List.setIfInBounds_toArray, List.set_cons_zero, List.set_cons_succ]
    refine take_at (i := 4) 44 ?_ rfl rfl (by kernel_rfl) (by kernel_rfl) (by kernel_rfl) (fun _ _ _ h => h) (.inl ⟨rfl, ?_⟩) BV.out ?_
    rotate_left 1
    · intro w hSw; go_simp; try with_reducible rfl
    simp only [Act.put, List.setIfInBounds_toArray, List.set_cons_zero, List.set_cons_succ]
    refine take_at (i := 5) 45 ?_ rfl rfl (by kernel_rfl) (by kernel_rfl) (by kernel_rfl) (fun _ _ _ h => h) (.inl ⟨rfl, ?_⟩) BV.out ?_
    rotate_left 1
    · intro w hSw; go_simp; try with_reducible rfl
    simp only [Act.put, List.setIfInBounds_toArray, List.set_cons_zero, List.set_cons_succ]
    refine take_at (i := 6) 46 ?_ rfl rfl (by kernel_rfl) (by kernel_rfl) (by kernel_rfl) (fun _ _ _ h => h) (.inl ⟨rfl, ?_⟩) BV.out ?_
    rotate_left 1
    · intro w hSw; go_simp; try with_reducible rfl
    simp only [Act.put, List.setIfInBounds_toArray, List.set_cons_zero, List.set_cons_succ]
    refine take_at (i := 7) 47 (.int .i64 (l : Int)) rfl rfl (by kernel_rfl) (by kernel_rfl) (by kernel_rfl) (fun _ _ _ h => h) (yields_ld (.tmp 46) 3 (.pointer (some ⟨q, 3, none⟩)) _ (fun W hS => LZ.ldl hS) rfl rfl rfl) BV.out ?_
    simp only [Act.put, List.setIfInBounds_toArray, List.set_cons_zero, List.set_cons_succ]
    refine wpAnyH_ready (rs := [8]) (by kernel_rfl) (by simp) (br_call (i := 8) 48 37 #[.int .i64 (l : Int)] rfl rfl rfl (by go_simp) ((name_b _ l HL.out.2 HL.out.1).mono ?_) AllReadyH.nil)
    rintro e v1 ⟨rfl, hb⟩
    have BV := Lib.hid (LZ.step BV.out hb)
    have JKt := Lib.hid (JKt.out.step hb)
    have FKt := Lib.hid (FKt.out.step hb)
    clear hb
    refine ⟨_, rfl, BV.out, fun _ => ?_⟩
    simp only [Act.put, List.setIfInBounds_toArray, List.set_cons_zero, List.set_cons_succ]
    refine wpAnyH_ready (rs := [9]) (by kernel_rfl) (by simp) (br_call (i := 9) 49 63 #[pv d, .string (sg l)] rfl rfl rfl (by go_simp) ((sync_fit _ B d t JKt.out.dk (sg l) SZ.out TLL.out TF.out.1 TD.out.2).mono ?_) AllReadyH.nil)
    rintro e v2 ⟨rfl, ho⟩
    have JKu := Lib.hid (JKt.out.out ho)
    have FKu := Lib.hid (FKt.out.outs AO.out AZ.out ho)
    have BV := Lib.hid (LZ.of JKu.out)
    clear ho
    refine ⟨_, rfl, BV.out, fun _ => ?_⟩
    simp only [Act.put, List.setIfInBounds_toArray, List.set_cons_zero, List.set_cons_succ]
    refine take_at (i := 10) 4 ?_ rfl rfl (by kernel_rfl) (by kernel_rfl) (by kernel_rfl) (fun _ _ _ h => h) (.inl ⟨rfl, ?_⟩) BV.out ?_
    rotate_left 1
    · intro w hSw; go_simp; try with_reducible rfl
    simp only [Act.put, List.setIfInBounds_toArray, List.set_cons_zero, List.set_cons_succ]
    refine wpAnyH_done (by kernel_rfl) ?_ _
    have EQ : ({ t with l := setF t.l (cutF (fval t (sg l)) (fval t (sg l)).b.length) } : DS) = { s with l := setF s.l ⟨sg l, a1, c1, (fval s (sg l)).b ++ bs, lenI ((fval s (sg l)).b ++ bs)⟩ } := by
      rw [TF.out.2, TL.out]
      unfold cutF
      dsimp only
      rw [List.take_length, set_set (by rfl), ← HT.out]
      rfl
    rw [EQ] at JKu
    clear EQ
    have FIN := Lib.hid (And.intro JKu.out FKu.out.far)
    go_wp2
    go_returns
    exact ⟨rfl, ⟨a1, c1, FIN.out.1⟩, FIN.out.2⟩
end Go.Proofs.YtgbihpfpiaacfaaGreatDoor
