/- Groups: the document's, the program's; ahead; Items. Made by gengy17.py. -/
import Derived.Test.YthbliaohaakbiaaGX
set_option linter.unusedVariables false
set_option linter.unusedSimpArgs false
set_option maxRecDepth 100000
namespace Go.Proofs.Ythbliaohaakbiaa
open Go.RowKit Go.Sort

theorem grN {w : World} {ao : Option Addr} {n cap : Nat} {l : List Gn} (h : LiesK encN 3 w (.slice ao n cap) l) {i : Nat} (hi : i < n) : ∃ g o x, ao = some ⟨g, o, none⟩ ∧ l[i]? = some x ∧ g < w.heap.size ∧ w.cell? ⟨g, o + i * 3, none⟩ = some (.string x.n) ∧ w.cell? ⟨g, o + i * 3 + 1, none⟩ = some (.bool x.d) ∧ w.cell? ⟨g, o + i * 3 + 2, none⟩ = some (.slice x.a x.l.length x.c) := by
  obtain ⟨g, o, x, rfl, hx, hg, hc⟩ := h.at' hi
  exact ⟨g, o, x, rfl, hx, hg, hc 0 _ rfl, hc 1 _ rfl, hc 2 _ rfl⟩
set_option maxHeartbeats 3200000 in
theorem theirs_any (w : World) (v : Value) (l : List Gn) (h : GsL w v l) (hl : l.length ≤ 1000) :
    Calls Try.prog 13 #[v] w fun e w' => ∃ r, e = .returned r ∧ GsL w' r l ∧ Below w.heap.size w w' := by
  obtain ⟨i0, hi9, hz0, hz1, hz2⟩ := info_parts info58
  have H := Lib.hid h
  have HLL := Lib.hid h.1.len
  obtain ⟨ao, cap, rfl⟩ := h.1.shape
  clear h
  go_enter Try.func13, Try.ntmps13
  go_wp2
  go_loopw [3, 4] (fun ov kv wr => ∃ i : Nat, kv = .int .i64 i ∧ i ≤ l.length ∧ Hid (wr.ownsRow w.heap.size 58 3 ov (l.take i).length ((l.take i).flatMap encN) ∧ Below w.heap.size w wr)) (fun _ kv _ => l.length - (intOf kv).toNat)
  case atStart => exact ⟨0, rfl, Nat.zero_le _, Lib.hid ⟨World.ownsRow_nil _ _ _ _, Below.refl _ _⟩⟩
  case round =>
    obtain ⟨i, rfl, hi, hK⟩ := hrel
    obtain ⟨oa, oc, rfl⟩ := own_shapeK hK.out.1
    have KK := Lib.hid hK.out
    clear hK
    by_cases hlt : i < l.length
    · obtain ⟨g, o, x, rfl, hx, hg, a0, a1, a2⟩ := grN H.out.1 hlt
      have AF := Lib.hid (fun W (hb : Below w.heap.size w W) => GR3 hg a0 a1 a2 W hb)
      have IX := Lib.hid (fun W => ix25 (g := g) (o := o) (cap := cap) hlt HLL.out W)
      have SN := Lib.hid (take_snoc hx)
      obtain ⟨m, hm⟩ : ∃ m, l.take i = m := ⟨_, rfl⟩
      have LM := Lib.hid (show m.length ≤ 1000 from by rw [← hm, List.length_take]; omega)
      rw [hm] at SN KK ⊢
      clear hm hx hg
      go_upto_region 5 with (fail)
      clear a0 a1 a2
      have OB := Lib.hid (own_belowK KK.out.1 (Below.refl wr.heap.size wr).drew)
      refine wp_region_held_drew (S := fun w' => Below w.heap.size w w') (by kernel_rfl) ((KK.out.2.trans ((Below.refl wr.heap.size wr).drew.mono KK.out.2.size))) (fun hHeld => ?_)
      have BV := Lib.hid (show Below w.heap.size w wr.drew from (KK.out.2.trans ((Below.refl wr.heap.size wr).drew.mono KK.out.2.size)))
      clear hHeld
      refine take_at (i := 0) 11 ?_ rfl rfl (by kernel_rfl) (by kernel_rfl) (by kernel_rfl) (fun _ _ _ h => h) (.inl ⟨rfl, ?_⟩) BV.out ?_
      rotate_left 1
      · intro w hSw; go_simp; try with_reducible rfl
      simp only [Act.put, List.setIfInBounds_toArray, List.set_cons_zero, List.set_cons_succ]
      refine take_at (i := 1) 12 ?_ rfl rfl (by kernel_rfl) (by kernel_rfl) (by kernel_rfl) (fun _ _ _ h => h) (.inl ⟨rfl, ?_⟩) BV.out ?_
      rotate_left 1
      · intro w hSw; go_simp; try with_reducible rfl
      simp only [Act.put, List.setIfInBounds_toArray, List.set_cons_zero, List.set_cons_succ]
      refine take_at (i := 2) 13 ?_ rfl rfl (by kernel_rfl) (by kernel_rfl) (by kernel_rfl) (fun _ _ _ h => h) (.inl ⟨rfl, ?_⟩) BV.out ?_
      rotate_left 1
      · intro w hSw; go_simp; try with_reducible rfl
      simp only [Act.put, List.setIfInBounds_toArray, List.set_cons_zero, List.set_cons_succ]
      refine take_at (i := 3) 14 (.pointer (some ⟨g, o + i * 3, none⟩)) rfl rfl (by kernel_rfl) (by kernel_rfl) (by kernel_rfl) (fun _ _ _ h => h) (yields_ix (.tmp 12) (.tmp 13) 25 (.slice (some ⟨g, o, none⟩) l.length cap) (.int .i64 (i : Int)) _ (fun W => IX.out W) rfl rfl rfl rfl) BV.out ?_
      simp only [Act.put, List.setIfInBounds_toArray, List.set_cons_zero, List.set_cons_succ]
      refine take_at (i := 4) 15 ?_ rfl rfl (by kernel_rfl) (by kernel_rfl) (by kernel_rfl) (fun _ _ _ h => h) (.inl ⟨rfl, ?_⟩) BV.out ?_
      rotate_left 1
      · intro w hSw; go_simp; try with_reducible rfl
      simp only [Act.put, List.setIfInBounds_toArray, List.set_cons_zero, List.set_cons_succ]
      refine take_at (i := 5) 16 (.string x.n) rfl rfl (by kernel_rfl) (by kernel_rfl) (by kernel_rfl) (fun _ _ _ h => h) (yields_ld (.tmp 15) 9 (.pointer (some ⟨g, o + i * 3, none⟩)) _ (fun W hb => ldT (AF.out W hb).1) rfl rfl rfl) BV.out ?_
      simp only [Act.put, List.setIfInBounds_toArray, List.set_cons_zero, List.set_cons_succ]
      refine take_at (i := 6) 17 ?_ rfl rfl (by kernel_rfl) (by kernel_rfl) (by kernel_rfl) (fun _ _ _ h => h) (.inl ⟨rfl, ?_⟩) BV.out ?_
      rotate_left 1
      · intro w hSw; go_simp; try with_reducible rfl
      simp only [Act.put, List.setIfInBounds_toArray, List.set_cons_zero, List.set_cons_succ]
      refine take_at (i := 7) 18 ?_ rfl rfl (by kernel_rfl) (by kernel_rfl) (by kernel_rfl) (fun _ _ _ h => h) (.inl ⟨rfl, ?_⟩) BV.out ?_
      rotate_left 1
      · intro w hSw; go_simp; try with_reducible rfl
      simp only [Act.put, List.setIfInBounds_toArray, List.set_cons_zero, List.set_cons_succ]
      refine take_at (i := 8) 19 (.pointer (some ⟨g, o + i * 3, none⟩)) rfl rfl (by kernel_rfl) (by kernel_rfl) (by kernel_rfl) (fun _ _ _ h => h) (yields_ix (.tmp 17) (.tmp 18) 25 (.slice (some ⟨g, o, none⟩) l.length cap) (.int .i64 (i : Int)) _ (fun W => IX.out W) rfl rfl rfl rfl) BV.out ?_
      simp only [Act.put, List.setIfInBounds_toArray, List.set_cons_zero, List.set_cons_succ]
      refine take_at (i := 9) 20 ?_ rfl rfl (by kernel_rfl) (by kernel_rfl) (by kernel_rfl) (fun _ _ _ h => h) (.inl ⟨rfl, ?_⟩) BV.out ?_
      rotate_left 1
      · intro w hSw; go_simp; try with_reducible rfl
      simp only [Act.put, List.setIfInBounds_toArray, List.set_cons_zero, List.set_cons_succ]
      refine take_at (i := 10) 21 (.bool x.d) rfl rfl (by kernel_rfl) (by kernel_rfl) (by kernel_rfl) (fun _ _ _ h => h) (yields_ld (.tmp 20) 4 (.pointer (some ⟨g, o + i * 3 + 1, none⟩)) _ (fun W hb => ldB (AF.out W hb).2.1) rfl rfl rfl) BV.out ?_
      simp only [Act.put, List.setIfInBounds_toArray, List.set_cons_zero, List.set_cons_succ]
      refine take_at (i := 11) 22 ?_ rfl rfl (by kernel_rfl) (by kernel_rfl) (by kernel_rfl) (fun _ _ _ h => h) (.inl ⟨rfl, ?_⟩) BV.out ?_
      rotate_left 1
      · intro w hSw; go_simp; try with_reducible rfl
      simp only [Act.put, List.setIfInBounds_toArray, List.set_cons_zero, List.set_cons_succ]
      refine take_at (i := 12) 23 ?_ rfl rfl (by kernel_rfl) (by kernel_rfl) (by kernel_rfl) (fun _ _ _ h => h) (.inl ⟨rfl, ?_⟩) BV.out ?_
      rotate_left 1
      · intro w hSw; go_simp; try with_reducible rfl
      simp only [Act.put, List.setIfInBounds_toArray, List.set_cons_zero, List.set_cons_succ]
      refine take_at (i := 13) 24 (.pointer (some ⟨g, o + i * 3, none⟩)) rfl rfl (by kernel_rfl) (by kernel_rfl) (by kernel_rfl) (fun _ _ _ h => h) (yields_ix (.tmp 22) (.tmp 23) 25 (.slice (some ⟨g, o, none⟩) l.length cap) (.int .i64 (i : Int)) _ (fun W => IX.out W) rfl rfl rfl rfl) BV.out ?_
      simp only [Act.put, List.setIfInBounds_toArray, List.set_cons_zero, List.set_cons_succ]
      refine take_at (i := 14) 25 ?_ rfl rfl (by kernel_rfl) (by kernel_rfl) (by kernel_rfl) (fun _ _ _ h => h) (.inl ⟨rfl, ?_⟩) BV.out ?_
      rotate_left 1
      · intro w hSw; go_simp; try with_reducible rfl
      simp only [Act.put, List.setIfInBounds_toArray, List.set_cons_zero, List.set_cons_succ]
      refine take_at (i := 15) 26 (.slice x.a x.l.length x.c) rfl rfl (by kernel_rfl) (by kernel_rfl) (by kernel_rfl) (fun _ _ _ h => h) (yields_ld (.tmp 25) 30 (.pointer (some ⟨g, o + i * 3 + 2, none⟩)) _ (fun W hb => ldV (AF.out W hb).2.2) rfl rfl rfl) BV.out ?_
      simp only [Act.put, List.setIfInBounds_toArray, List.set_cons_zero, List.set_cons_succ]
      refine take_at (i := 16) 27 ?_ rfl rfl (by kernel_rfl) (by kernel_rfl) (by kernel_rfl) (fun _ _ _ h => h) (.inl ⟨rfl, ?_⟩) BV.out ?_
      rotate_left 1
      · intro w hSw; go_simp; try with_reducible rfl
      simp only [Act.put, List.setIfInBounds_toArray, List.set_cons_zero, List.set_cons_succ]
      refine wpAnyH_ready (rs := [17]) (by kernel_rfl) (by simp) (br_bslice (i := 17) 28 34 1 _ #[(0, gvl x.n x.d (.slice x.a x.l.length x.c))] _ _ rfl rfl rfl rfl rfl ((fun W => bsG2 W x.n x.d (.slice x.a x.l.length x.c) rfl rfl) wr.drew) (BV.out.trans ((vstep wr.drew _).mono BV.out.size)) (fun _ => ?_) AllReadyH.nil)
      obtain ⟨v1, hv1⟩ : ∃ zz, wr.drew.alloc (.cells #[.string x.n, .bool x.d, .slice x.a x.l.length x.c] 58) = zz := ⟨_, rfl⟩
      have hb : Below wr.drew.heap.size wr.drew v1 := by rw [← hv1]; exact vstep wr.drew _
      have HX := Lib.hid (show v1.heap[wr.drew.heap.size]? = some (.cells (encN x).toArray 58 (0, 0)) from by rw [← hv1]; exact heap_alloc_new wr.drew _)
      rw [hv1]
      obtain ⟨k1, hk1⟩ : ∃ zz, wr.drew.heap.size = zz := ⟨_, rfl⟩
      rw [hk1] at HX ⊢
      have BV := Lib.hid (BV.out.trans (hb.mono BV.out.size))
      have OB := Lib.hid (own_belowK OB.out hb)
      clear hb hv1 hk1
      simp only [Act.put, List.setIfInBounds_toArray, List.set_cons_zero, List.set_cons_succ]
      obtain ⟨va2, v2, hr2, ho2, hg2⟩ := run_pushK (P := Try.prog) v1 34 34 encN_len (by decide) encN_one w.heap.size 58 i0 (.agg #[.string ⟨#[]⟩, .bool false, .slice none 0 0]) 48 Try.u34 hi9 hz0 hz1 hz2 rfl (.slice oa m.length oc) m x k1 HX.out OB.out (by have := LM.out; unfold maxLen; omega) (by have := LM.out; omega) BV.out.size
      have BW2 := Lib.hid (show Below w.heap.size w v2 from BV.out.grown hg2 BV.out.size (fun k e => (OB.out.lt k e).1))
      have ON := Lib.hid ho2
      have HR2 := Lib.hid hr2
      clear hr2 ho2 hg2
      refine wpAnyH_ready (rs := [18]) (by kernel_rfl) (by simp) (br_append (i := 18) 29 (.tmp 11) (.tmp 28) 34 34 rfl rfl rfl rfl _ _ va2 v2 rfl rfl HR2.out BW2.out (fun _ => ?_) AllReadyH.nil)
      have BV := Lib.hid BW2.out
      clear HR2 BW2
      simp only [Act.put, List.setIfInBounds_toArray, List.set_cons_zero, List.set_cons_succ]
      refine take_at (i := 19) 3 ?_ rfl rfl (by kernel_rfl) (by kernel_rfl) (by kernel_rfl) (fun _ _ _ h => h) (.inl ⟨rfl, ?_⟩) BV.out ?_
      rotate_left 1
      · intro w hSw; go_simp; try with_reducible rfl
      simp only [Act.put, List.setIfInBounds_toArray, List.set_cons_zero, List.set_cons_succ]
      refine wpAnyH_done (by kernel_rfl) ?_ _
      have FIN := Lib.hid (show v2.ownsRow w.heap.size 58 3 va2 (l.take (i + 1)).length ((l.take (i + 1)).flatMap encN) ∧ Below w.heap.size w v2 from ⟨by rw [SN.out]; exact ON.out, BV.out⟩)
      go_wp2
      go_roundw
      case rel => exact ⟨i + 1, by go_num, by omega, FIN⟩
      case measure => simp [intOf]; omega
    · have FIN := Lib.hid (show GsL wr (.slice oa (l.take i).length oc) l ∧ Below w.heap.size w wr from by
        have h := KK.out
        rw [show l.take i = l from List.take_of_length_le (by omega)] at h ⊢
        exact ⟨⟨own_liesK encN_len h.1, fun x hx => (H.out.2 x hx).step h.2⟩, h.2⟩)
      clear KK
      go_wp2
      go_returns
      exact ⟨_, rfl, FIN.out.1, FIN.out.2⟩
set_option maxHeartbeats 3200000 in
theorem to_any (w : World) (v : Value) (l : List Gn) (h : GsL w v l) (hl : l.length ≤ 1000) :
    Calls Try.prog 17 #[v] w fun e w' => ∃ r, e = .returned r ∧ GsL w' r l ∧ Below w.heap.size w w' := by
  obtain ⟨i0, hi9, hz0, hz1, hz2⟩ := info_parts info32
  have H := Lib.hid h
  have HLL := Lib.hid h.1.len
  obtain ⟨ao, cap, rfl⟩ := h.1.shape
  clear h
  go_enter Try.func17, Try.ntmps17
  go_wp2
  go_loopw [3, 4] (fun ov kv wr => ∃ i : Nat, kv = .int .i64 i ∧ i ≤ l.length ∧ Hid (wr.ownsRow w.heap.size 32 3 ov (l.take i).length ((l.take i).flatMap encN) ∧ Below w.heap.size w wr)) (fun _ kv _ => l.length - (intOf kv).toNat)
  case atStart => exact ⟨0, rfl, Nat.zero_le _, Lib.hid ⟨World.ownsRow_nil _ _ _ _, Below.refl _ _⟩⟩
  case round =>
    obtain ⟨i, rfl, hi, hK⟩ := hrel
    obtain ⟨oa, oc, rfl⟩ := own_shapeK hK.out.1
    have KK := Lib.hid hK.out
    clear hK
    by_cases hlt : i < l.length
    · obtain ⟨g, o, x, rfl, hx, hg, a0, a1, a2⟩ := grN H.out.1 hlt
      have AF := Lib.hid (fun W (hb : Below w.heap.size w W) => GR3 hg a0 a1 a2 W hb)
      have IX := Lib.hid (fun W => ix34 (g := g) (o := o) (cap := cap) hlt HLL.out W)
      have SN := Lib.hid (take_snoc hx)
      obtain ⟨m, hm⟩ : ∃ m, l.take i = m := ⟨_, rfl⟩
      have LM := Lib.hid (show m.length ≤ 1000 from by rw [← hm, List.length_take]; omega)
      rw [hm] at SN KK ⊢
      clear hm hx hg
      go_upto_region 5 with (fail)
      clear a0 a1 a2
      have OB := Lib.hid (own_belowK KK.out.1 (Below.refl wr.heap.size wr).drew)
      refine wp_region_held_drew (S := fun w' => Below w.heap.size w w') (by kernel_rfl) ((KK.out.2.trans ((Below.refl wr.heap.size wr).drew.mono KK.out.2.size))) (fun hHeld => ?_)
      have BV := Lib.hid (show Below w.heap.size w wr.drew from (KK.out.2.trans ((Below.refl wr.heap.size wr).drew.mono KK.out.2.size)))
      clear hHeld
      refine take_at (i := 0) 11 ?_ rfl rfl (by kernel_rfl) (by kernel_rfl) (by kernel_rfl) (fun _ _ _ h => h) (.inl ⟨rfl, ?_⟩) BV.out ?_
      rotate_left 1
      · intro w hSw; go_simp; try with_reducible rfl
      simp only [Act.put, List.setIfInBounds_toArray, List.set_cons_zero, List.set_cons_succ]
      refine take_at (i := 1) 12 ?_ rfl rfl (by kernel_rfl) (by kernel_rfl) (by kernel_rfl) (fun _ _ _ h => h) (.inl ⟨rfl, ?_⟩) BV.out ?_
      rotate_left 1
      · intro w hSw; go_simp; try with_reducible rfl
      simp only [Act.put, List.setIfInBounds_toArray, List.set_cons_zero, List.set_cons_succ]
      refine take_at (i := 2) 13 ?_ rfl rfl (by kernel_rfl) (by kernel_rfl) (by kernel_rfl) (fun _ _ _ h => h) (.inl ⟨rfl, ?_⟩) BV.out ?_
      rotate_left 1
      · intro w hSw; go_simp; try with_reducible rfl
      simp only [Act.put, List.setIfInBounds_toArray, List.set_cons_zero, List.set_cons_succ]
      refine take_at (i := 3) 14 (.pointer (some ⟨g, o + i * 3, none⟩)) rfl rfl (by kernel_rfl) (by kernel_rfl) (by kernel_rfl) (fun _ _ _ h => h) (yields_ix (.tmp 12) (.tmp 13) 34 (.slice (some ⟨g, o, none⟩) l.length cap) (.int .i64 (i : Int)) _ (fun W => IX.out W) rfl rfl rfl rfl) BV.out ?_
      simp only [Act.put, List.setIfInBounds_toArray, List.set_cons_zero, List.set_cons_succ]
      refine take_at (i := 4) 15 ?_ rfl rfl (by kernel_rfl) (by kernel_rfl) (by kernel_rfl) (fun _ _ _ h => h) (.inl ⟨rfl, ?_⟩) BV.out ?_
      rotate_left 1
      · intro w hSw; go_simp; try with_reducible rfl
      simp only [Act.put, List.setIfInBounds_toArray, List.set_cons_zero, List.set_cons_succ]
      refine take_at (i := 5) 16 (.string x.n) rfl rfl (by kernel_rfl) (by kernel_rfl) (by kernel_rfl) (fun _ _ _ h => h) (yields_ld (.tmp 15) 9 (.pointer (some ⟨g, o + i * 3, none⟩)) _ (fun W hb => ldT (AF.out W hb).1) rfl rfl rfl) BV.out ?_
      simp only [Act.put, List.setIfInBounds_toArray, List.set_cons_zero, List.set_cons_succ]
      refine take_at (i := 6) 17 ?_ rfl rfl (by kernel_rfl) (by kernel_rfl) (by kernel_rfl) (fun _ _ _ h => h) (.inl ⟨rfl, ?_⟩) BV.out ?_
      rotate_left 1
      · intro w hSw; go_simp; try with_reducible rfl
      simp only [Act.put, List.setIfInBounds_toArray, List.set_cons_zero, List.set_cons_succ]
      refine take_at (i := 7) 18 ?_ rfl rfl (by kernel_rfl) (by kernel_rfl) (by kernel_rfl) (fun _ _ _ h => h) (.inl ⟨rfl, ?_⟩) BV.out ?_
      rotate_left 1
      · intro w hSw; go_simp; try with_reducible rfl
      simp only [Act.put, List.setIfInBounds_toArray, List.set_cons_zero, List.set_cons_succ]
      refine take_at (i := 8) 19 (.pointer (some ⟨g, o + i * 3, none⟩)) rfl rfl (by kernel_rfl) (by kernel_rfl) (by kernel_rfl) (fun _ _ _ h => h) (yields_ix (.tmp 17) (.tmp 18) 34 (.slice (some ⟨g, o, none⟩) l.length cap) (.int .i64 (i : Int)) _ (fun W => IX.out W) rfl rfl rfl rfl) BV.out ?_
      simp only [Act.put, List.setIfInBounds_toArray, List.set_cons_zero, List.set_cons_succ]
      refine take_at (i := 9) 20 ?_ rfl rfl (by kernel_rfl) (by kernel_rfl) (by kernel_rfl) (fun _ _ _ h => h) (.inl ⟨rfl, ?_⟩) BV.out ?_
      rotate_left 1
      · intro w hSw; go_simp; try with_reducible rfl
      simp only [Act.put, List.setIfInBounds_toArray, List.set_cons_zero, List.set_cons_succ]
      refine take_at (i := 10) 21 (.bool x.d) rfl rfl (by kernel_rfl) (by kernel_rfl) (by kernel_rfl) (fun _ _ _ h => h) (yields_ld (.tmp 20) 4 (.pointer (some ⟨g, o + i * 3 + 1, none⟩)) _ (fun W hb => ldB (AF.out W hb).2.1) rfl rfl rfl) BV.out ?_
      simp only [Act.put, List.setIfInBounds_toArray, List.set_cons_zero, List.set_cons_succ]
      refine take_at (i := 11) 22 ?_ rfl rfl (by kernel_rfl) (by kernel_rfl) (by kernel_rfl) (fun _ _ _ h => h) (.inl ⟨rfl, ?_⟩) BV.out ?_
      rotate_left 1
      · intro w hSw; go_simp; try with_reducible rfl
      simp only [Act.put, List.setIfInBounds_toArray, List.set_cons_zero, List.set_cons_succ]
      refine take_at (i := 12) 23 ?_ rfl rfl (by kernel_rfl) (by kernel_rfl) (by kernel_rfl) (fun _ _ _ h => h) (.inl ⟨rfl, ?_⟩) BV.out ?_
      rotate_left 1
      · intro w hSw; go_simp; try with_reducible rfl
      simp only [Act.put, List.setIfInBounds_toArray, List.set_cons_zero, List.set_cons_succ]
      refine take_at (i := 13) 24 (.pointer (some ⟨g, o + i * 3, none⟩)) rfl rfl (by kernel_rfl) (by kernel_rfl) (by kernel_rfl) (fun _ _ _ h => h) (yields_ix (.tmp 22) (.tmp 23) 34 (.slice (some ⟨g, o, none⟩) l.length cap) (.int .i64 (i : Int)) _ (fun W => IX.out W) rfl rfl rfl rfl) BV.out ?_
      simp only [Act.put, List.setIfInBounds_toArray, List.set_cons_zero, List.set_cons_succ]
      refine take_at (i := 14) 25 ?_ rfl rfl (by kernel_rfl) (by kernel_rfl) (by kernel_rfl) (fun _ _ _ h => h) (.inl ⟨rfl, ?_⟩) BV.out ?_
      rotate_left 1
      · intro w hSw; go_simp; try with_reducible rfl
      simp only [Act.put, List.setIfInBounds_toArray, List.set_cons_zero, List.set_cons_succ]
      refine take_at (i := 15) 26 (.slice x.a x.l.length x.c) rfl rfl (by kernel_rfl) (by kernel_rfl) (by kernel_rfl) (fun _ _ _ h => h) (yields_ld (.tmp 25) 30 (.pointer (some ⟨g, o + i * 3 + 2, none⟩)) _ (fun W hb => ldV (AF.out W hb).2.2) rfl rfl rfl) BV.out ?_
      simp only [Act.put, List.setIfInBounds_toArray, List.set_cons_zero, List.set_cons_succ]
      refine take_at (i := 16) 27 ?_ rfl rfl (by kernel_rfl) (by kernel_rfl) (by kernel_rfl) (fun _ _ _ h => h) (.inl ⟨rfl, ?_⟩) BV.out ?_
      rotate_left 1
      · intro w hSw; go_simp; try with_reducible rfl
      simp only [Act.put, List.setIfInBounds_toArray, List.set_cons_zero, List.set_cons_succ]
      refine wpAnyH_ready (rs := [17]) (by kernel_rfl) (by simp) (br_bslice (i := 17) 28 25 1 _ #[(0, gvl x.n x.d (.slice x.a x.l.length x.c))] _ _ rfl rfl rfl rfl rfl ((fun W => bsG W x.n x.d (.slice x.a x.l.length x.c) rfl rfl) wr.drew) (BV.out.trans ((vstep wr.drew _).mono BV.out.size)) (fun _ => ?_) AllReadyH.nil)
      obtain ⟨v1, hv1⟩ : ∃ zz, wr.drew.alloc (.cells #[.string x.n, .bool x.d, .slice x.a x.l.length x.c] 32) = zz := ⟨_, rfl⟩
      have hb : Below wr.drew.heap.size wr.drew v1 := by rw [← hv1]; exact vstep wr.drew _
      have HX := Lib.hid (show v1.heap[wr.drew.heap.size]? = some (.cells (encN x).toArray 32 (0, 0)) from by rw [← hv1]; exact heap_alloc_new wr.drew _)
      rw [hv1]
      obtain ⟨k1, hk1⟩ : ∃ zz, wr.drew.heap.size = zz := ⟨_, rfl⟩
      rw [hk1] at HX ⊢
      have BV := Lib.hid (BV.out.trans (hb.mono BV.out.size))
      have OB := Lib.hid (own_belowK OB.out hb)
      clear hb hv1 hk1
      simp only [Act.put, List.setIfInBounds_toArray, List.set_cons_zero, List.set_cons_succ]
      obtain ⟨va2, v2, hr2, ho2, hg2⟩ := run_pushK (P := Try.prog) v1 25 25 encN_len (by decide) encN_one w.heap.size 32 i0 (.agg #[.string ⟨#[]⟩, .bool false, .slice none 0 0]) 48 Try.u25 hi9 hz0 hz1 hz2 rfl (.slice oa m.length oc) m x k1 HX.out OB.out (by have := LM.out; unfold maxLen; omega) (by have := LM.out; omega) BV.out.size
      have BW2 := Lib.hid (show Below w.heap.size w v2 from BV.out.grown hg2 BV.out.size (fun k e => (OB.out.lt k e).1))
      have ON := Lib.hid ho2
      have HR2 := Lib.hid hr2
      clear hr2 ho2 hg2
      refine wpAnyH_ready (rs := [18]) (by kernel_rfl) (by simp) (br_append (i := 18) 29 (.tmp 11) (.tmp 28) 25 25 rfl rfl rfl rfl _ _ va2 v2 rfl rfl HR2.out BW2.out (fun _ => ?_) AllReadyH.nil)
      have BV := Lib.hid BW2.out
      clear HR2 BW2
      simp only [Act.put, List.setIfInBounds_toArray, List.set_cons_zero, List.set_cons_succ]
      refine take_at (i := 19) 3 ?_ rfl rfl (by kernel_rfl) (by kernel_rfl) (by kernel_rfl) (fun _ _ _ h => h) (.inl ⟨rfl, ?_⟩) BV.out ?_
      rotate_left 1
      · intro w hSw; go_simp; try with_reducible rfl
      simp only [Act.put, List.setIfInBounds_toArray, List.set_cons_zero, List.set_cons_succ]
      refine wpAnyH_done (by kernel_rfl) ?_ _
      have FIN := Lib.hid (show v2.ownsRow w.heap.size 32 3 va2 (l.take (i + 1)).length ((l.take (i + 1)).flatMap encN) ∧ Below w.heap.size w v2 from ⟨by rw [SN.out]; exact ON.out, BV.out⟩)
      go_wp2
      go_roundw
      case rel => exact ⟨i + 1, by go_num, by omega, FIN⟩
      case measure => simp [intOf]; omega
    · have FIN := Lib.hid (show GsL wr (.slice oa (l.take i).length oc) l ∧ Below w.heap.size w wr from by
        have h := KK.out
        rw [show l.take i = l from List.take_of_length_le (by omega)] at h ⊢
        exact ⟨⟨own_liesK encN_len h.1, fun x hx => (H.out.2 x hx).step h.2⟩, h.2⟩)
      clear KK
      go_wp2
      go_returns
      exact ⟨_, rfl, FIN.out.1, FIN.out.2⟩
/-! ### ahead -/
set_option maxHeartbeats 3200000 in
theorem ahead_any (w : World) (x y : Gn) (h : LiesK encS 2 w x.v x.l) (hne : x.l ≠ []) (h' : LiesK encS 2 w y.v y.l) (hne' : y.l ≠ []) :
    Calls Try.prog 28 #[gvl x.n x.d x.v, gvl y.n y.d y.v] w fun e w' => e = .returned (.bool (ltG x.key y.key)) ∧ Below w.heap.size w w' := by
  have G1 := (vstep w (.cells #[.string x.n, .bool x.d, .slice x.a x.l.length x.c] 58)).trans ((vstep (w.alloc (.cells #[.string x.n, .bool x.d, .slice x.a x.l.length x.c] 58)) (.cells #[.string y.n, .bool y.d, .slice y.a y.l.length y.c] 58)).mono (vstep w _).size)
  have N1 := (heap_alloc_new w (.cells #[.string x.n, .bool x.d, .slice x.a x.l.length x.c] 58))
  have N2 := (heap_alloc_new (w.alloc (.cells #[.string x.n, .bool x.d, .slice x.a x.l.length x.c] 58)) (.cells #[.string y.n, .bool y.d, .slice y.a y.l.length y.c] 58))
  rw [World.size_alloc] at N2
  have N1 := ((vstep (w.alloc (.cells #[.string x.n, .bool x.d, .slice x.a x.l.length x.c] 58)) (.cells #[.string y.n, .bool y.d, .slice y.a y.l.length y.c] 58)).block _ (lt_of_block N1)).trans N1
  obtain ⟨W0, hW0⟩ : ∃ z, (w.alloc (.cells #[.string x.n, .bool x.d, .slice x.a x.l.length x.c] 58)).alloc (.cells #[.string y.n, .bool y.d, .slice y.a y.l.length y.c] 58) = z := ⟨_, rfl⟩
  rw [hW0] at G1 N1 N2
  have K0 := Lib.hid G1
  have HW := Lib.hid hW0
  have P1 := box3 N1
  have P2 := box3 N2
  have BX := Lib.hid (And.intro N1 N2)
  have hx1 : 0 < x.l.length := by cases hq : x.l with | nil => exact absurd hq hne | cons => simp
  have hy1 : 0 < y.l.length := by cases hq : y.l with | nil => exact absurd hq hne' | cons => simp
  obtain ⟨g, o, p, hxa, hp, hg, a0, a1⟩ := LiesK.st (show LiesK encS 2 W0 (.slice x.a x.l.length x.c) x.l from h.step K0.out) hx1
  obtain ⟨g', o', q, hya, hq, hg', b0, b1⟩ := LiesK.st (show LiesK encS 2 W0 (.slice y.a y.l.length y.c) y.l from h'.step K0.out) hy1
  have hp1 : p = h1 x.l := by cases hq : x.l with | nil => exact absurd hq hne | cons u r => rw [hq] at hp; injection hp with hp; exact hp.symm
  have hq1 : q = h1 y.l := by cases hq2 : y.l with | nil => exact absurd hq2 hne' | cons u r => rw [hq2] at hq; injection hq with hq; exact hq.symm
  simp only [Nat.zero_mul, Nat.add_zero] at a0 a1 b0 b1
  have HL := Lib.hid (And.intro h.len h'.len)
  have AF := Lib.hid (fun W (hb : Below W0.heap.size W0 W) => show W.cell? ⟨w.heap.size, 2, none⟩ = some (.slice x.a x.l.length x.c) ∧ W.cell? ⟨w.heap.size + 1, 2, none⟩ = some (.slice y.a y.l.length y.c) ∧ W.cell? ⟨g, o, none⟩ = some (.int .i64 p.1) ∧ W.cell? ⟨g, o + 1, none⟩ = some (.int .i64 p.2) ∧ W.cell? ⟨g', o', none⟩ = some (.int .i64 q.1) ∧ W.cell? ⟨g', o' + 1, none⟩ = some (.int .i64 q.2) from
    ⟨(box3 ((hb.block _ (lt_of_block BX.out.1)).trans BX.out.1)).2.2, (box3 ((hb.block _ (lt_of_block BX.out.2)).trans BX.out.2)).2.2, (hb.cell (p := ⟨g, o, none⟩) hg).trans a0, (hb.cell (p := ⟨g, o + 1, none⟩) hg).trans a1, (hb.cell (p := ⟨g', o', none⟩) hg').trans b0, (hb.cell (p := ⟨g', o' + 1, none⟩) hg').trans b1⟩)
  have LS := Lib.hid (fun W => rless_any W p q)
  have RES := Lib.hid (show ltG x.key y.key = if x.n = y.n then ltP p q else ltB x.n y.n from by rw [hp1, hq1]; rfl)
  obtain ⟨p1, p2⟩ := p
  obtain ⟨q1, q2⟩ := q
  obtain ⟨xn, xd, xa, xc, xl⟩ := x
  obtain ⟨yn, yd, ya, yc, yl⟩ := y
  dsimp only at *
  rw [RES.out]
  subst hxa hya
  show Calls Try.prog 28 #[gvl xn xd (.slice (some ⟨g, o, none⟩) xl.length xc), gvl yn yd (.slice (some ⟨g', o', none⟩) yl.length yc)] w _
  clear h h' hne hne' N1 N2 G1 hW0 BX a0 a1 b0 b1 hg hg' hp hq hp1 hq1 RES
  obtain ⟨x0, x1, x2⟩ := P1
  obtain ⟨y0, y1, y2⟩ := P2
  by_cases e : xn = yn
  · rw [if_pos e]
    have t1 := tl_eq e
    clear e
    go_enter Try.func28, Try.ntmps28
    go_upto_region 1 with (fail)
    rw [HW.out]
    go_upto_region 3 with (fail)
    clear x0 x1 x2 y0 y1 y2
    generalize W0 = w0 at *
    have l0 := fun z : Later w0 => (AF.out z.w z.below).1
    have l1 := fun z : Later w0 => (AF.out z.w z.below).2.1
    have l2 := fun z : Later w0 => (AF.out z.w z.below).2.2.1
    have l3 := fun z : Later w0 => (AF.out z.w z.below).2.2.2.1
    have l4 := fun z : Later w0 => (AF.out z.w z.below).2.2.2.2.1
    have l5 := fun z : Later w0 => (AF.out z.w z.below).2.2.2.2.2
    obtain ⟨hl1, hl2⟩ := HL.out
    refine wp_region_later (by kernel_rfl) (by kernel_rfl) ?_
    repeat (go_big_quiet_step (first | (go_at_call 37; with_reducible exact later_call (LS.out _))))
    refine wpQuiet_nil ?_
    rintro _ ⟨xl1, rfl⟩
    have K1 := Lib.hid (K0.out.trans (xl1.below.mono K0.out.size))
    generalize xl1.w = w1 at *
    clear l0 l1 l2 l3 l4 l5
    go_wp2
    go_returns
    exact ⟨rfl, K1.out⟩
  · rw [if_neg e]
    have t1 := tl_ne e
    clear e
    unfold ltB
    go_enter Try.func28, Try.ntmps28
    go_upto_region 1 with (fail)
    rw [HW.out]
    go_wp2
    go_returns
    exact ⟨rfl, K0.out⟩
end Go.Proofs.Ythbliaohaakbiaa
