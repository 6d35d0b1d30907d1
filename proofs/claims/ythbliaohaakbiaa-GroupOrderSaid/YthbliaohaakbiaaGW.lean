/- Items: are their nodes unlike; the program's; cloned. Made by gengw17.py. -/
import Derived.Test.YthbliaohaakbiaaRH
set_option linter.unusedVariables false
set_option linter.unusedSimpArgs false
set_option maxRecDepth 100000
namespace Go.Proofs.Ythbliaohaakbiaa
open Go.RowKit Go.Sort

def unlikeB (l : List It) : Bool := decide ((l.map ndI).Nodup)
theorem nodup_snoc {α : Type} {l : List α} {x : α} : (l ++ [x]).Nodup ↔ l.Nodup ∧ x ∉ l := by
  rw [List.nodup_append]
  constructor
  · rintro ⟨h1, _, h3⟩
    exact ⟨h1, fun h => h3 x h x (by simp) rfl⟩
  · rintro ⟨h1, h2⟩
    exact ⟨h1, by simp, fun a ha b hb => by rw [List.mem_singleton] at hb; subst hb; rintro rfl; exact h2 ha⟩
set_option maxHeartbeats 3200000 in
theorem may_any (w : World) (v : Value) (l : List It) (h : LiesK encI 4 w v l) :
    Calls Try.prog 7 #[v] w fun e w' => e = .returned (.bool (unlikeB l)) ∧ Below w.heap.size w w' := by
  have hl := h.len
  have H := Lib.hid h
  obtain ⟨ao, cap, rfl⟩ := h.shape
  clear h
  go_enter Try.func7, Try.ntmps7
  go_wp2
  go_loopw [3] (fun kv wr => ∃ i : Nat, kv = .int .i64 i ∧ i ≤ l.length ∧ Hid (((l.take i).map ndI).Nodup) ∧ ∃ n, wr = w.drewN n) (fun kv _ => l.length - (intOf kv).toNat)
  case atStart => exact ⟨0, rfl, Nat.zero_le _, Lib.hid (by simp), 0, rfl⟩
  case round =>
    obtain ⟨i, rfl, hi, hJ, n, rfl⟩ := hrel
    by_cases hlt : i < l.length
    · obtain ⟨g, o, x, rfl, hx, hg, a0, a1, a2, a3⟩ := H.out.it hlt
      go_wp2
      go_loopw [4] (fun kv wr => ∃ k : Nat, kv = .int .i64 k ∧ k ≤ i ∧ Hid (ndI x ∉ (l.take k).map ndI) ∧ ∃ n, wr = w.drewN n) (fun kv _ => i - (intOf kv).toNat)
      case atStart => exact ⟨0, rfl, Nat.zero_le _, Lib.hid (by simp), n, rfl⟩
      case round =>
        obtain ⟨k, rfl, hk, hN, m, rfl⟩ := hrel
        by_cases hlk : k < i
        · obtain ⟨g', o', y, e', hy, hg', b0, b1, b2, b3⟩ := H.out.it (show k < l.length by omega)
          injection e' with e'
          injection e' with e1 e2
          subst e1 e2
          by_cases hpp : x.t = y.t ∧ x.r = y.r
          · have HE := Lib.hid (show unlikeB l = false from decide_eq_false (fun hn => by
              have e : l = l.take i ++ (x :: l.drop (i + 1)) := by
                conv => lhs; rw [← List.take_append_drop i l]
                rw [List.drop_eq_getElem_cons hlt]
                rw [(List.getElem?_eq_some_iff.1 hx).2]
              rw [e, List.map_append, List.nodup_append] at hn
              refine hn.2.2 (ndI y) (List.mem_map.2 ⟨y, ?_, rfl⟩) (ndI x) (by simp) (by unfold ndI; rw [hpp.1, hpp.2])
              exact List.mem_iff_getElem?.2 ⟨k, by rw [List.getElem?_take, if_pos hlk]; exact hy⟩))
            have t1 := beqb_ _ _ hpp.1
            have t2 := beqb_ _ _ hpp.2
            clear hpp hx hy hg hg' hJ hN
            go_wp2
            go_quiet (fail)
            go_wp2
            go_returns
            exact ⟨ret_b' HE.out, by first | exact below_drewN _ _ | exact (below_drewN w m).trans ((below_drewN _ _).mono (below_drewN w m).size)⟩
          · have HN := Lib.hid (show ndI x ∉ (l.take (k + 1)).map ndI from by
              rw [take_snoc hy, List.map_append, List.mem_append]
              rintro (q | q)
              · exact hN.out q
              · simp [ndI] at q
                exact hpp q)
            rcases no2 hpp with x0 | ⟨x0, x1⟩
            all_goals
              clear hpp hx hy hg hg' hN
              go_wp2
              go_quiet (fail)
              go_wp2
              go_roundw
              case rel => exact ⟨k + 1, by go_num, by omega, HN, _, rfl⟩
              case measure => simp [intOf]; omega
        · have HJ := Lib.hid (show ((l.take (i + 1)).map ndI).Nodup from by
            rw [take_snoc hx, List.map_append]
            have hk : k = i := by omega
            subst hk
            exact nodup_snoc.2 ⟨hJ.out, hN.out⟩)
          clear hJ hN hx hg
          go_wp2
          go_roundw
          case rel => exact ⟨i + 1, by go_num, by omega, HJ, _, rfl⟩
          case measure => simp [intOf]; omega
    · have HE := Lib.hid (show unlikeB l = true from decide_eq_true (by have := hJ.out; rwa [List.take_of_length_le (by omega)] at this))
      clear hJ
      go_wp2
      go_returns
      exact ⟨ret_b' HE.out, by first | exact below_drewN _ _ | exact (below_drewN w n).trans ((below_drewN _ _).mono (below_drewN w n).size)⟩
theorem AFI {W0 : World} {g o i : Nat} {x : It} (hg : g < W0.heap.size) (a0 : W0.cell? ⟨g, o + i * 4, none⟩ = some (.int .i64 x.t)) (a1 : W0.cell? ⟨g, o + i * 4 + 1, none⟩ = some (.int .i64 x.r)) (a2 : W0.cell? ⟨g, o + i * 4 + 2, none⟩ = some (.string x.n)) (a3 : W0.cell? ⟨g, o + i * 4 + 3, none⟩ = some (.bool x.d)) (W : World) (hb : Below W0.heap.size W0 W) :
    W.cell? ⟨g, o + i * 4, none⟩ = some (.int .i64 x.t) ∧ W.cell? ⟨g, o + i * 4 + 1, none⟩ = some (.int .i64 x.r) ∧ W.cell? ⟨g, o + i * 4 + 2, none⟩ = some (.string x.n) ∧ W.cell? ⟨g, o + i * 4 + 3, none⟩ = some (.bool x.d) :=
  ⟨(hb.cell (p := ⟨g, o + i * 4, none⟩) hg).trans a0, (hb.cell (p := ⟨g, o + i * 4 + 1, none⟩) hg).trans a1, (hb.cell (p := ⟨g, o + i * 4 + 2, none⟩) hg).trans a2, (hb.cell (p := ⟨g, o + i * 4 + 3, none⟩) hg).trans a3⟩
set_option maxHeartbeats 3200000 in
theorem mine_any (w : World) (v : Value) (l : List It) (h : LiesK encI 4 w v l) (hl : l.length ≤ 1000) :
    Calls Try.prog 10 #[v] w fun e w' => ∃ r, e = .returned r ∧ LiesK encI 4 w' r l ∧ Below w.heap.size w w' := by
  obtain ⟨i0, hi9, hz0, hz1, hz2⟩ := info_parts info41
  have H := Lib.hid h
  have HLL := Lib.hid h.len
  obtain ⟨ao, cap, rfl⟩ := h.shape
  clear h
  go_enter Try.func10, Try.ntmps10
  go_wp2
  go_loopw [3, 4] (fun ov kv wr => ∃ i : Nat, kv = .int .i64 i ∧ i ≤ l.length ∧ Hid (wr.ownsRow w.heap.size 41 4 ov (l.take i).length ((l.take i).flatMap encI) ∧ Below w.heap.size w wr)) (fun _ kv _ => l.length - (intOf kv).toNat)
  case atStart => exact ⟨0, rfl, Nat.zero_le _, Lib.hid ⟨World.ownsRow_nil _ _ _ _, Below.refl _ _⟩⟩
  case round =>
    obtain ⟨i, rfl, hi, hK⟩ := hrel
    obtain ⟨oa, oc, rfl⟩ := own_shapeK hK.out.1
    have KK := Lib.hid hK.out
    clear hK
    by_cases hlt : i < l.length
    · obtain ⟨g, o, x, rfl, hx, hg, a0, a1, a2, a3⟩ := H.out.it hlt
      have AF := Lib.hid (fun W (hb : Below w.heap.size w W) => AFI hg a0 a1 a2 a3 W hb)
      have IX := Lib.hid (fun W => ix22 (g := g) (o := o) (cap := cap) hlt HLL.out W)
      have SN := Lib.hid (take_snoc hx)
      obtain ⟨m, hm⟩ : ∃ m, l.take i = m := ⟨_, rfl⟩
      have LM := Lib.hid (show m.length ≤ 1000 from by rw [← hm, List.length_take]; omega)
      rw [hm] at SN KK ⊢
      clear hm hx hg
      go_upto_region 5 with (fail)
      clear a0 a1 a2 a3
      have OB := Lib.hid (own_belowK KK.out.1 (Below.refl wr.heap.size wr).drew)
      refine wp_region_held_drew (S := fun w' => Below w.heap.size w w') (by kernel_rfl) ((KK.out.2.trans ((Below.refl wr.heap.size wr).drew.mono KK.out.2.size))) (fun hHeld => ?_)
      have BV := Lib.hid (show Below w.heap.size w wr.drew from (KK.out.2.trans ((Below.refl wr.heap.size wr).drew.mono KK.out.2.size)))
      clear hHeld
      refine take_at (i := 0) 11 ?_ rfl rfl (by kernel_rfl) (by kernel_rfl) (by kernel_rfl) (fun _ _ _ h => h) (.inl ⟨rfl, ?_⟩) BV.out ?_
      rotate_left 1
      · intro w hSw; go_simp; try with_reducible rfl
      simp only [Act.put, List.setIfInBounds_toArray, List.set_cons_zero, List.set_cons_succ]
      refine take_at (i := 1) 12 ?_ rfl rfl (by kernel_rfl) (by kernel_rfl) (by kernel_rfl) (fun _ _ _ h => h) (.inl ⟨rfl, ?_⟩) BV.out ?_
      rotate_left 1
      · intro w hSw; go_simp; try with_reducible rfl
      simp only [Act.put, List.setIfInBounds_toArray, List.set_cons_zero, List.set_cons_succ]
      refine take_at (i := 2) 13 ?_ rfl rfl (by kernel_rfl) (by kernel_rfl) (by kernel_rfl) (fun _ _ _ h => h) (.inl ⟨rfl, ?_⟩) BV.out ?_
      rotate_left 1
      · intro w hSw; go_simp; try with_reducible rfl
      simp only [Act.put, List.setIfInBounds_toArray, List.set_cons_zero, List.set_cons_succ]
      refine take_at (i := 3) 14 (.pointer (some ⟨g, o + i * 4, none⟩)) rfl rfl (by kernel_rfl) (by kernel_rfl) (by kernel_rfl) (fun _ _ _ h => h) (yields_ix (.tmp 12) (.tmp 13) 22 (.slice (some ⟨g, o, none⟩) l.length cap) (.int .i64 (i : Int)) _ (fun W => IX.out W) rfl rfl rfl rfl) BV.out ?_
      simp only [Act.put, List.setIfInBounds_toArray, List.set_cons_zero, List.set_cons_succ]
      refine take_at (i := 4) 15 ?_ rfl rfl (by kernel_rfl) (by kernel_rfl) (by kernel_rfl) (fun _ _ _ h => h) (.inl ⟨rfl, ?_⟩) BV.out ?_
      rotate_left 1
      · intro w hSw; go_simp; try with_reducible rfl
      simp only [Act.put, List.setIfInBounds_toArray, List.set_cons_zero, List.set_cons_succ]
      refine take_at (i := 5) 16 (.agg #[.int .i64 x.t, .int .i64 x.r]) rfl rfl (by kernel_rfl) (by kernel_rfl) (by kernel_rfl) (fun _ _ _ h => h) (yields_ld (.tmp 15) 39 (.pointer (some ⟨g, o + i * 4, none⟩)) _ (fun W hb => ldS (AF.out W hb).1 (AF.out W hb).2.1) rfl rfl rfl) BV.out ?_
      simp only [Act.put, List.setIfInBounds_toArray, List.set_cons_zero, List.set_cons_succ]
      refine take_at (i := 6) 17 ?_ rfl rfl (by kernel_rfl) (by kernel_rfl) (by kernel_rfl) (fun _ _ _ h => h) (.inl ⟨rfl, ?_⟩) BV.out ?_
      rotate_left 1
      · intro w hSw; go_simp; try with_reducible rfl
      simp only [Act.put, List.setIfInBounds_toArray, List.set_cons_zero, List.set_cons_succ]
      refine take_at (i := 7) 18 ?_ rfl rfl (by kernel_rfl) (by kernel_rfl) (by kernel_rfl) (fun _ _ _ h => h) (.inl ⟨rfl, ?_⟩) BV.out ?_
      rotate_left 1
      · intro w hSw; go_simp; try with_reducible rfl
      simp only [Act.put, List.setIfInBounds_toArray, List.set_cons_zero, List.set_cons_succ]
      refine take_at (i := 8) 19 (.pointer (some ⟨g, o + i * 4, none⟩)) rfl rfl (by kernel_rfl) (by kernel_rfl) (by kernel_rfl) (fun _ _ _ h => h) (yields_ix (.tmp 17) (.tmp 18) 22 (.slice (some ⟨g, o, none⟩) l.length cap) (.int .i64 (i : Int)) _ (fun W => IX.out W) rfl rfl rfl rfl) BV.out ?_
      simp only [Act.put, List.setIfInBounds_toArray, List.set_cons_zero, List.set_cons_succ]
      refine take_at (i := 9) 20 ?_ rfl rfl (by kernel_rfl) (by kernel_rfl) (by kernel_rfl) (fun _ _ _ h => h) (.inl ⟨rfl, ?_⟩) BV.out ?_
      rotate_left 1
      · intro w hSw; go_simp; try with_reducible rfl
      simp only [Act.put, List.setIfInBounds_toArray, List.set_cons_zero, List.set_cons_succ]
      refine take_at (i := 10) 21 (.string x.n) rfl rfl (by kernel_rfl) (by kernel_rfl) (by kernel_rfl) (fun _ _ _ h => h) (yields_ld (.tmp 20) 9 (.pointer (some ⟨g, o + i * 4 + 2, none⟩)) _ (fun W hb => ldT (AF.out W hb).2.2.1) rfl rfl rfl) BV.out ?_
      simp only [Act.put, List.setIfInBounds_toArray, List.set_cons_zero, List.set_cons_succ]
      refine take_at (i := 11) 22 ?_ rfl rfl (by kernel_rfl) (by kernel_rfl) (by kernel_rfl) (fun _ _ _ h => h) (.inl ⟨rfl, ?_⟩) BV.out ?_
      rotate_left 1
      · intro w hSw; go_simp; try with_reducible rfl
      simp only [Act.put, List.setIfInBounds_toArray, List.set_cons_zero, List.set_cons_succ]
      refine take_at (i := 12) 23 ?_ rfl rfl (by kernel_rfl) (by kernel_rfl) (by kernel_rfl) (fun _ _ _ h => h) (.inl ⟨rfl, ?_⟩) BV.out ?_
      rotate_left 1
      · intro w hSw; go_simp; try with_reducible rfl
      simp only [Act.put, List.setIfInBounds_toArray, List.set_cons_zero, List.set_cons_succ]
      refine take_at (i := 13) 24 (.pointer (some ⟨g, o + i * 4, none⟩)) rfl rfl (by kernel_rfl) (by kernel_rfl) (by kernel_rfl) (fun _ _ _ h => h) (yields_ix (.tmp 22) (.tmp 23) 22 (.slice (some ⟨g, o, none⟩) l.length cap) (.int .i64 (i : Int)) _ (fun W => IX.out W) rfl rfl rfl rfl) BV.out ?_
      simp only [Act.put, List.setIfInBounds_toArray, List.set_cons_zero, List.set_cons_succ]
      refine take_at (i := 14) 25 ?_ rfl rfl (by kernel_rfl) (by kernel_rfl) (by kernel_rfl) (fun _ _ _ h => h) (.inl ⟨rfl, ?_⟩) BV.out ?_
      rotate_left 1
      · intro w hSw; go_simp; try with_reducible rfl
      simp only [Act.put, List.setIfInBounds_toArray, List.set_cons_zero, List.set_cons_succ]
      refine take_at (i := 15) 26 (.bool x.d) rfl rfl (by kernel_rfl) (by kernel_rfl) (by kernel_rfl) (fun _ _ _ h => h) (yields_ld (.tmp 25) 4 (.pointer (some ⟨g, o + i * 4 + 3, none⟩)) _ (fun W hb => ldB (AF.out W hb).2.2.2) rfl rfl rfl) BV.out ?_
      simp only [Act.put, List.setIfInBounds_toArray, List.set_cons_zero, List.set_cons_succ]
      refine take_at (i := 16) 27 ?_ rfl rfl (by kernel_rfl) (by kernel_rfl) (by kernel_rfl) (fun _ _ _ h => h) (.inl ⟨rfl, ?_⟩) BV.out ?_
      rotate_left 1
      · intro w hSw; go_simp; try with_reducible rfl
      simp only [Act.put, List.setIfInBounds_toArray, List.set_cons_zero, List.set_cons_succ]
      refine wpAnyH_ready (rs := [17]) (by kernel_rfl) (by simp) (br_bslice (i := 17) 28 27 1 _ #[(0, ivl x)] _ _ rfl rfl rfl rfl rfl ((fun W => bsI W x) wr.drew) (BV.out.trans ((vstep wr.drew _).mono BV.out.size)) (fun _ => ?_) AllReadyH.nil)
      obtain ⟨v1, hv1⟩ : ∃ zz, wr.drew.alloc (.cells (encI x).toArray 41) = zz := ⟨_, rfl⟩
      have hb : Below wr.drew.heap.size wr.drew v1 := by rw [← hv1]; exact vstep wr.drew _
      have HX := Lib.hid (show v1.heap[wr.drew.heap.size]? = some (.cells (encI x).toArray 41 (0, 0)) from by rw [← hv1]; exact heap_alloc_new wr.drew _)
      rw [hv1]
      obtain ⟨k1, hk1⟩ : ∃ zz, wr.drew.heap.size = zz := ⟨_, rfl⟩
      rw [hk1] at HX ⊢
      have BV := Lib.hid (BV.out.trans (hb.mono BV.out.size))
      have OB := Lib.hid (own_belowK OB.out hb)
      clear hb hv1 hk1
      simp only [Act.put, List.setIfInBounds_toArray, List.set_cons_zero, List.set_cons_succ]
      obtain ⟨va2, v2, hr2, ho2, hg2⟩ := run_pushK (P := Try.prog) v1 27 27 encI_len (by decide) encI_one w.heap.size 41 i0 (.agg #[.int .i64 0, .int .i64 0, .string ⟨#[]⟩, .bool false]) 40 Try.u27 hi9 hz0 hz1 hz2 rfl (.slice oa m.length oc) m x k1 HX.out OB.out (by have := LM.out; unfold maxLen; omega) (by have := LM.out; omega) BV.out.size
      have BW2 := Lib.hid (show Below w.heap.size w v2 from BV.out.grown hg2 BV.out.size (fun k e => (OB.out.lt k e).1))
      have ON := Lib.hid ho2
      have HR2 := Lib.hid hr2
      clear hr2 ho2 hg2
      refine wpAnyH_ready (rs := [18]) (by kernel_rfl) (by simp) (br_append (i := 18) 29 (.tmp 11) (.tmp 28) 27 27 rfl rfl rfl rfl _ _ va2 v2 rfl rfl HR2.out BW2.out (fun _ => ?_) AllReadyH.nil)
      have BV := Lib.hid BW2.out
      clear HR2 BW2
      simp only [Act.put, List.setIfInBounds_toArray, List.set_cons_zero, List.set_cons_succ]
      refine take_at (i := 19) 3 ?_ rfl rfl (by kernel_rfl) (by kernel_rfl) (by kernel_rfl) (fun _ _ _ h => h) (.inl ⟨rfl, ?_⟩) BV.out ?_
      rotate_left 1
      · intro w hSw; go_simp; try with_reducible rfl
      simp only [Act.put, List.setIfInBounds_toArray, List.set_cons_zero, List.set_cons_succ]
      refine wpAnyH_done (by kernel_rfl) ?_ _
      have FIN := Lib.hid (show v2.ownsRow w.heap.size 41 4 va2 (l.take (i + 1)).length ((l.take (i + 1)).flatMap encI) ∧ Below w.heap.size w v2 from ⟨by rw [SN.out]; exact ON.out, BV.out⟩)
      go_wp2
      go_roundw
      case rel => exact ⟨i + 1, by go_num, by omega, FIN⟩
      case measure => simp [intOf]; omega
    · have FIN := Lib.hid (show LiesK encI 4 wr (.slice oa (l.take i).length oc) l ∧ Below w.heap.size w wr from by
        have h := KK.out
        rw [show l.take i = l from List.take_of_length_le (by omega)] at h ⊢
        exact ⟨own_liesK encI_len h.1, h.2⟩)
      clear KK
      go_wp2
      go_returns
      exact ⟨_, rfl, FIN.out.1, FIN.out.2⟩
theorem eq_nil (W : World) (c : Nat) : (binOp .eql 27 (.slice none 0 c) (.slice none 0 0)).run Try.prog W = .ok (.bool true) W := by
  kernel_rfl
theorem eq_some (W : World) (a : Addr) (n c : Nat) : (binOp .eql 27 (.slice (some a) n c) (.slice none 0 0)).run Try.prog W = .ok (.bool false) W := by
  kernel_rfl
set_option maxHeartbeats 1600000 in
theorem clone_any (w : World) (v : Value) (l : List It) (h : LiesK encI 4 w v l) (hl : l.length ≤ 1000) :
    Calls Try.prog 19 #[v] w fun e w' => ∃ r, e = .returned r ∧ w'.ownsRow w.heap.size 41 4 r l.length (l.flatMap encI) ∧ Below w.heap.size w w' := by
  obtain ⟨i0, hi9, hz0, hz1, hz2⟩ := info_parts info41
  have H := Lib.hid h
  obtain ⟨ao, cap, rfl⟩ := h.shape
  cases ao with
  | none =>
    have hn : l = [] := by obtain ⟨_, _, e, _, _, h0, _⟩ := h; injection e with e1; exact (h0 e1.symm).1
    clear h
    subst hn
    have hnil : ∀ W c, (binOp .eql 27 (.slice none 0 c) (.slice none 0 0)).run Try.prog W = .ok (.bool true) W := fun W c => eq_nil W c
    go_enter Try.func19, Try.ntmps19
    go_wp2
    go_returns
    exact ⟨_, rfl, World.ownsRow_nil _ _ _ _, Below.refl _ _⟩
  | some a =>
    clear h
    have hnil : ∀ W n c, (binOp .eql 27 (.slice (some a) n c) (.slice none 0 0)).run Try.prog W = .ok (.bool false) W := fun W n c => eq_some W a n c
    go_enter Try.func19, Try.ntmps19
    go_upto_region 3 with (fail)
    have B1 := Lib.hid (vstep w (.cells #[] 41))
    have O1 := Lib.hid (show (w.alloc (.cells #[] 41)).ownsRow w.heap.size 41 4 (.slice (some ⟨w.heap.size, 0, none⟩) 0 0) 0 [] from ⟨rfl, .inr ⟨w.heap.size, 0, #[], rfl, Nat.le_refl _, heap_alloc_new w _, Nat.le_refl _, Nat.zero_le _, rfl, rfl⟩⟩)
    have S1 := Lib.hid ((H.out.step B1.out).src Try.u27 encI_len (by decide) encI_one)
    have Q1 := Lib.hid (And.intro (show 0 + l.length ≤ maxLen from by unfold maxLen; omega) (And.intro (show (0 + l.length) * 40 ≤ 140737488355328 from by omega) (show w.heap.size ≤ (w.alloc (.cells #[] 41)).heap.size from by simp)))
    go_wp2_with (at_builtin; refine wpList_append_src_own rfl (.tmp 5) (.tmp 6) 27 27 rfl w.heap.size 41 i0 (.agg #[.int .i64 0, .int .i64 0, .string ⟨#[]⟩, .bool false]) 4 40 Try.u27 hi9 hz0 hz1 hz2 rfl (by decide) (.slice (some ⟨w.heap.size, 0, none⟩) 0 0) 0 [] rfl O1.out _ l.length (l.flatMap encI) rfl S1.out Q1.out.1 Q1.out.2.1 Q1.out.2.2 ?_; intro v2 w2 hown hgr _; have FIN := Lib.hid (show w2.ownsRow w.heap.size 41 4 v2 l.length (l.flatMap encI) ∧ Below w.heap.size w w2 from ⟨by rw [Nat.zero_add, List.nil_append] at hown; exact hown, B1.out.grown hgr B1.out.size (fun k e => by have : w.heap.size = k := (by simpa [Value.ownBlock] using e); omega)⟩); clear hown hgr)
    go_returns
    exact ⟨_, rfl, FIN.out.1, FIN.out.2⟩
end Go.Proofs.Ythbliaohaakbiaa
