/- The reference's Put. -/
import Derived.Test.YthpolhlhpdhomaaDoorLsD
set_option linter.unusedVariables false
namespace Go.Proofs.YthpolhlhpdhomaaDoor
open Go.RowKit

theorem putF_step (d : Bool) (x : St) (r : List St) (s : St) : putF d (x :: r) s = (if !d && !(lt x s) then [s] else []) ++ (if x ≠ s then [x] else []) ++ putF (d || !(lt x s)) r s := rfl

set_option maxRecDepth 100000 in
set_option maxHeartbeats 3200000 in
theorem rput_any (w : World) (v : Value) (l : List St) (s : St) (h : LiesS w v l) (hl : l.length ≤ 1000) :
    Calls Tryd.prog 28 #[v, .agg #[.int .i64 s.1, .int .i64 s.2]] w fun e w' => ∃ r, e = .returned r ∧ RowS w w' r (putF false l s) := by
  obtain ⟨i0, hi, hz0, hz1, hz2⟩ := info_parts Tryd.info23
  obtain ⟨s1, s2⟩ := s
  have X := Lib.hid ((Below.refl w.heap.size w).alloc (Nat.le_refl _) (.cells #[.int .i64 s1, .int .i64 s2] 23))
  have N := Lib.hid (heap_alloc_new w (.cells #[.int .i64 s1, .int .i64 s2] 23))
  have H := Lib.hid h
  obtain ⟨ao, cap, rfl⟩ := h.shape
  obtain ⟨W0, hW0⟩ : ∃ W0, w.alloc (.cells #[.int .i64 s1, .int .i64 s2] 23) = W0 := ⟨_, rfl⟩
  rw [hW0] at X N
  have hz : W0.heap.size = w.heap.size + 1 := by rw [← hW0]; simp
  have HZ := Lib.hid hz
  have HW := Lib.hid hW0
  clear hW0 h hz
  go_enter Tryd.func28, Tryd.ntmps28
  go_wp2_with fail
  rw [HW.out]
  go_loopw [5, 6, 7] (fun bv dv kv wr => ∃ (i : Nat) (cs : List St) (d : Bool), kv = .int .i64 i ∧ i ≤ l.length ∧ cs.length ≤ 2 * i ∧ dv = .bool d ∧ Hid (putF false l (s1, s2) = cs ++ putF d (l.drop i) (s1, s2) ∧ wr.ownsRow (w.heap.size + 1) 23 2 bv cs.length (cs2 cs) ∧ Below W0.heap.size W0 wr)) (fun _ _ kv _ => l.length - (intOf kv).toNat)
  case atStart => exact ⟨0, [], false, rfl, Nat.zero_le _, Nat.zero_le _, rfl, Lib.hid ⟨rfl, World.ownsRow_nil _ _ _ _, Below.refl _ _⟩⟩
  case round =>
    obtain ⟨i, cs, d, rfl, hil, hcl, rfl, hI⟩ := hrel
    have HC := Lib.hid hI.out.1
    have O0 := Lib.hid hI.out.2.1
    have B0 := Lib.hid hI.out.2.2
    obtain ⟨ba, bc, rfl⟩ := own_shape hI.out.2.1
    clear hI
    by_cases hlt : i < l.length
    · obtain ⟨p, hp⟩ : ∃ p, l[i]? = some p := ⟨_, List.getElem?_eq_getElem hlt⟩
      have hdr : l.drop i = p :: l.drop (i + 1) := by
        rw [← (List.getElem?_eq_some_iff.1 hp).2]; exact List.drop_eq_getElem_cons hlt
      have HL0 := H.out.later X.out
      obtain ⟨k, o, e1, _, _⟩ := H.out.at hp
      subst e1
      obtain ⟨p1, p2⟩ := p
      have FX : Hid (∀ W', Below W0.heap.size W0 W' → W'.cell? ⟨k, o + i * 2, none⟩ = some (.int .i64 p1) ∧ W'.cell? ⟨k, o + i * 2 + 1, none⟩ = some (.int .i64 p2) ∧ W'.cell? ⟨w.heap.size, 0, none⟩ = some (.int .i64 s1) ∧ W'.cell? ⟨w.heap.size, 1, none⟩ = some (.int .i64 s2)) := Lib.hid (fun W' hB => by
        obtain ⟨k', o', e1, d0, d1⟩ := (H.out.later (X.out.trans (hB.mono X.out.size))).at hp
        injection e1 with e1
        injection e1 with e1 e2
        subst e1 e2
        obtain ⟨b0, b1, _, _⟩ := two_cells (box_step N.out hB)
        exact ⟨d0, d1, b0, b1⟩)
      have HD : Hid (putF false l (s1, s2) = cs ++ ((if !d && !(lt (p1, p2) (s1, s2)) then [(s1, s2)] else []) ++ (if ((p1, p2) : St) ≠ (s1, s2) then [(p1, p2)] else []) ++ putF (d || !(lt (p1, p2) (s1, s2))) (l.drop (i + 1)) (s1, s2))) := Lib.hid (by rw [HC.out, hdr, putF_step])
      have hfacts : (p1 = s1 ∧ p2 = s2) ∨ (p1 ≠ s1) ∨ (p1 = s1 ∧ p2 ≠ s2) := by omega
      have L := Lib.hid (fun x : World => less_any x p1 p2 s1 s2)
      have hlx : lessB p1 p2 s1 s2 = lt (p1, p2) (s1, s2) := rfl
      rw [hlx] at L
      have HIRR := Lib.hid (lt_irr (p1, p2))
      obtain ⟨d0, d1, b0, b1⟩ := FX.out wr B0.out
      have h2000 : cs.length ≤ 2000 := by omega
      clear hp hdr HL0 HC hlx
      cases d with
      | true =>
        clear L
        simp only [Bool.not_true, Bool.false_and, Bool.true_or] at HD
        rcases hfacts with ⟨e1, e2⟩ | t | ⟨e1, t⟩
        · subst e1 e2
          have HE : Hid (putF false l (p1, p2) = cs ++ putF true (l.drop (i + 1)) (p1, p2)) := Lib.hid (by rw [HD.out]; simp)
          go_wp2
          go_quiet (fail)
          have BA := Lib.hid (B0.out.trans ((below_drewN wr nq).mono B0.out.size))
          have OA := Lib.hid (own_kept O0.out (below_drewN wr nq))
          obtain ⟨wA, hq⟩ : ∃ z, wr.drewN nq = z := ⟨_, rfl⟩
          rw [hq] at BA OA ⊢
          clear hq
          clear d0 d1 b0 b1
          obtain ⟨d0, d1, b0, b1⟩ := FX.out wA BA.out
          go_wp2
          go_quiet (fail)
          have BB := Lib.hid (BA.out.trans ((below_drewN wA nq).mono BA.out.size))
          have OB := Lib.hid (own_kept OA.out (below_drewN wA nq))
          obtain ⟨wB, hq⟩ : ∃ z, wA.drewN nq = z := ⟨_, rfl⟩
          rw [hq] at BB OB ⊢
          clear hq
          clear d0 d1 b0 b1
          obtain ⟨d0, d1, b0, b1⟩ := FX.out wB BB.out
          go_wp2
          go_roundw
          case rel => exact ⟨i + 1, cs, true, by go_num, by omega, by omega, rfl, Lib.hid ⟨HE.out, OB.out, BB.out⟩⟩
          case measure => simp [intOf]; omega
        · have t1 := bneb_ p1 s1 t
          have hne : ((p1, p2) : St) ≠ (s1, s2) := fun e => t (by injection e)
          clear t
          have HE : Hid (putF false l (s1, s2) = cs ++ [(p1, p2)] ++ putF true (l.drop (i + 1)) (s1, s2)) := Lib.hid (by rw [HD.out, if_pos hne]; simp)
          clear hne
          go_wp2
          go_quiet (fail)
          have BA := Lib.hid (B0.out.trans ((below_drewN wr nq).mono B0.out.size))
          have OA := Lib.hid (own_kept O0.out (below_drewN wr nq))
          obtain ⟨wA, hq⟩ : ∃ z, wr.drewN nq = z := ⟨_, rfl⟩
          rw [hq] at BA OA ⊢
          clear hq
          clear d0 d1 b0 b1
          obtain ⟨d0, d1, b0, b1⟩ := FX.out wA BA.out
          go_wp2
          go_quiet (fail)
          have BB := Lib.hid (BA.out.trans ((below_drewN wA nq).mono BA.out.size))
          have OB := Lib.hid (own_kept OA.out (below_drewN wA nq))
          obtain ⟨wB, hq⟩ : ∃ z, wA.drewN nq = z := ⟨_, rfl⟩
          rw [hq] at BB OB ⊢
          clear hq
          clear d0 d1 b0 b1
          obtain ⟨d0, d1, b0, b1⟩ := FX.out wB BB.out
          have BAl := Lib.hid (BB.out.alloc BB.out.size (.cells #[.int .i64 p1, .int .i64 p2] 23))
          have OAl := Lib.hid (OB.out.alloc (.cells #[.int .i64 p1, .int .i64 p2] 23))
          have hsa : w.heap.size + 1 ≤ (wB.alloc (.cells #[.int .i64 p1, .int .i64 p2] 23)).heap.size := by have := BAl.out.size; rw [HZ.out] at this; exact this
          have hlo : ∀ k, (Value.slice ba (cs.length) bc).ownBlock = some k → W0.heap.size ≤ k := fun k hk => by rw [HZ.out]; exact (OB.out.lt k hk).1
          have SR := Lib.hid (src_st wB (p1, p2))
          go_wp2_with (at_builtin; refine wpList_append_src_own rfl (.tmp 35) (.tmp 40) 35 35 rfl (w.heap.size + 1) 23 i0 (.agg #[.int .i64 0, .int .i64 0]) 2 16 Tryd.u35 hi hz0 hz1 hz2 rfl (by decide) (.slice ba (cs.length) bc) (cs.length) (cs2 cs) rfl OAl.out _ 1 (cs2 [(p1, p2)]) rfl SR.out (by unfold maxLen; omega) (by omega) hsa ?_; intro v3 wC hown hgr hspr; have OC := Lib.hid hown; have BC := Lib.hid (BAl.out.grown hgr BAl.out.size hlo); clear hown hgr hspr BAl OAl hsa hlo SR; obtain ⟨a3, c3, rfl⟩ := own_shape OC.out)
          go_roundw
          case rel => exact ⟨i + 1, cs ++ [(p1, p2)], true, by go_num, by omega, by rw [List.length_append]; show cs.length + 1 ≤ _; omega, rfl, Lib.hid ⟨HE.out, by rw [cs2_append, List.length_append]; exact OC.out, BC.out⟩⟩
          case measure => simp [intOf]; omega
        · subst e1
          have t1 := bneb_ p2 s2 t
          have hne : ((p1, p2) : St) ≠ (p1, s2) := fun e => t (by injection e)
          clear t
          have HE : Hid (putF false l (p1, s2) = cs ++ [(p1, p2)] ++ putF true (l.drop (i + 1)) (p1, s2)) := Lib.hid (by rw [HD.out, if_pos hne]; simp)
          clear hne
          go_wp2
          go_quiet (fail)
          have BA := Lib.hid (B0.out.trans ((below_drewN wr nq).mono B0.out.size))
          have OA := Lib.hid (own_kept O0.out (below_drewN wr nq))
          obtain ⟨wA, hq⟩ : ∃ z, wr.drewN nq = z := ⟨_, rfl⟩
          rw [hq] at BA OA ⊢
          clear hq
          clear d0 d1 b0 b1
          obtain ⟨d0, d1, b0, b1⟩ := FX.out wA BA.out
          go_wp2
          go_quiet (fail)
          have BB := Lib.hid (BA.out.trans ((below_drewN wA nq).mono BA.out.size))
          have OB := Lib.hid (own_kept OA.out (below_drewN wA nq))
          obtain ⟨wB, hq⟩ : ∃ z, wA.drewN nq = z := ⟨_, rfl⟩
          rw [hq] at BB OB ⊢
          clear hq
          clear d0 d1 b0 b1
          obtain ⟨d0, d1, b0, b1⟩ := FX.out wB BB.out
          have BAl := Lib.hid (BB.out.alloc BB.out.size (.cells #[.int .i64 p1, .int .i64 p2] 23))
          have OAl := Lib.hid (OB.out.alloc (.cells #[.int .i64 p1, .int .i64 p2] 23))
          have hsa : w.heap.size + 1 ≤ (wB.alloc (.cells #[.int .i64 p1, .int .i64 p2] 23)).heap.size := by have := BAl.out.size; rw [HZ.out] at this; exact this
          have hlo : ∀ k, (Value.slice ba (cs.length) bc).ownBlock = some k → W0.heap.size ≤ k := fun k hk => by rw [HZ.out]; exact (OB.out.lt k hk).1
          have SR := Lib.hid (src_st wB (p1, p2))
          go_wp2_with (at_builtin; refine wpList_append_src_own rfl (.tmp 35) (.tmp 40) 35 35 rfl (w.heap.size + 1) 23 i0 (.agg #[.int .i64 0, .int .i64 0]) 2 16 Tryd.u35 hi hz0 hz1 hz2 rfl (by decide) (.slice ba (cs.length) bc) (cs.length) (cs2 cs) rfl OAl.out _ 1 (cs2 [(p1, p2)]) rfl SR.out (by unfold maxLen; omega) (by omega) hsa ?_; intro v3 wC hown hgr hspr; have OC := Lib.hid hown; have BC := Lib.hid (BAl.out.grown hgr BAl.out.size hlo); clear hown hgr hspr BAl OAl hsa hlo SR; obtain ⟨a3, c3, rfl⟩ := own_shape OC.out)
          go_roundw
          case rel => exact ⟨i + 1, cs ++ [(p1, p2)], true, by go_num, by omega, by rw [List.length_append]; show cs.length + 1 ≤ _; omega, rfl, Lib.hid ⟨HE.out, by rw [cs2_append, List.length_append]; exact OC.out, BC.out⟩⟩
          case measure => simp [intOf]; omega
      | false =>
        cases hlt2 : lt (p1, p2) (s1, s2) with
        | true =>
          rw [hlt2] at L
          rw [hlt2] at HD
          simp only [Bool.not_true, Bool.and_false, Bool.or_false] at HD
          rcases hfacts with ⟨e1, e2⟩ | t | ⟨e1, t⟩
          · subst e1 e2
            rw [HIRR.out] at hlt2
            cases hlt2
          · clear hlt2
            have t1 := bneb_ p1 s1 t
            have hne : ((p1, p2) : St) ≠ (s1, s2) := fun e => t (by injection e)
            clear t
            have HE : Hid (putF false l (s1, s2) = cs ++ [(p1, p2)] ++ putF false (l.drop (i + 1)) (s1, s2)) := Lib.hid (by rw [HD.out, if_pos hne]; simp)
            clear hne
            have c0 := lcell d0
            have c1 := lcell d1
            have c2 := lcell b0
            have c3 := lcell b1
            clear d0 d1 b0 b1
            go_wp2
            refine wp_region_later (by kernel_rfl) (by kernel_rfl) ?_
            repeat (go_big_quiet_step (first | (go_at_call 41; with_reducible exact later_call (L.out _))))
            refine wpQuiet_nil ?_
            intro _ hw'
            obtain ⟨xl, hw''⟩ := hw'
            subst hw''
            have BA := Lib.hid (B0.out.trans (xl.below.mono B0.out.size))
            have OA := Lib.hid (own_kept O0.out xl.below)
            obtain ⟨wA, hq⟩ : ∃ z, xl.w = z := ⟨_, rfl⟩
            rw [hq] at BA OA ⊢
            clear hq c0 c1 c2 c3
            obtain ⟨d0, d1, b0, b1⟩ := FX.out wA BA.out
            go_wp2
            go_quiet (fail)
            have BB := Lib.hid (BA.out.trans ((below_drewN wA nq).mono BA.out.size))
            have OB := Lib.hid (own_kept OA.out (below_drewN wA nq))
            obtain ⟨wB, hq⟩ : ∃ z, wA.drewN nq = z := ⟨_, rfl⟩
            rw [hq] at BB OB ⊢
            clear hq
            clear d0 d1 b0 b1
            obtain ⟨d0, d1, b0, b1⟩ := FX.out wB BB.out
            have BAl := Lib.hid (BB.out.alloc BB.out.size (.cells #[.int .i64 p1, .int .i64 p2] 23))
            have OAl := Lib.hid (OB.out.alloc (.cells #[.int .i64 p1, .int .i64 p2] 23))
            have hsa : w.heap.size + 1 ≤ (wB.alloc (.cells #[.int .i64 p1, .int .i64 p2] 23)).heap.size := by have := BAl.out.size; rw [HZ.out] at this; exact this
            have hlo : ∀ k, (Value.slice ba (cs.length) bc).ownBlock = some k → W0.heap.size ≤ k := fun k hk => by rw [HZ.out]; exact (OB.out.lt k hk).1
            have SR := Lib.hid (src_st wB (p1, p2))
            go_wp2_with (at_builtin; refine wpList_append_src_own rfl (.tmp 35) (.tmp 40) 35 35 rfl (w.heap.size + 1) 23 i0 (.agg #[.int .i64 0, .int .i64 0]) 2 16 Tryd.u35 hi hz0 hz1 hz2 rfl (by decide) (.slice ba (cs.length) bc) (cs.length) (cs2 cs) rfl OAl.out _ 1 (cs2 [(p1, p2)]) rfl SR.out (by unfold maxLen; omega) (by omega) hsa ?_; intro v3 wC hown hgr hspr; have OC := Lib.hid hown; have BC := Lib.hid (BAl.out.grown hgr BAl.out.size hlo); clear hown hgr hspr BAl OAl hsa hlo SR; obtain ⟨a3, c3, rfl⟩ := own_shape OC.out)
            go_roundw
            case rel => exact ⟨i + 1, cs ++ [(p1, p2)], false, by go_num, by omega, by rw [List.length_append]; show cs.length + 1 ≤ _; omega, rfl, Lib.hid ⟨HE.out, by rw [cs2_append, List.length_append]; exact OC.out, BC.out⟩⟩
            case measure => simp [intOf]; omega
          · clear hlt2
            subst e1
            have t1 := bneb_ p2 s2 t
            have hne : ((p1, p2) : St) ≠ (p1, s2) := fun e => t (by injection e)
            clear t
            have HE : Hid (putF false l (p1, s2) = cs ++ [(p1, p2)] ++ putF false (l.drop (i + 1)) (p1, s2)) := Lib.hid (by rw [HD.out, if_pos hne]; simp)
            clear hne
            have c0 := lcell d0
            have c1 := lcell d1
            have c2 := lcell b0
            have c3 := lcell b1
            clear d0 d1 b0 b1
            go_wp2
            refine wp_region_later (by kernel_rfl) (by kernel_rfl) ?_
            repeat (go_big_quiet_step (first | (go_at_call 41; with_reducible exact later_call (L.out _))))
            refine wpQuiet_nil ?_
            intro _ hw'
            obtain ⟨xl, hw''⟩ := hw'
            subst hw''
            have BA := Lib.hid (B0.out.trans (xl.below.mono B0.out.size))
            have OA := Lib.hid (own_kept O0.out xl.below)
            obtain ⟨wA, hq⟩ : ∃ z, xl.w = z := ⟨_, rfl⟩
            rw [hq] at BA OA ⊢
            clear hq c0 c1 c2 c3
            obtain ⟨d0, d1, b0, b1⟩ := FX.out wA BA.out
            go_wp2
            go_quiet (fail)
            have BB := Lib.hid (BA.out.trans ((below_drewN wA nq).mono BA.out.size))
            have OB := Lib.hid (own_kept OA.out (below_drewN wA nq))
            obtain ⟨wB, hq⟩ : ∃ z, wA.drewN nq = z := ⟨_, rfl⟩
            rw [hq] at BB OB ⊢
            clear hq
            clear d0 d1 b0 b1
            obtain ⟨d0, d1, b0, b1⟩ := FX.out wB BB.out
            have BAl := Lib.hid (BB.out.alloc BB.out.size (.cells #[.int .i64 p1, .int .i64 p2] 23))
            have OAl := Lib.hid (OB.out.alloc (.cells #[.int .i64 p1, .int .i64 p2] 23))
            have hsa : w.heap.size + 1 ≤ (wB.alloc (.cells #[.int .i64 p1, .int .i64 p2] 23)).heap.size := by have := BAl.out.size; rw [HZ.out] at this; exact this
            have hlo : ∀ k, (Value.slice ba (cs.length) bc).ownBlock = some k → W0.heap.size ≤ k := fun k hk => by rw [HZ.out]; exact (OB.out.lt k hk).1
            have SR := Lib.hid (src_st wB (p1, p2))
            go_wp2_with (at_builtin; refine wpList_append_src_own rfl (.tmp 35) (.tmp 40) 35 35 rfl (w.heap.size + 1) 23 i0 (.agg #[.int .i64 0, .int .i64 0]) 2 16 Tryd.u35 hi hz0 hz1 hz2 rfl (by decide) (.slice ba (cs.length) bc) (cs.length) (cs2 cs) rfl OAl.out _ 1 (cs2 [(p1, p2)]) rfl SR.out (by unfold maxLen; omega) (by omega) hsa ?_; intro v3 wC hown hgr hspr; have OC := Lib.hid hown; have BC := Lib.hid (BAl.out.grown hgr BAl.out.size hlo); clear hown hgr hspr BAl OAl hsa hlo SR; obtain ⟨a3, c3, rfl⟩ := own_shape OC.out)
            go_roundw
            case rel => exact ⟨i + 1, cs ++ [(p1, p2)], false, by go_num, by omega, by rw [List.length_append]; show cs.length + 1 ≤ _; omega, rfl, Lib.hid ⟨HE.out, by rw [cs2_append, List.length_append]; exact OC.out, BC.out⟩⟩
            case measure => simp [intOf]; omega
        | false =>
          rw [hlt2] at L
          rw [hlt2] at HD
          simp only [Bool.not_false, Bool.and_self, Bool.or_true, if_true] at HD
          clear hlt2
          rcases hfacts with ⟨e1, e2⟩ | t | ⟨e1, t⟩
          · subst e1 e2
            have HE : Hid (putF false l (p1, p2) = cs ++ [(p1, p2)] ++ putF true (l.drop (i + 1)) (p1, p2)) := Lib.hid (by rw [HD.out]; simp)
            have c0 := lcell d0
            have c1 := lcell d1
            have c2 := lcell b0
            have c3 := lcell b1
            clear d0 d1 b0 b1
            go_wp2
            refine wp_region_later (by kernel_rfl) (by kernel_rfl) ?_
            repeat (go_big_quiet_step (first | (go_at_call 41; with_reducible exact later_call (L.out _))))
            refine wpQuiet_nil ?_
            intro _ hw'
            obtain ⟨xl, hw''⟩ := hw'
            subst hw''
            have BA := Lib.hid (B0.out.trans (xl.below.mono B0.out.size))
            have OA := Lib.hid (own_kept O0.out xl.below)
            obtain ⟨wA, hq⟩ : ∃ z, xl.w = z := ⟨_, rfl⟩
            rw [hq] at BA OA ⊢
            clear hq c0 c1 c2 c3
            obtain ⟨d0, d1, b0, b1⟩ := FX.out wA BA.out
            have BAl := Lib.hid (BA.out.alloc BA.out.size (.cells #[.int .i64 p1, .int .i64 p2] 23))
            have OAl := Lib.hid (OA.out.alloc (.cells #[.int .i64 p1, .int .i64 p2] 23))
            have hsa : w.heap.size + 1 ≤ (wA.alloc (.cells #[.int .i64 p1, .int .i64 p2] 23)).heap.size := by have := BAl.out.size; rw [HZ.out] at this; exact this
            have hlo : ∀ k, (Value.slice ba (cs.length) bc).ownBlock = some k → W0.heap.size ≤ k := fun k hk => by rw [HZ.out]; exact (OA.out.lt k hk).1
            have SR := Lib.hid (src_st wA (p1, p2))
            go_wp2_with (at_builtin; refine wpList_append_src_own rfl (.tmp 25) (.tmp 27) 35 35 rfl (w.heap.size + 1) 23 i0 (.agg #[.int .i64 0, .int .i64 0]) 2 16 Tryd.u35 hi hz0 hz1 hz2 rfl (by decide) (.slice ba (cs.length) bc) (cs.length) (cs2 cs) rfl OAl.out _ 1 (cs2 [(p1, p2)]) rfl SR.out (by unfold maxLen; omega) (by omega) hsa ?_; intro v3 wC hown hgr hspr; have OC := Lib.hid hown; have BC := Lib.hid (BAl.out.grown hgr BAl.out.size hlo); clear hown hgr hspr BAl OAl hsa hlo SR; obtain ⟨a3, c3, rfl⟩ := own_shape OC.out)
            clear d0 d1 b0 b1
            obtain ⟨d0, d1, b0, b1⟩ := FX.out wC BC.out
            go_wp2
            go_quiet (fail)
            have BD := Lib.hid (BC.out.trans ((below_drewN wC nq).mono BC.out.size))
            have OD := Lib.hid (own_kept OC.out (below_drewN wC nq))
            obtain ⟨wD, hq⟩ : ∃ z, wC.drewN nq = z := ⟨_, rfl⟩
            rw [hq] at BD OD ⊢
            clear hq
            clear d0 d1 b0 b1
            obtain ⟨d0, d1, b0, b1⟩ := FX.out wD BD.out
            go_wp2
            go_roundw
            case rel => exact ⟨i + 1, cs ++ [(p1, p2)], true, by go_num, by omega, by rw [List.length_append]; show cs.length + 1 ≤ _; omega, rfl, Lib.hid ⟨HE.out, by rw [cs2_append, List.length_append]; exact OD.out, BD.out⟩⟩
            case measure => simp [intOf]; omega
          · have t1 := bneb_ p1 s1 t
            have hne : ((p1, p2) : St) ≠ (s1, s2) := fun e => t (by injection e)
            clear t
            have HE : Hid (putF false l (s1, s2) = cs ++ [(s1, s2)] ++ [(p1, p2)] ++ putF true (l.drop (i + 1)) (s1, s2)) := Lib.hid (by rw [HD.out, if_pos hne]; simp)
            clear hne
            have c0 := lcell d0
            have c1 := lcell d1
            have c2 := lcell b0
            have c3 := lcell b1
            clear d0 d1 b0 b1
            go_wp2
            refine wp_region_later (by kernel_rfl) (by kernel_rfl) ?_
            repeat (go_big_quiet_step (first | (go_at_call 41; with_reducible exact later_call (L.out _))))
            refine wpQuiet_nil ?_
            intro _ hw'
            obtain ⟨xl, hw''⟩ := hw'
            subst hw''
            have BA := Lib.hid (B0.out.trans (xl.below.mono B0.out.size))
            have OA := Lib.hid (own_kept O0.out xl.below)
            obtain ⟨wA, hq⟩ : ∃ z, xl.w = z := ⟨_, rfl⟩
            rw [hq] at BA OA ⊢
            clear hq c0 c1 c2 c3
            obtain ⟨d0, d1, b0, b1⟩ := FX.out wA BA.out
            have BAl := Lib.hid (BA.out.alloc BA.out.size (.cells #[.int .i64 s1, .int .i64 s2] 23))
            have OAl := Lib.hid (OA.out.alloc (.cells #[.int .i64 s1, .int .i64 s2] 23))
            have hsa : w.heap.size + 1 ≤ (wA.alloc (.cells #[.int .i64 s1, .int .i64 s2] 23)).heap.size := by have := BAl.out.size; rw [HZ.out] at this; exact this
            have hlo : ∀ k, (Value.slice ba (cs.length) bc).ownBlock = some k → W0.heap.size ≤ k := fun k hk => by rw [HZ.out]; exact (OA.out.lt k hk).1
            have SR := Lib.hid (src_st wA (s1, s2))
            go_wp2_with (at_builtin; refine wpList_append_src_own rfl (.tmp 25) (.tmp 27) 35 35 rfl (w.heap.size + 1) 23 i0 (.agg #[.int .i64 0, .int .i64 0]) 2 16 Tryd.u35 hi hz0 hz1 hz2 rfl (by decide) (.slice ba (cs.length) bc) (cs.length) (cs2 cs) rfl OAl.out _ 1 (cs2 [(s1, s2)]) rfl SR.out (by unfold maxLen; omega) (by omega) hsa ?_; intro v3 wC hown hgr hspr; have OC := Lib.hid hown; have BC := Lib.hid (BAl.out.grown hgr BAl.out.size hlo); clear hown hgr hspr BAl OAl hsa hlo SR; obtain ⟨a3, c3, rfl⟩ := own_shape OC.out)
            clear d0 d1 b0 b1
            obtain ⟨d0, d1, b0, b1⟩ := FX.out wC BC.out
            go_wp2
            go_quiet (fail)
            have BD := Lib.hid (BC.out.trans ((below_drewN wC nq).mono BC.out.size))
            have OD := Lib.hid (own_kept OC.out (below_drewN wC nq))
            obtain ⟨wD, hq⟩ : ∃ z, wC.drewN nq = z := ⟨_, rfl⟩
            rw [hq] at BD OD ⊢
            clear hq
            clear d0 d1 b0 b1
            obtain ⟨d0, d1, b0, b1⟩ := FX.out wD BD.out
            have BAl := Lib.hid (BD.out.alloc BD.out.size (.cells #[.int .i64 p1, .int .i64 p2] 23))
            have OAl := Lib.hid (OD.out.alloc (.cells #[.int .i64 p1, .int .i64 p2] 23))
            have hsa : w.heap.size + 1 ≤ (wD.alloc (.cells #[.int .i64 p1, .int .i64 p2] 23)).heap.size := by have := BAl.out.size; rw [HZ.out] at this; exact this
            have hlo : ∀ k, (Value.slice a3 (cs.length + 1) c3).ownBlock = some k → W0.heap.size ≤ k := fun k hk => by rw [HZ.out]; exact (OD.out.lt k hk).1
            have SR := Lib.hid (src_st wD (p1, p2))
            go_wp2_with (at_builtin; refine wpList_append_src_own rfl (.tmp 35) (.tmp 40) 35 35 rfl (w.heap.size + 1) 23 i0 (.agg #[.int .i64 0, .int .i64 0]) 2 16 Tryd.u35 hi hz0 hz1 hz2 rfl (by decide) (.slice a3 (cs.length + 1) c3) (cs.length + 1) (cs2 cs ++ cs2 [(s1, s2)]) rfl OAl.out _ 1 (cs2 [(p1, p2)]) rfl SR.out (by unfold maxLen; omega) (by omega) hsa ?_; intro v3 wE hown hgr hspr; have OE := Lib.hid hown; have BE := Lib.hid (BAl.out.grown hgr BAl.out.size hlo); clear hown hgr hspr BAl OAl hsa hlo SR; obtain ⟨a4, c4, rfl⟩ := own_shape OE.out)
            go_roundw
            case rel => exact ⟨i + 1, cs ++ [(s1, s2)] ++ [(p1, p2)], true, by go_num, by omega, by rw [List.length_append, List.length_append]; show cs.length + 1 + 1 ≤ _; omega, rfl, Lib.hid ⟨HE.out, by rw [cs2_append, cs2_append, List.length_append, List.length_append]; exact OE.out, BE.out⟩⟩
            case measure => simp [intOf]; omega
          · subst e1
            have t1 := bneb_ p2 s2 t
            have hne : ((p1, p2) : St) ≠ (p1, s2) := fun e => t (by injection e)
            clear t
            have HE : Hid (putF false l (p1, s2) = cs ++ [(p1, s2)] ++ [(p1, p2)] ++ putF true (l.drop (i + 1)) (p1, s2)) := Lib.hid (by rw [HD.out, if_pos hne]; simp)
            clear hne
            have c0 := lcell d0
            have c1 := lcell d1
            have c2 := lcell b0
            have c3 := lcell b1
            clear d0 d1 b0 b1
            go_wp2
            refine wp_region_later (by kernel_rfl) (by kernel_rfl) ?_
            repeat (go_big_quiet_step (first | (go_at_call 41; with_reducible exact later_call (L.out _))))
            refine wpQuiet_nil ?_
            intro _ hw'
            obtain ⟨xl, hw''⟩ := hw'
            subst hw''
            have BA := Lib.hid (B0.out.trans (xl.below.mono B0.out.size))
            have OA := Lib.hid (own_kept O0.out xl.below)
            obtain ⟨wA, hq⟩ : ∃ z, xl.w = z := ⟨_, rfl⟩
            rw [hq] at BA OA ⊢
            clear hq c0 c1 c2 c3
            obtain ⟨d0, d1, b0, b1⟩ := FX.out wA BA.out
            have BAl := Lib.hid (BA.out.alloc BA.out.size (.cells #[.int .i64 p1, .int .i64 s2] 23))
            have OAl := Lib.hid (OA.out.alloc (.cells #[.int .i64 p1, .int .i64 s2] 23))
            have hsa : w.heap.size + 1 ≤ (wA.alloc (.cells #[.int .i64 p1, .int .i64 s2] 23)).heap.size := by have := BAl.out.size; rw [HZ.out] at this; exact this
            have hlo : ∀ k, (Value.slice ba (cs.length) bc).ownBlock = some k → W0.heap.size ≤ k := fun k hk => by rw [HZ.out]; exact (OA.out.lt k hk).1
            have SR := Lib.hid (src_st wA (p1, s2))
            go_wp2_with (at_builtin; refine wpList_append_src_own rfl (.tmp 25) (.tmp 27) 35 35 rfl (w.heap.size + 1) 23 i0 (.agg #[.int .i64 0, .int .i64 0]) 2 16 Tryd.u35 hi hz0 hz1 hz2 rfl (by decide) (.slice ba (cs.length) bc) (cs.length) (cs2 cs) rfl OAl.out _ 1 (cs2 [(p1, s2)]) rfl SR.out (by unfold maxLen; omega) (by omega) hsa ?_; intro v3 wC hown hgr hspr; have OC := Lib.hid hown; have BC := Lib.hid (BAl.out.grown hgr BAl.out.size hlo); clear hown hgr hspr BAl OAl hsa hlo SR; obtain ⟨a3, c3, rfl⟩ := own_shape OC.out)
            clear d0 d1 b0 b1
            obtain ⟨d0, d1, b0, b1⟩ := FX.out wC BC.out
            go_wp2
            go_quiet (fail)
            have BD := Lib.hid (BC.out.trans ((below_drewN wC nq).mono BC.out.size))
            have OD := Lib.hid (own_kept OC.out (below_drewN wC nq))
            obtain ⟨wD, hq⟩ : ∃ z, wC.drewN nq = z := ⟨_, rfl⟩
            rw [hq] at BD OD ⊢
            clear hq
            clear d0 d1 b0 b1
            obtain ⟨d0, d1, b0, b1⟩ := FX.out wD BD.out
            have BAl := Lib.hid (BD.out.alloc BD.out.size (.cells #[.int .i64 p1, .int .i64 p2] 23))
            have OAl := Lib.hid (OD.out.alloc (.cells #[.int .i64 p1, .int .i64 p2] 23))
            have hsa : w.heap.size + 1 ≤ (wD.alloc (.cells #[.int .i64 p1, .int .i64 p2] 23)).heap.size := by have := BAl.out.size; rw [HZ.out] at this; exact this
            have hlo : ∀ k, (Value.slice a3 (cs.length + 1) c3).ownBlock = some k → W0.heap.size ≤ k := fun k hk => by rw [HZ.out]; exact (OD.out.lt k hk).1
            have SR := Lib.hid (src_st wD (p1, p2))
            go_wp2_with (at_builtin; refine wpList_append_src_own rfl (.tmp 35) (.tmp 40) 35 35 rfl (w.heap.size + 1) 23 i0 (.agg #[.int .i64 0, .int .i64 0]) 2 16 Tryd.u35 hi hz0 hz1 hz2 rfl (by decide) (.slice a3 (cs.length + 1) c3) (cs.length + 1) (cs2 cs ++ cs2 [(p1, s2)]) rfl OAl.out _ 1 (cs2 [(p1, p2)]) rfl SR.out (by unfold maxLen; omega) (by omega) hsa ?_; intro v3 wE hown hgr hspr; have OE := Lib.hid hown; have BE := Lib.hid (BAl.out.grown hgr BAl.out.size hlo); clear hown hgr hspr BAl OAl hsa hlo SR; obtain ⟨a4, c4, rfl⟩ := own_shape OE.out)
            go_roundw
            case rel => exact ⟨i + 1, cs ++ [(p1, s2)] ++ [(p1, p2)], true, by go_num, by omega, by rw [List.length_append, List.length_append]; show cs.length + 1 + 1 ≤ _; omega, rfl, Lib.hid ⟨HE.out, by rw [cs2_append, cs2_append, List.length_append, List.length_append]; exact OE.out, BE.out⟩⟩
            case measure => simp [intOf]; omega
    · have hie : l.drop i = [] := List.drop_of_length_le (by omega)
      have HE : Hid (putF false l (s1, s2) = cs ++ putF d [] (s1, s2)) := Lib.hid (by rw [HC.out, hie])
      have HBw := Lib.hid (X.out.trans (B0.out.mono X.out.size))
      obtain ⟨b0, b1, _, _⟩ := two_cells (box_step N.out B0.out)
      have h2000 : cs.length ≤ 2000 := by omega
      clear hie HC
      cases d with
      | true =>
        go_wp2
        go_returns
        refine ⟨_, rfl, ?_⟩
        rw [HE.out, show putF true [] (s1, s2) = [] from rfl, List.append_nil]
        exact ⟨own_less O0.out, HBw.out⟩
      | false =>
        have BAl := Lib.hid (B0.out.alloc B0.out.size (.cells #[.int .i64 s1, .int .i64 s2] 23))
        have OAl := Lib.hid (O0.out.alloc (.cells #[.int .i64 s1, .int .i64 s2] 23))
        have hsa : w.heap.size + 1 ≤ (wr.alloc (.cells #[.int .i64 s1, .int .i64 s2] 23)).heap.size := by have := BAl.out.size; rw [HZ.out] at this; exact this
        have hlo : ∀ k, (Value.slice ba (cs.length) bc).ownBlock = some k → W0.heap.size ≤ k := fun k hk => by rw [HZ.out]; exact (O0.out.lt k hk).1
        have SR := Lib.hid (src_st wr (s1, s2))
        go_wp2_with (at_builtin; refine wpList_append_src_own rfl (.tmp 44) (.tmp 46) 35 35 rfl (w.heap.size + 1) 23 i0 (.agg #[.int .i64 0, .int .i64 0]) 2 16 Tryd.u35 hi hz0 hz1 hz2 rfl (by decide) (.slice ba (cs.length) bc) (cs.length) (cs2 cs) rfl OAl.out _ 1 (cs2 [(s1, s2)]) rfl SR.out (by unfold maxLen; omega) (by omega) hsa ?_; intro v3 wC hown hgr hspr; have OC := Lib.hid hown; have BC := Lib.hid (BAl.out.grown hgr BAl.out.size hlo); clear hown hgr hspr BAl OAl hsa hlo SR; obtain ⟨a3, c3, rfl⟩ := own_shape OC.out)
        go_returns
        refine ⟨_, rfl, ?_⟩
        rw [HE.out, show putF false [] (s1, s2) = [(s1, s2)] from rfl]
        exact ⟨own_less (by rw [cs2_append, List.length_append]; exact OC.out), X.out.trans (BC.out.mono X.out.size)⟩
end Go.Proofs.YthpolhlhpdhomaaDoor
