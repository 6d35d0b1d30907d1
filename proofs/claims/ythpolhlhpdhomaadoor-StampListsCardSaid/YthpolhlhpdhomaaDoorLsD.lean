/- The reference's Rises, Drop. -/
import Derived.Test.YthpolhlhpdhomaaDoorLsC
set_option linter.unusedVariables false
namespace Go.Proofs.YthpolhlhpdhomaaDoor
open Go.RowKit

theorem lcell {W : World} {b o : Nat} {v : Value} (h : W.cell? ⟨b, o, none⟩ = some v) : ∀ x : Later W, x.w.cell? ⟨b, o, none⟩ = some v := fun x => (x.below.cell (p := ⟨b, o, none⟩) (World.block_lt_of_cell? W _ h)).trans h

set_option maxRecDepth 100000 in
set_option maxHeartbeats 1000000 in
theorem rrises_any (w : World) (v : Value) (l : List St) (h : LiesS w v l) (hu : Up l) :
    Calls Tryd.prog 30 #[v] w fun e w' => e = .returned (.bool true) ∧ Below w.heap.size w w' := by
  have hlm : l.length ≤ maxLen := by obtain ⟨_, _, _, g1, g2, _⟩ := h; omega
  unfold maxLen at hlm
  obtain ⟨ao, cap, rfl⟩ := h.shape
  have H := Lib.hid h
  have HU := Lib.hid hu
  clear h hu
  go_enter Tryd.func30, Tryd.ntmps30
  go_wp2
  go_loopw [3] (fun kv wr => ∃ j : Nat, kv = .int .i64 ((j : Int) + 1) ∧ j ≤ l.length ∧ Below w.heap.size w wr) (fun kv _ => l.length + 1 - (intOf kv).toNat)
  case atStart => exact ⟨0, rfl, Nat.zero_le _, Below.refl _ _⟩
  case round =>
    obtain ⟨j, rfl, hj, hB⟩ := hrel
    have HB := Lib.hid hB
    by_cases hlt : j + 1 < l.length
    · obtain ⟨p, hp⟩ : ∃ p, l[j]? = some p := ⟨_, List.getElem?_eq_getElem (by omega)⟩
      obtain ⟨q, hq⟩ : ∃ q, l[j + 1]? = some q := ⟨_, List.getElem?_eq_getElem hlt⟩
      have hpq : lt p q = true := by
        have := (List.pairwise_iff_getElem.1 HU.out) j (j + 1) (by omega) hlt (by omega)
        rw [(List.getElem?_eq_some_iff.1 hp).2, (List.getElem?_eq_some_iff.1 hq).2] at this
        exact this
      have HL := H.out.later hB
      obtain ⟨k, o, e1, d0, d1⟩ := HL.at hp
      obtain ⟨k2, o2, e2, f0, f1⟩ := HL.at hq
      subst e1
      injection e2 with e2
      injection e2 with e2 e3
      subst e2 e3
      have d0 := lcell d0
      have d1 := lcell d1
      have f0 := lcell f0
      have f1 := lcell f1
      have L := fun x : Later wr => less_any x.w p.1 p.2 q.1 q.2
      have hl2 : lessB p.1 p.2 q.1 q.2 = true := hpq
      rw [hl2] at L
      have L := Lib.hid L
      have hi1 : (j : Int) + 1 < (l.length : Int) := by omega
      have hi0 : (j : Int) < (l.length : Int) := by omega
      have w1 : IntKind.i64.wrap ((j : Int) + 1 - 1) = (j : Int) := by rw [IntKind.wrap_i64]; omega
      have n1 : ((j : Int) + 1).toNat = j + 1 := by omega
      have p0 : (0 : Int) ≤ (j : Int) := by omega
      have p1 : (0 : Int) ≤ (j : Int) + 1 := by omega
      clear hp hq hpq hl2 HL hB
      go_wp2
      refine wp_region_later (by kernel_rfl) (by kernel_rfl) ?_
      repeat (go_big_quiet_step (first | (go_at_call 41; with_reducible exact later_call (L.out _))))
      refine wpQuiet_nil ?_
      intro _ hw'
      obtain ⟨xl, hw''⟩ := hw'
      subst hw''
      have B1 := Lib.hid (HB.out.trans (xl.below.mono HB.out.size))
      clear d0 d1 f0 f1 L w1 n1
      go_wp2
      go_roundw
      case rel => exact ⟨j + 1, by go_num, by omega, B1.out⟩
      case measure => simp [intOf]; omega
    · have hge : ¬ ((j : Int) + 1 < (l.length : Int)) := by omega
      clear hB
      go_wp2
      go_returns
      exact ⟨rfl, HB.out⟩

theorem own_less {w : World} {B e size n : Nat} {v : Value} {xs : List Value} (h : w.ownsRow (B + 1) e size v n xs) : w.ownsRow B e size v n xs := by
  refine ⟨h.1, ?_⟩
  rcases h.2 with h | ⟨g, cap, cur, e, hB, rest⟩
  · exact .inl h
  · exact .inr ⟨g, cap, cur, e, by omega, rest⟩

set_option maxRecDepth 100000 in
set_option maxHeartbeats 1600000 in
theorem rdrop_any (w : World) (v : Value) (l : List St) (s : St) (h : LiesS w v l) (hl : l.length ≤ 1000) :
    Calls Tryd.prog 29 #[v, .agg #[.int .i64 s.1, .int .i64 s.2]] w fun e w' => ∃ r, e = .returned r ∧ RowS w w' r (dropF l s) := by
  obtain ⟨i0, hi, hz0, hz1, hz2⟩ := info_parts Tryd.info23
  obtain ⟨s1, s2⟩ := s
  have X := Lib.hid ((Below.refl w.heap.size w).alloc (Nat.le_refl _) (.cells #[.int .i64 s1, .int .i64 s2] 23))
  have N := Lib.hid (heap_alloc_new w (.cells #[.int .i64 s1, .int .i64 s2] 23))
  have H := Lib.hid h
  obtain ⟨ao, cap, rfl⟩ := h.shape
  obtain ⟨W0, hW0⟩ : ∃ W0, w.alloc (.cells #[.int .i64 s1, .int .i64 s2] 23) = W0 := ⟨_, rfl⟩
  rw [hW0] at X N
  have hz : W0.heap.size = w.heap.size + 1 := by rw [← hW0]; simp
  have HZ := Lib.hid hz
  have HW := Lib.hid hW0
  clear hW0 h hz
  go_enter Tryd.func29, Tryd.ntmps29
  go_wp2_with fail
  rw [HW.out]
  go_loopw [5, 6] (fun bv kv wr => ∃ (i : Nat) (cs : List St), kv = .int .i64 i ∧ i ≤ l.length ∧ cs.length ≤ i ∧ Hid (cs = dropF (l.take i) (s1, s2) ∧ wr.ownsRow (w.heap.size + 1) 23 2 bv cs.length (cs2 cs) ∧ Below W0.heap.size W0 wr)) (fun _ kv _ => l.length - (intOf kv).toNat)
  case atStart => exact ⟨0, [], rfl, Nat.zero_le _, Nat.zero_le _, Lib.hid ⟨rfl, World.ownsRow_nil _ _ _ _, Below.refl _ _⟩⟩
  case round =>
    obtain ⟨i, cs, rfl, hil, hcl, hI⟩ := hrel
    have HC := Lib.hid hI.out.1
    have HO := Lib.hid hI.out.2.1
    have HB0 := Lib.hid hI.out.2.2
    have HB := Lib.hid (X.out.trans (hI.out.2.2.mono X.out.size))
    have G := box_step N.out (hI.out.2.2)
    obtain ⟨b0, b1, _, _⟩ := two_cells G
    obtain ⟨ba, bc, rfl⟩ := own_shape hI.out.2.1
    have hs0 := HB0.out.size
    rw [HZ.out] at hs0
    clear hI G
    by_cases hlt : i < l.length
    · obtain ⟨p, hp⟩ : ∃ p, l[i]? = some p := ⟨_, List.getElem?_eq_getElem hlt⟩
      have HL := H.out.later HB.out
      obtain ⟨k, o, e1, d0, d1⟩ := HL.at hp
      subst e1
      obtain ⟨p1, p2⟩ := p
      dsimp only at d0 d1
      have HT : Hid (dropF (l.take (i + 1)) (s1, s2) = cs ++ (if (p1, p2) ≠ (s1, s2) then [(p1, p2)] else [])) := Lib.hid (by
        rw [take_snoc' l i _ hp, HC.out]
        unfold dropF
        rw [List.filter_append]
        congr 1
        by_cases e : ((p1, p2) : St) = (s1, s2)
        · rw [if_neg (by simpa using e), e]; simp
        · rw [if_pos e, List.filter_cons_of_pos (by simp only [decide_eq_true_eq]; exact e)]; rfl)
      clear hp HL
      by_cases he : ((p1, p2) : St) = (s1, s2)
      · injection he with e1 e2
        subst e1 e2
        have HT2 : Hid (cs = dropF (l.take (i + 1)) (p1, p2)) := Lib.hid (by rw [HT.out, if_neg (by simp), List.append_nil])
        have hd := below_drewN wr
        clear hd
        go_wp2
        go_quiet (fail)
        have BD := Lib.hid (HB0.out.trans ((below_drewN wr nq).mono HB0.out.size))
        have OD := Lib.hid (own_kept HO.out (below_drewN wr nq))
        go_wp2
        go_roundw
        case rel => exact ⟨i + 1, cs, by go_num, by omega, by omega, Lib.hid ⟨HT2.out, OD.out, BD.out⟩⟩
        case measure => simp [intOf]; omega
      · have HT2 : Hid (cs ++ [(p1, p2)] = dropF (l.take (i + 1)) (s1, s2)) := Lib.hid (by rw [HT.out, if_pos he])
        have hfacts : (p1 ≠ s1) ∨ (p1 = s1 ∧ p2 ≠ s2) := by
          by_cases e : p1 = s1
          · exact .inr ⟨e, fun e2 => he (by rw [e, e2])⟩
          · exact .inl e
        clear he
        rcases hfacts with t | ⟨e1, t⟩
        · have t1 := bneb_ p1 s1 t
          clear t
          go_wp2
          go_quiet (fail)
          have BD := Lib.hid (HB0.out.trans ((below_drewN wr nq).mono HB0.out.size))
          have OD := Lib.hid (own_kept HO.out (below_drewN wr nq))
          have hsd := BD.out.size
          rw [HZ.out] at hsd
          have BA := Lib.hid (BD.out.alloc BD.out.size (.cells #[.int .i64 p1, .int .i64 p2] 23))
          have OA := Lib.hid (OD.out.alloc (.cells #[.int .i64 p1, .int .i64 p2] 23))
          have hsa : w.heap.size + 1 ≤ ((wr.drewN nq).alloc (.cells #[.int .i64 p1, .int .i64 p2] 23)).heap.size := by have := BA.out.size; rw [HZ.out] at this; exact this
          have hlo : ∀ k, (Value.slice ba cs.length bc).ownBlock = some k → W0.heap.size ≤ k := fun k hk => by rw [HZ.out]; exact (OD.out.lt k hk).1
          have SR := Lib.hid (src_st (wr.drewN nq) (p1, p2))
          go_wp2_with (at_builtin; refine wpList_append_src_own rfl (.tmp 19) (.tmp 24) 35 35 rfl (w.heap.size + 1) 23 i0 (.agg #[.int .i64 0, .int .i64 0]) 2 16 Tryd.u35 hi hz0 hz1 hz2 rfl (by decide) (.slice ba cs.length bc) cs.length (cs2 cs) rfl OA.out _ 1 (cs2 [(p1, p2)]) rfl SR.out (by unfold maxLen; omega) (by omega) hsa ?_; intro v3 w3 hown hgr hspr; have K := Lib.hid hown; have KB := Lib.hid (BA.out.grown hgr BA.out.size hlo); clear hown hgr hspr; obtain ⟨a3, c3, rfl⟩ := own_shape K.out)
          go_roundw
          case rel => exact ⟨i + 1, cs ++ [(p1, p2)], by go_num, by omega, by rw [List.length_append]; exact Nat.succ_le_succ hcl, Lib.hid ⟨HT2.out, by rw [cs2_append, List.length_append]; exact K.out, KB.out⟩⟩
          case measure => simp [intOf]; omega
        · subst e1
          have t1 := bneb_ p2 s2 t
          clear t
          go_wp2
          go_quiet (fail)
          have BD := Lib.hid (HB0.out.trans ((below_drewN wr nq).mono HB0.out.size))
          have OD := Lib.hid (own_kept HO.out (below_drewN wr nq))
          have BA := Lib.hid (BD.out.alloc BD.out.size (.cells #[.int .i64 p1, .int .i64 p2] 23))
          have OA := Lib.hid (OD.out.alloc (.cells #[.int .i64 p1, .int .i64 p2] 23))
          have hsa : w.heap.size + 1 ≤ ((wr.drewN nq).alloc (.cells #[.int .i64 p1, .int .i64 p2] 23)).heap.size := by have := BA.out.size; rw [HZ.out] at this; exact this
          have hlo : ∀ k, (Value.slice ba cs.length bc).ownBlock = some k → W0.heap.size ≤ k := fun k hk => by rw [HZ.out]; exact (OD.out.lt k hk).1
          have SR := Lib.hid (src_st (wr.drewN nq) (p1, p2))
          go_wp2_with (at_builtin; refine wpList_append_src_own rfl (.tmp 19) (.tmp 24) 35 35 rfl (w.heap.size + 1) 23 i0 (.agg #[.int .i64 0, .int .i64 0]) 2 16 Tryd.u35 hi hz0 hz1 hz2 rfl (by decide) (.slice ba cs.length bc) cs.length (cs2 cs) rfl OA.out _ 1 (cs2 [(p1, p2)]) rfl SR.out (by unfold maxLen; omega) (by omega) hsa ?_; intro v3 w3 hown hgr hspr; have K := Lib.hid hown; have KB := Lib.hid (BA.out.grown hgr BA.out.size hlo); clear hown hgr hspr; obtain ⟨a3, c3, rfl⟩ := own_shape K.out)
          go_roundw
          case rel => exact ⟨i + 1, cs ++ [(p1, p2)], by go_num, by omega, by rw [List.length_append]; exact Nat.succ_le_succ hcl, Lib.hid ⟨HT2.out, by rw [cs2_append, List.length_append]; exact K.out, KB.out⟩⟩
          case measure => simp [intOf]; omega
    · have hie : l.take i = l := List.take_of_length_le (by omega)
      have HZ2 : Hid (cs = dropF l (s1, s2)) := Lib.hid (by rw [HC.out, hie])
      go_wp2
      go_returns
      refine ⟨_, rfl, ?_⟩
      rw [← HZ2.out]
      exact ⟨own_less HO.out, HB.out⟩
end Go.Proofs.YthpolhlhpdhomaaDoor
