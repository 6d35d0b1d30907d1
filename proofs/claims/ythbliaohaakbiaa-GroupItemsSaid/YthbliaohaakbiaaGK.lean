/- group.Items. -/
import Derived.Test.YthbliaohaakbiaaGJ
set_option linter.unusedVariables false
set_option linter.unusedSimpArgs false
set_option maxRecDepth 100000
namespace Go.Proofs.Ythbliaohaakbiaa
open Go.RowKit Go.Sort

def mkI (x : Gn) (p : Sp) : It := ⟨p.1, p.2, x.n, x.d⟩
theorem items_cons (x : Gn) (r : List Gn) : itemsOf ((x :: r).map Gn.p) = x.l.map (mkI x) ++ itemsOf (r.map Gn.p) := by
  unfold itemsOf
  rw [List.map_cons, List.flatMap_cons]
  rfl
/-- Between two nodes. -/
structure II (w W : World) (q : Nat) (x : Gn) (ov : Value) (m : List It) : Prop where
  own : W.ownsRow w.heap.size 41 4 ov m.length (m.flatMap encI)
  bel : Below w.heap.size w W
  box : W.heap[q]? = some (.cells #[.string x.n, .bool x.d, .slice x.a x.l.length x.c] 32 (0, 0))
  off : ov.ownBlock ≠ some q
set_option maxHeartbeats 6400000 in
theorem items_any (w : World) (v : Value) (gs : List Gn) (h : GsL w v gs) (hl : (itemsOf (gs.map Gn.p)).length ≤ 1000) :
    Calls Try.prog 15 #[v] w fun e w' => ∃ r, e = .returned r ∧ LiesK encI 4 w' r (itemsOf (gs.map Gn.p)) ∧ Below w.heap.size w w' := by
  obtain ⟨i0, hi9, hz0, hz1, hz2⟩ := info_parts info41
  have L := Lib.hid h
  have HLL := h.1.len
  obtain ⟨ao, cap, rfl⟩ := h.1.shape
  have HL := Lib.hid hl
  obtain ⟨T, hT⟩ : ∃ zz, itemsOf (gs.map Gn.p) = zz := ⟨_, rfl⟩
  rw [hT] at HL ⊢
  have TT := Lib.hid hT
  clear h hT hl
  go_enter Try.func15, Try.ntmps15
  go_wp2_with fail
  go_loopw [3, 10] (fun ov kv wr => ∃ (k : Nat) (m : List It), kv = .int .i64 k ∧ k ≤ gs.length ∧ Hid (wr.ownsRow w.heap.size 41 4 ov m.length (m.flatMap encI) ∧ Below w.heap.size w wr ∧ T = m ++ itemsOf ((gs.drop k).map Gn.p))) (fun _ kv _ => gs.length - (intOf kv).toNat)
  case atStart => exact ⟨0, [], rfl, Nat.zero_le _, Lib.hid ⟨World.ownsRow_nil _ _ _ _, Below.refl _ _, TT.out.symm⟩⟩
  case round =>
    obtain ⟨k, m, rfl, hk, hK⟩ := hrel
    obtain ⟨oa, oc, rfl⟩ := own_shapeK hK.out.1
    have KK := Lib.hid hK.out
    clear hK
    by_cases hlt : k < gs.length
    · obtain ⟨g, o, x, rfl, hx, hg, a0, a1, a2⟩ := grN (L.out.step KK.out.2.1).1 hlt
      have XL := Lib.hid (L.out.2 x (List.mem_of_getElem? hx))
      have DR := Lib.hid (show T = m ++ (x.l.map (mkI x) ++ itemsOf ((gs.drop (k + 1)).map Gn.p)) from by rw [KK.out.2.2, List.drop_eq_getElem_cons hlt, (List.getElem?_eq_some_iff.1 hx).2, items_cons])
      have V1 := vstep wr (.cells #[.string x.n, .bool x.d, .slice x.a x.l.length x.c] 32)
      have I0 := Lib.hid (show II w (wr.alloc (.cells #[.string x.n, .bool x.d, .slice x.a x.l.length x.c] 32)) wr.heap.size x (.slice oa m.length oc) m from ⟨own_belowK KK.out.1 V1, KK.out.2.1.trans (V1.mono KK.out.2.1.size), heap_alloc_new wr _, fun e => by have := (KK.out.1.lt _ e).2; omega⟩)
      go_upto_region 5 with (fail)
      obtain ⟨w1, hw1⟩ : ∃ zz, wr.alloc (.cells #[.string x.n, .bool x.d, .slice x.a x.l.length x.c] 32) = zz := ⟨_, rfl⟩
      rw [hw1] at I0 ⊢
      clear hw1 a0 a1 a2 hx hg V1
      obtain ⟨b0, b1, b2⟩ := box3 I0.out.box
      have hxl : x.l.length ≤ 9223372036854775807 := XL.out.len
      go_wp2_with fail
      obtain ⟨q, hq⟩ : ∃ zz, wr.heap.size = zz := ⟨_, rfl⟩
      rw [hq] at I0 ⊢
      clear hq b0 b1 b2 KK
      go_loopw [3, 17] (fun ov jv wr => ∃ (j : Nat) (n : List It), jv = .int .i64 j ∧ j ≤ x.l.length ∧ Hid (II w wr q x ov n ∧ T = n ++ ((x.l.drop j).map (mkI x) ++ itemsOf ((gs.drop (k + 1)).map Gn.p)))) (fun _ jv _ => x.l.length - (intOf jv).toNat)
      case atStart => exact ⟨0, m, rfl, Nat.zero_le _, Lib.hid ⟨I0.out, DR.out⟩⟩
      case round =>
        obtain ⟨j, n, rfl, hj, hJ⟩ := hrel
        obtain ⟨na, nc, rfl⟩ := own_shapeK hJ.out.1.own
        have JJ := Lib.hid hJ.out.1
        have JT := Lib.hid hJ.out.2
        clear hJ I0 DR
        by_cases hlj : j < x.l.length
        · obtain ⟨g5, o5, p, hxa, hp, hg5, d0, d1⟩ := LiesK.st (show LiesK encS 2 wr (.slice x.a x.l.length x.c) x.l from XL.out.step JJ.out.bel) hlj
          obtain ⟨p1, p2⟩ := p
          have JN := Lib.hid (show T = (n ++ [(⟨p1, p2, x.n, x.d⟩ : It)]) ++ ((x.l.drop (j + 1)).map (mkI x) ++ itemsOf ((gs.drop (k + 1)).map Gn.p)) from by
            rw [JT.out, List.drop_eq_getElem_cons hlj, (List.getElem?_eq_some_iff.1 hp).2, List.map_cons]
            simp [mkI])
          have NL := Lib.hid (show n.length + 1 ≤ 1000 from by
            have := HL.out
            have e := congrArg List.length JN.out
            rw [List.length_append, List.length_append] at e
            simp only [List.length_cons, List.length_nil] at e
            omega)
          have V1 := vstep wr (.cells #[.int .i64 p1, .int .i64 p2] 39)
          have N1 := heap_alloc_new wr (.cells #[.int .i64 p1, .int .i64 p2] 39)
          have J1 := Lib.hid (show II w (wr.alloc (.cells #[.int .i64 p1, .int .i64 p2] 39)) q x (.slice na n.length nc) n from ⟨own_belowK JJ.out.own V1, JJ.out.bel.trans (V1.mono JJ.out.bel.size), (V1.block _ (lt_of_block JJ.out.box)).trans JJ.out.box, JJ.out.off⟩)
          have HXA := Lib.hid hxa
          go_upto_region 7 with (fail)
          rw [HXA.out]
          go_upto_region 8 with (fail)
          rw [← HXA.out]
          obtain ⟨w2, hw2⟩ : ∃ zz, wr.alloc (.cells #[.int .i64 p1, .int .i64 p2] 39) = zz := ⟨_, rfl⟩
          rw [hw2] at J1 N1 ⊢
          obtain ⟨qb, hqb⟩ : ∃ zz, wr.heap.size = zz := ⟨_, rfl⟩
          rw [hqb] at N1 ⊢
          clear hw2 hqb d0 d1 hp hg5 V1 hxa JT
          have c0 : w2.cell? ⟨qb, 0, none⟩ = some (.int .i64 p1) := by rw [cell_of_row _ _ _ _ _ _ N1]; rfl
          have c1 : w2.cell? ⟨qb, 1, none⟩ = some (.int .i64 p2) := by rw [cell_of_row _ _ _ _ _ _ N1]; rfl
          clear N1
          obtain ⟨b0, b1, b2⟩ := box3 J1.out.box
          have O2 := Lib.hid (own_belowK J1.out.own (vstep w2 (.cells #[.int .i64 p1, .int .i64 p2, .string x.n, .bool x.d] 41)))
          have B2 := Lib.hid (((vstep w2 (.cells #[.int .i64 p1, .int .i64 p2, .string x.n, .bool x.d] 41)).block _ (lt_of_block J1.out.box)).trans J1.out.box)
          have S2 := Lib.hid ((one_liesK (p := (⟨p1, p2, x.n, x.d⟩ : It)) encI_len (show (w2.alloc (.cells #[.int .i64 p1, .int .i64 p2, .string x.n, .bool x.d] 41)).heap[w2.heap.size]? = some (.cells (encI ⟨p1, p2, x.n, x.d⟩).toArray 41 (0, 0)) from heap_alloc_new w2 _)).src Try.u27 encI_len (by decide) encI_one)
          have Q2 := Lib.hid (And.intro (show n.length + 1 ≤ maxLen from by have := NL.out; unfold maxLen; omega) (And.intro (show (n.length + 1) * 40 ≤ 140737488355328 from by have := NL.out; omega) (show w.heap.size ≤ (w2.alloc (.cells #[.int .i64 p1, .int .i64 p2, .string x.n, .bool x.d] 41)).heap.size from by have := J1.out.bel.size; simp; omega)))
          go_wp2_with (at_builtin; refine wpList_append_src_own rfl (.tmp 21) (.tmp 28) 27 27 rfl w.heap.size 41 i0 (.agg #[.int .i64 0, .int .i64 0, .string ⟨#[]⟩, .bool false]) 4 40 Try.u27 hi9 hz0 hz1 hz2 rfl (by decide) (.slice na n.length nc) n.length (n.flatMap encI) rfl O2.out _ 1 ([(⟨p1, p2, x.n, x.d⟩ : It)].flatMap encI) rfl S2.out Q2.out.1 Q2.out.2.1 Q2.out.2.2 ?_; intro v3 w3 hown hgr hsp; have FIN := Lib.hid (show II w w3 q x v3 (n ++ [(⟨p1, p2, x.n, x.d⟩ : It)]) from ⟨by rw [List.length_append, List.flatMap_append]; exact hown, push_okG J1.out.bel J1.out.own (Nat.le_refl _) hgr, (hgr.block q (lt_of_block B2.out) (fun e => J1.out.off e.symm)).trans B2.out, fun e => by rcases hsp with e1 | ⟨g', e1, e2⟩; exact J1.out.off (e1.symm.trans e); rw [e1] at e; injection e with e; have := lt_of_block B2.out; omega⟩); clear hown hgr hsp)
          clear c0 c1 b0 b1 b2
          go_roundw
          case rel => exact ⟨j + 1, n ++ [(⟨p1, p2, x.n, x.d⟩ : It)], by go_num, by omega, Lib.hid ⟨FIN.out, JN.out⟩⟩
          case measure => simp [intOf]; omega
        · have FIN := Lib.hid (show wr.ownsRow w.heap.size 41 4 (.slice na n.length nc) n.length (n.flatMap encI) ∧ Below w.heap.size w wr ∧ T = n ++ itemsOf ((gs.drop (k + 1)).map Gn.p) from ⟨JJ.out.own, JJ.out.bel, by have := JT.out; rw [List.drop_of_length_le (show x.l.length ≤ j by omega)] at this; simpa using this⟩)
          go_wp2
          go_roundw
          case rel => exact ⟨k + 1, n, by go_num, by omega, FIN⟩
          case measure => simp [intOf]; omega
    · have FIN := Lib.hid (show LiesK encI 4 wr (.slice oa m.length oc) T ∧ Below w.heap.size w wr from by
        have h := KK.out
        rw [List.drop_of_length_le (show gs.length ≤ k by omega)] at h
        have : T = m := by simpa [itemsOf] using h.2.2
        rw [this]
        exact ⟨own_liesK encI_len h.1, h.2.1⟩)
      clear KK
      go_wp2
      go_returns
      exact ⟨_, rfl, FIN.out.1, FIN.out.2⟩
end Go.Proofs.Ythbliaohaakbiaa
