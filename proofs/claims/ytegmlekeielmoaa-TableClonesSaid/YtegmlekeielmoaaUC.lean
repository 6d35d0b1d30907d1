/- The reference's Nodes, Kids, Drop; the law's 'is'. Made by genuc13.py. -/
import Derived.Test.YtegmlekeielmoaaUA
set_option linter.unusedVariables false
set_option maxRecDepth 100000
namespace Go.Proofs.Ytegmlekeielmoaa
open Go.RowKit Go.WideMaps Go.Maps

theorem push_okG {W W' W0 : World} {E k n : Nat} {e : TypeId} {v : Value} {xs : List Value} {ob : Obj} (hB : Below W0.heap.size W0 W) (ho : W.ownsRow E e k v n xs) (hE : W0.heap.size ≤ E) (hg : (W.alloc ob).grownBy W' v.ownBlock) : Below W0.heap.size W0 W' :=
  (hB.trans ((vstep W ob).mono hB.size)).grown hg (by have := hB.size; simp; omega) (fun k e => by have := (ho.lt k e).1; omega)
theorem take_snoc {α : Type} {l : List α} {i : Nat} {x : α} (h : l[i]? = some x) : l.take (i + 1) = l.take i ++ [x] := by
  obtain ⟨hl, he⟩ := List.getElem?_eq_some_iff.1 h
  rw [List.take_succ_eq_append_getElem hl, he]
theorem nodes_snoc {l : List Rw} {i : Nat} {x : Rw} (h : l[i]? = some x) : nodesF (l.take (i + 1)) = nodesF (l.take i) ++ [stOf x] := by
  rw [take_snoc h]
  simp [nodesF]
theorem kids_yes {l : List Rw} {i : Nat} {x : Rw} {pt pr : Int} (h : l[i]? = some x) (hq : x.pt = pt ∧ x.pr = pr) : kidsF (l.take (i + 1)) pt pr = kidsF (l.take i) pt pr ++ [stOf x] := by
  rw [take_snoc h]
  exact kd_yes hq
theorem kids_not {l : List Rw} {i : Nat} {x : Rw} {pt pr : Int} (h : l[i]? = some x) (hq : ¬ (x.pt = pt ∧ x.pr = pr)) : kidsF (l.take (i + 1)) pt pr = kidsF (l.take i) pt pr := by
  rw [take_snoc h]
  exact kd_no hq
theorem drop_yes {l : List Rw} {i : Nat} {x : Rw} {t r : Int} (h : l[i]? = some x) (hq : ¬ (x.t = t ∧ x.r = r)) : dropF (l.take (i + 1)) t r = dropF (l.take i) t r ++ [x] := by
  rw [take_snoc h]
  unfold dropF
  rw [List.filter_append]
  simp [isN]
  omega
theorem drop_not {l : List Rw} {i : Nat} {x : Rw} {t r : Int} (h : l[i]? = some x) (hq : x.t = t ∧ x.r = r) : dropF (l.take (i + 1)) t r = dropF (l.take i) t r := by
  rw [take_snoc h]
  unfold dropF
  rw [List.filter_append]
  simp [isN, hq]
theorem bneT (a b : Int) (h : (a == b) = true) : (a != b) = false := by simpa using h
theorem bneF (a b : Int) (h : (a == b) = false) : (a != b) = true := by simpa using h
theorem own_less {W : World} {E E' k n : Nat} {e : TypeId} {v : Value} {xs : List Value} (h : W.ownsRow E e k v n xs) (hE : E' ≤ E) : W.ownsRow E' e k v n xs :=
  ⟨h.1, h.2.imp id fun ⟨g, cap, cur, a1, a2, a3⟩ => ⟨g, cap, cur, a1, by omega, a3⟩⟩
set_option maxHeartbeats 3200000 in
theorem rnodes_any (w : World) (v : Value) (l : List Rw) (h : LiesR w v l) (hl : l.length < 100000) :
    Calls Try.prog 23 #[v] w fun e w' => ∃ r, e = .returned r ∧ w'.ownsRow w.heap.size 24 2 r (nodesF l).length ((nodesF l).flatMap encS) ∧ Below w.heap.size w w' := by
  obtain ⟨i0, hi9, hz0, hz1, hz2⟩ := info_parts info24
  have L := Lib.hid h
  obtain ⟨ao, cap, rfl⟩ := h.shape
  clear h
  go_enter Try.func23, Try.ntmps23
  go_wp2_with fail
  go_loopw [3, 4] (fun ov kv wr => ∃ i : Nat, kv = .int .i64 i ∧ i ≤ l.length ∧ Hid (wr.ownsRow w.heap.size 24 2 ov (nodesF (l.take i)).length ((nodesF (l.take i)).flatMap encS) ∧ Below w.heap.size w wr)) (fun _ kv _ => l.length - (intOf kv).toNat)
  case atStart => exact ⟨0, rfl, Nat.zero_le _, Lib.hid ⟨World.ownsRow_nil _ _ _ _, Below.refl _ _⟩⟩
  case round =>
    obtain ⟨i, rfl, hi, hK⟩ := hrel
    obtain ⟨oa, oc, rfl⟩ := own_shapeK hK.out.1
    have O0 := Lib.hid hK.out.1
    have K0 := Lib.hid hK.out.2
    have LN := Lib.hid (show (nodesF (l.take i)).length ≤ l.length from by unfold nodesF; rw [List.length_map, List.length_take]; omega)
    clear hK
    by_cases hlt : i < l.length
    · obtain ⟨g, o, x, rfl, hx, hg, a0, a1, a2, a3, a4, a5⟩ := (L.out.step K0.out).row hlt
      have NX := Lib.hid (nodes_snoc hx)
      generalize nodesF (l.take i) = ks at *
      clear hx hg
      have O5 := Lib.hid (own_belowK O0.out (vstep wr (.cells #[.int .i64 x.t, .int .i64 x.r] 24)))
      have H5 := Lib.hid (show (wr.alloc (.cells #[.int .i64 x.t, .int .i64 x.r] 24)).heap[wr.heap.size]? = some (.cells (encS (stOf x)).toArray 24 (0, 0)) from heap_alloc_new wr _)
      have Q5 := Lib.hid (And.intro (show ks.length + 1 ≤ maxLen from by have := LN.out; unfold maxLen; omega) (And.intro (show (ks.length + 1) * 16 ≤ 140737488355328 from by have := LN.out; omega) (show w.heap.size ≤ (wr.alloc (.cells #[.int .i64 x.t, .int .i64 x.r] 24)).heap.size from by have := K0.out.size; simp; omega)))
      go_wp2_with (at_builtin; refine wpList_pushK rfl (.tmp 11) (.tmp 17) 43 rfl encS_len (by decide) encS_one w.heap.size 24 i0 (.agg #[.int .i64 0, .int .i64 0]) 16 Try.u43 hi9 hz0 hz1 hz2 rfl (.slice oa ks.length oc) ks (stOf x) wr.heap.size rfl rfl H5.out O5.out Q5.out.1 Q5.out.2.1 Q5.out.2.2 ?_; intro v6 w6 hown hgr; have O6 := Lib.hid hown; have K6 := Lib.hid (push_okG K0.out O0.out (Nat.le_refl _) hgr); clear hown hgr)
      go_roundw
      case rel => exact ⟨i + 1, by go_num, by omega, Lib.hid ⟨by rw [NX.out]; exact O6.out, K6.out⟩⟩
      case measure => simp [intOf]; omega
    · have FIN := Lib.hid (show wr.ownsRow w.heap.size 24 2 (.slice oa (nodesF (l.take i)).length oc) (nodesF l).length ((nodesF l).flatMap encS) ∧ Below w.heap.size w wr from by
        have h := O0.out
        rw [show l.take i = l from List.take_of_length_le (by omega)] at h ⊢
        exact ⟨h, K0.out⟩)
      clear O0
      go_wp2
      go_returns
      exact ⟨_, rfl, FIN.out.1, FIN.out.2⟩
set_option maxHeartbeats 6400000 in
theorem rkids_any (w : World) (v : Value) (l : List Rw) (h : LiesR w v l) (hl : l.length < 100000) (p1 p2 : Int) :
    Calls Try.prog 20 #[v, .agg #[.int .i64 p1, .int .i64 p2]] w fun e w' => ∃ r, e = .returned r ∧ w'.ownsRow w.heap.size 24 2 r (kidsF l p1 p2).length ((kidsF l p1 p2).flatMap encS) ∧ Below w.heap.size w w' := by
  obtain ⟨i0, hi9, hz0, hz1, hz2⟩ := info_parts info24
  have B1 := Lib.hid (vstep w (.cells #[.int .i64 p1, .int .i64 p2] 24))
  have L := Lib.hid (h.step B1.out)
  have S0 := Lib.hid (StAt.new w p1 p2)
  obtain ⟨ao, cap, rfl⟩ := h.shape
  obtain ⟨W0, hW0⟩ : ∃ y, w.alloc (.cells #[.int .i64 p1, .int .i64 p2] 24) = y := ⟨_, rfl⟩
  rw [hW0] at B1 L S0
  have HW := Lib.hid hW0
  have SF := Lib.hid (fun W (hb : Below W0.heap.size W0 W) => (S0.out.step hb).cells)
  clear h hW0
  go_enter Try.func20, Try.ntmps20
  go_upto_region 1 with (fail)
  rw [HW.out]
  go_wp2_with fail
  go_loopw [5, 6] (fun ov kv wr => ∃ i : Nat, kv = .int .i64 i ∧ i ≤ l.length ∧ Hid (wr.ownsRow W0.heap.size 24 2 ov (kidsF (l.take i) p1 p2).length ((kidsF (l.take i) p1 p2).flatMap encS) ∧ Below W0.heap.size W0 wr)) (fun _ kv _ => l.length - (intOf kv).toNat)
  case atStart => exact ⟨0, rfl, Nat.zero_le _, Lib.hid ⟨World.ownsRow_nil _ _ _ _, Below.refl _ _⟩⟩
  case round =>
    obtain ⟨i, rfl, hi, hK⟩ := hrel
    obtain ⟨oa, oc, rfl⟩ := own_shapeK hK.out.1
    have O0 := Lib.hid hK.out.1
    have K0 := Lib.hid hK.out.2
    have LN := Lib.hid (show (kidsF (l.take i) p1 p2).length ≤ l.length from Nat.le_trans (by unfold kidsF; rw [List.length_map]; exact List.length_filter_le _ _) (by rw [List.length_take]; omega))
    clear hK
    by_cases hlt : i < l.length
    · obtain ⟨g, o, x, rfl, hx, hg, a0, a1, a2, a3, a4, a5⟩ := L.out.row hlt
      have AF := Lib.hid (fun W (hb : Below W0.heap.size W0 W) => (show W.cell? ⟨g, o + i * 6, none⟩ = some (.int .i64 x.t) ∧ W.cell? ⟨g, o + i * 6 + 1, none⟩ = some (.int .i64 x.r) ∧ W.cell? ⟨g, o + i * 6 + 2, none⟩ = some (.int .i64 x.pt) ∧ W.cell? ⟨g, o + i * 6 + 3, none⟩ = some (.int .i64 x.pr) ∧ W.cell? ⟨g, o + i * 6 + 4, none⟩ = some (.string x.nm) ∧ W.cell? ⟨g, o + i * 6 + 5, none⟩ = some (.bool x.d) from ⟨(hb.cell (p := ⟨g, o + i * 6, none⟩) hg).trans a0, (hb.cell (p := ⟨g, o + i * 6 + 1, none⟩) hg).trans a1, (hb.cell (p := ⟨g, o + i * 6 + 2, none⟩) hg).trans a2, (hb.cell (p := ⟨g, o + i * 6 + 3, none⟩) hg).trans a3, (hb.cell (p := ⟨g, o + i * 6 + 4, none⟩) hg).trans a4, (hb.cell (p := ⟨g, o + i * 6 + 5, none⟩) hg).trans a5⟩))
      have HX := Lib.hid hx
      clear a0 a1 a2 a3 a4 a5 hg hx
      obtain ⟨a0, a1, a2, a3, a4, a5⟩ := AF.out wr K0.out
      obtain ⟨c1, c2⟩ := SF.out wr K0.out
      by_cases hq : x.pt = p1 ∧ x.pr = p2
      · have NX := Lib.hid (kids_yes HX.out hq)
        have t1 := beqb_ _ _ hq.1
        have t2 := beqb_ _ _ hq.2
        have t3 := bneT _ _ t1
        have t4 := bneT _ _ t2
        generalize kidsF (l.take i) p1 p2 = ks at *
        clear hq
        go_wp2
        go_quiet (fail)
        have B7 := Lib.hid (below_drewN wr nq)
        have O7 := Lib.hid (own_belowK O0.out B7.out)
        have K7 := Lib.hid (K0.out.trans (B7.out.mono K0.out.size))
        generalize wr.drewN nq = w7 at *
        clear a0 a1 a2 a3 a4 a5 c1 c2
        obtain ⟨a0, a1, a2, a3, a4, a5⟩ := AF.out w7 K7.out
        have O5 := Lib.hid (own_belowK O7.out (vstep w7 (.cells #[.int .i64 x.t, .int .i64 x.r] 24)))
        have H5 := Lib.hid (show (w7.alloc (.cells #[.int .i64 x.t, .int .i64 x.r] 24)).heap[w7.heap.size]? = some (.cells (encS (stOf x)).toArray 24 (0, 0)) from heap_alloc_new w7 _)
        have Q5 := Lib.hid (And.intro (show ks.length + 1 ≤ maxLen from by have := LN.out; unfold maxLen; omega) (And.intro (show (ks.length + 1) * 16 ≤ 140737488355328 from by have := LN.out; omega) (show W0.heap.size ≤ (w7.alloc (.cells #[.int .i64 x.t, .int .i64 x.r] 24)).heap.size from by have := K7.out.size; simp; omega)))
        go_wp2_with (at_builtin; refine wpList_pushK rfl (.tmp 21) (.tmp 27) 43 rfl encS_len (by decide) encS_one W0.heap.size 24 i0 (.agg #[.int .i64 0, .int .i64 0]) 16 Try.u43 hi9 hz0 hz1 hz2 rfl (.slice oa ks.length oc) ks (stOf x) w7.heap.size rfl rfl H5.out O5.out Q5.out.1 Q5.out.2.1 Q5.out.2.2 ?_; intro v6 w6 hown hgr; have O6 := Lib.hid hown; have K6 := Lib.hid (push_okG K7.out O7.out (Nat.le_refl _) hgr); clear hown hgr)
        go_roundw
        case rel => exact ⟨i + 1, by go_num, by omega, Lib.hid ⟨by rw [NX.out]; exact O6.out, K6.out⟩⟩
        case measure => simp [intOf]; omega
      · have NX := Lib.hid (kids_not HX.out hq)
        generalize kidsF (l.take i) p1 p2 = ks at *
        rcases no2 hq with t1 | ⟨t1, t2⟩
        · have t3 := bneF _ _ t1
          clear hq
          go_wp2
          go_quiet (fail)
          have B7 := Lib.hid (below_drewN wr nq)
          have O7 := Lib.hid (own_belowK O0.out B7.out)
          have K7 := Lib.hid (K0.out.trans (B7.out.mono K0.out.size))
          generalize wr.drewN nq = w7 at *
          clear a0 a1 a2 a3 a4 a5 c1 c2
          go_wp2
          go_roundw
          case rel => exact ⟨i + 1, by go_num, by omega, Lib.hid ⟨by rw [NX.out]; exact O7.out, K7.out⟩⟩
          case measure => simp [intOf]; omega
        · have t3 := bneT _ _ t1
          have t4 := bneF _ _ t2
          clear hq
          go_wp2
          go_quiet (fail)
          have B7 := Lib.hid (below_drewN wr nq)
          have O7 := Lib.hid (own_belowK O0.out B7.out)
          have K7 := Lib.hid (K0.out.trans (B7.out.mono K0.out.size))
          generalize wr.drewN nq = w7 at *
          clear a0 a1 a2 a3 a4 a5 c1 c2
          go_wp2
          go_roundw
          case rel => exact ⟨i + 1, by go_num, by omega, Lib.hid ⟨by rw [NX.out]; exact O7.out, K7.out⟩⟩
          case measure => simp [intOf]; omega
    · have FIN := Lib.hid (show wr.ownsRow w.heap.size 24 2 (.slice oa (kidsF (l.take i) p1 p2).length oc) (kidsF l p1 p2).length ((kidsF l p1 p2).flatMap encS) ∧ Below w.heap.size w wr from by
        have h := O0.out
        rw [show l.take i = l from List.take_of_length_le (by omega)] at h ⊢
        exact ⟨own_less h B1.out.size, B1.out.trans (K0.out.mono B1.out.size)⟩)
      clear O0
      go_wp2
      go_returns
      exact ⟨_, rfl, FIN.out.1, FIN.out.2⟩
set_option maxHeartbeats 6400000 in
theorem rdrop_any (w : World) (v : Value) (l : List Rw) (h : LiesR w v l) (hl : l.length < 100000) (p1 p2 : Int) :
    Calls Try.prog 16 #[v, .agg #[.int .i64 p1, .int .i64 p2]] w fun e w' => ∃ r, e = .returned r ∧ w'.ownsRow w.heap.size 75 6 r (dropF l p1 p2).length ((dropF l p1 p2).flatMap enc6) ∧ Below w.heap.size w w' := by
  obtain ⟨i0, hi9, hz0, hz1, hz2⟩ := info_parts info75
  have B1 := Lib.hid (vstep w (.cells #[.int .i64 p1, .int .i64 p2] 24))
  have L := Lib.hid (h.step B1.out)
  have S0 := Lib.hid (StAt.new w p1 p2)
  obtain ⟨ao, cap, rfl⟩ := h.shape
  obtain ⟨W0, hW0⟩ : ∃ y, w.alloc (.cells #[.int .i64 p1, .int .i64 p2] 24) = y := ⟨_, rfl⟩
  rw [hW0] at B1 L S0
  have HW := Lib.hid hW0
  have SF := Lib.hid (fun W (hb : Below W0.heap.size W0 W) => (S0.out.step hb).cells)
  clear h hW0
  go_enter Try.func16, Try.ntmps16
  go_upto_region 1 with (fail)
  rw [HW.out]
  go_wp2_with fail
  go_loopw [5, 6] (fun ov kv wr => ∃ i : Nat, kv = .int .i64 i ∧ i ≤ l.length ∧ Hid (wr.ownsRow W0.heap.size 75 6 ov (dropF (l.take i) p1 p2).length ((dropF (l.take i) p1 p2).flatMap enc6) ∧ Below W0.heap.size W0 wr)) (fun _ kv _ => l.length - (intOf kv).toNat)
  case atStart => exact ⟨0, rfl, Nat.zero_le _, Lib.hid ⟨World.ownsRow_nil _ _ _ _, Below.refl _ _⟩⟩
  case round =>
    obtain ⟨i, rfl, hi, hK⟩ := hrel
    obtain ⟨oa, oc, rfl⟩ := own_shapeK hK.out.1
    have O0 := Lib.hid hK.out.1
    have K0 := Lib.hid hK.out.2
    have LN := Lib.hid (show (dropF (l.take i) p1 p2).length ≤ l.length from Nat.le_trans (List.length_filter_le _ _) (by rw [List.length_take]; omega))
    clear hK
    by_cases hlt : i < l.length
    · obtain ⟨g, o, x, rfl, hx, hg, a0, a1, a2, a3, a4, a5⟩ := L.out.row hlt
      have AF := Lib.hid (fun W (hb : Below W0.heap.size W0 W) => (show W.cell? ⟨g, o + i * 6, none⟩ = some (.int .i64 x.t) ∧ W.cell? ⟨g, o + i * 6 + 1, none⟩ = some (.int .i64 x.r) ∧ W.cell? ⟨g, o + i * 6 + 2, none⟩ = some (.int .i64 x.pt) ∧ W.cell? ⟨g, o + i * 6 + 3, none⟩ = some (.int .i64 x.pr) ∧ W.cell? ⟨g, o + i * 6 + 4, none⟩ = some (.string x.nm) ∧ W.cell? ⟨g, o + i * 6 + 5, none⟩ = some (.bool x.d) from ⟨(hb.cell (p := ⟨g, o + i * 6, none⟩) hg).trans a0, (hb.cell (p := ⟨g, o + i * 6 + 1, none⟩) hg).trans a1, (hb.cell (p := ⟨g, o + i * 6 + 2, none⟩) hg).trans a2, (hb.cell (p := ⟨g, o + i * 6 + 3, none⟩) hg).trans a3, (hb.cell (p := ⟨g, o + i * 6 + 4, none⟩) hg).trans a4, (hb.cell (p := ⟨g, o + i * 6 + 5, none⟩) hg).trans a5⟩))
      have HX := Lib.hid hx
      clear a0 a1 a2 a3 a4 a5 hg hx
      obtain ⟨a0, a1, a2, a3, a4, a5⟩ := AF.out wr K0.out
      obtain ⟨c1, c2⟩ := SF.out wr K0.out
      by_cases hq : x.t = p1 ∧ x.r = p2
      · have NX := Lib.hid (drop_not HX.out hq)
        have t1 := beqb_ _ _ hq.1
        have t2 := beqb_ _ _ hq.2
        have t3 := bneT _ _ t1
        have t4 := bneT _ _ t2
        generalize dropF (l.take i) p1 p2 = ks at *
        clear hq
        go_wp2
        go_quiet (fail)
        have B7 := Lib.hid (below_drewN wr nq)
        have O7 := Lib.hid (own_belowK O0.out B7.out)
        have K7 := Lib.hid (K0.out.trans (B7.out.mono K0.out.size))
        generalize wr.drewN nq = w7 at *
        clear a0 a1 a2 a3 a4 a5 c1 c2
        go_wp2
        go_roundw
        case rel => exact ⟨i + 1, by go_num, by omega, Lib.hid ⟨by rw [NX.out]; exact O7.out, K7.out⟩⟩
        case measure => simp [intOf]; omega
      · have NX := Lib.hid (drop_yes HX.out hq)
        generalize dropF (l.take i) p1 p2 = ks at *
        rcases no2 hq with t1 | ⟨t1, t2⟩
        · have t3 := bneF _ _ t1
          clear hq
          go_wp2
          go_quiet (fail)
          have B7 := Lib.hid (below_drewN wr nq)
          have O7 := Lib.hid (own_belowK O0.out B7.out)
          have K7 := Lib.hid (K0.out.trans (B7.out.mono K0.out.size))
          generalize wr.drewN nq = w7 at *
          clear a0 a1 a2 a3 a4 a5 c1 c2
          obtain ⟨a0, a1, a2, a3, a4, a5⟩ := AF.out w7 K7.out
          have O5 := Lib.hid (own_belowK O7.out (vstep w7 (.cells #[.int .i64 x.t, .int .i64 x.r, .int .i64 x.pt, .int .i64 x.pr, .string x.nm, .bool x.d] 75)))
          have H5 := Lib.hid (show (w7.alloc (.cells #[.int .i64 x.t, .int .i64 x.r, .int .i64 x.pt, .int .i64 x.pr, .string x.nm, .bool x.d] 75)).heap[w7.heap.size]? = some (.cells (enc6 (x)).toArray 75 (0, 0)) from heap_alloc_new w7 _)
          have Q5 := Lib.hid (And.intro (show ks.length + 1 ≤ maxLen from by have := LN.out; unfold maxLen; omega) (And.intro (show (ks.length + 1) * 56 ≤ 140737488355328 from by have := LN.out; omega) (show W0.heap.size ≤ (w7.alloc (.cells #[.int .i64 x.t, .int .i64 x.r, .int .i64 x.pt, .int .i64 x.pr, .string x.nm, .bool x.d] 75)).heap.size from by have := K7.out.size; simp; omega)))
          go_wp2_with (at_builtin; refine wpList_pushK rfl (.tmp 20) (.tmp 25) 27 rfl enc6_len (by decide) enc6_one W0.heap.size 75 i0 (.agg #[.int .i64 0, .int .i64 0, .int .i64 0, .int .i64 0, .string ⟨#[]⟩, .bool false]) 56 Try.u27 hi9 hz0 hz1 hz2 rfl (.slice oa ks.length oc) ks (x) w7.heap.size rfl rfl H5.out O5.out Q5.out.1 Q5.out.2.1 Q5.out.2.2 ?_; intro v6 w6 hown hgr; have O6 := Lib.hid hown; have K6 := Lib.hid (push_okG K7.out O7.out (Nat.le_refl _) hgr); clear hown hgr)
          go_roundw
          case rel => exact ⟨i + 1, by go_num, by omega, Lib.hid ⟨by rw [NX.out]; exact O6.out, K6.out⟩⟩
          case measure => simp [intOf]; omega
        · have t3 := bneT _ _ t1
          have t4 := bneF _ _ t2
          clear hq
          go_wp2
          go_quiet (fail)
          have B7 := Lib.hid (below_drewN wr nq)
          have O7 := Lib.hid (own_belowK O0.out B7.out)
          have K7 := Lib.hid (K0.out.trans (B7.out.mono K0.out.size))
          generalize wr.drewN nq = w7 at *
          clear a0 a1 a2 a3 a4 a5 c1 c2
          obtain ⟨a0, a1, a2, a3, a4, a5⟩ := AF.out w7 K7.out
          have O5 := Lib.hid (own_belowK O7.out (vstep w7 (.cells #[.int .i64 x.t, .int .i64 x.r, .int .i64 x.pt, .int .i64 x.pr, .string x.nm, .bool x.d] 75)))
          have H5 := Lib.hid (show (w7.alloc (.cells #[.int .i64 x.t, .int .i64 x.r, .int .i64 x.pt, .int .i64 x.pr, .string x.nm, .bool x.d] 75)).heap[w7.heap.size]? = some (.cells (enc6 (x)).toArray 75 (0, 0)) from heap_alloc_new w7 _)
          have Q5 := Lib.hid (And.intro (show ks.length + 1 ≤ maxLen from by have := LN.out; unfold maxLen; omega) (And.intro (show (ks.length + 1) * 56 ≤ 140737488355328 from by have := LN.out; omega) (show W0.heap.size ≤ (w7.alloc (.cells #[.int .i64 x.t, .int .i64 x.r, .int .i64 x.pt, .int .i64 x.pr, .string x.nm, .bool x.d] 75)).heap.size from by have := K7.out.size; simp; omega)))
          go_wp2_with (at_builtin; refine wpList_pushK rfl (.tmp 20) (.tmp 25) 27 rfl enc6_len (by decide) enc6_one W0.heap.size 75 i0 (.agg #[.int .i64 0, .int .i64 0, .int .i64 0, .int .i64 0, .string ⟨#[]⟩, .bool false]) 56 Try.u27 hi9 hz0 hz1 hz2 rfl (.slice oa ks.length oc) ks (x) w7.heap.size rfl rfl H5.out O5.out Q5.out.1 Q5.out.2.1 Q5.out.2.2 ?_; intro v6 w6 hown hgr; have O6 := Lib.hid hown; have K6 := Lib.hid (push_okG K7.out O7.out (Nat.le_refl _) hgr); clear hown hgr)
          go_roundw
          case rel => exact ⟨i + 1, by go_num, by omega, Lib.hid ⟨by rw [NX.out]; exact O6.out, K6.out⟩⟩
          case measure => simp [intOf]; omega
    · have FIN := Lib.hid (show wr.ownsRow w.heap.size 75 6 (.slice oa (dropF (l.take i) p1 p2).length oc) (dropF l p1 p2).length ((dropF l p1 p2).flatMap enc6) ∧ Below w.heap.size w wr from by
        have h := O0.out
        rw [show l.take i = l from List.take_of_length_le (by omega)] at h ⊢
        exact ⟨own_less h B1.out.size, B1.out.trans (K0.out.mono B1.out.size)⟩)
      clear O0
      go_wp2
      go_returns
      exact ⟨_, rfl, FIN.out.1, FIN.out.2⟩
set_option maxHeartbeats 3200000 in
theorem is_same (w : World) (p b : Nat) (v : Value) (l : List Rw) (h : TabI w p b l) (hv : LiesR w v l) :
    Calls Try.prog 17 #[.pointer (some ⟨p, 0, none⟩), v] w fun e w' => e = .returned (.bool true) ∧ Below w.heap.size w w' := by
  have H := Lib.hid h
  have L := Lib.hid hv
  have hlm := hv.len
  have LN := Lib.hid (len_any w p b l h)
  have t0 : ((l.length : Int) != (l.length : Int)) = false := by simp
  obtain ⟨ao, cap, rfl⟩ := hv.shape
  clear h hv
  go_enter Try.func17, Try.ntmps17
  go_wp2_with fail
  refine LN.out.mono ?_
  rintro e w1 ⟨rfl, rfl⟩
  go_wp2
  clear t0
  go_loopw [5] (fun kv wr => ∃ i : Nat, kv = .int .i64 i ∧ i ≤ l.length ∧ Hid (Below w.heap.size w wr)) (fun kv _ => l.length - (intOf kv).toNat)
  case atStart => exact ⟨0, rfl, Nat.zero_le _, Lib.hid (Below.refl _ _)⟩
  case round =>
    obtain ⟨i, rfl, hi, hK⟩ := hrel
    by_cases hlt : i < l.length
    · obtain ⟨g, o, x, rfl, hx, hg, a0, a1, a2, a3, a4, a5⟩ := L.out.row hlt
      have AF := Lib.hid (fun W (hb : Below w.heap.size w W) => (show W.cell? ⟨g, o + i * 6, none⟩ = some (.int .i64 x.t) ∧ W.cell? ⟨g, o + i * 6 + 1, none⟩ = some (.int .i64 x.r) ∧ W.cell? ⟨g, o + i * 6 + 2, none⟩ = some (.int .i64 x.pt) ∧ W.cell? ⟨g, o + i * 6 + 3, none⟩ = some (.int .i64 x.pr) ∧ W.cell? ⟨g, o + i * 6 + 4, none⟩ = some (.string x.nm) ∧ W.cell? ⟨g, o + i * 6 + 5, none⟩ = some (.bool x.d) from ⟨(hb.cell (p := ⟨g, o + i * 6, none⟩) hg).trans a0, (hb.cell (p := ⟨g, o + i * 6 + 1, none⟩) hg).trans a1, (hb.cell (p := ⟨g, o + i * 6 + 2, none⟩) hg).trans a2, (hb.cell (p := ⟨g, o + i * 6 + 3, none⟩) hg).trans a3, (hb.cell (p := ⟨g, o + i * 6 + 4, none⟩) hg).trans a4, (hb.cell (p := ⟨g, o + i * 6 + 5, none⟩) hg).trans a5⟩))
      have hm := List.mem_of_getElem? hx
      have hok := H.out.map.oks x hm
      have hget := (get_some H.out.map.rise).2 ⟨hm, rfl, rfl⟩
      have GT := Lib.hid (get_any wr p b l (H.out.step hK.out) x.t x.r hok.1 hok.2.1)
      rw [show gv l x.t x.r = .agg #[.int .i64 x.pt, .int .i64 x.pr, .string x.nm, .bool x.d] from by unfold gv; rw [hget], show (getF l x.t x.r).isSome = true from by rw [hget]; rfl] at GT
      have TO := Lib.hid (fun W => to_any W x.pt x.pr x.nm x.d)
      clear hx hg a0 a1 a2 a3 a4 a5 hm hok hget
      obtain ⟨a0, a1, a2, a3, a4, a5⟩ := AF.out wr hK.out
      go_wp2_with fail
      refine GT.out.mono ?_
      rintro e w2 ⟨rfl, hb⟩
      have B2 := Lib.hid (hK.out.trans (hb.mono hK.out.size))
      clear hb a0 a1 a2 a3 a4 a5
      go_upto_region 7 with (fail)
      have B3 := Lib.hid (B2.out.trans ((vstep w2 (.cells #[.int .i64 x.pt, .int .i64 x.pr, .string x.nm, .bool x.d] 34)).mono B2.out.size))
      have E3 := Lib.hid (EnAt.new w2 x.pt x.pr x.nm x.d)
      obtain ⟨k2, hk2⟩ : ∃ k, w2.heap.size = k := ⟨_, rfl⟩
      rw [hk2] at E3 ⊢
      generalize (w2.alloc (.cells #[.int .i64 x.pt, .int .i64 x.pr, .string x.nm, .bool x.d] 34)) = w3 at *
      have CF := Lib.hid (fun W (hb : Below w3.heap.size w3 W) => (show (W.cell? ⟨g, o + i * 6, none⟩ = some (.int .i64 x.t) ∧ W.cell? ⟨g, o + i * 6 + 1, none⟩ = some (.int .i64 x.r) ∧ W.cell? ⟨g, o + i * 6 + 2, none⟩ = some (.int .i64 x.pt) ∧ W.cell? ⟨g, o + i * 6 + 3, none⟩ = some (.int .i64 x.pr) ∧ W.cell? ⟨g, o + i * 6 + 4, none⟩ = some (.string x.nm) ∧ W.cell? ⟨g, o + i * 6 + 5, none⟩ = some (.bool x.d)) ∧ W.cell? ⟨k2, 0, none⟩ = some (.int .i64 x.pt) ∧ W.cell? ⟨k2, 1, none⟩ = some (.int .i64 x.pr) ∧ W.cell? ⟨k2, 2, none⟩ = some (.string x.nm) ∧ W.cell? ⟨k2, 3, none⟩ = some (.bool x.d) from ⟨AF.out W (B3.out.trans (hb.mono B3.out.size)), (E3.out.step hb).cells⟩))
      have BB := Lib.hid ((Below.refl w3.heap.size w3).drew)
      have s1 : (x.pt == x.pt) = true := by simp
      have s2 : (x.pr == x.pr) = true := by simp
      have s4 : (x.d == x.d) = true := by cases x.d <;> rfl
      clear hk2
      go_region_held3 (fun W => (W.cell? ⟨g, o + i * 6, none⟩ = some (.int .i64 x.t) ∧ W.cell? ⟨g, o + i * 6 + 1, none⟩ = some (.int .i64 x.r) ∧ W.cell? ⟨g, o + i * 6 + 2, none⟩ = some (.int .i64 x.pt) ∧ W.cell? ⟨g, o + i * 6 + 3, none⟩ = some (.int .i64 x.pr) ∧ W.cell? ⟨g, o + i * 6 + 4, none⟩ = some (.string x.nm) ∧ W.cell? ⟨g, o + i * 6 + 5, none⟩ = some (.bool x.d)) ∧ W.cell? ⟨k2, 0, none⟩ = some (.int .i64 x.pt) ∧ W.cell? ⟨k2, 1, none⟩ = some (.int .i64 x.pr) ∧ W.cell? ⟨k2, 2, none⟩ = some (.string x.nm) ∧ W.cell? ⟨k2, 3, none⟩ = some (.bool x.d)) (exact CF.out _ BB.out)
        (first
        | (go_at_call 12; refine (TO.out _).mono ?_; rintro e w4 ⟨rfl, hb⟩; have BB := Lib.hid (BB.out.trans (hb.mono BB.out.size)); clear hb))
      all_goals
        go_wp2
        go_roundw
        case rel => exact ⟨i + 1, by go_num, by omega, Lib.hid (B3.out.trans (BB.out.mono B3.out.size))⟩
        case measure => simp [intOf]; omega
    · go_wp2
      go_returns
      exact ⟨rfl, hK.out⟩
end Go.Proofs.Ytegmlekeielmoaa
