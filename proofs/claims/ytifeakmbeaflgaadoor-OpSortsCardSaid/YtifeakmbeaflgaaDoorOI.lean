/- The reference's stamps5, Put. Made by genoi7.py. -/
import Derived.Test.YtifeakmbeaflgaaDoorOH
set_option linter.unusedVariables false
namespace Go.Proofs.YtifeakmbeaflgaaDoor
open Go.RowKit
open Wi (RowOut nb stb tb fb Lies)

set_option maxRecDepth 100000 in
set_option maxHeartbeats 800000 in
theorem rstamps5_any (w : World) (x y : Int) (hx : x ≤ 9223372036854775807) (hy : y ≤ 9223372036854775807) :
    Calls Tryd.prog 53 #[.agg #[.int .i64 x, .int .i64 y]] w fun e w' => ∃ r, e = .returned r ∧ RowOut w w' r (stb x y) := by
  have C := Lib.hid (fun W => Wi.rstamp_any W x y hx hy)
  have X := Lib.hid ((Below.refl w.heap.size w).alloc (Nat.le_refl _) (.cells #[.int .i64 x, .int .i64 y] 23))
  clear hx hy
  generalize stb x y = s at *
  go_enter Tryd.func53, Tryd.ntmps53
  go_wp2_with fail
  refine (C.out _).mono ?_
  rintro e w1 ⟨r, rfl, ho⟩
  have RO := Lib.hid (show RowOut w w1 r s from ⟨own_mono X.out.size ho.1, X.out.trans (ho.2.mono X.out.size)⟩)
  obtain ⟨ra, rc, rfl⟩ := Wi.own_shape ho.1
  clear ho
  go_wp2
  go_returns
  exact ⟨_, rfl, RO.out⟩
/-- A row of bytes that grows, behind the op's box. -/
structure AC (w W : World) (t r q nt nr pt pr : Int) (nm : ByteArray) (d : Bool) (v : Value) (cs : List Int) : Prop where
  box : OpAt W w.heap.size t r q nt nr pt pr nm d
  own : W.ownsRow (w.heap.size + 1) 5 1 v cs.length (Wi.u8s cs)
  bel : Below w.heap.size w W
  big : w.heap.size + 1 ≤ W.heap.size
theorem AC.call {w W W' : World} {t r q nt nr pt pr : Int} {nm : ByteArray} {d : Bool} {v u : Value} {cs ds : List Int} (h : AC w W t r q nt nr pt pr nm d v cs) (k : RowOut W W' u ds) : AC w W' t r q nt nr pt pr nm d v cs ∧ Src Tryd.prog 1 36 u ds.length (Wi.u8s ds) W' :=
  ⟨⟨h.box.step k.2, own_below h.own k.2, h.bel.trans (k.2.mono h.bel.size), Nat.le_trans h.big k.2.size⟩, (Wi.own_lies k.1).src⟩
theorem AC.app {w W W' : World} {t r q nt nr pt pr : Int} {nm : ByteArray} {d : Bool} {v u : Value} {cs ds es : List Int} (h : AC w W t r q nt nr pt pr nm d v cs) (hown : W'.ownsRow (w.heap.size + 1) 5 1 u (cs.length + ds.length) (Wi.u8s cs ++ Wi.u8s ds)) (hgr : W.grownBy W' v.ownBlock) (he : cs ++ ds = es) : AC w W' t r q nt nr pt pr nm d u es := by
  subst he
  have hb : Below (w.heap.size + 1) W W' := (Below.refl _ _).grown hgr h.big (fun k hk => (h.own.lt k hk).1)
  exact ⟨(hb.block _ (Nat.lt_succ_self _)).trans h.box, by rw [Wi.u8s_append, List.length_append]; exact hown, h.bel.trans (hb.mono (Nat.le_succ _)), Nat.le_trans h.big hb.size⟩
set_option maxRecDepth 100000 in
set_option maxHeartbeats 3200000 in
theorem rput_any (w : World) (t r q nt nr pt pr : Int) (nm : ByteArray) (d : Bool) (ht : t ≤ 9223372036854775807) (hr : r ≤ 9223372036854775807) (hq : q ≤ 9223372036854775807) (hnt : nt ≤ 9223372036854775807) (hnr : nr ≤ 9223372036854775807) (hpt : pt ≤ 9223372036854775807) (hpr : pr ≤ 9223372036854775807) (hz : nm.size ≤ 1000) :
    Calls Tryd.prog 22 #[.agg #[.int .i64 t, .int .i64 r, .int .i64 q, .int .i64 nt, .int .i64 nr, .int .i64 pt, .int .i64 pr, .string nm, .bool d]] w fun e w' => ∃ v, e = .returned v ∧ RowOut w w' v (opB t r q nt nr pt pr nm d) := by
  obtain ⟨i0, hi, hz0, hz1, hz2⟩ := info_parts Wi.Tryd.info5
  have T0 := Lib.hid (BX.start w t r q nt nr pt pr nm d)
  have E := Lib.hid (show opB t r q nt nr pt pr nm d = (((((stb t r) ++ nb q.toNat) ++ stb nt nr) ++ stb pt pr) ++ tb nm) ++ fb d from by unfold opB; simp only [List.append_assoc])
  have SZ := Lib.hid (show w.heap.size + 1 ≤ (w.alloc (.cells #[.int .i64 t, .int .i64 r, .int .i64 q, .int .i64 nt, .int .i64 nr, .int .i64 pt, .int .i64 pr, .string nm, .bool d] 25)).heap.size from by simp)
  have y1 := stb_len t r ht hr
  have y2 := stb_len nt nr hnt hnr
  have y3 := stb_len pt pr hpt hpr
  have y4 : (tb nm).length ≤ 1009 := by have := tb_len nm hz; omega
  have y5 := Wi.nb_len9 q.toNat (by omega)
  have y6 := fb_len d
  have C1 := Lib.hid (fun W => rstamps5_any W t r ht hr)
  have C2 := Lib.hid (fun W => Wi.rnum_any W q hq)
  have C3 := Lib.hid (fun W => rstamps5_any W nt nr hnt hnr)
  have C4 := Lib.hid (fun W => rstamps5_any W pt pr hpt hpr)
  have C5 := Lib.hid (fun W => Wi.rtext_any W nm (by omega))
  have C6 := Lib.hid (fun W => Wi.rflag_any W d)
  clear ht hr hq hnt hnr hpt hpr hz
  generalize opB t r q nt nr pt pr nm d = res at *
  generalize stb t r = a1 at *
  generalize nb q.toNat = a2 at *
  generalize stb nt nr = a3 at *
  generalize stb pt pr = a4 at *
  generalize tb nm = a5 at *
  generalize fb d = a6 at *
  obtain ⟨b2, hb2⟩ : ∃ x, a1 ++ a2 = x := ⟨_, rfl⟩
  obtain ⟨b3, hb3⟩ : ∃ x, b2 ++ a3 = x := ⟨_, rfl⟩
  obtain ⟨b4, hb4⟩ : ∃ x, b3 ++ a4 = x := ⟨_, rfl⟩
  obtain ⟨b5, hb5⟩ : ∃ x, b4 ++ a5 = x := ⟨_, rfl⟩
  obtain ⟨b6, hb6⟩ : ∃ x, b5 ++ a6 = x := ⟨_, rfl⟩
  rw [hb2, hb3, hb4, hb5, hb6] at E
  have l2 : b2.length ≤ 27 := by rw [← hb2, List.length_append]; omega
  have l3 : b3.length ≤ 45 := by rw [← hb3, List.length_append]; omega
  have l4 : b4.length ≤ 63 := by rw [← hb4, List.length_append]; omega
  have l5 : b5.length ≤ 1072 := by rw [← hb5, List.length_append]; omega
  have H2 := Lib.hid hb2
  have H3 := Lib.hid hb3
  have H4 := Lib.hid hb4
  have H5 := Lib.hid hb5
  have H6 := Lib.hid hb6
  have Y := Lib.hid (And.intro y1 (And.intro y5 (And.intro y2 (And.intro y3 (And.intro y4 (And.intro y6 (And.intro l2 (And.intro l3 (And.intro l4 l5)))))))))
  clear hb2 hb3 hb4 hb5 hb6 l2 l3 l4 l5 y1 y2 y3 y4 y5 y6
  go_enter Tryd.func22, Tryd.ntmps22
  go_wp2_with fail
  refine (C1.out _).mono ?_
  rintro e w1 ⟨v1, rfl, ho⟩
  have A1 := Lib.hid (show AC w w1 t r q nt nr pt pr nm d v1 a1 from ⟨T0.out.2.step ho.2, own_mono SZ.out ho.1, T0.out.1.trans (ho.2.mono T0.out.1.size), Nat.le_trans SZ.out ho.2.size⟩)
  obtain ⟨va1, vc1, rfl⟩ := Wi.own_shape ho.1
  clear ho
  obtain ⟨c0, c1, c2, c3, c4, c5, c6, c7, c8⟩ := A1.out.box.cells

  go_wp2_with fail
  refine (C2.out _).mono ?_
  rintro e x2 ⟨u2', rfl, ho⟩
  have SR := (A1.out.call ho).2
  have X2 := Lib.hid (A1.out.call ho).1
  have S2 := Lib.hid SR
  obtain ⟨ua2, uc2, rfl⟩ := Wi.own_shape ho.1
  clear ho SR c0 c1 c2 c3 c4 c5 c6 c7 c8
  go_wp2_with (at_builtin; refine Wi.wpList_append_src_own rfl (.tmp 11) (.tmp 12) 36 36 rfl (w.heap.size + 1) 5 i0 (.int .u8 0) 1 1 Tryd.underlying36 hi hz0 hz1 hz2 rfl (by decide) _ _ _ rfl X2.out.own _ _ _ rfl S2.out (by have := Y.out; unfold maxLen; omega) (by have := Y.out; omega) X2.out.big ?_; intro v2 w2 hown hgr hsp; have A2 := Lib.hid (X2.out.app hown hgr H2.out); obtain ⟨va2, vc2, rfl⟩ := Wi.own_shape A2.out.own; clear hown hgr hsp; obtain ⟨c0, c1, c2, c3, c4, c5, c6, c7, c8⟩ := A2.out.box.cells)
  go_wp2_with fail
  refine (C3.out _).mono ?_
  rintro e x3 ⟨u3', rfl, ho⟩
  have SR := (A2.out.call ho).2
  have X3 := Lib.hid (A2.out.call ho).1
  have S3 := Lib.hid SR
  obtain ⟨ua3, uc3, rfl⟩ := Wi.own_shape ho.1
  clear ho SR c0 c1 c2 c3 c4 c5 c6 c7 c8
  go_wp2_with (at_builtin; refine Wi.wpList_append_src_own rfl (.tmp 17) (.tmp 18) 36 36 rfl (w.heap.size + 1) 5 i0 (.int .u8 0) 1 1 Tryd.underlying36 hi hz0 hz1 hz2 rfl (by decide) _ _ _ rfl X3.out.own _ _ _ rfl S3.out (by have := Y.out; unfold maxLen; omega) (by have := Y.out; omega) X3.out.big ?_; intro v3 w3 hown hgr hsp; have A3 := Lib.hid (X3.out.app hown hgr H3.out); obtain ⟨va3, vc3, rfl⟩ := Wi.own_shape A3.out.own; clear hown hgr hsp; obtain ⟨c0, c1, c2, c3, c4, c5, c6, c7, c8⟩ := A3.out.box.cells)
  go_wp2_with fail
  refine (C4.out _).mono ?_
  rintro e x4 ⟨u4', rfl, ho⟩
  have SR := (A3.out.call ho).2
  have X4 := Lib.hid (A3.out.call ho).1
  have S4 := Lib.hid SR
  obtain ⟨ua4, uc4, rfl⟩ := Wi.own_shape ho.1
  clear ho SR c0 c1 c2 c3 c4 c5 c6 c7 c8
  go_wp2_with (at_builtin; refine Wi.wpList_append_src_own rfl (.tmp 23) (.tmp 24) 36 36 rfl (w.heap.size + 1) 5 i0 (.int .u8 0) 1 1 Tryd.underlying36 hi hz0 hz1 hz2 rfl (by decide) _ _ _ rfl X4.out.own _ _ _ rfl S4.out (by have := Y.out; unfold maxLen; omega) (by have := Y.out; omega) X4.out.big ?_; intro v4 w4 hown hgr hsp; have A4 := Lib.hid (X4.out.app hown hgr H4.out); obtain ⟨va4, vc4, rfl⟩ := Wi.own_shape A4.out.own; clear hown hgr hsp; obtain ⟨c0, c1, c2, c3, c4, c5, c6, c7, c8⟩ := A4.out.box.cells)
  go_wp2_with fail
  refine (C5.out _).mono ?_
  rintro e x5 ⟨u5', rfl, ho⟩
  have SR := (A4.out.call ho).2
  have X5 := Lib.hid (A4.out.call ho).1
  have S5 := Lib.hid SR
  obtain ⟨ua5, uc5, rfl⟩ := Wi.own_shape ho.1
  clear ho SR c0 c1 c2 c3 c4 c5 c6 c7 c8
  go_wp2_with (at_builtin; refine Wi.wpList_append_src_own rfl (.tmp 29) (.tmp 30) 36 36 rfl (w.heap.size + 1) 5 i0 (.int .u8 0) 1 1 Tryd.underlying36 hi hz0 hz1 hz2 rfl (by decide) _ _ _ rfl X5.out.own _ _ _ rfl S5.out (by have := Y.out; unfold maxLen; omega) (by have := Y.out; omega) X5.out.big ?_; intro v5 w5 hown hgr hsp; have A5 := Lib.hid (X5.out.app hown hgr H5.out); obtain ⟨va5, vc5, rfl⟩ := Wi.own_shape A5.out.own; clear hown hgr hsp; obtain ⟨c0, c1, c2, c3, c4, c5, c6, c7, c8⟩ := A5.out.box.cells)
  go_wp2_with fail
  refine (C6.out _).mono ?_
  rintro e x6 ⟨u6', rfl, ho⟩
  have SR := (A5.out.call ho).2
  have X6 := Lib.hid (A5.out.call ho).1
  have S6 := Lib.hid SR
  obtain ⟨ua6, uc6, rfl⟩ := Wi.own_shape ho.1
  clear ho SR c0 c1 c2 c3 c4 c5 c6 c7 c8
  go_wp2_with (at_builtin; refine Wi.wpList_append_src_own rfl (.tmp 35) (.tmp 36) 36 36 rfl (w.heap.size + 1) 5 i0 (.int .u8 0) 1 1 Tryd.underlying36 hi hz0 hz1 hz2 rfl (by decide) _ _ _ rfl X6.out.own _ _ _ rfl S6.out (by have := Y.out; unfold maxLen; omega) (by have := Y.out; omega) X6.out.big ?_; intro v6 w6 hown hgr hsp; have A6 := Lib.hid (X6.out.app hown hgr H6.out); obtain ⟨va6, vc6, rfl⟩ := Wi.own_shape A6.out.own; clear hown hgr hsp; obtain ⟨c0, c1, c2, c3, c4, c5, c6, c7, c8⟩ := A6.out.box.cells)
  go_returns
  exact ⟨_, rfl, by rw [E.out]; exact own_mono (Nat.le_succ _) A6.out.own, by exact A6.out.bel⟩
end Go.Proofs.YtifeakmbeaflgaaDoor
