/- The reference's disk: without. Made by genre10.py. -/
import Derived.Test.YtoddofcmdbifpaaRC
set_option linter.unusedVariables false
set_option linter.unusedSimpArgs false
set_option maxRecDepth 100000
namespace Go.Proofs.Ytoddofcmdbifpaa
open Go.RowKit Go.WideMaps Go.Maps

theorem Far.cell {P : Nat → Prop} {w w' : World} (h : Far P w w') {p : Addr} {u : Value} (hc : w.cell? p = some u) (hn : ¬ P p.block) : w'.cell? p = some u := by
  have hlt := lt_of_cell hc
  have hb := h.block p.block hlt hn
  unfold World.cell? at hc ⊢
  rw [hb]
  exact hc
theorem RB.far {P : Nat → Prop} {w w' : World} {g : Nat} {v : Value} {room lasts : Int} {dn : Bool} (h : RB w g v room lasts dn) (hf : Far P w w') (hn : ¬ P g) : RB w' g v room lasts dn := (hf.block g (lt_of_block h) hn).trans h
theorem drop_yes {l : List Fl} {nm : ByteArray} {i : Nat} {x : Fl} (hx : l[i]? = some x) (hn : x.n ≠ nm) : dropF (l.take (i + 1)) nm = dropF (l.take i) nm ++ [x] := by
  have e : l.take (i + 1) = l.take i ++ [x] := by rw [List.take_add_one, hx]; rfl
  unfold dropF
  rw [e, List.filter_append]
  simp [isN, hn]
theorem drop_no {l : List Fl} {nm : ByteArray} {i : Nat} {x : Fl} (hx : l[i]? = some x) (hn : x.n = nm) : dropF (l.take (i + 1)) nm = dropF (l.take i) nm := by
  have e : l.take (i + 1) = l.take i ++ [x] := by rw [List.take_add_one, hx]; rfl
  unfold dropF
  rw [e, List.filter_append]
  simp [isN, hn]
structure WI (w W : World) (v : Value) (l m : List Fl) (room lasts : Int) (dn : Bool) (u : Value) : Prop where
  g0 : RB W w.heap.size v room lasts dn
  g1 : RB W (w.heap.size + 1) (.slice none 0 0) 0 0 false
  g2 : RB W (w.heap.size + 2) u room lasts dn
  own : W.ownsRow (w.heap.size + 3) 66 3 u m.length (m.flatMap encR)
  bel : Below w.heap.size w W
theorem WI.step {w W W' : World} {v u : Value} {l m : List Fl} {room lasts : Int} {dn : Bool} (h : WI w W v l m room lasts dn u) (hb : Below W.heap.size W W') : WI w W' v l m room lasts dn u :=
  ⟨h.g0.step hb, h.g1.step hb, h.g2.step hb, own_belowK h.own hb, h.bel.trans (hb.mono h.bel.size)⟩
theorem WI.big {w W : World} {v u : Value} {l m : List Fl} {room lasts : Int} {dn : Bool} (h : WI w W v l m room lasts dn u) : w.heap.size + 3 ≤ W.heap.size := by have := lt_of_block h.g2; omega
set_option maxHeartbeats 6400000 in
theorem wout_any (w : World) (v : Value) (l : List Fl) (room lasts : Int) (dn : Bool) (h : RD w v l) (nm : ByteArray) (hl : l.length < 100000) :
    Calls Try.prog 41 #[rdv v room lasts dn, .string nm] w fun e w' => ∃ u, e = .returned (rdv u room lasts dn) ∧ w'.ownsRow w.heap.size 66 3 u (dropF l nm).length ((dropF l nm).flatMap encR) ∧ Below w.heap.size w w' := by
  have L := Lib.hid h
  obtain ⟨ao, cap, rfl⟩ := h.1.shape
  have B1 := vstep w (.cells #[.slice ao l.length cap, .int .i64 room, .int .i64 lasts, .bool dn] 29)
  have B2 := vstep (w.alloc (.cells #[.slice ao l.length cap, .int .i64 room, .int .i64 lasts, .bool dn] 29)) (.cells #[.slice none 0 0, .int .i64 0, .int .i64 0, .bool false] 29)
  have B3 := vstep ((w.alloc (.cells #[.slice ao l.length cap, .int .i64 room, .int .i64 lasts, .bool dn] 29)).alloc (.cells #[.slice none 0 0, .int .i64 0, .int .i64 0, .bool false] 29)) (.cells #[.slice none 0 0, .int .i64 room, .int .i64 lasts, .bool dn] 29)
  have E0 := ((RB.new w (.slice ao l.length cap) room lasts dn).step B2).step B3
  have E1 := (RB.new (w.alloc (.cells #[.slice ao l.length cap, .int .i64 room, .int .i64 lasts, .bool dn] 29)) (.slice none 0 0) 0 0 false).step B3
  have E2 := RB.new ((w.alloc (.cells #[.slice ao l.length cap, .int .i64 room, .int .i64 lasts, .bool dn] 29)).alloc (.cells #[.slice none 0 0, .int .i64 0, .int .i64 0, .bool false] 29)) (.slice none 0 0) room lasts dn
  simp only [World.size_alloc] at E1 E2
  have BB := B1.trans ((B2.trans (B3.mono B2.size)).mono B1.size)
  have D0 := (RB.new w (.slice ao l.length cap) room lasts dn).step B2
  have C0 := Lib.hid D0.cells
  obtain ⟨W0, hW0⟩ : ∃ y, ((w.alloc (.cells #[.slice ao l.length cap, .int .i64 room, .int .i64 lasts, .bool dn] 29)).alloc (.cells #[.slice none 0 0, .int .i64 0, .int .i64 0, .bool false] 29)).alloc (.cells #[.slice none 0 0, .int .i64 room, .int .i64 lasts, .bool dn] 29) = y := ⟨_, rfl⟩
  rw [hW0] at E0 E1 E2 BB
  have K0 := Lib.hid (show WI w W0 (.slice ao l.length cap) l (dropF (l.take 0) nm) room lasts dn (.slice none 0 0) from ⟨E0, E1, E2, World.ownsRow_nil _ _ _ _, BB⟩)
  have HW := Lib.hid hW0
  have hlm := h.1.len
  clear h hW0 B1 B2 B3 E0 E1 E2 BB D0
  go_enter Try.func41, Try.ntmps41
  go_upto_region 1 with (fail)
  obtain ⟨c0, c1, c2, c3⟩ := C0.out
  go_upto_region 2 with (fail)
  rw [HW.out]
  clear c0 c1 c2 c3 C0
  go_wp2_with fail
  go_loopw [6] (fun kv wr => ∃ (i : Nat) (u : Value), kv = .int .i64 i ∧ i ≤ l.length ∧ Hid (WI w wr (.slice ao l.length cap) l (dropF (l.take i) nm) room lasts dn u)) (fun kv _ => l.length - (intOf kv).toNat)
  case atStart => exact ⟨0, _, rfl, Nat.zero_le _, K0⟩
  case round =>
    obtain ⟨i, u, rfl, hi, hK⟩ := hrel
    obtain ⟨ua, uc, rfl⟩ := own_shapeK hK.out.own
    have K := Lib.hid hK.out
    clear hK K0
    obtain ⟨m, hm⟩ : ∃ m, dropF (l.take i) nm = m := ⟨_, rfl⟩
    rw [hm] at K
    have HM := Lib.hid hm
    have HML := Lib.hid (show m.length < 100000 from by
      have h1 : m.length ≤ (l.take i).length := by rw [← hm]; exact List.length_filter_le _ _
      rw [List.length_take] at h1
      omega)
    clear hm
    obtain ⟨c0, c1, c2, c3⟩ := K.out.g0.cells
    by_cases hlt : i < l.length
    · obtain ⟨g, o, x, rfl, hx, hg, a0, a1, a2⟩ := rec_at (L.out.1.keep K.out.bel (Nat.le_refl _)) hlt
      have HX := Lib.hid hx
      have hgw : g < w.heap.size := by
        obtain ⟨g', o', x', e, _, hg', _⟩ := rec_at L.out.1 hlt
        injection e with e
        injection e with e
        omega
      by_cases hn : x.n = nm
      · have e1 := tl_eq hn
        have e2 : (x.n.toList != nm.toList) = false := by rw [hn]; simp
        have FIN := Lib.hid (show WI w wr (.slice (some ⟨g, o, none⟩) l.length cap) l (dropF (l.take (i + 1)) nm) room lasts dn (.slice ua m.length uc) from by rw [drop_no HX.out hn, HM.out]; exact K.out)
        clear hn hx
        go_wp2
        go_roundw
        case rel => exact ⟨i + 1, _, by go_num, by omega, FIN⟩
        case measure => simp [intOf]; omega
      · have e1 := tl_ne hn
        have e2 : (x.n.toList != nm.toList) = true := by simp only [bne, e1]; rfl
        have KD := K.out.step (show Below wr.heap.size wr wr.drew from (Below.refl _ _).drew)
        obtain ⟨a', c', w3, w4, q1, q2, q3, q4, q5, q6⟩ := put_file (W := wr.drew) x KD.own KD.g2 KD.big HML.out
        have ap : ∀ j, (Value.slice ua m.length uc).ownBlock = some j → w.heap.size + 3 ≤ j := fun j e => (KD.own.lt j e).1
        have SP : ∀ {W'} (P : Nat → Prop), Far P wr.drew W' → (∀ k, P k → w.heap.size + 2 ≤ k) → (W'.cell? ⟨w.heap.size, 0, none⟩ = some (.slice (some ⟨g, o, none⟩) l.length cap) ∧ W'.cell? ⟨g, o + i * 3, none⟩ = some (.string x.n) ∧ W'.cell? ⟨g, o + i * 3 + 1, none⟩ = some (.slice x.a x.b.length x.c) ∧ W'.cell? ⟨g, o + i * 3 + 2, none⟩ = some (.int .i64 x.s)) := fun P hf hp =>
          ⟨hf.cell (p := ⟨w.heap.size, 0, none⟩) c0 (fun q => absurd (hp _ q) (by show ¬ (w.heap.size + 2 ≤ w.heap.size); omega)), hf.cell (p := ⟨g, o + i * 3, none⟩) a0 (fun q => absurd (hp _ q) (by show ¬ (w.heap.size + 2 ≤ g); omega)), hf.cell (p := ⟨g, o + i * 3 + 1, none⟩) a1 (fun q => absurd (hp _ q) (by show ¬ (w.heap.size + 2 ≤ g); omega)), hf.cell (p := ⟨g, o + i * 3 + 2, none⟩) a2 (fun q => absurd (hp _ q) (by show ¬ (w.heap.size + 2 ≤ g); omega))⟩
        have S0 := Lib.hid (SP (fun _ => False) (Far.refl _ _) (fun k q => q.elim))
        have V1 := vstep wr.drew (.cells #[.string x.n, .slice x.a x.b.length x.c, .int .i64 x.s] 66)
        have S1 := Lib.hid (SP (fun _ => False) (Far.of_below V1) (fun k q => q.elim))
        have S3 := Lib.hid (SP _ q6 (fun k q => by have := ap k q; omega))
        have S4 := Lib.hid (SP _ q5 (fun k q => by
          rcases q with q | q
          · have := ap k q; omega
          · omega))
        have FIN := Lib.hid (show WI w w4 (.slice (some ⟨g, o, none⟩) l.length cap) l (dropF (l.take (i + 1)) nm) room lasts dn (.slice a' (m ++ [x]).length c') from by
          rw [drop_yes HX.out hn, HM.out]
          refine ⟨KD.g0.far q5 ?_, KD.g1.far q5 ?_, q3, q4, KD.bel.trans (q5.below KD.bel.size ?_)⟩
          · rintro (e | e)
            · have := ap _ e; omega
            · omega
          · rintro (e | e)
            · have := ap _ e; omega
            · omega
          · rintro k (e | e)
            · have := ap _ e; omega
            · omega)
        have LV0 := Lib.hid (ldV27 (W := wr.drew) KD.g2.cells.1)
        have LV1 := Lib.hid (ldV27 ((KD.g2.step V1).cells.1))
        have BS := Lib.hid (bs27 wr.drew x.n x.a x.b.length x.c x.s)
        have HAP := Lib.hid q1
        have HST := Lib.hid q2
        have IX := Lib.hid (fun W => ix27 (W := W) (g := g) (o := o) (c := cap) hlt (by omega))
        obtain ⟨W1, hW1⟩ : ∃ z, wr.drew.alloc (.cells #[.string x.n, .slice x.a x.b.length x.c, .int .i64 x.s] 66) = z := ⟨_, rfl⟩
        rw [hW1] at S1 LV1 BS HAP
        clear q1 q2 q3 q4 q5 q6 V1 SP KD ap hn hW1 hx
        go_upto_region 6 with (fail)
        clear a0 a1 a2 c0 c1 c2 c3 e1 e2
        refine wp_region_held_drew (S := fun W => W.cell? ⟨w.heap.size, 0, none⟩ = some (.slice (some ⟨g, o, none⟩) l.length cap) ∧ W.cell? ⟨g, o + i * 3, none⟩ = some (.string x.n) ∧ W.cell? ⟨g, o + i * 3 + 1, none⟩ = some (.slice x.a x.b.length x.c) ∧ W.cell? ⟨g, o + i * 3 + 2, none⟩ = some (.int .i64 x.s)) (by kernel_rfl) S0.out (fun _ => ?_)
        refine take_at (i := 0) 29 ?_ rfl rfl (by kernel_rfl) (by kernel_rfl) (by kernel_rfl) (fun _ _ _ h => h) (.inl ⟨rfl, ?_⟩) S0.out ?_
        rotate_left 1
        · intro w hSw; go_simp; try with_reducible rfl
        simp only [Act.put, List.setIfInBounds_toArray, List.set_cons_zero, List.set_cons_succ]
        refine take_at (i := 2) 31 ?_ rfl rfl (by kernel_rfl) (by kernel_rfl) (by kernel_rfl) (fun _ _ _ h => h) (.inl ⟨rfl, ?_⟩) S0.out ?_
        rotate_left 1
        · intro w hSw; go_simp; try with_reducible rfl
        simp only [Act.put, List.setIfInBounds_toArray, List.set_cons_zero, List.set_cons_succ]
        refine take_at (i := 3) 32 (.slice (some ⟨g, o, none⟩) l.length cap) rfl rfl (by kernel_rfl) (by kernel_rfl) (by kernel_rfl) (fun _ _ _ h => h) (yields_ld (.tmp 31) 27 (.pointer (some ⟨w.heap.size, 0, none⟩)) _ (fun W hS => ldV27 hS.1) rfl rfl rfl) S0.out ?_
        simp only [Act.put, List.setIfInBounds_toArray, List.set_cons_zero, List.set_cons_succ]
        refine take_at (i := 4) 33 ?_ rfl rfl (by kernel_rfl) (by kernel_rfl) (by kernel_rfl) (fun _ _ _ h => h) (.inl ⟨rfl, ?_⟩) S0.out ?_
        rotate_left 1
        · intro w hSw; go_simp; try with_reducible rfl
        simp only [Act.put, List.setIfInBounds_toArray, List.set_cons_zero, List.set_cons_succ]
        refine take_at (i := 5) 34 (.pointer (some ⟨g, o + i * 3, none⟩)) rfl rfl (by kernel_rfl) (by kernel_rfl) (by kernel_rfl) (fun _ _ _ h => h) (yields_ix (.tmp 32) (.tmp 33) 27 (.slice (some ⟨g, o, none⟩) l.length cap) (.int .i64 (i : Int)) _ (fun W => IX.out W) rfl rfl rfl rfl) S0.out ?_
        simp only [Act.put, List.setIfInBounds_toArray, List.set_cons_zero, List.set_cons_succ]
        refine take_at (i := 6) 35 (.agg #[.string x.n, .slice x.a x.b.length x.c, .int .i64 x.s]) rfl rfl (by kernel_rfl) (by kernel_rfl) (by kernel_rfl) (fun _ _ _ h => h) (yields_ld (.tmp 34) 66 (.pointer (some ⟨g, o + i * 3, none⟩)) _ (fun W hS => ldR66 hS.2.1 hS.2.2.1 hS.2.2.2) rfl rfl rfl) S0.out ?_
        simp only [Act.put, List.setIfInBounds_toArray, List.set_cons_zero, List.set_cons_succ]
        refine wpAnyH_ready (rs := [1, 7]) (by kernel_rfl) (by simp) (br_load (i := 1) 30 (.tmp 29) 27 _ (.slice ua m.length uc) rfl rfl rfl rfl rfl LV0.out S0.out (fun _ => ?_) (br_bslice (i := 7) 36 27 1 _ #[(0, .agg #[.string x.n, .slice x.a x.b.length x.c, .int .i64 x.s])] _ W1 rfl rfl rfl rfl rfl BS.out S1.out (fun _ => ?_) AllReadyH.nil))
        · simp only [Act.put, List.setIfInBounds_toArray, List.set_cons_zero, List.set_cons_succ]
          refine wpAnyH_ready (rs := [7]) (by kernel_rfl) (by simp) (br_bslice (i := 7) 36 27 1 _ #[(0, .agg #[.string x.n, .slice x.a x.b.length x.c, .int .i64 x.s])] _ W1 rfl rfl rfl rfl rfl BS.out S1.out (fun _ => ?_) AllReadyH.nil)
          simp only [Act.put, List.setIfInBounds_toArray, List.set_cons_zero, List.set_cons_succ]
          refine one_append (i := 8) 37 (.tmp 30) (.tmp 36) 27 27 rfl rfl (by kernel_rfl) rfl rfl _ _ _ w3 rfl rfl (HAP.out _) S3.out (fun _ => ?_)
          simp only [Act.put, List.setIfInBounds_toArray, List.set_cons_zero, List.set_cons_succ]
          refine take_at (i := 9) 38 ?_ rfl rfl (by kernel_rfl) (by kernel_rfl) (by kernel_rfl) (fun _ _ _ h => h) (.inl ⟨rfl, ?_⟩) S3.out ?_
          rotate_left 1
          · intro w hSw; go_simp; try with_reducible rfl
          simp only [Act.put, List.setIfInBounds_toArray, List.set_cons_zero, List.set_cons_succ]
          refine wpAnyH_ready (rs := [10]) (by kernel_rfl) (by simp) (br_store (i := 10) 27 (.tmp 38) (.tmp 37) _ _ w4 rfl rfl rfl rfl rfl rfl HST.out S4.out (fun _ => ?_) AllReadyH.nil)
          simp only [Act.put, List.setIfInBounds_toArray, List.set_cons_zero, List.set_cons_succ]
          refine wpAnyH_done (by kernel_rfl) ?_ _
          go_wp2
          go_roundw
          case rel => exact ⟨i + 1, _, by go_num, by omega, FIN⟩
          case measure => simp [intOf]; omega
        · simp only [Act.put, List.setIfInBounds_toArray, List.set_cons_zero, List.set_cons_succ]
          refine wpAnyH_ready (rs := [1]) (by kernel_rfl) (by simp) (br_load (i := 1) 30 (.tmp 29) 27 _ (.slice ua m.length uc) rfl rfl rfl rfl rfl LV1.out S1.out (fun _ => ?_) AllReadyH.nil)
          simp only [Act.put, List.setIfInBounds_toArray, List.set_cons_zero, List.set_cons_succ]
          refine one_append (i := 8) 37 (.tmp 30) (.tmp 36) 27 27 rfl rfl (by kernel_rfl) rfl rfl _ _ _ w3 rfl rfl (HAP.out _) S3.out (fun _ => ?_)
          simp only [Act.put, List.setIfInBounds_toArray, List.set_cons_zero, List.set_cons_succ]
          refine take_at (i := 9) 38 ?_ rfl rfl (by kernel_rfl) (by kernel_rfl) (by kernel_rfl) (fun _ _ _ h => h) (.inl ⟨rfl, ?_⟩) S3.out ?_
          rotate_left 1
          · intro w hSw; go_simp; try with_reducible rfl
          simp only [Act.put, List.setIfInBounds_toArray, List.set_cons_zero, List.set_cons_succ]
          refine wpAnyH_ready (rs := [10]) (by kernel_rfl) (by simp) (br_store (i := 10) 27 (.tmp 38) (.tmp 37) _ _ w4 rfl rfl rfl rfl rfl rfl HST.out S4.out (fun _ => ?_) AllReadyH.nil)
          simp only [Act.put, List.setIfInBounds_toArray, List.set_cons_zero, List.set_cons_succ]
          refine wpAnyH_done (by kernel_rfl) ?_ _
          go_wp2
          go_roundw
          case rel => exact ⟨i + 1, _, by go_num, by omega, FIN⟩
          case measure => simp [intOf]; omega
    · have hge : ¬ ((i : Int) < (l.length : Int)) := by omega
      have hie : l.take i = l := List.take_of_length_le (by omega)
      have FIN := Lib.hid (show m = dropF l nm from by rw [← HM.out, hie])
      obtain ⟨d0, d1, d2, d3⟩ := K.out.g2.cells
      obtain ⟨e0, e1, e2, e3⟩ := K.out.g1.cells
      obtain ⟨f0, f1, f2, f3⟩ := K.out.g1.free
      clear hie c1 c2 c3
      go_wp2
      clear c0 d0 d1 d2 d3 e0 e1 e2 e3 f0 f1 f2 f3
      obtain ⟨w5, hW5⟩ : ∃ w5, sets4 wr (w.heap.size + 1) (.slice ua m.length uc) (.int .i64 room) (.int .i64 lasts) (.bool dn) = w5 := ⟨_, rfl⟩
      have hb5 := sets4_row (x' := .slice ua m.length uc) (y' := room) (z' := lasts) (v' := dn) K.out.g1
      have hw5 := sets4_below (x := .slice ua m.length uc) (y := .int .i64 room) (z := .int .i64 lasts) (v := .bool dn) K.out.bel (show w.heap.size ≤ w.heap.size + 1 by omega)
      have ho5 : (sets4 wr (w.heap.size + 1) (.slice ua m.length uc) (.int .i64 room) (.int .i64 lasts) (.bool dn)).ownsRow (w.heap.size + 3) 66 3 (.slice ua m.length uc) m.length (m.flatMap encR) := by
        unfold sets4
        exact ownsRow_setCell_below (ownsRow_setCell_below (ownsRow_setCell_below (ownsRow_setCell_below K.out.own (by show w.heap.size + 1 < w.heap.size + 3; omega) _) (by show w.heap.size + 1 < w.heap.size + 3; omega) _) (by show w.heap.size + 1 < w.heap.size + 3; omega) _) (by show w.heap.size + 1 < w.heap.size + 3; omega) _
      rw [hW5] at hb5 hw5 ho5
      unfold sets4 at hW5
      rw [hW5]
      clear hW5
      obtain ⟨d0, d1, d2, d3⟩ := RB.cells (show RB w5 (w.heap.size + 1) (.slice ua m.length uc) room lasts dn from hb5)
      refine bodyPost_ret (by simp [results, Try.results41, go_sem, d0, d1, d2, d3]; try rfl) rfl ?_
      exact ⟨_, rfl, by rw [← FIN.out]; exact own_less ho5 (by omega), hw5⟩
end Go.Proofs.Ytoddofcmdbifpaa
