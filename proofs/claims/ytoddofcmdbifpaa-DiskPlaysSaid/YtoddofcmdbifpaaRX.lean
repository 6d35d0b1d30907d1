/- The reference's disk: with, walked. Made by genrx10.py. -/
import Derived.Test.YtoddofcmdbifpaaRW
set_option linter.unusedVariables false
set_option linter.unusedSimpArgs false
set_option maxRecDepth 100000
namespace Go.Proofs.Ytoddofcmdbifpaa
open Go.RowKit Go.WideMaps Go.Maps

theorem wpList_run_store {w : World} {ops : Array Oper} {rest : List Oper} {o : Oper} {a : Act} {Q : Exit → Act → World → Prop} (hgd : o.guard = none) (x y : Operand) (ho : o.op = .store 27 x y) (p v : Value) (w' : World) (hx : a.eval x = p) (hy : a.eval y = v) (hrun : (Instr.storeAt 27 p v).run Try.prog w = .ok () w')
    (h : wpList Try.prog ops Q rest (a.put o.dst undef) w') : wpList Try.prog ops Q (o :: rest) a w := by
  refine wpList_plain hgd fun K hK => ?_
  unfold Oper.wp
  simp only [execOp, ho, hx, hy, hrun, Sem.run_bind, Sem.run_pure, Result.andThen_ok]
  exact hK _ _ h
theorem XI.step {w W W' : World} {e s3 : Nat} {f : Fl} {xv u : Value} {xl m : List Fl} {room lasts : Int} {dn : Bool} (h : XI w e s3 W f xv xl m room lasts dn u) (hb : Below W.heap.size W W') : XI w e s3 W' f xv xl m room lasts dn u :=
  ⟨h.lo, h.g1.far (P := fun _ => False) (Far.of_below hb) (fun q => q), h.g2.step hb, h.g3.step hb, h.g4.step hb, own_belowK h.xs hb, h.xb, own_belowK h.own hb, h.bel.trans (hb.mono h.bel.size)⟩
theorem XI.big {w W : World} {e s3 : Nat} {f : Fl} {xv u : Value} {xl m : List Fl} {room lasts : Int} {dn : Bool} (h : XI w e s3 W f xv xl m room lasts dn u) : s3 + 2 ≤ W.heap.size := by have := lt_of_block h.g4; omega
set_option maxHeartbeats 12800000 in
theorem with_any (w : World) (v : Value) (l : List Fl) (room lasts : Int) (dn : Bool) (h : RD w v l) (f : Fl) (hl : l.length < 90000) :
    Calls Try.prog 40 #[rdv v room lasts dn, .agg #[.string f.n, .slice f.a f.b.length f.c, .int .i64 f.s]] w fun e w' => ∃ u, e = .returned (rdv u room lasts dn) ∧ w'.ownsRow w.heap.size 66 3 u (ins f (dropF l f.n)).length ((ins f (dropF l f.n)).flatMap encR) ∧ Below w.heap.size w w' := by
  obtain ⟨ao, cap, rfl⟩ := h.1.shape
  have B1 := vstep w (.cells #[.slice ao l.length cap, .int .i64 room, .int .i64 lasts, .bool dn] 29)
  have B2 := vstep (w.alloc (.cells #[.slice ao l.length cap, .int .i64 room, .int .i64 lasts, .bool dn] 29)) (.cells #[.string f.n, .slice f.a f.b.length f.c, .int .i64 f.s] 66)
  have B3 := vstep ((w.alloc (.cells #[.slice ao l.length cap, .int .i64 room, .int .i64 lasts, .bool dn] 29)).alloc (.cells #[.string f.n, .slice f.a f.b.length f.c, .int .i64 f.s] 66)) (.cells #[.slice none 0 0, .int .i64 0, .int .i64 0, .bool false] 29)
  have E0 := ((RB.new w (.slice ao l.length cap) room lasts dn).step B2).step B3
  have E1 : FR _ (w.heap.size + 1) f := (show FR ((w.alloc (.cells #[.slice ao l.length cap, .int .i64 room, .int .i64 lasts, .bool dn] 29)).alloc (.cells #[.string f.n, .slice f.a f.b.length f.c, .int .i64 f.s] 66)) (w.heap.size + 1) f from by
    have := heap_alloc_new (w.alloc (.cells #[.slice ao l.length cap, .int .i64 room, .int .i64 lasts, .bool dn] 29)) (.cells #[.string f.n, .slice f.a f.b.length f.c, .int .i64 f.s] 66)
    rwa [World.size_alloc] at this).far (P := fun _ => False) (Far.of_below B3) (fun q => q)
  have E2 := RB.new ((w.alloc (.cells #[.slice ao l.length cap, .int .i64 room, .int .i64 lasts, .bool dn] 29)).alloc (.cells #[.string f.n, .slice f.a f.b.length f.c, .int .i64 f.s] 66)) (.slice none 0 0) 0 0 false
  simp only [World.size_alloc] at E2
  have BB := B1.trans ((B2.trans (B3.mono B2.size)).mono B1.size)
  have SZ : (((w.alloc (.cells #[.slice ao l.length cap, .int .i64 room, .int .i64 lasts, .bool dn] 29)).alloc (.cells #[.string f.n, .slice f.a f.b.length f.c, .int .i64 f.s] 66)).alloc (.cells #[.slice none 0 0, .int .i64 0, .int .i64 0, .bool false] 29)).heap.size = w.heap.size + 3 := by simp
  obtain ⟨W0, hW0⟩ : ∃ y, ((w.alloc (.cells #[.slice ao l.length cap, .int .i64 room, .int .i64 lasts, .bool dn] 29)).alloc (.cells #[.string f.n, .slice f.a f.b.length f.c, .int .i64 f.s] 66)).alloc (.cells #[.slice none 0 0, .int .i64 0, .int .i64 0, .bool false] 29) = y := ⟨_, rfl⟩
  rw [hW0] at E0 E1 E2 BB SZ
  have HW := Lib.hid hW0
  have HZ := Lib.hid SZ
  have WO := Lib.hid (wout_any W0 (.slice ao l.length cap) l room lasts dn (h.step BB) f.n (by omega))
  have EE := Lib.hid (And.intro E0 (And.intro E1 (And.intro E2 BB)))
  clear h hW0 B1 B2 B3 E0 E1 E2 BB SZ
  go_enter Try.func40, Try.ntmps40
  go_upto_region 1 with (fail)
  rw [HW.out]
  obtain ⟨c0, c1, c2, c3⟩ := EE.out.1.cells
  obtain ⟨r0, r1, r2⟩ := EE.out.2.1.cells
  go_wp2_with fail
  refine WO.out.mono ?_
  rintro e w1 ⟨xv, rfl, ho, hb⟩
  obtain ⟨xl, hxl⟩ : ∃ xl, dropF l f.n = xl := ⟨_, rfl⟩
  rw [hxl] at ho
  have XLL := Lib.hid (show xl.length < 90000 from by
    have : (dropF l f.n).length ≤ l.length := List.length_filter_le _ _
    rw [hxl] at this
    omega)
  have HXL := Lib.hid hxl
  obtain ⟨xa, xc, rfl⟩ := own_shapeK ho
  have V1 := vstep w1 (.cells #[.slice xa xl.length xc, .int .i64 room, .int .i64 lasts, .bool dn] 29)
  have V2 := vstep (w1.alloc (.cells #[.slice xa xl.length xc, .int .i64 room, .int .i64 lasts, .bool dn] 29)) (.cells #[.slice none 0 0, .int .i64 room, .int .i64 lasts, .bool dn] 29)
  have VV := V1.trans (V2.mono V1.size)
  have G0 := (EE.out.1.step hb).step V1
  have G4 := RB.new (w1.alloc (.cells #[.slice xa xl.length xc, .int .i64 room, .int .i64 lasts, .bool dn] 29)) (.slice none 0 0) room lasts dn
  simp only [World.size_alloc] at G4
  have K0 := Lib.hid (show XI w W0.heap.size w1.heap.size _ f (.slice xa xl.length xc) xl [] room lasts dn (.slice none 0 0) from ⟨⟨by rw [HZ.out]; exact Nat.le_refl _, hb.size⟩, (EE.out.2.1.far (P := fun _ => False) (Far.of_below hb) (fun q => q)).far (P := fun _ => False) (Far.of_below VV) (fun q => q), (EE.out.2.2.1.step hb).step VV, (RB.new w1 (.slice xa xl.length xc) room lasts dn).step V2, G4, own_belowK ho VV, fun j q => (ho.lt j q).2, World.ownsRow_nil _ _ _ _, EE.out.2.2.2.trans ((hb.trans (VV.mono hb.size)).mono EE.out.2.2.2.size)⟩)
  obtain ⟨h0, h1, h2, h3⟩ := G0.cells
  clear c0 c1 c2 c3 r0 r1 r2 V1 V2 VV G0 G4 hb ho hxl
  go_upto_region 3 with (fail)
  obtain ⟨W3, hW3⟩ : ∃ y, (w1.alloc (.cells #[.slice xa xl.length xc, .int .i64 room, .int .i64 lasts, .bool dn] 29)).alloc (.cells #[.slice none 0 0, .int .i64 room, .int .i64 lasts, .bool dn] 29) = y := ⟨_, rfl⟩
  rw [hW3] at K0 ⊢
  obtain ⟨e, he⟩ : ∃ e, W0.heap.size = e := ⟨_, rfl⟩
  rw [he] at K0
  obtain ⟨s3, hs3⟩ : ∃ s3, w1.heap.size = s3 := ⟨_, rfl⟩
  rw [hs3] at K0 ⊢
  clear h0 h1 h2 h3 hW3 he hs3 WO EE HW HZ
  go_wp2_with fail
  go_loopw [7, 8] (fun dv kv wr => ∃ (i : Nat) (bd : Bool) (u : Value) (m : List Fl), dv = .bool bd ∧ kv = .int .i64 i ∧ i ≤ xl.length ∧ Hid (XI w e s3 wr f (.slice xa xl.length xc) xl m room lasts dn u ∧ INV f xl bd i m ∧ m.length ≤ i + 1)) (fun _ kv _ => xl.length - (intOf kv).toNat)
  case atStart => exact ⟨0, false, _, [], rfl, rfl, Nat.zero_le _, Lib.hid ⟨K0.out, inv_zero f xl, Nat.zero_le _⟩⟩
  case round =>
    obtain ⟨i, bd, u, m, rfl, rfl, hi, hK⟩ := hrel
    have K := Lib.hid hK.out.1
    have I := Lib.hid hK.out.2
    obtain ⟨ua, uc, rfl⟩ := own_shapeK K.out.own
    have hxm : xl.length ≤ 100000 := by have := XLL.out; omega
    clear hK K0
    by_cases hlt : i < xl.length
    · obtain ⟨g, o, x, hxa, hx, hg, a0, a1, a2⟩ := rec_at (own_liesK encR_len K.out.xs) hlt
      subst hxa
      have hgs : g < s3 := K.out.xb g rfl
      have HX := Lib.hid hx
      have CA : ∀ z : Later wr, z.w.cell? ⟨g, o + i * 3, none⟩ = some (.string x.n) := fun z => (z.below.cell (p := ⟨g, o + i * 3, none⟩) hg).trans a0
      have CF : ∀ z : Later wr, z.w.cell? ⟨w.heap.size + 1, 0, none⟩ = some (.string f.n) := fun z => (K.out.step z.below).g1.cells.1
      have CX : ∀ z : Later wr, z.w.cell? ⟨s3, 0, none⟩ = some (.slice (some ⟨g, o, none⟩) xl.length xc) := fun z => (K.out.step z.below).g3.cells.1
      have AA := Lib.hid (fun z : Later wr => (show z.w.cell? ⟨g, o + i * 3, none⟩ = some (.string x.n) ∧ z.w.cell? ⟨g, o + i * 3 + 1, none⟩ = some (.slice x.a x.b.length x.c) ∧ z.w.cell? ⟨g, o + i * 3 + 2, none⟩ = some (.int .i64 x.s) from ⟨(z.below.cell (p := ⟨g, o + i * 3, none⟩) hg).trans a0, (z.below.cell (p := ⟨g, o + i * 3 + 1, none⟩) hg).trans a1, (z.below.cell (p := ⟨g, o + i * 3 + 2, none⟩) hg).trans a2⟩))
      obtain ⟨d0, d1, d2, d3⟩ := K.out.g3.cells
      clear d1 d2 d3 hx a0 a1 a2
      cases bd with
      | true =>
        go_upto_region 7 with (fail)
        refine wp_region_later (by kernel_rfl) (by kernel_rfl) ?_
        repeat (go_big_quiet_step (fail))
        refine wpQuiet_nil ?_
        rintro _ ⟨z, rfl⟩
        have K2 := Lib.hid (K.out.step z.below)
        have A2 := Lib.hid (AA.out z)
        clear CA CF CX d0 AA
        generalize z.w = W2 at *
        go_upto_region 10 with (fail)
        have KD := K2.out.step (show Below W2.heap.size W2 W2.drew from (Below.refl _ _).drew)
        obtain ⟨a9, c9, w8, w9, q1, q2, q3, q4, q5, q6⟩ := put_file (W := W2.drew) x KD.own KD.g4 KD.big (by have := I.out.2; have := XLL.out; omega)
        have ap : ∀ j, (Value.slice ua m.length uc).ownBlock = some j → s3 + 2 ≤ j := fun j q => (KD.own.lt j q).1
        have SP : ∀ {W'} (P : Nat → Prop), Far P W2.drew W' → (∀ k, P k → s3 + 1 ≤ k) → (W'.cell? ⟨s3, 0, none⟩ = some (.slice (some ⟨g, o, none⟩) xl.length xc) ∧ W'.cell? ⟨g, o + i * 3, none⟩ = some (.string x.n) ∧ W'.cell? ⟨g, o + i * 3 + 1, none⟩ = some (.slice x.a x.b.length x.c) ∧ W'.cell? ⟨g, o + i * 3 + 2, none⟩ = some (.int .i64 x.s)) := fun P hf hp =>
          ⟨hf.cell (p := ⟨s3, 0, none⟩) K2.out.g3.cells.1 (fun q => absurd (hp _ q) (by show ¬ (s3 + 1 ≤ s3); omega)), hf.cell (p := ⟨g, o + i * 3, none⟩) A2.out.1 (fun q => absurd (hp _ q) (by show ¬ (s3 + 1 ≤ g); omega)), hf.cell (p := ⟨g, o + i * 3 + 1, none⟩) A2.out.2.1 (fun q => absurd (hp _ q) (by show ¬ (s3 + 1 ≤ g); omega)), hf.cell (p := ⟨g, o + i * 3 + 2, none⟩) A2.out.2.2 (fun q => absurd (hp _ q) (by show ¬ (s3 + 1 ≤ g); omega))⟩
        have S0 := Lib.hid (SP (fun _ => False) (Far.refl _ _) (fun k q => q.elim))
        have V1 := vstep W2.drew (.cells #[.string x.n, .slice x.a x.b.length x.c, .int .i64 x.s] 66)
        have S1 := Lib.hid (SP (fun _ => False) (Far.of_below V1) (fun k q => q.elim))
        have S3 := Lib.hid (SP _ q6 (fun k q => by have := ap k q; omega))
        have S4 := Lib.hid (SP _ q5 (fun k q => by
          rcases q with q | q
          · have := ap k q; omega
          · omega))
        have FIN := Lib.hid (And.intro (KD.next q5 q3 q4) (And.intro (inv_go HX.out I.out.1) (show (m ++ [x]).length ≤ i + 1 + 1 from by rw [List.length_append]; have := I.out.2; simp; omega)))
        have LV0 := Lib.hid (ldV27 (W := W2.drew) KD.g4.cells.1)
        have LV1 := Lib.hid (ldV27 ((KD.g4.step V1).cells.1))
        have BS := Lib.hid (bs27 W2.drew x.n x.a x.b.length x.c x.s)
        have HAP := Lib.hid q1
        have HST := Lib.hid q2
        have IX := Lib.hid (fun W => ix27 (W := W) (g := g) (o := o) (c := xc) hlt (by have := XLL.out; omega))
        obtain ⟨W1, hW1⟩ : ∃ z, W2.drew.alloc (.cells #[.string x.n, .slice x.a x.b.length x.c, .int .i64 x.s] 66) = z := ⟨_, rfl⟩
        rw [hW1] at S1 LV1 BS HAP
        clear q1 q2 q3 q4 q5 q6 V1 SP KD ap hW1
        refine wp_region_held_drew (S := fun W => W.cell? ⟨s3, 0, none⟩ = some (.slice (some ⟨g, o, none⟩) xl.length xc) ∧ W.cell? ⟨g, o + i * 3, none⟩ = some (.string x.n) ∧ W.cell? ⟨g, o + i * 3 + 1, none⟩ = some (.slice x.a x.b.length x.c) ∧ W.cell? ⟨g, o + i * 3 + 2, none⟩ = some (.int .i64 x.s)) (by kernel_rfl) S0.out (fun _ => ?_)
        refine take_at (i := 0) 46 ?_ rfl rfl (by kernel_rfl) (by kernel_rfl) (by kernel_rfl) (fun _ _ _ h => h) (.inl ⟨rfl, ?_⟩) S0.out ?_
        rotate_left 1
        · intro w hSw; go_simp; try with_reducible rfl
        simp only [Act.put, List.setIfInBounds_toArray, List.set_cons_zero, List.set_cons_succ]
        refine take_at (i := 2) 48 ?_ rfl rfl (by kernel_rfl) (by kernel_rfl) (by kernel_rfl) (fun _ _ _ h => h) (.inl ⟨rfl, ?_⟩) S0.out ?_
        rotate_left 1
        · intro w hSw; go_simp; try with_reducible rfl
        simp only [Act.put, List.setIfInBounds_toArray, List.set_cons_zero, List.set_cons_succ]
        refine take_at (i := 3) 49 (.slice (some ⟨g, o, none⟩) xl.length xc) rfl rfl (by kernel_rfl) (by kernel_rfl) (by kernel_rfl) (fun _ _ _ h => h) (yields_ld (.tmp 48) 27 (.pointer (some ⟨s3, 0, none⟩)) _ (fun W hS => ldV27 hS.1) rfl rfl rfl) S0.out ?_
        simp only [Act.put, List.setIfInBounds_toArray, List.set_cons_zero, List.set_cons_succ]
        refine take_at (i := 4) 50 ?_ rfl rfl (by kernel_rfl) (by kernel_rfl) (by kernel_rfl) (fun _ _ _ h => h) (.inl ⟨rfl, ?_⟩) S0.out ?_
        rotate_left 1
        · intro w hSw; go_simp; try with_reducible rfl
        simp only [Act.put, List.setIfInBounds_toArray, List.set_cons_zero, List.set_cons_succ]
        refine take_at (i := 5) 51 (.pointer (some ⟨g, o + i * 3, none⟩)) rfl rfl (by kernel_rfl) (by kernel_rfl) (by kernel_rfl) (fun _ _ _ h => h) (yields_ix (.tmp 49) (.tmp 50) 27 (.slice (some ⟨g, o, none⟩) xl.length xc) (.int .i64 (i : Int)) _ (fun W => IX.out W) rfl rfl rfl rfl) S0.out ?_
        simp only [Act.put, List.setIfInBounds_toArray, List.set_cons_zero, List.set_cons_succ]
        refine take_at (i := 6) 52 (.agg #[.string x.n, .slice x.a x.b.length x.c, .int .i64 x.s]) rfl rfl (by kernel_rfl) (by kernel_rfl) (by kernel_rfl) (fun _ _ _ h => h) (yields_ld (.tmp 51) 66 (.pointer (some ⟨g, o + i * 3, none⟩)) _ (fun W hS => ldR66 hS.2.1 hS.2.2.1 hS.2.2.2) rfl rfl rfl) S0.out ?_
        simp only [Act.put, List.setIfInBounds_toArray, List.set_cons_zero, List.set_cons_succ]
        refine wpAnyH_ready (rs := [1, 7]) (by kernel_rfl) (by simp) (br_load (i := 1) 47 (.tmp 46) 27 _ (.slice ua m.length uc) rfl rfl rfl rfl rfl LV0.out S0.out (fun _ => ?_) (br_bslice (i := 7) 53 27 1 _ #[(0, .agg #[.string x.n, .slice x.a x.b.length x.c, .int .i64 x.s])] _ W1 rfl rfl rfl rfl rfl BS.out S1.out (fun _ => ?_) AllReadyH.nil))
        · simp only [Act.put, List.setIfInBounds_toArray, List.set_cons_zero, List.set_cons_succ]
          refine wpAnyH_ready (rs := [7]) (by kernel_rfl) (by simp) (br_bslice (i := 7) 53 27 1 _ #[(0, .agg #[.string x.n, .slice x.a x.b.length x.c, .int .i64 x.s])] _ W1 rfl rfl rfl rfl rfl BS.out S1.out (fun _ => ?_) AllReadyH.nil)
          simp only [Act.put, List.setIfInBounds_toArray, List.set_cons_zero, List.set_cons_succ]
          refine one_append (i := 8) 54 (.tmp 47) (.tmp 53) 27 27 rfl rfl (by kernel_rfl) rfl rfl _ _ _ w8 rfl rfl (HAP.out _) S3.out (fun _ => ?_)
          simp only [Act.put, List.setIfInBounds_toArray, List.set_cons_zero, List.set_cons_succ]
          refine take_at (i := 9) 55 ?_ rfl rfl (by kernel_rfl) (by kernel_rfl) (by kernel_rfl) (fun _ _ _ h => h) (.inl ⟨rfl, ?_⟩) S3.out ?_
          rotate_left 1
          · intro w hSw; go_simp; try with_reducible rfl
          simp only [Act.put, List.setIfInBounds_toArray, List.set_cons_zero, List.set_cons_succ]
          refine wpAnyH_ready (rs := [10]) (by kernel_rfl) (by simp) (br_store (i := 10) 27 (.tmp 55) (.tmp 54) _ _ w9 rfl rfl rfl rfl rfl rfl HST.out S4.out (fun _ => ?_) AllReadyH.nil)
          simp only [Act.put, List.setIfInBounds_toArray, List.set_cons_zero, List.set_cons_succ]
          refine wpAnyH_done (by kernel_rfl) ?_ _
          go_wp2
          go_roundw
          case rel => exact ⟨i + 1, true, _, _, rfl, by go_num, by omega, FIN⟩
          case measure => simp [intOf]; omega
        · simp only [Act.put, List.setIfInBounds_toArray, List.set_cons_zero, List.set_cons_succ]
          refine wpAnyH_ready (rs := [1]) (by kernel_rfl) (by simp) (br_load (i := 1) 47 (.tmp 46) 27 _ (.slice ua m.length uc) rfl rfl rfl rfl rfl LV1.out S1.out (fun _ => ?_) AllReadyH.nil)
          simp only [Act.put, List.setIfInBounds_toArray, List.set_cons_zero, List.set_cons_succ]
          refine one_append (i := 8) 54 (.tmp 47) (.tmp 53) 27 27 rfl rfl (by kernel_rfl) rfl rfl _ _ _ w8 rfl rfl (HAP.out _) S3.out (fun _ => ?_)
          simp only [Act.put, List.setIfInBounds_toArray, List.set_cons_zero, List.set_cons_succ]
          refine take_at (i := 9) 55 ?_ rfl rfl (by kernel_rfl) (by kernel_rfl) (by kernel_rfl) (fun _ _ _ h => h) (.inl ⟨rfl, ?_⟩) S3.out ?_
          rotate_left 1
          · intro w hSw; go_simp; try with_reducible rfl
          simp only [Act.put, List.setIfInBounds_toArray, List.set_cons_zero, List.set_cons_succ]
          refine wpAnyH_ready (rs := [10]) (by kernel_rfl) (by simp) (br_store (i := 10) 27 (.tmp 55) (.tmp 54) _ _ w9 rfl rfl rfl rfl rfl rfl HST.out S4.out (fun _ => ?_) AllReadyH.nil)
          simp only [Act.put, List.setIfInBounds_toArray, List.set_cons_zero, List.set_cons_succ]
          refine wpAnyH_done (by kernel_rfl) ?_ _
          go_wp2
          go_roundw
          case rel => exact ⟨i + 1, true, _, _, rfl, by go_num, by omega, FIN⟩
          case measure => simp [intOf]; omega
      | false =>
        cases hlf : ltF f x with
        | true =>
          have hlb : Op.bytesLess f.n.toList x.n.toList = true := hlf
          go_upto_region 7 with (fail)
          refine wp_region_later (by kernel_rfl) (by kernel_rfl) ?_
          repeat (go_big_quiet_step (fail))
          refine wpQuiet_nil ?_
          rintro _ ⟨z, rfl⟩
          have K2 := Lib.hid (K.out.step z.below)
          have A2 := Lib.hid (AA.out z)
          clear CA CF CX d0 AA
          generalize z.w = W2 at *
          go_upto_region 8 with (fail)
          obtain ⟨a7, c7, w6, w7, p1, p2, p3, p4, p5, p6⟩ := put_file (W := W2) f K2.out.own K2.out.g4 K2.out.big (by have := I.out.2; have := XLL.out; omega)
          have P7 := Lib.hid (K2.out.next p5 p3 p4)
          have HAP7 := Lib.hid p1
          have B6 := K2.out.g4.far p6 (fun q => by have := (K2.out.own.lt _ q).1; omega)
          have c6 := B6.cells.1
          have f6 := B6.free.1
          have hw7 := run_storeV27 w6 (s3 + 1) 0 a7 (m ++ [f]).length c7 _ c6 f6
          rw [p2] at hw7
          injection hw7 with _ hw7
          have HW7 := Lib.hid hw7.symm
          clear hw7 B6
          obtain ⟨h0, h1, h2, h3⟩ := K2.out.g4.cells
          obtain ⟨r0, r1, r2⟩ := K2.out.g1.cells
          have b7 := bs27 W2 f.n f.a f.b.length f.c f.s
          clear p1 p3 p4 p5 p6 h1 h2 h3
          go_upto_region 10 with (first | (at_builtin; refine wpList_run_append rfl (.tmp 41) (.tmp 43) rfl (.slice ua m.length uc) (.slice (some ⟨W2.heap.size, 0, none⟩) 1 1) (.slice a7 (m ++ [f]).length c7) w6 rfl rfl (HAP7.out _) ?_))
          have HW8 : w6.setCell ⟨s3 + 1, 0, none⟩ (.slice a7 (m.length + 1) c7) = w7 := by have := HW7.out; rw [List.length_append] at this; exact this
          rw [HW8]
          clear HW8
          clear p2 h0 r0 r1 r2 b7 c6 f6 HW7
          obtain ⟨m2, hm2⟩ : ∃ m2, m ++ [f] = m2 := ⟨_, rfl⟩
          rw [hm2] at P7
          have HM2 := Lib.hid hm2
          clear hm2
          have mle : m.length ≤ i := by
            have := I.out.1
            unfold INV at this
            simp only [Bool.false_eq_true, if_false] at this
            rw [this.1, List.length_take]
            omega
          have IP := Lib.hid (show INV f xl true i m2 from by rw [← HM2.out]; exact inv_put HX.out I.out.1 hlf)
          have LM2 := Lib.hid (show m2.length ≤ i + 1 from by rw [← HM2.out]; simp; omega)
          have A7 := Lib.hid (show w7.cell? ⟨g, o + i * 3, none⟩ = some (.string x.n) ∧ w7.cell? ⟨g, o + i * 3 + 1, none⟩ = some (.slice x.a x.b.length x.c) ∧ w7.cell? ⟨g, o + i * 3 + 2, none⟩ = some (.int .i64 x.s) from by
            obtain ⟨g', o', x', e1, hx', hg', b0, b1, b2⟩ := rec_at (own_liesK encR_len P7.out.xs) hlt
            injection e1 with e1
            injection e1 with e1 e2
            subst e1 e2
            rw [HX.out] at hx'
            injection hx' with hx'
            subst hx'
            exact ⟨b0, b1, b2⟩)
          have KD := P7.out.step (show Below w7.heap.size w7 w7.drew from (Below.refl _ _).drew)
          obtain ⟨a9, c9, w8, w9, q1, q2, q3, q4, q5, q6⟩ := put_file (W := w7.drew) x KD.own KD.g4 KD.big (by have := LM2.out; have := XLL.out; omega)
          have ap : ∀ j, (Value.slice a7 m2.length c7).ownBlock = some j → s3 + 2 ≤ j := fun j q => (KD.own.lt j q).1
          have SP : ∀ {W'} (P : Nat → Prop), Far P w7.drew W' → (∀ k, P k → s3 + 1 ≤ k) → (W'.cell? ⟨s3, 0, none⟩ = some (.slice (some ⟨g, o, none⟩) xl.length xc) ∧ W'.cell? ⟨g, o + i * 3, none⟩ = some (.string x.n) ∧ W'.cell? ⟨g, o + i * 3 + 1, none⟩ = some (.slice x.a x.b.length x.c) ∧ W'.cell? ⟨g, o + i * 3 + 2, none⟩ = some (.int .i64 x.s)) := fun P hf hp =>
            ⟨hf.cell (p := ⟨s3, 0, none⟩) P7.out.g3.cells.1 (fun q => absurd (hp _ q) (by show ¬ (s3 + 1 ≤ s3); omega)), hf.cell (p := ⟨g, o + i * 3, none⟩) A7.out.1 (fun q => absurd (hp _ q) (by show ¬ (s3 + 1 ≤ g); omega)), hf.cell (p := ⟨g, o + i * 3 + 1, none⟩) A7.out.2.1 (fun q => absurd (hp _ q) (by show ¬ (s3 + 1 ≤ g); omega)), hf.cell (p := ⟨g, o + i * 3 + 2, none⟩) A7.out.2.2 (fun q => absurd (hp _ q) (by show ¬ (s3 + 1 ≤ g); omega))⟩
          have S0 := Lib.hid (SP (fun _ => False) (Far.refl _ _) (fun k q => q.elim))
          have V1 := vstep w7.drew (.cells #[.string x.n, .slice x.a x.b.length x.c, .int .i64 x.s] 66)
          have S1 := Lib.hid (SP (fun _ => False) (Far.of_below V1) (fun k q => q.elim))
          have S3 := Lib.hid (SP _ q6 (fun k q => by have := ap k q; omega))
          have S4 := Lib.hid (SP _ q5 (fun k q => by
            rcases q with q | q
            · have := ap k q; omega
            · omega))
          have FIN := Lib.hid (And.intro (KD.next q5 q3 q4) (And.intro (inv_go HX.out IP.out) (show (m2 ++ [x]).length ≤ i + 1 + 1 from by rw [List.length_append]; have := LM2.out; simp; omega)))
          have LV0 := Lib.hid (ldV27 (W := w7.drew) KD.g4.cells.1)
          have LV1 := Lib.hid (ldV27 ((KD.g4.step V1).cells.1))
          have BS := Lib.hid (bs27 w7.drew x.n x.a x.b.length x.c x.s)
          have HAP := Lib.hid q1
          have HST := Lib.hid q2
          have IX := Lib.hid (fun W => ix27 (W := W) (g := g) (o := o) (c := xc) hlt (by have := XLL.out; omega))
          obtain ⟨W1, hW1⟩ : ∃ z, w7.drew.alloc (.cells #[.string x.n, .slice x.a x.b.length x.c, .int .i64 x.s] 66) = z := ⟨_, rfl⟩
          rw [hW1] at S1 LV1 BS HAP
          clear q1 q2 q3 q4 q5 q6 V1 SP KD ap hW1
          refine wp_region_held_drew (S := fun W => W.cell? ⟨s3, 0, none⟩ = some (.slice (some ⟨g, o, none⟩) xl.length xc) ∧ W.cell? ⟨g, o + i * 3, none⟩ = some (.string x.n) ∧ W.cell? ⟨g, o + i * 3 + 1, none⟩ = some (.slice x.a x.b.length x.c) ∧ W.cell? ⟨g, o + i * 3 + 2, none⟩ = some (.int .i64 x.s)) (by kernel_rfl) S0.out (fun _ => ?_)
          refine take_at (i := 0) 46 ?_ rfl rfl (by kernel_rfl) (by kernel_rfl) (by kernel_rfl) (fun _ _ _ h => h) (.inl ⟨rfl, ?_⟩) S0.out ?_
          rotate_left 1
          · intro w hSw; go_simp; try with_reducible rfl
          simp only [Act.put, List.setIfInBounds_toArray, List.set_cons_zero, List.set_cons_succ]
          refine take_at (i := 2) 48 ?_ rfl rfl (by kernel_rfl) (by kernel_rfl) (by kernel_rfl) (fun _ _ _ h => h) (.inl ⟨rfl, ?_⟩) S0.out ?_
          rotate_left 1
          · intro w hSw; go_simp; try with_reducible rfl
          simp only [Act.put, List.setIfInBounds_toArray, List.set_cons_zero, List.set_cons_succ]
          refine take_at (i := 3) 49 (.slice (some ⟨g, o, none⟩) xl.length xc) rfl rfl (by kernel_rfl) (by kernel_rfl) (by kernel_rfl) (fun _ _ _ h => h) (yields_ld (.tmp 48) 27 (.pointer (some ⟨s3, 0, none⟩)) _ (fun W hS => ldV27 hS.1) rfl rfl rfl) S0.out ?_
          simp only [Act.put, List.setIfInBounds_toArray, List.set_cons_zero, List.set_cons_succ]
          refine take_at (i := 4) 50 ?_ rfl rfl (by kernel_rfl) (by kernel_rfl) (by kernel_rfl) (fun _ _ _ h => h) (.inl ⟨rfl, ?_⟩) S0.out ?_
          rotate_left 1
          · intro w hSw; go_simp; try with_reducible rfl
          simp only [Act.put, List.setIfInBounds_toArray, List.set_cons_zero, List.set_cons_succ]
          refine take_at (i := 5) 51 (.pointer (some ⟨g, o + i * 3, none⟩)) rfl rfl (by kernel_rfl) (by kernel_rfl) (by kernel_rfl) (fun _ _ _ h => h) (yields_ix (.tmp 49) (.tmp 50) 27 (.slice (some ⟨g, o, none⟩) xl.length xc) (.int .i64 (i : Int)) _ (fun W => IX.out W) rfl rfl rfl rfl) S0.out ?_
          simp only [Act.put, List.setIfInBounds_toArray, List.set_cons_zero, List.set_cons_succ]
          refine take_at (i := 6) 52 (.agg #[.string x.n, .slice x.a x.b.length x.c, .int .i64 x.s]) rfl rfl (by kernel_rfl) (by kernel_rfl) (by kernel_rfl) (fun _ _ _ h => h) (yields_ld (.tmp 51) 66 (.pointer (some ⟨g, o + i * 3, none⟩)) _ (fun W hS => ldR66 hS.2.1 hS.2.2.1 hS.2.2.2) rfl rfl rfl) S0.out ?_
          simp only [Act.put, List.setIfInBounds_toArray, List.set_cons_zero, List.set_cons_succ]
          refine wpAnyH_ready (rs := [1, 7]) (by kernel_rfl) (by simp) (br_load (i := 1) 47 (.tmp 46) 27 _ (.slice a7 m2.length c7) rfl rfl rfl rfl rfl LV0.out S0.out (fun _ => ?_) (br_bslice (i := 7) 53 27 1 _ #[(0, .agg #[.string x.n, .slice x.a x.b.length x.c, .int .i64 x.s])] _ W1 rfl rfl rfl rfl rfl BS.out S1.out (fun _ => ?_) AllReadyH.nil))
          · simp only [Act.put, List.setIfInBounds_toArray, List.set_cons_zero, List.set_cons_succ]
            refine wpAnyH_ready (rs := [7]) (by kernel_rfl) (by simp) (br_bslice (i := 7) 53 27 1 _ #[(0, .agg #[.string x.n, .slice x.a x.b.length x.c, .int .i64 x.s])] _ W1 rfl rfl rfl rfl rfl BS.out S1.out (fun _ => ?_) AllReadyH.nil)
            simp only [Act.put, List.setIfInBounds_toArray, List.set_cons_zero, List.set_cons_succ]
            refine one_append (i := 8) 54 (.tmp 47) (.tmp 53) 27 27 rfl rfl (by kernel_rfl) rfl rfl _ _ _ w8 rfl rfl (HAP.out _) S3.out (fun _ => ?_)
            simp only [Act.put, List.setIfInBounds_toArray, List.set_cons_zero, List.set_cons_succ]
            refine take_at (i := 9) 55 ?_ rfl rfl (by kernel_rfl) (by kernel_rfl) (by kernel_rfl) (fun _ _ _ h => h) (.inl ⟨rfl, ?_⟩) S3.out ?_
            rotate_left 1
            · intro w hSw; go_simp; try with_reducible rfl
            simp only [Act.put, List.setIfInBounds_toArray, List.set_cons_zero, List.set_cons_succ]
            refine wpAnyH_ready (rs := [10]) (by kernel_rfl) (by simp) (br_store (i := 10) 27 (.tmp 55) (.tmp 54) _ _ w9 rfl rfl rfl rfl rfl rfl HST.out S4.out (fun _ => ?_) AllReadyH.nil)
            simp only [Act.put, List.setIfInBounds_toArray, List.set_cons_zero, List.set_cons_succ]
            refine wpAnyH_done (by kernel_rfl) ?_ _
            go_wp2
            go_roundw
            case rel => exact ⟨i + 1, true, _, _, rfl, by go_num, by omega, FIN⟩
            case measure => simp [intOf]; omega
          · simp only [Act.put, List.setIfInBounds_toArray, List.set_cons_zero, List.set_cons_succ]
            refine wpAnyH_ready (rs := [1]) (by kernel_rfl) (by simp) (br_load (i := 1) 47 (.tmp 46) 27 _ (.slice a7 m2.length c7) rfl rfl rfl rfl rfl LV1.out S1.out (fun _ => ?_) AllReadyH.nil)
            simp only [Act.put, List.setIfInBounds_toArray, List.set_cons_zero, List.set_cons_succ]
            refine one_append (i := 8) 54 (.tmp 47) (.tmp 53) 27 27 rfl rfl (by kernel_rfl) rfl rfl _ _ _ w8 rfl rfl (HAP.out _) S3.out (fun _ => ?_)
            simp only [Act.put, List.setIfInBounds_toArray, List.set_cons_zero, List.set_cons_succ]
            refine take_at (i := 9) 55 ?_ rfl rfl (by kernel_rfl) (by kernel_rfl) (by kernel_rfl) (fun _ _ _ h => h) (.inl ⟨rfl, ?_⟩) S3.out ?_
            rotate_left 1
            · intro w hSw; go_simp; try with_reducible rfl
            simp only [Act.put, List.setIfInBounds_toArray, List.set_cons_zero, List.set_cons_succ]
            refine wpAnyH_ready (rs := [10]) (by kernel_rfl) (by simp) (br_store (i := 10) 27 (.tmp 55) (.tmp 54) _ _ w9 rfl rfl rfl rfl rfl rfl HST.out S4.out (fun _ => ?_) AllReadyH.nil)
            simp only [Act.put, List.setIfInBounds_toArray, List.set_cons_zero, List.set_cons_succ]
            refine wpAnyH_done (by kernel_rfl) ?_ _
            go_wp2
            go_roundw
            case rel => exact ⟨i + 1, true, _, _, rfl, by go_num, by omega, FIN⟩
            case measure => simp [intOf]; omega
        | false =>
          have hlb : Op.bytesLess f.n.toList x.n.toList = false := hlf
          go_upto_region 7 with (fail)
          refine wp_region_later (by kernel_rfl) (by kernel_rfl) ?_
          repeat (go_big_quiet_step (fail))
          refine wpQuiet_nil ?_
          rintro _ ⟨z, rfl⟩
          have K2 := Lib.hid (K.out.step z.below)
          have A2 := Lib.hid (AA.out z)
          clear CA CF CX d0 AA
          generalize z.w = W2 at *
          go_upto_region 10 with (fail)
          have KD := K2.out.step (show Below W2.heap.size W2 W2.drew from (Below.refl _ _).drew)
          obtain ⟨a9, c9, w8, w9, q1, q2, q3, q4, q5, q6⟩ := put_file (W := W2.drew) x KD.own KD.g4 KD.big (by have := I.out.2; have := XLL.out; omega)
          have ap : ∀ j, (Value.slice ua m.length uc).ownBlock = some j → s3 + 2 ≤ j := fun j q => (KD.own.lt j q).1
          have SP : ∀ {W'} (P : Nat → Prop), Far P W2.drew W' → (∀ k, P k → s3 + 1 ≤ k) → (W'.cell? ⟨s3, 0, none⟩ = some (.slice (some ⟨g, o, none⟩) xl.length xc) ∧ W'.cell? ⟨g, o + i * 3, none⟩ = some (.string x.n) ∧ W'.cell? ⟨g, o + i * 3 + 1, none⟩ = some (.slice x.a x.b.length x.c) ∧ W'.cell? ⟨g, o + i * 3 + 2, none⟩ = some (.int .i64 x.s)) := fun P hf hp =>
            ⟨hf.cell (p := ⟨s3, 0, none⟩) K2.out.g3.cells.1 (fun q => absurd (hp _ q) (by show ¬ (s3 + 1 ≤ s3); omega)), hf.cell (p := ⟨g, o + i * 3, none⟩) A2.out.1 (fun q => absurd (hp _ q) (by show ¬ (s3 + 1 ≤ g); omega)), hf.cell (p := ⟨g, o + i * 3 + 1, none⟩) A2.out.2.1 (fun q => absurd (hp _ q) (by show ¬ (s3 + 1 ≤ g); omega)), hf.cell (p := ⟨g, o + i * 3 + 2, none⟩) A2.out.2.2 (fun q => absurd (hp _ q) (by show ¬ (s3 + 1 ≤ g); omega))⟩
          have S0 := Lib.hid (SP (fun _ => False) (Far.refl _ _) (fun k q => q.elim))
          have V1 := vstep W2.drew (.cells #[.string x.n, .slice x.a x.b.length x.c, .int .i64 x.s] 66)
          have S1 := Lib.hid (SP (fun _ => False) (Far.of_below V1) (fun k q => q.elim))
          have S3 := Lib.hid (SP _ q6 (fun k q => by have := ap k q; omega))
          have S4 := Lib.hid (SP _ q5 (fun k q => by
            rcases q with q | q
            · have := ap k q; omega
            · omega))
          have FIN := Lib.hid (And.intro (KD.next q5 q3 q4) (And.intro (inv_pass HX.out I.out.1 hlf) (show (m ++ [x]).length ≤ i + 1 + 1 from by rw [List.length_append]; have := I.out.2; simp; omega)))
          have LV0 := Lib.hid (ldV27 (W := W2.drew) KD.g4.cells.1)
          have LV1 := Lib.hid (ldV27 ((KD.g4.step V1).cells.1))
          have BS := Lib.hid (bs27 W2.drew x.n x.a x.b.length x.c x.s)
          have HAP := Lib.hid q1
          have HST := Lib.hid q2
          have IX := Lib.hid (fun W => ix27 (W := W) (g := g) (o := o) (c := xc) hlt (by have := XLL.out; omega))
          obtain ⟨W1, hW1⟩ : ∃ z, W2.drew.alloc (.cells #[.string x.n, .slice x.a x.b.length x.c, .int .i64 x.s] 66) = z := ⟨_, rfl⟩
          rw [hW1] at S1 LV1 BS HAP
          clear q1 q2 q3 q4 q5 q6 V1 SP KD ap hW1
          refine wp_region_held_drew (S := fun W => W.cell? ⟨s3, 0, none⟩ = some (.slice (some ⟨g, o, none⟩) xl.length xc) ∧ W.cell? ⟨g, o + i * 3, none⟩ = some (.string x.n) ∧ W.cell? ⟨g, o + i * 3 + 1, none⟩ = some (.slice x.a x.b.length x.c) ∧ W.cell? ⟨g, o + i * 3 + 2, none⟩ = some (.int .i64 x.s)) (by kernel_rfl) S0.out (fun _ => ?_)
          refine take_at (i := 0) 46 ?_ rfl rfl (by kernel_rfl) (by kernel_rfl) (by kernel_rfl) (fun _ _ _ h => h) (.inl ⟨rfl, ?_⟩) S0.out ?_
          rotate_left 1
          · intro w hSw; go_simp; try with_reducible rfl
          simp only [Act.put, List.setIfInBounds_toArray, List.set_cons_zero, List.set_cons_succ]
          refine take_at (i := 2) 48 ?_ rfl rfl (by kernel_rfl) (by kernel_rfl) (by kernel_rfl) (fun _ _ _ h => h) (.inl ⟨rfl, ?_⟩) S0.out ?_
          rotate_left 1
          · intro w hSw; go_simp; try with_reducible rfl
          simp only [Act.put, List.setIfInBounds_toArray, List.set_cons_zero, List.set_cons_succ]
          refine take_at (i := 3) 49 (.slice (some ⟨g, o, none⟩) xl.length xc) rfl rfl (by kernel_rfl) (by kernel_rfl) (by kernel_rfl) (fun _ _ _ h => h) (yields_ld (.tmp 48) 27 (.pointer (some ⟨s3, 0, none⟩)) _ (fun W hS => ldV27 hS.1) rfl rfl rfl) S0.out ?_
          simp only [Act.put, List.setIfInBounds_toArray, List.set_cons_zero, List.set_cons_succ]
          refine take_at (i := 4) 50 ?_ rfl rfl (by kernel_rfl) (by kernel_rfl) (by kernel_rfl) (fun _ _ _ h => h) (.inl ⟨rfl, ?_⟩) S0.out ?_
          rotate_left 1
          · intro w hSw; go_simp; try with_reducible rfl
          simp only [Act.put, List.setIfInBounds_toArray, List.set_cons_zero, List.set_cons_succ]
          refine take_at (i := 5) 51 (.pointer (some ⟨g, o + i * 3, none⟩)) rfl rfl (by kernel_rfl) (by kernel_rfl) (by kernel_rfl) (fun _ _ _ h => h) (yields_ix (.tmp 49) (.tmp 50) 27 (.slice (some ⟨g, o, none⟩) xl.length xc) (.int .i64 (i : Int)) _ (fun W => IX.out W) rfl rfl rfl rfl) S0.out ?_
          simp only [Act.put, List.setIfInBounds_toArray, List.set_cons_zero, List.set_cons_succ]
          refine take_at (i := 6) 52 (.agg #[.string x.n, .slice x.a x.b.length x.c, .int .i64 x.s]) rfl rfl (by kernel_rfl) (by kernel_rfl) (by kernel_rfl) (fun _ _ _ h => h) (yields_ld (.tmp 51) 66 (.pointer (some ⟨g, o + i * 3, none⟩)) _ (fun W hS => ldR66 hS.2.1 hS.2.2.1 hS.2.2.2) rfl rfl rfl) S0.out ?_
          simp only [Act.put, List.setIfInBounds_toArray, List.set_cons_zero, List.set_cons_succ]
          refine wpAnyH_ready (rs := [1, 7]) (by kernel_rfl) (by simp) (br_load (i := 1) 47 (.tmp 46) 27 _ (.slice ua m.length uc) rfl rfl rfl rfl rfl LV0.out S0.out (fun _ => ?_) (br_bslice (i := 7) 53 27 1 _ #[(0, .agg #[.string x.n, .slice x.a x.b.length x.c, .int .i64 x.s])] _ W1 rfl rfl rfl rfl rfl BS.out S1.out (fun _ => ?_) AllReadyH.nil))
          · simp only [Act.put, List.setIfInBounds_toArray, List.set_cons_zero, List.set_cons_succ]
            refine wpAnyH_ready (rs := [7]) (by kernel_rfl) (by simp) (br_bslice (i := 7) 53 27 1 _ #[(0, .agg #[.string x.n, .slice x.a x.b.length x.c, .int .i64 x.s])] _ W1 rfl rfl rfl rfl rfl BS.out S1.out (fun _ => ?_) AllReadyH.nil)
            simp only [Act.put, List.setIfInBounds_toArray, List.set_cons_zero, List.set_cons_succ]
            refine one_append (i := 8) 54 (.tmp 47) (.tmp 53) 27 27 rfl rfl (by kernel_rfl) rfl rfl _ _ _ w8 rfl rfl (HAP.out _) S3.out (fun _ => ?_)
            simp only [Act.put, List.setIfInBounds_toArray, List.set_cons_zero, List.set_cons_succ]
            refine take_at (i := 9) 55 ?_ rfl rfl (by kernel_rfl) (by kernel_rfl) (by kernel_rfl) (fun _ _ _ h => h) (.inl ⟨rfl, ?_⟩) S3.out ?_
            rotate_left 1
            · intro w hSw; go_simp; try with_reducible rfl
            simp only [Act.put, List.setIfInBounds_toArray, List.set_cons_zero, List.set_cons_succ]
            refine wpAnyH_ready (rs := [10]) (by kernel_rfl) (by simp) (br_store (i := 10) 27 (.tmp 55) (.tmp 54) _ _ w9 rfl rfl rfl rfl rfl rfl HST.out S4.out (fun _ => ?_) AllReadyH.nil)
            simp only [Act.put, List.setIfInBounds_toArray, List.set_cons_zero, List.set_cons_succ]
            refine wpAnyH_done (by kernel_rfl) ?_ _
            go_wp2
            go_roundw
            case rel => exact ⟨i + 1, false, _, _, rfl, by go_num, by omega, FIN⟩
            case measure => simp [intOf]; omega
          · simp only [Act.put, List.setIfInBounds_toArray, List.set_cons_zero, List.set_cons_succ]
            refine wpAnyH_ready (rs := [1]) (by kernel_rfl) (by simp) (br_load (i := 1) 47 (.tmp 46) 27 _ (.slice ua m.length uc) rfl rfl rfl rfl rfl LV1.out S1.out (fun _ => ?_) AllReadyH.nil)
            simp only [Act.put, List.setIfInBounds_toArray, List.set_cons_zero, List.set_cons_succ]
            refine one_append (i := 8) 54 (.tmp 47) (.tmp 53) 27 27 rfl rfl (by kernel_rfl) rfl rfl _ _ _ w8 rfl rfl (HAP.out _) S3.out (fun _ => ?_)
            simp only [Act.put, List.setIfInBounds_toArray, List.set_cons_zero, List.set_cons_succ]
            refine take_at (i := 9) 55 ?_ rfl rfl (by kernel_rfl) (by kernel_rfl) (by kernel_rfl) (fun _ _ _ h => h) (.inl ⟨rfl, ?_⟩) S3.out ?_
            rotate_left 1
            · intro w hSw; go_simp; try with_reducible rfl
            simp only [Act.put, List.setIfInBounds_toArray, List.set_cons_zero, List.set_cons_succ]
            refine wpAnyH_ready (rs := [10]) (by kernel_rfl) (by simp) (br_store (i := 10) 27 (.tmp 55) (.tmp 54) _ _ w9 rfl rfl rfl rfl rfl rfl HST.out S4.out (fun _ => ?_) AllReadyH.nil)
            simp only [Act.put, List.setIfInBounds_toArray, List.set_cons_zero, List.set_cons_succ]
            refine wpAnyH_done (by kernel_rfl) ?_ _
            go_wp2
            go_roundw
            case rel => exact ⟨i + 1, false, _, _, rfl, by go_num, by omega, FIN⟩
            case measure => simp [intOf]; omega
    · have hge : ¬ ((i : Int) < (xl.length : Int)) := by omega
      have hie : i = xl.length := by omega
      obtain ⟨d0, d1, d2, d3⟩ := K.out.g3.cells
      clear d1 d2 d3
      cases bd with
      | true =>
        have FIN := Lib.hid (inv_end (by rw [← hie]; exact I.out.1))
        obtain ⟨h0, h1, h2, h3⟩ := K.out.g4.cells
        obtain ⟨e0, e1, e2, e3⟩ := K.out.g2.cells
        obtain ⟨f0, f1, f2, f3⟩ := K.out.g2.free
        go_wp2
        clear d0 h0 h1 h2 h3 e0 e1 e2 e3 f0 f1 f2 f3
        obtain ⟨w5, hW5⟩ : ∃ w5, sets4 wr (w.heap.size + 2) (.slice ua m.length uc) (.int .i64 room) (.int .i64 lasts) (.bool dn) = w5 := ⟨_, rfl⟩
        have hb5 := sets4_row (x' := .slice ua m.length uc) (y' := room) (z' := lasts) (v' := dn) K.out.g2
        have hw5 := sets4_below (x := .slice ua m.length uc) (y := .int .i64 room) (z := .int .i64 lasts) (v := .bool dn) K.out.bel (show w.heap.size ≤ w.heap.size + 2 by omega)
        have hlt2 : w.heap.size + 2 < s3 + 2 := by have := K.out.lo; omega
        have ho5 : (sets4 wr (w.heap.size + 2) (.slice ua m.length uc) (.int .i64 room) (.int .i64 lasts) (.bool dn)).ownsRow (s3 + 2) 66 3 (.slice ua m.length uc) m.length (m.flatMap encR) := by
          unfold sets4
          exact ownsRow_setCell_below (ownsRow_setCell_below (ownsRow_setCell_below (ownsRow_setCell_below K.out.own hlt2 _) hlt2 _) hlt2 _) hlt2 _
        rw [hW5] at hb5 hw5 ho5
        unfold sets4 at hW5
        rw [hW5]
        clear hW5
        obtain ⟨d0, d1, d2, d3⟩ := RB.cells (show RB w5 (w.heap.size + 2) (.slice ua m.length uc) room lasts dn from hb5)
        refine bodyPost_ret (by simp [results, Try.results40, go_sem, d0, d1, d2, d3]; try rfl) rfl ?_
        exact ⟨_, rfl, by rw [HXL.out, ← FIN.out]; exact own_less ho5 (by omega), hw5⟩
      | false =>
        go_upto_region 12 with (fail)
        obtain ⟨a7, c7, w6, w7, p1, p2, p3, p4, p5, p6⟩ := put_file (W := wr) f K.out.own K.out.g4 K.out.big (by have := I.out.2; have := XLL.out; omega)
        have P7 := Lib.hid (K.out.next p5 p3 p4)
        have HAP7 := Lib.hid p1
        have B6 := K.out.g4.far p6 (fun q => by have := (K.out.own.lt _ q).1; omega)
        have c6 := B6.cells.1
        have f6 := B6.free.1
        have hw7 := run_storeV27 w6 (s3 + 1) 0 a7 (m ++ [f]).length c7 _ c6 f6
        rw [p2] at hw7
        injection hw7 with _ hw7
        have HW7 := Lib.hid hw7.symm
        clear hw7 B6
        obtain ⟨h0, h1, h2, h3⟩ := K.out.g4.cells
        obtain ⟨r0, r1, r2⟩ := K.out.g1.cells
        have b7 := bs27 wr f.n f.a f.b.length f.c f.s
        clear p1 p3 p4 p5 p6 h1 h2 h3
        go_upto_region 13 with (first | (at_builtin; refine wpList_run_append rfl (.tmp 59) (.tmp 61) rfl (.slice ua m.length uc) (.slice (some ⟨wr.heap.size, 0, none⟩) 1 1) (.slice a7 (m ++ [f]).length c7) w6 rfl rfl (HAP7.out _) ?_))
        have HW8 : w6.setCell ⟨s3 + 1, 0, none⟩ (.slice a7 (m.length + 1) c7) = w7 := by have := HW7.out; rw [List.length_append] at this; exact this
        rw [HW8]
        clear HW8
        clear p2 h0 r0 r1 r2 b7 c6 f6 HW7
        obtain ⟨m2, hm2⟩ : ∃ m2, m ++ [f] = m2 := ⟨_, rfl⟩
        rw [hm2] at P7
        have HM2 := Lib.hid hm2
        clear hm2
        have FIN := Lib.hid (show m2 = ins f xl from by rw [← HM2.out]; exact inv_last (by rw [← hie]; exact I.out.1))
        obtain ⟨h0, h1, h2, h3⟩ := P7.out.g4.cells
        obtain ⟨e0, e1, e2, e3⟩ := P7.out.g2.cells
        obtain ⟨f0, f1, f2, f3⟩ := P7.out.g2.free
        go_wp2
        clear d0 h0 h1 h2 h3 e0 e1 e2 e3 f0 f1 f2 f3
        obtain ⟨w5, hW5⟩ : ∃ w5, sets4 w7 (w.heap.size + 2) (.slice a7 m2.length c7) (.int .i64 room) (.int .i64 lasts) (.bool dn) = w5 := ⟨_, rfl⟩
        have hb5 := sets4_row (x' := .slice a7 m2.length c7) (y' := room) (z' := lasts) (v' := dn) P7.out.g2
        have hw5 := sets4_below (x := .slice a7 m2.length c7) (y := .int .i64 room) (z := .int .i64 lasts) (v := .bool dn) P7.out.bel (show w.heap.size ≤ w.heap.size + 2 by omega)
        have hlt2 : w.heap.size + 2 < s3 + 2 := by have := P7.out.lo; omega
        have ho5 : (sets4 w7 (w.heap.size + 2) (.slice a7 m2.length c7) (.int .i64 room) (.int .i64 lasts) (.bool dn)).ownsRow (s3 + 2) 66 3 (.slice a7 m2.length c7) m2.length (m2.flatMap encR) := by
          unfold sets4
          exact ownsRow_setCell_below (ownsRow_setCell_below (ownsRow_setCell_below (ownsRow_setCell_below P7.out.own hlt2 _) hlt2 _) hlt2 _) hlt2 _
        rw [hW5] at hb5 hw5 ho5
        unfold sets4 at hW5
        rw [hW5]
        clear hW5
        obtain ⟨d0, d1, d2, d3⟩ := RB.cells (show RB w5 (w.heap.size + 2) (.slice a7 m2.length c7) room lasts dn from hb5)
        refine bodyPost_ret (by simp [results, Try.results40, go_sem, d0, d1, d2, d3]; try rfl) rfl ?_
        exact ⟨_, rfl, by rw [HXL.out, ← FIN.out]; exact own_less ho5 (by omega), hw5⟩
end Go.Proofs.Ytoddofcmdbifpaa
