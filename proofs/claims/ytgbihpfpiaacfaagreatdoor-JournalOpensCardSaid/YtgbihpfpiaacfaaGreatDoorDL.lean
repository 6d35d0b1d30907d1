/- A disk: Append, walked. Made by gendl10.py. -/
import Derived.Test.YtgbihpfpiaacfaaGreatDoorDJ
set_option linter.unusedVariables false
set_option linter.unusedSimpArgs false
set_option maxRecDepth 100000
namespace Go.Proofs.YtgbihpfpiaacfaaGreatDoor
open Go.RowKit Go.WideMaps Go.Maps

set_option maxHeartbeats 1600000 in
theorem append_stop (w : World) (B d : Nat) (s : DS) (h : DK w B d s) (nm : ByteArray) (hs : nm.size ≤ maxLen) (v : Value) (hf : fnd s nm = 12 ∨ fnd s nm = 8) :
    Calls Tryz.prog 34 #[pv d, .string nm, v] w fun e w' => e = .returned (.int .i64 (fnd s nm)) ∧ Below w.heap.size w w' := by
  have F := Lib.hid (find_any w B d s h nm hs)
  clear h
  generalize fval s nm = y at *
  rcases hf with hf | hf <;> rw [hf] at F ⊢
  all_goals
    go_enter Tryz.func34, Tryz.ntmps34
    go_wp2_with fail
    refine F.out.mono ?_
    rintro e w1 ⟨rfl, hb⟩
    have B2 := Lib.hid hb
    clear hb
    go_wp2
    go_returns
    exact ⟨rfl, B2.out.trans ((vstep w1 _).mono B2.out.size)⟩
theorem fval_mem {w : World} {B d : Nat} {s : DS} (h : DK w B d s) {nm : ByteArray} (hf : fnd s nm = 0) : fval s nm ∈ s.l ∧ (fval s nm).n = nm ∧ ∃ b, s.m = some b := by
  obtain ⟨h1, h2⟩ := fnd_some hf
  rcases h.map with ⟨h0, h3⟩ | ⟨b, h0, hB, hb⟩
  · rw [h3] at h1; cases h1
  · obtain ⟨h3, h4⟩ := (get_some hb.rise).1 h1
    exact ⟨h3, h4, b, h0⟩
set_option maxHeartbeats 3200000 in
theorem append_full (w : World) (B d : Nat) (s : DS) (h : DK w B d s) (nm : ByteArray) (hs : nm.size ≤ maxLen) (v : Value) (bs : List Int) (hv : LiesK encB 1 w v bs) (hf : fnd s nm = 0) (hfull : s.room - (usedF s.l : Int) < (bs.length : Int)) :
    Calls Tryz.prog 34 #[pv d, .string nm, v] w fun e w' => e = .returned (.int .i64 7) ∧ Below w.heap.size w w' := by
  have F := Lib.hid (find_any w B d s h nm hs)
  have FR := Lib.hid (fun (W : World) (hb : Below w.heap.size w W) => free_any W B d s (h.step hb))
  rw [hf] at F
  obtain ⟨va, vc, rfl⟩ := hv.shape
  have hlen := hv.len
  clear h hv
  generalize fval s nm = y at *
  generalize s.room - (usedF s.l : Int) = fr at *
  generalize bs.length = L at *
  go_enter Tryz.func34, Tryz.ntmps34
  go_wp2_with fail
  refine F.out.mono ?_
  rintro e w1 ⟨rfl, hb⟩
  have B2 := Lib.hid (hb.trans ((vstep w1 (.cells #[.slice y.a y.b.length y.c, .int .i64 y.s] 82)).mono hb.size))
  obtain ⟨W2, hW2⟩ : ∃ z, w1.alloc (.cells #[.slice y.a y.b.length y.c, .int .i64 y.s] 82) = z := ⟨_, rfl⟩
  rw [hW2] at B2
  have HW2 := Lib.hid hW2
  have FR2 := Lib.hid (FR.out W2 B2.out)
  clear hW2 hb
  go_upto_region 2 with (fail)
  rw [HW2.out]
  go_wp2_with fail
  refine FR2.out.mono ?_
  rintro e w3 ⟨rfl, hb⟩
  have B3 := Lib.hid (B2.out.trans (hb.mono B2.out.size))
  clear hb
  go_wp2
  go_returns
  exact ⟨rfl, B3.out⟩
theorem tk_nat (s : DS) (w : World) (B d : Nat) (h : DK w B d s) (L : Nat) : ∃ n : Nat, tk s (L : Int) = (n : Int) ∧ n ≤ L := by
  obtain ⟨l1, l2, l3⟩ := h.left
  unfold tk
  split
  · rename_i ha
    have := l3 ha
    refine ⟨(min (L : Int) s.lf).toNat, ?_, ?_⟩ <;> omega
  · exact ⟨L, rfl, Nat.le_refl _⟩
set_option maxHeartbeats 6400000 in
theorem append_go (w : World) (B d : Nat) (s : DS) (h : DK w B d s) (hB : B ≤ w.heap.size) (nm : ByteArray) (hs : nm.size ≤ maxLen) (hl : s.l.length < 100000) (v : Value) (bs : List Int) (hv : LiesK encB 1 w v bs) (hvd : bs ≠ [] → ∀ j, v.ownBlock = some j → ¬ Has d s j) (hbs : bs.length ≤ 1000000) (hf : fnd s nm = 0) (hfit : ¬ (s.room - (usedF s.l : Int) < (bs.length : Int))) :
    Calls Tryz.prog 34 #[pv d, .string nm, v] w fun e w' => e = .returned (.int .i64 (if tk s bs.length < bs.length then 12 else 0)) ∧ ∃ a' c', Out B d s { aft s bs.length with l := setF s.l ⟨nm, a', c', (fval s nm).b ++ bs.take (tk s bs.length).toNat, (fval s nm).s⟩ } w w' := by
  have F := Lib.hid (find_any w B d s h nm hs)
  have FR := Lib.hid (fun (W : World) (hb : Below w.heap.size w W) => free_any W B d s (h.step hb))
  have TA := Lib.hid (fun (W : World) (hb : Below w.heap.size w W) => take_any W B d s (h.step hb) (bs.length : Int) ⟨by omega, by omega⟩)
  have VD := Lib.hid hvd
  have H := Lib.hid h
  have BASE := Lib.hid (h.base)
  obtain ⟨hy1, hy2, b, hm⟩ := fval_mem h hf
  obtain ⟨n, hn1, hn2⟩ := tk_nat s w B d h bs.length
  rw [hf] at F
  rw [hn1] at TA ⊢
  obtain ⟨t, ht⟩ : ∃ t, aft s bs.length = t := ⟨_, rfl⟩
  have TT := Lib.hid (show t.l = s.l ∧ t.m = s.m ∧ t.room = s.room from by rw [← ht, aft_l, aft_m, aft_room]; exact ⟨rfl, rfl, rfl⟩)
  have HM := Lib.hid hm
  rw [ht] at TA ⊢
  obtain ⟨va, vc, rfl⟩ := hv.shape
  have hlen := hv.len
  have HV := Lib.hid hv
  have HY := Lib.hid (And.intro hy1 hy2)
  have HN := Lib.hid (And.intro hs (And.intro hl (And.intro hB (And.intro hn2 (And.intro hbs (show (usedF s.l : Int) + bs.length ≤ s.room by omega))))))
  rw [show ((n : Int)).toNat = n from Int.toNat_natCast n]
  rw [← TT.out.1]
  have HY := Lib.hid (show fval s nm ∈ t.l ∧ (fval s nm).n = nm from by rw [TT.out.1]; exact HY.out)
  clear h hv hvd hy1 hy2 hm ht hs hl hB hbs hn1
  generalize fval s nm = y at *
  generalize s.room - (usedF s.l : Int) = fr at *
  obtain ⟨L, hL⟩ : ∃ L, bs.length = L := ⟨_, rfl⟩
  rw [hL] at TA HV hfit hlen hn2 HN VD ⊢
  have HL := Lib.hid hL
  clear hL
  by_cases hlt : (n : Int) < (L : Int)
  · rw [if_pos hlt]
    go_enter Tryz.func34, Tryz.ntmps34
    go_wp2_with fail
    refine F.out.mono ?_
    rintro e w1 ⟨rfl, hb⟩
    have B2 := Lib.hid (hb.trans ((vstep w1 (.cells #[.slice y.a y.b.length y.c, .int .i64 y.s] 82)).mono hb.size))
    have G2 := Lib.hid (FB.new w1 (.slice y.a y.b.length y.c) y.s)
    have GE := Lib.hid hb.size
    obtain ⟨W2, hW2⟩ : ∃ z, w1.alloc (.cells #[.slice y.a y.b.length y.c, .int .i64 y.s] 82) = z := ⟨_, rfl⟩
    rw [hW2] at B2 G2
    have HW2 := Lib.hid hW2
    have FR2 := Lib.hid (FR.out W2 B2.out)
    clear hW2 hb
    go_upto_region 2 with (fail)
    rw [HW2.out]
    generalize w1.heap.size = g at *
    go_upto_region 4 with (fail)
    go_wp2_with fail
    refine FR2.out.mono ?_
    rintro e w3 ⟨rfl, hb⟩
    have B3 := Lib.hid (B2.out.trans (hb.mono B2.out.size))
    have G3 := Lib.hid (G2.out.step hb)
    have TA3 := Lib.hid (TA.out w3 B3.out)
    clear hb
    go_wp2_with fail
    refine TA3.out.mono ?_
    rintro e w4 ⟨rfl, ho⟩
    have O4 := Lib.hid (Out.of_below B3.out ho)
    have NG := Lib.hid (show ¬ Has d s g from fun q => by have := (BASE.out g q).2; have := GE.out; omega)
    have NGT := Lib.hid (show ¬ Has d t g from fun q => by
      rcases q with q | q | q
      · exact NG.out (.inl q)
      · rw [TT.out.2.1] at q; exact NG.out (.inr (.inl q))
      · rw [TT.out.1] at q; exact NG.out (.inr (.inr q)))
    have G4 := Lib.hid (show FB w4 g y.v y.s from G3.out.far ho.far NG.out)
    have V4 := Lib.hid ((HV.out.step B3.out).far' ho.far VD.out)
    obtain ⟨va', L', vc', e1, q1, q2, q3, q4, a', c', w5, w6, HAP, HW6, HST, G6, C6, H8⟩ := app_core O4.out.dk (Nat.le_trans HN.out.2.2.1 O4.out.far.size) (show t.m = some b from TT.out.2.1.trans HM.out) HY.out.1 HY.out.2 HN.out.1 (by rw [TT.out.1]; exact HN.out.2.1) G4.out NGT.out V4.out (by rw [HL.out]; exact HN.out.2.2.2.1) (by rw [HL.out]; exact HN.out.2.2.2.2.1) (by rw [TT.out.1, TT.out.2.2, HL.out]; exact HN.out.2.2.2.2.2)
    injection e1 with e1 e2 e3
    subst e1 e2 e3
    obtain ⟨w7, r7, g7, G7, C7, D7, S7, F7⟩ := H8 _ (.inr rfl)
    have O7 := Lib.hid (O4.out.transX D7 ⟨F7.os, F7.tape, F7.output, F7.size, fun k hk q => F7.block k hk (by
      rintro (e | e)
      · exact q (.inl e)
      · exact q (.inr (by have := GE.out; omega)))⟩ (fun k q => (S7 k q).imp id (fun z => Nat.le_trans O4.out.far.size z)))
    have LV := Lib.hid (show (Instr.loadAt 39 (.pointer (some ⟨g, 0, none⟩))).run Tryz.prog w4.drew = .ok (.slice y.a y.b.length y.c) w4.drew from ldV33 (W := w4.drew) G4.out.cells.1)
    have SL := Lib.hid (fun W => slh33 W va L vc n q3 q2)
    have HAP := Lib.hid HAP
    have HST := Lib.hid HST
    have R7 := Lib.hid r7
    have S6 := Lib.hid (show (w6.drew.cell? ⟨d, 1, none⟩ = some (.map (some b)) ∧ FB w6.drew g (.slice a' (y.b.length + n) c') y.s) from ⟨C6, G6⟩)
    have S7 := Lib.hid (show (w7.cell? ⟨d, 1, none⟩ = some (.map (some b)) ∧ FB w7 g (.slice a' (y.b.length + n) c') y.s) from ⟨C7, G7⟩)
    clear ho H8 HW6 G6 C6 r7 g7 G7 C7 D7 F7 q1 q2 q3 q4
    go_upto_region 7 with (fail)
    refine wp_region_held_drew (S := fun _ => True) (by kernel_rfl) trivial (fun _ => ?_)
    refine take_at (i := 0) 28 ?_ rfl rfl (by kernel_rfl) (by kernel_rfl) (by kernel_rfl) (fun _ _ _ h => h) (.inl ⟨rfl, ?_⟩) trivial ?_
    rotate_left 1
    · intro w hSw; go_simp; try with_reducible rfl
    simp only [Act.put, List.setIfInBounds_toArray, List.set_cons_zero, List.set_cons_succ]
    refine take_at (i := 2) 30 ?_ rfl rfl (by kernel_rfl) (by kernel_rfl) (by kernel_rfl) (fun _ _ _ h => h) (.inl ⟨rfl, ?_⟩) trivial ?_
    rotate_left 1
    · intro w hSw; go_simp; try with_reducible rfl
    simp only [Act.put, List.setIfInBounds_toArray, List.set_cons_zero, List.set_cons_succ]
    refine take_at (i := 3) 31 ?_ rfl rfl (by kernel_rfl) (by kernel_rfl) (by kernel_rfl) (fun _ _ _ h => h) (.inl ⟨rfl, ?_⟩) trivial ?_
    rotate_left 1
    · intro w hSw; go_simp; try with_reducible rfl
    simp only [Act.put, List.setIfInBounds_toArray, List.set_cons_zero, List.set_cons_succ]
    refine take_at (i := 4) 32 (.slice va n vc) rfl rfl (by kernel_rfl) (by kernel_rfl) (by kernel_rfl) (fun _ _ _ h => h) (yields_slh (.tmp 30) (.tmp 31) 39 (.slice va L vc) (.int .i64 (n : Int)) (.slice va n vc) (fun W => SL.out W) rfl rfl rfl rfl) trivial ?_
    simp only [Act.put, List.setIfInBounds_toArray, List.set_cons_zero, List.set_cons_succ]
    refine wpAnyH_ready (rs := [1]) (by kernel_rfl) (by simp) (br_load (i := 1) 29 (.tmp 28) 39 _ (.slice y.a y.b.length y.c) rfl rfl rfl rfl rfl LV.out trivial (fun _ => ?_) AllReadyH.nil)
    simp only [Act.put, List.setIfInBounds_toArray, List.set_cons_zero, List.set_cons_succ]
    refine one_append (i := 5) 33 (.tmp 29) (.tmp 32) 39 39 rfl rfl (by kernel_rfl) rfl rfl _ _ _ w5 rfl rfl (HAP.out _) trivial (fun _ => ?_)
    simp only [Act.put, List.setIfInBounds_toArray, List.set_cons_zero, List.set_cons_succ]
    refine take_at (i := 6) 34 ?_ rfl rfl (by kernel_rfl) (by kernel_rfl) (by kernel_rfl) (fun _ _ _ h => h) (.inl ⟨rfl, ?_⟩) trivial ?_
    rotate_left 1
    · intro w hSw; go_simp; try with_reducible rfl
    simp only [Act.put, List.setIfInBounds_toArray, List.set_cons_zero, List.set_cons_succ]
    refine wpAnyH_ready (rs := [7]) (by kernel_rfl) (by simp) (br_store (i := 7) 39 (.tmp 34) (.tmp 33) _ _ w6 rfl rfl rfl rfl rfl rfl HST.out trivial (fun _ => ?_) AllReadyH.nil)
    simp only [Act.put, List.setIfInBounds_toArray, List.set_cons_zero, List.set_cons_succ]
    refine wpAnyH_done (by kernel_rfl) ?_ _
    go_upto_region 8 with (fail)
    refine wp_region_held_drew (S := fun W => W.cell? ⟨d, 1, none⟩ = some (.map (some b)) ∧ FB W g (.slice a' (y.b.length + n) c') y.s) (by kernel_rfl) S6.out (fun _ => ?_)
    refine take_at (i := 0) 35 ?_ rfl rfl (by kernel_rfl) (by kernel_rfl) (by kernel_rfl) (fun _ _ _ h => h) (.inl ⟨rfl, ?_⟩) S6.out ?_
    rotate_left 1
    · intro w hSw; go_simp; try with_reducible rfl
    simp only [Act.put, List.setIfInBounds_toArray, List.set_cons_zero, List.set_cons_succ]
    refine take_at (i := 1) 36 ?_ rfl rfl (by kernel_rfl) (by kernel_rfl) (by kernel_rfl) (fun _ _ _ h => h) (.inl ⟨rfl, ?_⟩) S6.out ?_
    rotate_left 1
    · intro w hSw; go_simp; try with_reducible rfl
    simp only [Act.put, List.setIfInBounds_toArray, List.set_cons_zero, List.set_cons_succ]
    refine take_at (i := 2) 37 ?_ rfl rfl (by kernel_rfl) (by kernel_rfl) (by kernel_rfl) (fun _ _ _ h => h) (.inl ⟨rfl, ?_⟩) S6.out ?_
    rotate_left 1
    · intro w hSw; go_simp; try with_reducible rfl
    simp only [Act.put, List.setIfInBounds_toArray, List.set_cons_zero, List.set_cons_succ]
    refine take_at (i := 3) 38 (.map (some b)) rfl rfl (by kernel_rfl) (by kernel_rfl) (by kernel_rfl) (fun _ _ _ h => h) (yields_ld (.tmp 37) 68 (.pointer (some ⟨d, 1, none⟩)) _ (fun W hS => ldM56 hS.1) rfl rfl rfl) S6.out ?_
    simp only [Act.put, List.setIfInBounds_toArray, List.set_cons_zero, List.set_cons_succ]
    refine take_at (i := 4) 39 ?_ rfl rfl (by kernel_rfl) (by kernel_rfl) (by kernel_rfl) (fun _ _ _ h => h) (.inl ⟨rfl, ?_⟩) S6.out ?_
    rotate_left 1
    · intro w hSw; go_simp; try with_reducible rfl
    simp only [Act.put, List.setIfInBounds_toArray, List.set_cons_zero, List.set_cons_succ]
    refine take_at (i := 5) 40 (.agg #[.slice a' (y.b.length + n) c', .int .i64 y.s]) rfl rfl (by kernel_rfl) (by kernel_rfl) (by kernel_rfl) (fun _ _ _ h => h) (yields_ld (.tmp 7) 82 (.pointer (some ⟨g, 0, none⟩)) _ (fun W hS => ldS69 hS.2) rfl rfl rfl) S6.out ?_
    simp only [Act.put, List.setIfInBounds_toArray, List.set_cons_zero, List.set_cons_succ]
    refine wpAnyH_ready (rs := [6]) (by kernel_rfl) (by simp) (br_put (i := 6) 68 (.tmp 38) (.tmp 39) (.tmp 40) _ _ _ w7 rfl rfl rfl rfl rfl rfl rfl R7.out S7.out (fun _ => ?_) AllReadyH.nil)
    simp only [Act.put, List.setIfInBounds_toArray, List.set_cons_zero, List.set_cons_succ]
    refine wpAnyH_done (by kernel_rfl) ?_ _
    go_wp2
    go_returns
    exact ⟨rfl, a', c', O7.out⟩
  · rw [if_neg hlt]
    go_enter Tryz.func34, Tryz.ntmps34
    go_wp2_with fail
    refine F.out.mono ?_
    rintro e w1 ⟨rfl, hb⟩
    have B2 := Lib.hid (hb.trans ((vstep w1 (.cells #[.slice y.a y.b.length y.c, .int .i64 y.s] 82)).mono hb.size))
    have G2 := Lib.hid (FB.new w1 (.slice y.a y.b.length y.c) y.s)
    have GE := Lib.hid hb.size
    obtain ⟨W2, hW2⟩ : ∃ z, w1.alloc (.cells #[.slice y.a y.b.length y.c, .int .i64 y.s] 82) = z := ⟨_, rfl⟩
    rw [hW2] at B2 G2
    have HW2 := Lib.hid hW2
    have FR2 := Lib.hid (FR.out W2 B2.out)
    clear hW2 hb
    go_upto_region 2 with (fail)
    rw [HW2.out]
    generalize w1.heap.size = g at *
    go_upto_region 4 with (fail)
    go_wp2_with fail
    refine FR2.out.mono ?_
    rintro e w3 ⟨rfl, hb⟩
    have B3 := Lib.hid (B2.out.trans (hb.mono B2.out.size))
    have G3 := Lib.hid (G2.out.step hb)
    have TA3 := Lib.hid (TA.out w3 B3.out)
    clear hb
    go_wp2_with fail
    refine TA3.out.mono ?_
    rintro e w4 ⟨rfl, ho⟩
    have O4 := Lib.hid (Out.of_below B3.out ho)
    have NG := Lib.hid (show ¬ Has d s g from fun q => by have := (BASE.out g q).2; have := GE.out; omega)
    have NGT := Lib.hid (show ¬ Has d t g from fun q => by
      rcases q with q | q | q
      · exact NG.out (.inl q)
      · rw [TT.out.2.1] at q; exact NG.out (.inr (.inl q))
      · rw [TT.out.1] at q; exact NG.out (.inr (.inr q)))
    have G4 := Lib.hid (show FB w4 g y.v y.s from G3.out.far ho.far NG.out)
    have V4 := Lib.hid ((HV.out.step B3.out).far' ho.far VD.out)
    obtain ⟨va', L', vc', e1, q1, q2, q3, q4, a', c', w5, w6, HAP, HW6, HST, G6, C6, H8⟩ := app_core O4.out.dk (Nat.le_trans HN.out.2.2.1 O4.out.far.size) (show t.m = some b from TT.out.2.1.trans HM.out) HY.out.1 HY.out.2 HN.out.1 (by rw [TT.out.1]; exact HN.out.2.1) G4.out NGT.out V4.out (by rw [HL.out]; exact HN.out.2.2.2.1) (by rw [HL.out]; exact HN.out.2.2.2.2.1) (by rw [TT.out.1, TT.out.2.2, HL.out]; exact HN.out.2.2.2.2.2)
    injection e1 with e1 e2 e3
    subst e1 e2 e3
    obtain ⟨w7, r7, g7, G7, C7, D7, S7, F7⟩ := H8 _ (.inr rfl)
    have O7 := Lib.hid (O4.out.transX D7 ⟨F7.os, F7.tape, F7.output, F7.size, fun k hk q => F7.block k hk (by
      rintro (e | e)
      · exact q (.inl e)
      · exact q (.inr (by have := GE.out; omega)))⟩ (fun k q => (S7 k q).imp id (fun z => Nat.le_trans O4.out.far.size z)))
    have LV := Lib.hid (show (Instr.loadAt 39 (.pointer (some ⟨g, 0, none⟩))).run Tryz.prog w4.drew = .ok (.slice y.a y.b.length y.c) w4.drew from ldV33 (W := w4.drew) G4.out.cells.1)
    have SL := Lib.hid (fun W => slh33 W va L vc n q3 q2)
    have HAP := Lib.hid HAP
    have HST := Lib.hid HST
    have R7 := Lib.hid r7
    have S6 := Lib.hid (show (w6.drew.cell? ⟨d, 1, none⟩ = some (.map (some b)) ∧ FB w6.drew g (.slice a' (y.b.length + n) c') y.s) from ⟨C6, G6⟩)
    have S7 := Lib.hid (show (w7.cell? ⟨d, 1, none⟩ = some (.map (some b)) ∧ FB w7 g (.slice a' (y.b.length + n) c') y.s) from ⟨C7, G7⟩)
    clear ho H8 HW6 G6 C6 r7 g7 G7 C7 D7 F7 q1 q2 q3 q4
    go_upto_region 7 with (fail)
    refine wp_region_held_drew (S := fun _ => True) (by kernel_rfl) trivial (fun _ => ?_)
    refine take_at (i := 0) 28 ?_ rfl rfl (by kernel_rfl) (by kernel_rfl) (by kernel_rfl) (fun _ _ _ h => h) (.inl ⟨rfl, ?_⟩) trivial ?_
    rotate_left 1
    · intro w hSw; go_simp; try with_reducible rfl
    simp only [Act.put, List.setIfInBounds_toArray, List.set_cons_zero, List.set_cons_succ]
    refine take_at (i := 2) 30 ?_ rfl rfl (by kernel_rfl) (by kernel_rfl) (by kernel_rfl) (fun _ _ _ h => h) (.inl ⟨rfl, ?_⟩) trivial ?_
    rotate_left 1
    · intro w hSw; go_simp; try with_reducible rfl
    simp only [Act.put, List.setIfInBounds_toArray, List.set_cons_zero, List.set_cons_succ]
    refine take_at (i := 3) 31 ?_ rfl rfl (by kernel_rfl) (by kernel_rfl) (by kernel_rfl) (fun _ _ _ h => h) (.inl ⟨rfl, ?_⟩) trivial ?_
    rotate_left 1
    · intro w hSw; go_simp; try with_reducible rfl
    simp only [Act.put, List.setIfInBounds_toArray, List.set_cons_zero, List.set_cons_succ]
    refine take_at (i := 4) 32 (.slice va n vc) rfl rfl (by kernel_rfl) (by kernel_rfl) (by kernel_rfl) (fun _ _ _ h => h) (yields_slh (.tmp 30) (.tmp 31) 39 (.slice va L vc) (.int .i64 (n : Int)) (.slice va n vc) (fun W => SL.out W) rfl rfl rfl rfl) trivial ?_
    simp only [Act.put, List.setIfInBounds_toArray, List.set_cons_zero, List.set_cons_succ]
    refine wpAnyH_ready (rs := [1]) (by kernel_rfl) (by simp) (br_load (i := 1) 29 (.tmp 28) 39 _ (.slice y.a y.b.length y.c) rfl rfl rfl rfl rfl LV.out trivial (fun _ => ?_) AllReadyH.nil)
    simp only [Act.put, List.setIfInBounds_toArray, List.set_cons_zero, List.set_cons_succ]
    refine one_append (i := 5) 33 (.tmp 29) (.tmp 32) 39 39 rfl rfl (by kernel_rfl) rfl rfl _ _ _ w5 rfl rfl (HAP.out _) trivial (fun _ => ?_)
    simp only [Act.put, List.setIfInBounds_toArray, List.set_cons_zero, List.set_cons_succ]
    refine take_at (i := 6) 34 ?_ rfl rfl (by kernel_rfl) (by kernel_rfl) (by kernel_rfl) (fun _ _ _ h => h) (.inl ⟨rfl, ?_⟩) trivial ?_
    rotate_left 1
    · intro w hSw; go_simp; try with_reducible rfl
    simp only [Act.put, List.setIfInBounds_toArray, List.set_cons_zero, List.set_cons_succ]
    refine wpAnyH_ready (rs := [7]) (by kernel_rfl) (by simp) (br_store (i := 7) 39 (.tmp 34) (.tmp 33) _ _ w6 rfl rfl rfl rfl rfl rfl HST.out trivial (fun _ => ?_) AllReadyH.nil)
    simp only [Act.put, List.setIfInBounds_toArray, List.set_cons_zero, List.set_cons_succ]
    refine wpAnyH_done (by kernel_rfl) ?_ _
    go_upto_region 8 with (fail)
    refine wp_region_held_drew (S := fun W => W.cell? ⟨d, 1, none⟩ = some (.map (some b)) ∧ FB W g (.slice a' (y.b.length + n) c') y.s) (by kernel_rfl) S6.out (fun _ => ?_)
    refine take_at (i := 0) 35 ?_ rfl rfl (by kernel_rfl) (by kernel_rfl) (by kernel_rfl) (fun _ _ _ h => h) (.inl ⟨rfl, ?_⟩) S6.out ?_
    rotate_left 1
    · intro w hSw; go_simp; try with_reducible rfl
    simp only [Act.put, List.setIfInBounds_toArray, List.set_cons_zero, List.set_cons_succ]
    refine take_at (i := 1) 36 ?_ rfl rfl (by kernel_rfl) (by kernel_rfl) (by kernel_rfl) (fun _ _ _ h => h) (.inl ⟨rfl, ?_⟩) S6.out ?_
    rotate_left 1
    · intro w hSw; go_simp; try with_reducible rfl
    simp only [Act.put, List.setIfInBounds_toArray, List.set_cons_zero, List.set_cons_succ]
    refine take_at (i := 2) 37 ?_ rfl rfl (by kernel_rfl) (by kernel_rfl) (by kernel_rfl) (fun _ _ _ h => h) (.inl ⟨rfl, ?_⟩) S6.out ?_
    rotate_left 1
    · intro w hSw; go_simp; try with_reducible rfl
    simp only [Act.put, List.setIfInBounds_toArray, List.set_cons_zero, List.set_cons_succ]
    refine take_at (i := 3) 38 (.map (some b)) rfl rfl (by kernel_rfl) (by kernel_rfl) (by kernel_rfl) (fun _ _ _ h => h) (yields_ld (.tmp 37) 68 (.pointer (some ⟨d, 1, none⟩)) _ (fun W hS => ldM56 hS.1) rfl rfl rfl) S6.out ?_
    simp only [Act.put, List.setIfInBounds_toArray, List.set_cons_zero, List.set_cons_succ]
    refine take_at (i := 4) 39 ?_ rfl rfl (by kernel_rfl) (by kernel_rfl) (by kernel_rfl) (fun _ _ _ h => h) (.inl ⟨rfl, ?_⟩) S6.out ?_
    rotate_left 1
    · intro w hSw; go_simp; try with_reducible rfl
    simp only [Act.put, List.setIfInBounds_toArray, List.set_cons_zero, List.set_cons_succ]
    refine take_at (i := 5) 40 (.agg #[.slice a' (y.b.length + n) c', .int .i64 y.s]) rfl rfl (by kernel_rfl) (by kernel_rfl) (by kernel_rfl) (fun _ _ _ h => h) (yields_ld (.tmp 7) 82 (.pointer (some ⟨g, 0, none⟩)) _ (fun W hS => ldS69 hS.2) rfl rfl rfl) S6.out ?_
    simp only [Act.put, List.setIfInBounds_toArray, List.set_cons_zero, List.set_cons_succ]
    refine wpAnyH_ready (rs := [6]) (by kernel_rfl) (by simp) (br_put (i := 6) 68 (.tmp 38) (.tmp 39) (.tmp 40) _ _ _ w7 rfl rfl rfl rfl rfl rfl rfl R7.out S7.out (fun _ => ?_) AllReadyH.nil)
    simp only [Act.put, List.setIfInBounds_toArray, List.set_cons_zero, List.set_cons_succ]
    refine wpAnyH_done (by kernel_rfl) ?_ _
    go_wp2
    go_returns
    exact ⟨rfl, a', c', O7.out⟩
end Go.Proofs.YtgbihpfpiaacfaaGreatDoor

