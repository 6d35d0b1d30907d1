/- Merged by tools/merge.py: SL2, SL3. -/
import Derived.Test.YtoddofcmdbifpaaSHJ

set_option linter.unusedVariables false
set_option linter.unusedSimpArgs false
set_option maxRecDepth 100000
namespace Go.Proofs.Ytoddofcmdbifpaa
open Go.RowKit Go.WideMaps Go.Maps

set_option maxHeartbeats 12800000 in
theorem does_2 (w W : World) (d rb : Nat) (s : DS) (v : Value) (l : List Fl) (lasts : Int) (dn : Bool) (h : PI w W d rb s v l lasts dn) (x : Ac) (hx : AcOk2 w x) (hl : l.length < 79000) (hb100 : x.b.length ≤ 100) (hk : x.k = 2) :
    Calls Try.prog 9 #[pv d, .pointer (some ⟨rb, 0, none⟩), .agg #[.int .i64 x.k, .int .u8 x.na, .int .u8 x.t2, .int .i64 x.n, .slice x.ba x.b.length x.bc, .slice x.ka x.kp.length x.kc]] W fun e W' => e = .returned (.bool true) ∧ DONE w d rb s l W' := by
  obtain ⟨va, vc, rfl⟩ := h.rd.1.shape
  have HK := Lib.hid hk
  clear hk
  have V1 := vstep W (.cells #[.int .i64 x.k, .int .u8 x.na, .int .u8 x.t2, .int .i64 x.n, .slice x.ba x.b.length x.bc, .slice x.ka x.kp.length x.kc] 36)
  have P1 := Lib.hid (h.step V1)
  have A1 := Lib.hid (show AB (W.alloc (.cells #[.int .i64 x.k, .int .u8 x.na, .int .u8 x.t2, .int .i64 x.n, .slice x.ba x.b.length x.bc, .slice x.ka x.kp.length x.kc] 36)) W.heap.size x from heap_alloc_new W _)
  obtain ⟨W1, hW1⟩ : ∃ y, W.alloc (.cells #[.int .i64 x.k, .int .u8 x.na, .int .u8 x.t2, .int .i64 x.n, .slice x.ba x.b.length x.bc, .slice x.ka x.kp.length x.kc] 36) = y := ⟨_, rfl⟩
  rw [hW1] at P1 A1
  have HW1 := Lib.hid hW1
  obtain ⟨ba, hba⟩ : ∃ z, W.heap.size = z := ⟨_, rfl⟩
  have HBA := Lib.hid hba
  rw [hba] at A1
  have BNH := Lib.hid (show ¬ Has d s ba from fun q => by have := (h.dk.base _ q).2; omega)
  have BNR := Lib.hid (show rb ≠ ba from fun q => by have := lt_of_block h.bx; omega)
  have AO := Lib.hid hx
  have HL := Lib.hid (show l.length < 80000 from by omega)
  clear h V1 hW1 hba hx
  have C1 : ∀ z : Later W1, z.w.cell? ⟨ba, 1, none⟩ = some (.int .u8 x.na) := fun z => (A1.out.step z.below).all.2.1
  have C2 : ∀ z : Later W1, z.w.cell? ⟨ba, 2, none⟩ = some (.int .u8 x.t2) := fun z => (A1.out.step z.below).all.2.2.1
  have F1 := Lib.hid (fun z : Later W1 => file_later z x.na AO.out.2.1)
  have F2 := Lib.hid (fun z : Later W1 => file_later z x.t2 AO.out.2.2.1)
  go_enter Try.func9, Try.ntmps9
  go_upto_region 1 with (fail)
  rw [HW1.out, HBA.out]
  refine wp_region_later (by kernel_rfl) (by kernel_rfl) ?_
  repeat (go_big_quiet_step (first | (go_at_call 26; with_reducible exact F1.out _) | (go_at_call 26; with_reducible exact F2.out _)))
  refine wpQuiet_nil ?_
  rintro _ ⟨z, rfl⟩
  have P2 := Lib.hid (P1.out.step z.below)
  have A2 := Lib.hid (A1.out.step z.below)
  clear C1 C2 F1 F2 P1 A1 HW1 HBA
  generalize z.w = W2 at *
  clear z
  obtain ⟨nm, hnm⟩ : ∃ nm, fileN x.na = nm := ⟨_, rfl⟩
  obtain ⟨nt, hnt⟩ : ∃ nt, fileN x.t2 = nt := ⟨_, rfl⟩
  have NL := Lib.hid (show nm.size ≤ maxLen ∧ nt.size ≤ maxLen from ⟨by rw [← hnm]; exact file_le _, by rw [← hnt]; exact file_le _⟩)
  rw [hnm, hnt]
  clear hnm hnt
  obtain ⟨a0, a1, a2, a3, a4, a5⟩ := A2.out.all
  clear a1 a2
  rw [HK.out] at a0
  have PC := Lib.hid (pair_append (d := d) (rb := rb) (v := .slice va l.length vc) (nt := nt) (n := x.n) (bv := .slice x.ba x.b.length x.bc) (P2.out.pp HL.out nm NL.out.1) P2.out.dk.roomok AO.out.1.1 (by omega) W2 P2.out.ph)
  go_wp2_with fail
  refine PC.out.mono ?_
  rintro e W3 ⟨t, ev, rfl, ho, hr, fit⟩
  have P3 := Lib.hid (P2.out.ph.out ho hr)
  have A3 := Lib.hid (A2.out.far ho.far BNH.out)
  have FT := Lib.hid fit
  have HR := Lib.hid hr
  clear ho hr fit PC a0 a3 a4 a5 P2 A2
  obtain ⟨a0, a1, a2, a3, a4, a5⟩ := A3.out.all
  rw [HK.out] at a0
  have KA := Lib.hid (kind_any W3 2)
  rw [show kindF 2 = 1 from by decide] at KA
  go_wp2_with fail
  refine KA.out.mono ?_
  rintro e w9 ⟨rfl, rfl⟩
  clear KA
  go_upto_region 27 with (fail)
  clear a0 a1 a2 a3 a4 a5
  have PV := P3.out.step (show Below W3.heap.size W3 W3.drew from (Below.refl _ _).drew)
  have AV := A3.out.step (show Below W3.heap.size W3 W3.drew from (Below.refl _ _).drew)
  have PVH := Lib.hid PV
  have S0 := Lib.hid (show Below W3.drew.heap.size W3.drew W3.drew from Below.refl _ _)
  have L2 := Lib.hid (fun W (hS : Below W3.drew.heap.size W3.drew W) => ldRD (PV.bx.step hS))
  have L6 := Lib.hid (fun W (hS : Below W3.drew.heap.size W3.drew W) => ldV33 (AV.step hS).all.2.2.2.2.1)
  have L8 := Lib.hid (fun W (hS : Below W3.drew.heap.size W3.drew W) => ldI3 (AV.step hS).all.2.2.2.1)
  have FA := Lib.hid (FT.out W3.drew PV)
  have VA := vstep W3.drew (.cells #[.slice none 0 0, .int .i64 0, .int .i64 0, .bool false] 29)
  have FB := Lib.hid (FT.out _ (PV.step VA))
  have AL := Lib.hid (run_alloc29 W3.drew)
  have XB := RB.new W3.drew (.slice none 0 0) 0 0 false
  obtain ⟨V1, hV1⟩ : ∃ z, W3.drew.alloc (.cells #[.slice none 0 0, .int .i64 0, .int .i64 0, .bool false] 29) = z := ⟨_, rfl⟩
  rw [hV1] at VA FB AL XB
  have S1 := Lib.hid VA
  have XBH := Lib.hid XB
  have SZ := Lib.hid (show V1.heap.size = W3.drew.heap.size + 1 from by rw [← hV1]; simp)
  refine wp_region_held_drew (S := fun W => Below W3.drew.heap.size W3.drew W) (by kernel_rfl) S0.out (fun _ => ?_)
  obtain ⟨V0, hV0⟩ : ∃ z, W3.drew = z := ⟨_, rfl⟩
  rw [hV0] at PVH S0 L2 L6 L8 FA S1 AL XBH SZ
  rw [hV0]
  clear hV1 VA XB FT PV AV P3 A3 hV0
  refine take_at (i := 0) 94 ?_ rfl rfl (by kernel_rfl) (by kernel_rfl) (by kernel_rfl) (fun _ _ _ h => h) (.inl ⟨rfl, ?_⟩) S0.out ?_
  rotate_left 1
  · intro w hSw; go_simp; try with_reducible rfl
  simp only [Act.put, List.setIfInBounds_toArray, List.set_cons_zero, List.set_cons_succ]
  refine take_at (i := 1) 95 ?_ rfl rfl (by kernel_rfl) (by kernel_rfl) (by kernel_rfl) (fun _ _ _ h => h) (.inl ⟨rfl, ?_⟩) S0.out ?_
  rotate_left 1
  · intro w hSw; go_simp; try with_reducible rfl
  simp only [Act.put, List.setIfInBounds_toArray, List.set_cons_zero, List.set_cons_succ]
  refine take_at (i := 2) 96 (rdv (.slice va l.length vc) s.room lasts dn) rfl rfl (by kernel_rfl) (by kernel_rfl) (by kernel_rfl) (fun _ _ _ h => h) (yields_ld (.tmp 95) 29 (.pointer (some ⟨rb, 0, none⟩)) _ (fun W hS => L2.out W hS) rfl rfl rfl) S0.out ?_
  simp only [Act.put, List.setIfInBounds_toArray, List.set_cons_zero, List.set_cons_succ]
  refine take_at (i := 3) 97 ?_ rfl rfl (by kernel_rfl) (by kernel_rfl) (by kernel_rfl) (fun _ _ _ h => h) (.inl ⟨rfl, ?_⟩) S0.out ?_
  rotate_left 1
  · intro w hSw; go_simp; try with_reducible rfl
  simp only [Act.put, List.setIfInBounds_toArray, List.set_cons_zero, List.set_cons_succ]
  refine take_at (i := 4) 98 ?_ rfl rfl (by kernel_rfl) (by kernel_rfl) (by kernel_rfl) (fun _ _ _ h => h) (.inl ⟨rfl, ?_⟩) S0.out ?_
  rotate_left 1
  · intro w hSw; go_simp; try with_reducible rfl
  simp only [Act.put, List.setIfInBounds_toArray, List.set_cons_zero, List.set_cons_succ]
  refine take_at (i := 5) 99 ?_ rfl rfl (by kernel_rfl) (by kernel_rfl) (by kernel_rfl) (fun _ _ _ h => h) (.inl ⟨rfl, ?_⟩) S0.out ?_
  rotate_left 1
  · intro w hSw; go_simp; try with_reducible rfl
  simp only [Act.put, List.setIfInBounds_toArray, List.set_cons_zero, List.set_cons_succ]
  refine take_at (i := 6) 100 (.slice x.ba x.b.length x.bc) rfl rfl (by kernel_rfl) (by kernel_rfl) (by kernel_rfl) (fun _ _ _ h => h) (yields_ld (.tmp 99) 33 (.pointer (some ⟨ba, 4, none⟩)) _ (fun W hS => L6.out W hS) rfl rfl rfl) S0.out ?_
  simp only [Act.put, List.setIfInBounds_toArray, List.set_cons_zero, List.set_cons_succ]
  refine take_at (i := 7) 101 ?_ rfl rfl (by kernel_rfl) (by kernel_rfl) (by kernel_rfl) (fun _ _ _ h => h) (.inl ⟨rfl, ?_⟩) S0.out ?_
  rotate_left 1
  · intro w hSw; go_simp; try with_reducible rfl
  simp only [Act.put, List.setIfInBounds_toArray, List.set_cons_zero, List.set_cons_succ]
  refine take_at (i := 8) 102 (.int .i64 x.n) rfl rfl (by kernel_rfl) (by kernel_rfl) (by kernel_rfl) (fun _ _ _ h => h) (yields_ld (.tmp 101) 3 (.pointer (some ⟨ba, 3, none⟩)) _ (fun W hS => L8.out W hS) rfl rfl rfl) S0.out ?_
  simp only [Act.put, List.setIfInBounds_toArray, List.set_cons_zero, List.set_cons_succ]
  refine take_at (i := 9) 103 ?_ rfl rfl (by kernel_rfl) (by kernel_rfl) (by kernel_rfl) (fun _ _ _ h => h) (.inl ⟨rfl, ?_⟩) S0.out ?_
  rotate_left 1
  · intro w hSw; go_simp; try with_reducible rfl
  simp only [Act.put, List.setIfInBounds_toArray, List.set_cons_zero, List.set_cons_succ]
  refine wpAnyH_ready (rs := [10, 14]) (by kernel_rfl) (by simp) (br_call (i := 10) 104 29 #[rdv (.slice va l.length vc) s.room lasts dn, .int .i64 1, .string nm, .slice x.ba x.b.length x.bc, .int .i64 x.n, .string nt] rfl rfl rfl (by go_simp) (FA.out.mono ?_) (br_alloc (i := 14) 11 29 _ V1 rfl rfl rfl rfl AL.out S1.out (fun _ => ?_) AllReadyH.nil))
  · rintro e W4 ⟨u, l', lasts', dn', rfl, hrn, hb4, ht, hll⟩
    have TT := Lib.hid (And.intro ht hll)
    have US : ∃ ua un uc, u = .slice ua un uc := by
      rcases hrn with hrn | ⟨rfl, _⟩
      · obtain ⟨a, c, e⟩ := hrn.rd.1.shape; exact ⟨a, _, c, e⟩
      · exact ⟨va, _, vc, rfl⟩
    obtain ⟨ua, un, uc, rfl⟩ := US
    have S4 := Lib.hid hb4
    have AL4 := Lib.hid (run_alloc29 W4)
    have VB := vstep W4 (.cells #[.slice none 0 0, .int .i64 0, .int .i64 0, .bool false] 29)
    have XN := RB.new W4 (.slice none 0 0) 0 0 false
    obtain ⟨V4, hV4⟩ : ∃ z, W4.alloc (.cells #[.slice none 0 0, .int .i64 0, .int .i64 0, .bool false] 29) = z := ⟨_, rfl⟩
    rw [hV4] at AL4 VB XN
    have SS := Lib.hid (hb4.trans (VB.mono hb4.size))
    have ST := Lib.hid (run_store29 V4 W4.heap.size _ 0 0 false XN ua un uc s.room lasts' dn')
    have F5 := far_set4 V4 W4.heap.size (.slice ua un uc) (.int .i64 s.room) (.int .i64 lasts') (.bool dn')
    have X5 := Lib.hid (show RB (sets4 V4 W4.heap.size (.slice ua un uc) (.int .i64 s.room) (.int .i64 lasts') (.bool dn')) W4.heap.size (.slice ua un uc) s.room lasts' dn' from sets4_row XN)
    have S5 := Lib.hid (SS.out.trans (F5.below SS.out.size (fun k q => by rw [q]; exact hb4.size)))
    have RNH := Lib.hid (hrn.imp (fun hrn => rn_box PVH.out.rd (Nat.le_refl _) hrn ((Far.of_below (P := fun k => k = W4.heap.size) VB).trans F5 (fun k _ q => q)) (.inr ⟨hb4.size, Nat.le_refl _⟩)) id)
    have R5 := Lib.hid (PVH.out.bx.step S5.out)
    obtain ⟨W5, hW5⟩ : ∃ z, sets4 V4 W4.heap.size (.slice ua un uc) (.int .i64 s.room) (.int .i64 lasts') (.bool dn') = z := ⟨_, rfl⟩
    rw [hW5] at ST X5 S5 RNH R5
    clear hW5 hV4 VB XN F5 hrn hb4 ht hll
    refine ⟨_, rfl, S4.out, fun _ => ?_⟩
    simp only [Act.put, List.setIfInBounds_toArray, List.set_cons_zero, List.set_cons_succ]
    refine take_at (i := 11) 93 ?_ rfl rfl (by kernel_rfl) (by kernel_rfl) (by kernel_rfl) (fun _ _ _ h => h) (.inl ⟨rfl, ?_⟩) S4.out ?_
    rotate_left 1
    · intro w hSw; go_simp; try with_reducible rfl
    simp only [Act.put, List.setIfInBounds_toArray, List.set_cons_zero, List.set_cons_succ]
    refine take_at (i := 12) 105 ?_ rfl rfl (by kernel_rfl) (by kernel_rfl) (by kernel_rfl) (fun _ _ _ h => h) (.inl ⟨rfl, ?_⟩) S4.out ?_
    rotate_left 1
    · intro w hSw; go_simp; try with_reducible rfl
    simp only [Act.put, List.setIfInBounds_toArray, List.set_cons_zero, List.set_cons_succ]
    refine take_at (i := 13) 106 ?_ rfl rfl (by kernel_rfl) (by kernel_rfl) (by kernel_rfl) (fun _ _ _ h => h) (.inl ⟨rfl, ?_⟩) S4.out ?_
    rotate_left 1
    · intro w hSw; go_simp; try with_reducible rfl
    simp only [Act.put, List.setIfInBounds_toArray, List.set_cons_zero, List.set_cons_succ]
    refine wpAnyH_ready (rs := [14]) (by kernel_rfl) (by simp) (br_alloc (i := 14) 11 29 _ V4 rfl rfl rfl rfl AL4.out SS.out (fun _ => ?_) AllReadyH.nil)
    simp only [Act.put, List.setIfInBounds_toArray, List.set_cons_zero, List.set_cons_succ]
    refine wpAnyH_ready (rs := [15]) (by kernel_rfl) (by simp) (br_store (i := 15) 29 (.tmp 11) (.tmp 105) (.pointer (some ⟨W4.heap.size, 0, none⟩)) (rdv (.slice ua un uc) s.room lasts' dn') W5 rfl rfl rfl rfl rfl rfl ST.out S5.out (fun _ => ?_) AllReadyH.nil)
    simp only [Act.put, List.setIfInBounds_toArray, List.set_cons_zero, List.set_cons_succ]
    refine take_at (i := 16) 12 ?_ rfl rfl (by kernel_rfl) (by kernel_rfl) (by kernel_rfl) (fun _ _ _ h => h) (.inl ⟨rfl, ?_⟩) S5.out ?_
    rotate_left 1
    · intro w hSw; go_simp; try with_reducible rfl
    simp only [Act.put, List.setIfInBounds_toArray, List.set_cons_zero, List.set_cons_succ]
    refine wpAnyH_done (by kernel_rfl) ?_ _
    obtain ⟨e0, e1, e2, e3⟩ := X5.out.cells
    obtain ⟨r0, r1, r2, r3⟩ := R5.out.cells
    obtain ⟨f0, f1, f2, f3⟩ := R5.out.free
    go_upto_region 29 with (fail)
    clear e0 e1 e2 e3 r0 r1 r2 r3 f0 f1 f2 f3
    have PF := Lib.hid ((PVH.out.fin (lasts' := lasts') (dn' := dn') S5.out RNH.out).pi TT.out.1)
    obtain ⟨W6, hW6⟩ : ∃ z, sets4 W5 rb (.slice ua un uc) (.int .i64 s.room) (.int .i64 lasts') (.bool dn') = z := ⟨_, rfl⟩
    rw [hW6] at PF
    unfold sets4 at hW6
    rw [hW6]
    clear hW6
    go_wp2
    go_returns
    exact ⟨rfl, t, _, l', lasts', dn', PF.out, HR.out, TT.out.2⟩
  · simp only [Act.put, List.setIfInBounds_toArray, List.set_cons_zero, List.set_cons_succ]
    refine wpAnyH_ready (rs := [10]) (by kernel_rfl) (by simp) (br_call (i := 10) 104 29 #[rdv (.slice va l.length vc) s.room lasts dn, .int .i64 1, .string nm, .slice x.ba x.b.length x.bc, .int .i64 x.n, .string nt] rfl rfl rfl (by go_simp) (FB.out.mono ?_) AllReadyH.nil)
    rintro e W4 ⟨u, l', lasts', dn', rfl, hrn, hb4, ht, hll⟩
    have TT := Lib.hid (And.intro ht hll)
    have US : ∃ ua un uc, u = .slice ua un uc := by
      rcases hrn with hrn | ⟨rfl, _⟩
      · obtain ⟨a, c, e⟩ := hrn.rd.1.shape; exact ⟨a, _, c, e⟩
      · exact ⟨va, _, vc, rfl⟩
    obtain ⟨ua, un, uc, rfl⟩ := US
    have S4 := Lib.hid (S1.out.trans (hb4.mono S1.out.size))
    have XN := XBH.out.keep hb4 (Nat.le_refl _)
    have ST := Lib.hid (run_store29 W4 V0.heap.size _ 0 0 false XN ua un uc s.room lasts' dn')
    have F5 := far_set4 W4 V0.heap.size (.slice ua un uc) (.int .i64 s.room) (.int .i64 lasts') (.bool dn')
    have X5 := Lib.hid (show RB (sets4 W4 V0.heap.size (.slice ua un uc) (.int .i64 s.room) (.int .i64 lasts') (.bool dn')) V0.heap.size (.slice ua un uc) s.room lasts' dn' from sets4_row XN)
    have S5 := Lib.hid (S4.out.trans (F5.below S4.out.size (fun k q => by rw [q]; exact Nat.le_refl _)))
    have RNH := Lib.hid (hrn.imp (fun hrn => rn_box PVH.out.rd S1.out.size hrn F5 (.inl ⟨Nat.le_refl _, by have := SZ.out; omega⟩)) id)
    have R5 := Lib.hid (PVH.out.bx.step S5.out)
    obtain ⟨W5, hW5⟩ : ∃ z, sets4 W4 V0.heap.size (.slice ua un uc) (.int .i64 s.room) (.int .i64 lasts') (.bool dn') = z := ⟨_, rfl⟩
    rw [hW5] at ST X5 S5 RNH R5
    clear hW5 XN F5 hrn hb4 ht hll
    refine ⟨_, rfl, S4.out, fun _ => ?_⟩
    simp only [Act.put, List.setIfInBounds_toArray, List.set_cons_zero, List.set_cons_succ]
    refine take_at (i := 11) 93 ?_ rfl rfl (by kernel_rfl) (by kernel_rfl) (by kernel_rfl) (fun _ _ _ h => h) (.inl ⟨rfl, ?_⟩) S4.out ?_
    rotate_left 1
    · intro w hSw; go_simp; try with_reducible rfl
    simp only [Act.put, List.setIfInBounds_toArray, List.set_cons_zero, List.set_cons_succ]
    refine take_at (i := 12) 105 ?_ rfl rfl (by kernel_rfl) (by kernel_rfl) (by kernel_rfl) (fun _ _ _ h => h) (.inl ⟨rfl, ?_⟩) S4.out ?_
    rotate_left 1
    · intro w hSw; go_simp; try with_reducible rfl
    simp only [Act.put, List.setIfInBounds_toArray, List.set_cons_zero, List.set_cons_succ]
    refine take_at (i := 13) 106 ?_ rfl rfl (by kernel_rfl) (by kernel_rfl) (by kernel_rfl) (fun _ _ _ h => h) (.inl ⟨rfl, ?_⟩) S4.out ?_
    rotate_left 1
    · intro w hSw; go_simp; try with_reducible rfl
    simp only [Act.put, List.setIfInBounds_toArray, List.set_cons_zero, List.set_cons_succ]
    refine wpAnyH_ready (rs := [15]) (by kernel_rfl) (by simp) (br_store (i := 15) 29 (.tmp 11) (.tmp 105) (.pointer (some ⟨V0.heap.size, 0, none⟩)) (rdv (.slice ua un uc) s.room lasts' dn') W5 rfl rfl rfl rfl rfl rfl ST.out S5.out (fun _ => ?_) AllReadyH.nil)
    simp only [Act.put, List.setIfInBounds_toArray, List.set_cons_zero, List.set_cons_succ]
    refine take_at (i := 16) 12 ?_ rfl rfl (by kernel_rfl) (by kernel_rfl) (by kernel_rfl) (fun _ _ _ h => h) (.inl ⟨rfl, ?_⟩) S5.out ?_
    rotate_left 1
    · intro w hSw; go_simp; try with_reducible rfl
    simp only [Act.put, List.setIfInBounds_toArray, List.set_cons_zero, List.set_cons_succ]
    refine wpAnyH_done (by kernel_rfl) ?_ _
    obtain ⟨e0, e1, e2, e3⟩ := X5.out.cells
    obtain ⟨r0, r1, r2, r3⟩ := R5.out.cells
    obtain ⟨f0, f1, f2, f3⟩ := R5.out.free
    go_upto_region 29 with (fail)
    clear e0 e1 e2 e3 r0 r1 r2 r3 f0 f1 f2 f3
    have PF := Lib.hid ((PVH.out.fin (lasts' := lasts') (dn' := dn') S5.out RNH.out).pi TT.out.1)
    obtain ⟨W6, hW6⟩ : ∃ z, sets4 W5 rb (.slice ua un uc) (.int .i64 s.room) (.int .i64 lasts') (.bool dn') = z := ⟨_, rfl⟩
    rw [hW6] at PF
    unfold sets4 at hW6
    rw [hW6]
    clear hW6
    go_wp2
    go_returns
    exact ⟨rfl, t, _, l', lasts', dn', PF.out, HR.out, TT.out.2⟩
end Go.Proofs.Ytoddofcmdbifpaa

set_option linter.unusedVariables false
set_option linter.unusedSimpArgs false
set_option maxRecDepth 100000
namespace Go.Proofs.Ytoddofcmdbifpaa
open Go.RowKit Go.WideMaps Go.Maps

set_option maxHeartbeats 12800000 in
theorem does_3 (w W : World) (d rb : Nat) (s : DS) (v : Value) (l : List Fl) (lasts : Int) (dn : Bool) (h : PI w W d rb s v l lasts dn) (x : Ac) (hx : AcOk2 w x) (hl : l.length < 79000) (hb100 : x.b.length ≤ 100) (hk : x.k = 3) :
    Calls Try.prog 9 #[pv d, .pointer (some ⟨rb, 0, none⟩), .agg #[.int .i64 x.k, .int .u8 x.na, .int .u8 x.t2, .int .i64 x.n, .slice x.ba x.b.length x.bc, .slice x.ka x.kp.length x.kc]] W fun e W' => e = .returned (.bool true) ∧ DONE w d rb s l W' := by
  obtain ⟨va, vc, rfl⟩ := h.rd.1.shape
  have HK := Lib.hid hk
  clear hk
  have V1 := vstep W (.cells #[.int .i64 x.k, .int .u8 x.na, .int .u8 x.t2, .int .i64 x.n, .slice x.ba x.b.length x.bc, .slice x.ka x.kp.length x.kc] 36)
  have P1 := Lib.hid (h.step V1)
  have A1 := Lib.hid (show AB (W.alloc (.cells #[.int .i64 x.k, .int .u8 x.na, .int .u8 x.t2, .int .i64 x.n, .slice x.ba x.b.length x.bc, .slice x.ka x.kp.length x.kc] 36)) W.heap.size x from heap_alloc_new W _)
  obtain ⟨W1, hW1⟩ : ∃ y, W.alloc (.cells #[.int .i64 x.k, .int .u8 x.na, .int .u8 x.t2, .int .i64 x.n, .slice x.ba x.b.length x.bc, .slice x.ka x.kp.length x.kc] 36) = y := ⟨_, rfl⟩
  rw [hW1] at P1 A1
  have HW1 := Lib.hid hW1
  obtain ⟨ba, hba⟩ : ∃ z, W.heap.size = z := ⟨_, rfl⟩
  have HBA := Lib.hid hba
  rw [hba] at A1
  have BNH := Lib.hid (show ¬ Has d s ba from fun q => by have := (h.dk.base _ q).2; omega)
  have BNR := Lib.hid (show rb ≠ ba from fun q => by have := lt_of_block h.bx; omega)
  have AO := Lib.hid hx
  have HL := Lib.hid (show l.length < 80000 from by omega)
  clear h V1 hW1 hba hx
  have C1 : ∀ z : Later W1, z.w.cell? ⟨ba, 1, none⟩ = some (.int .u8 x.na) := fun z => (A1.out.step z.below).all.2.1
  have C2 : ∀ z : Later W1, z.w.cell? ⟨ba, 2, none⟩ = some (.int .u8 x.t2) := fun z => (A1.out.step z.below).all.2.2.1
  have F1 := Lib.hid (fun z : Later W1 => file_later z x.na AO.out.2.1)
  have F2 := Lib.hid (fun z : Later W1 => file_later z x.t2 AO.out.2.2.1)
  go_enter Try.func9, Try.ntmps9
  go_upto_region 1 with (fail)
  rw [HW1.out, HBA.out]
  refine wp_region_later (by kernel_rfl) (by kernel_rfl) ?_
  repeat (go_big_quiet_step (first | (go_at_call 26; with_reducible exact F1.out _) | (go_at_call 26; with_reducible exact F2.out _)))
  refine wpQuiet_nil ?_
  rintro _ ⟨z, rfl⟩
  have P2 := Lib.hid (P1.out.step z.below)
  have A2 := Lib.hid (A1.out.step z.below)
  clear C1 C2 F1 F2 P1 A1 HW1 HBA
  generalize z.w = W2 at *
  clear z
  obtain ⟨nm, hnm⟩ : ∃ nm, fileN x.na = nm := ⟨_, rfl⟩
  obtain ⟨nt, hnt⟩ : ∃ nt, fileN x.t2 = nt := ⟨_, rfl⟩
  have NL := Lib.hid (show nm.size ≤ maxLen ∧ nt.size ≤ maxLen from ⟨by rw [← hnm]; exact file_le _, by rw [← hnt]; exact file_le _⟩)
  rw [hnm, hnt]
  clear hnm hnt
  obtain ⟨a0, a1, a2, a3, a4, a5⟩ := A2.out.all
  clear a1 a2
  rw [HK.out] at a0
  have PC := Lib.hid (pair_sync (d := d) (rb := rb) (v := .slice va l.length vc) (nt := nt) (n := x.n) (bv := .slice x.ba x.b.length x.bc) (P2.out.pp HL.out nm NL.out.1) W2 P2.out.ph)
  go_wp2_with fail
  refine PC.out.mono ?_
  rintro e W3 ⟨t, ev, rfl, ho, hr, fit⟩
  have P3 := Lib.hid (P2.out.ph.out ho hr)
  have A3 := Lib.hid (A2.out.far ho.far BNH.out)
  have FT := Lib.hid fit
  have HR := Lib.hid hr
  clear ho hr fit PC a0 a3 a4 a5 P2 A2
  obtain ⟨a0, a1, a2, a3, a4, a5⟩ := A3.out.all
  rw [HK.out] at a0
  have KA := Lib.hid (kind_any W3 3)
  rw [show kindF 3 = 2 from by decide] at KA
  go_wp2_with fail
  refine KA.out.mono ?_
  rintro e w9 ⟨rfl, rfl⟩
  clear KA
  go_upto_region 27 with (fail)
  clear a0 a1 a2 a3 a4 a5
  have PV := P3.out.step (show Below W3.heap.size W3 W3.drew from (Below.refl _ _).drew)
  have AV := A3.out.step (show Below W3.heap.size W3 W3.drew from (Below.refl _ _).drew)
  have PVH := Lib.hid PV
  have S0 := Lib.hid (show Below W3.drew.heap.size W3.drew W3.drew from Below.refl _ _)
  have L2 := Lib.hid (fun W (hS : Below W3.drew.heap.size W3.drew W) => ldRD (PV.bx.step hS))
  have L6 := Lib.hid (fun W (hS : Below W3.drew.heap.size W3.drew W) => ldV33 (AV.step hS).all.2.2.2.2.1)
  have L8 := Lib.hid (fun W (hS : Below W3.drew.heap.size W3.drew W) => ldI3 (AV.step hS).all.2.2.2.1)
  have FA := Lib.hid (FT.out W3.drew PV)
  have VA := vstep W3.drew (.cells #[.slice none 0 0, .int .i64 0, .int .i64 0, .bool false] 29)
  have FB := Lib.hid (FT.out _ (PV.step VA))
  have AL := Lib.hid (run_alloc29 W3.drew)
  have XB := RB.new W3.drew (.slice none 0 0) 0 0 false
  obtain ⟨V1, hV1⟩ : ∃ z, W3.drew.alloc (.cells #[.slice none 0 0, .int .i64 0, .int .i64 0, .bool false] 29) = z := ⟨_, rfl⟩
  rw [hV1] at VA FB AL XB
  have S1 := Lib.hid VA
  have XBH := Lib.hid XB
  have SZ := Lib.hid (show V1.heap.size = W3.drew.heap.size + 1 from by rw [← hV1]; simp)
  refine wp_region_held_drew (S := fun W => Below W3.drew.heap.size W3.drew W) (by kernel_rfl) S0.out (fun _ => ?_)
  obtain ⟨V0, hV0⟩ : ∃ z, W3.drew = z := ⟨_, rfl⟩
  rw [hV0] at PVH S0 L2 L6 L8 FA S1 AL XBH SZ
  rw [hV0]
  clear hV1 VA XB FT PV AV P3 A3 hV0
  refine take_at (i := 0) 94 ?_ rfl rfl (by kernel_rfl) (by kernel_rfl) (by kernel_rfl) (fun _ _ _ h => h) (.inl ⟨rfl, ?_⟩) S0.out ?_
  rotate_left 1
  · intro w hSw; go_simp; try with_reducible rfl
  simp only [Act.put, List.setIfInBounds_toArray, List.set_cons_zero, List.set_cons_succ]
  refine take_at (i := 1) 95 ?_ rfl rfl (by kernel_rfl) (by kernel_rfl) (by kernel_rfl) (fun _ _ _ h => h) (.inl ⟨rfl, ?_⟩) S0.out ?_
  rotate_left 1
  · intro w hSw; go_simp; try with_reducible rfl
  simp only [Act.put, List.setIfInBounds_toArray, List.set_cons_zero, List.set_cons_succ]
  refine take_at (i := 2) 96 (rdv (.slice va l.length vc) s.room lasts dn) rfl rfl (by kernel_rfl) (by kernel_rfl) (by kernel_rfl) (fun _ _ _ h => h) (yields_ld (.tmp 95) 29 (.pointer (some ⟨rb, 0, none⟩)) _ (fun W hS => L2.out W hS) rfl rfl rfl) S0.out ?_
  simp only [Act.put, List.setIfInBounds_toArray, List.set_cons_zero, List.set_cons_succ]
  refine take_at (i := 3) 97 ?_ rfl rfl (by kernel_rfl) (by kernel_rfl) (by kernel_rfl) (fun _ _ _ h => h) (.inl ⟨rfl, ?_⟩) S0.out ?_
  rotate_left 1
  · intro w hSw; go_simp; try with_reducible rfl
  simp only [Act.put, List.setIfInBounds_toArray, List.set_cons_zero, List.set_cons_succ]
  refine take_at (i := 4) 98 ?_ rfl rfl (by kernel_rfl) (by kernel_rfl) (by kernel_rfl) (fun _ _ _ h => h) (.inl ⟨rfl, ?_⟩) S0.out ?_
  rotate_left 1
  · intro w hSw; go_simp; try with_reducible rfl
  simp only [Act.put, List.setIfInBounds_toArray, List.set_cons_zero, List.set_cons_succ]
  refine take_at (i := 5) 99 ?_ rfl rfl (by kernel_rfl) (by kernel_rfl) (by kernel_rfl) (fun _ _ _ h => h) (.inl ⟨rfl, ?_⟩) S0.out ?_
  rotate_left 1
  · intro w hSw; go_simp; try with_reducible rfl
  simp only [Act.put, List.setIfInBounds_toArray, List.set_cons_zero, List.set_cons_succ]
  refine take_at (i := 6) 100 (.slice x.ba x.b.length x.bc) rfl rfl (by kernel_rfl) (by kernel_rfl) (by kernel_rfl) (fun _ _ _ h => h) (yields_ld (.tmp 99) 33 (.pointer (some ⟨ba, 4, none⟩)) _ (fun W hS => L6.out W hS) rfl rfl rfl) S0.out ?_
  simp only [Act.put, List.setIfInBounds_toArray, List.set_cons_zero, List.set_cons_succ]
  refine take_at (i := 7) 101 ?_ rfl rfl (by kernel_rfl) (by kernel_rfl) (by kernel_rfl) (fun _ _ _ h => h) (.inl ⟨rfl, ?_⟩) S0.out ?_
  rotate_left 1
  · intro w hSw; go_simp; try with_reducible rfl
  simp only [Act.put, List.setIfInBounds_toArray, List.set_cons_zero, List.set_cons_succ]
  refine take_at (i := 8) 102 (.int .i64 x.n) rfl rfl (by kernel_rfl) (by kernel_rfl) (by kernel_rfl) (fun _ _ _ h => h) (yields_ld (.tmp 101) 3 (.pointer (some ⟨ba, 3, none⟩)) _ (fun W hS => L8.out W hS) rfl rfl rfl) S0.out ?_
  simp only [Act.put, List.setIfInBounds_toArray, List.set_cons_zero, List.set_cons_succ]
  refine take_at (i := 9) 103 ?_ rfl rfl (by kernel_rfl) (by kernel_rfl) (by kernel_rfl) (fun _ _ _ h => h) (.inl ⟨rfl, ?_⟩) S0.out ?_
  rotate_left 1
  · intro w hSw; go_simp; try with_reducible rfl
  simp only [Act.put, List.setIfInBounds_toArray, List.set_cons_zero, List.set_cons_succ]
  refine wpAnyH_ready (rs := [10, 14]) (by kernel_rfl) (by simp) (br_call (i := 10) 104 29 #[rdv (.slice va l.length vc) s.room lasts dn, .int .i64 2, .string nm, .slice x.ba x.b.length x.bc, .int .i64 x.n, .string nt] rfl rfl rfl (by go_simp) (FA.out.mono ?_) (br_alloc (i := 14) 11 29 _ V1 rfl rfl rfl rfl AL.out S1.out (fun _ => ?_) AllReadyH.nil))
  · rintro e W4 ⟨u, l', lasts', dn', rfl, hrn, hb4, ht, hll⟩
    have TT := Lib.hid (And.intro ht hll)
    have US : ∃ ua un uc, u = .slice ua un uc := by
      rcases hrn with hrn | ⟨rfl, _⟩
      · obtain ⟨a, c, e⟩ := hrn.rd.1.shape; exact ⟨a, _, c, e⟩
      · exact ⟨va, _, vc, rfl⟩
    obtain ⟨ua, un, uc, rfl⟩ := US
    have S4 := Lib.hid hb4
    have AL4 := Lib.hid (run_alloc29 W4)
    have VB := vstep W4 (.cells #[.slice none 0 0, .int .i64 0, .int .i64 0, .bool false] 29)
    have XN := RB.new W4 (.slice none 0 0) 0 0 false
    obtain ⟨V4, hV4⟩ : ∃ z, W4.alloc (.cells #[.slice none 0 0, .int .i64 0, .int .i64 0, .bool false] 29) = z := ⟨_, rfl⟩
    rw [hV4] at AL4 VB XN
    have SS := Lib.hid (hb4.trans (VB.mono hb4.size))
    have ST := Lib.hid (run_store29 V4 W4.heap.size _ 0 0 false XN ua un uc s.room lasts' dn')
    have F5 := far_set4 V4 W4.heap.size (.slice ua un uc) (.int .i64 s.room) (.int .i64 lasts') (.bool dn')
    have X5 := Lib.hid (show RB (sets4 V4 W4.heap.size (.slice ua un uc) (.int .i64 s.room) (.int .i64 lasts') (.bool dn')) W4.heap.size (.slice ua un uc) s.room lasts' dn' from sets4_row XN)
    have S5 := Lib.hid (SS.out.trans (F5.below SS.out.size (fun k q => by rw [q]; exact hb4.size)))
    have RNH := Lib.hid (hrn.imp (fun hrn => rn_box PVH.out.rd (Nat.le_refl _) hrn ((Far.of_below (P := fun k => k = W4.heap.size) VB).trans F5 (fun k _ q => q)) (.inr ⟨hb4.size, Nat.le_refl _⟩)) id)
    have R5 := Lib.hid (PVH.out.bx.step S5.out)
    obtain ⟨W5, hW5⟩ : ∃ z, sets4 V4 W4.heap.size (.slice ua un uc) (.int .i64 s.room) (.int .i64 lasts') (.bool dn') = z := ⟨_, rfl⟩
    rw [hW5] at ST X5 S5 RNH R5
    clear hW5 hV4 VB XN F5 hrn hb4 ht hll
    refine ⟨_, rfl, S4.out, fun _ => ?_⟩
    simp only [Act.put, List.setIfInBounds_toArray, List.set_cons_zero, List.set_cons_succ]
    refine take_at (i := 11) 93 ?_ rfl rfl (by kernel_rfl) (by kernel_rfl) (by kernel_rfl) (fun _ _ _ h => h) (.inl ⟨rfl, ?_⟩) S4.out ?_
    rotate_left 1
    · intro w hSw; go_simp; try with_reducible rfl
    simp only [Act.put, List.setIfInBounds_toArray, List.set_cons_zero, List.set_cons_succ]
    refine take_at (i := 12) 105 ?_ rfl rfl (by kernel_rfl) (by kernel_rfl) (by kernel_rfl) (fun _ _ _ h => h) (.inl ⟨rfl, ?_⟩) S4.out ?_
    rotate_left 1
    · intro w hSw; go_simp; try with_reducible rfl
    simp only [Act.put, List.setIfInBounds_toArray, List.set_cons_zero, List.set_cons_succ]
    refine take_at (i := 13) 106 ?_ rfl rfl (by kernel_rfl) (by kernel_rfl) (by kernel_rfl) (fun _ _ _ h => h) (.inl ⟨rfl, ?_⟩) S4.out ?_
    rotate_left 1
    · intro w hSw; go_simp; try with_reducible rfl
    simp only [Act.put, List.setIfInBounds_toArray, List.set_cons_zero, List.set_cons_succ]
    refine wpAnyH_ready (rs := [14]) (by kernel_rfl) (by simp) (br_alloc (i := 14) 11 29 _ V4 rfl rfl rfl rfl AL4.out SS.out (fun _ => ?_) AllReadyH.nil)
    simp only [Act.put, List.setIfInBounds_toArray, List.set_cons_zero, List.set_cons_succ]
    refine wpAnyH_ready (rs := [15]) (by kernel_rfl) (by simp) (br_store (i := 15) 29 (.tmp 11) (.tmp 105) (.pointer (some ⟨W4.heap.size, 0, none⟩)) (rdv (.slice ua un uc) s.room lasts' dn') W5 rfl rfl rfl rfl rfl rfl ST.out S5.out (fun _ => ?_) AllReadyH.nil)
    simp only [Act.put, List.setIfInBounds_toArray, List.set_cons_zero, List.set_cons_succ]
    refine take_at (i := 16) 12 ?_ rfl rfl (by kernel_rfl) (by kernel_rfl) (by kernel_rfl) (fun _ _ _ h => h) (.inl ⟨rfl, ?_⟩) S5.out ?_
    rotate_left 1
    · intro w hSw; go_simp; try with_reducible rfl
    simp only [Act.put, List.setIfInBounds_toArray, List.set_cons_zero, List.set_cons_succ]
    refine wpAnyH_done (by kernel_rfl) ?_ _
    obtain ⟨e0, e1, e2, e3⟩ := X5.out.cells
    obtain ⟨r0, r1, r2, r3⟩ := R5.out.cells
    obtain ⟨f0, f1, f2, f3⟩ := R5.out.free
    go_upto_region 29 with (fail)
    clear e0 e1 e2 e3 r0 r1 r2 r3 f0 f1 f2 f3
    have PF := Lib.hid ((PVH.out.fin (lasts' := lasts') (dn' := dn') S5.out RNH.out).pi TT.out.1)
    obtain ⟨W6, hW6⟩ : ∃ z, sets4 W5 rb (.slice ua un uc) (.int .i64 s.room) (.int .i64 lasts') (.bool dn') = z := ⟨_, rfl⟩
    rw [hW6] at PF
    unfold sets4 at hW6
    rw [hW6]
    clear hW6
    go_wp2
    go_returns
    exact ⟨rfl, t, _, l', lasts', dn', PF.out, HR.out, TT.out.2⟩
  · simp only [Act.put, List.setIfInBounds_toArray, List.set_cons_zero, List.set_cons_succ]
    refine wpAnyH_ready (rs := [10]) (by kernel_rfl) (by simp) (br_call (i := 10) 104 29 #[rdv (.slice va l.length vc) s.room lasts dn, .int .i64 2, .string nm, .slice x.ba x.b.length x.bc, .int .i64 x.n, .string nt] rfl rfl rfl (by go_simp) (FB.out.mono ?_) AllReadyH.nil)
    rintro e W4 ⟨u, l', lasts', dn', rfl, hrn, hb4, ht, hll⟩
    have TT := Lib.hid (And.intro ht hll)
    have US : ∃ ua un uc, u = .slice ua un uc := by
      rcases hrn with hrn | ⟨rfl, _⟩
      · obtain ⟨a, c, e⟩ := hrn.rd.1.shape; exact ⟨a, _, c, e⟩
      · exact ⟨va, _, vc, rfl⟩
    obtain ⟨ua, un, uc, rfl⟩ := US
    have S4 := Lib.hid (S1.out.trans (hb4.mono S1.out.size))
    have XN := XBH.out.keep hb4 (Nat.le_refl _)
    have ST := Lib.hid (run_store29 W4 V0.heap.size _ 0 0 false XN ua un uc s.room lasts' dn')
    have F5 := far_set4 W4 V0.heap.size (.slice ua un uc) (.int .i64 s.room) (.int .i64 lasts') (.bool dn')
    have X5 := Lib.hid (show RB (sets4 W4 V0.heap.size (.slice ua un uc) (.int .i64 s.room) (.int .i64 lasts') (.bool dn')) V0.heap.size (.slice ua un uc) s.room lasts' dn' from sets4_row XN)
    have S5 := Lib.hid (S4.out.trans (F5.below S4.out.size (fun k q => by rw [q]; exact Nat.le_refl _)))
    have RNH := Lib.hid (hrn.imp (fun hrn => rn_box PVH.out.rd S1.out.size hrn F5 (.inl ⟨Nat.le_refl _, by have := SZ.out; omega⟩)) id)
    have R5 := Lib.hid (PVH.out.bx.step S5.out)
    obtain ⟨W5, hW5⟩ : ∃ z, sets4 W4 V0.heap.size (.slice ua un uc) (.int .i64 s.room) (.int .i64 lasts') (.bool dn') = z := ⟨_, rfl⟩
    rw [hW5] at ST X5 S5 RNH R5
    clear hW5 XN F5 hrn hb4 ht hll
    refine ⟨_, rfl, S4.out, fun _ => ?_⟩
    simp only [Act.put, List.setIfInBounds_toArray, List.set_cons_zero, List.set_cons_succ]
    refine take_at (i := 11) 93 ?_ rfl rfl (by kernel_rfl) (by kernel_rfl) (by kernel_rfl) (fun _ _ _ h => h) (.inl ⟨rfl, ?_⟩) S4.out ?_
    rotate_left 1
    · intro w hSw; go_simp; try with_reducible rfl
    simp only [Act.put, List.setIfInBounds_toArray, List.set_cons_zero, List.set_cons_succ]
    refine take_at (i := 12) 105 ?_ rfl rfl (by kernel_rfl) (by kernel_rfl) (by kernel_rfl) (fun _ _ _ h => h) (.inl ⟨rfl, ?_⟩) S4.out ?_
    rotate_left 1
    · intro w hSw; go_simp; try with_reducible rfl
    simp only [Act.put, List.setIfInBounds_toArray, List.set_cons_zero, List.set_cons_succ]
    refine take_at (i := 13) 106 ?_ rfl rfl (by kernel_rfl) (by kernel_rfl) (by kernel_rfl) (fun _ _ _ h => h) (.inl ⟨rfl, ?_⟩) S4.out ?_
    rotate_left 1
    · intro w hSw; go_simp; try with_reducible rfl
    simp only [Act.put, List.setIfInBounds_toArray, List.set_cons_zero, List.set_cons_succ]
    refine wpAnyH_ready (rs := [15]) (by kernel_rfl) (by simp) (br_store (i := 15) 29 (.tmp 11) (.tmp 105) (.pointer (some ⟨V0.heap.size, 0, none⟩)) (rdv (.slice ua un uc) s.room lasts' dn') W5 rfl rfl rfl rfl rfl rfl ST.out S5.out (fun _ => ?_) AllReadyH.nil)
    simp only [Act.put, List.setIfInBounds_toArray, List.set_cons_zero, List.set_cons_succ]
    refine take_at (i := 16) 12 ?_ rfl rfl (by kernel_rfl) (by kernel_rfl) (by kernel_rfl) (fun _ _ _ h => h) (.inl ⟨rfl, ?_⟩) S5.out ?_
    rotate_left 1
    · intro w hSw; go_simp; try with_reducible rfl
    simp only [Act.put, List.setIfInBounds_toArray, List.set_cons_zero, List.set_cons_succ]
    refine wpAnyH_done (by kernel_rfl) ?_ _
    obtain ⟨e0, e1, e2, e3⟩ := X5.out.cells
    obtain ⟨r0, r1, r2, r3⟩ := R5.out.cells
    obtain ⟨f0, f1, f2, f3⟩ := R5.out.free
    go_upto_region 29 with (fail)
    clear e0 e1 e2 e3 r0 r1 r2 r3 f0 f1 f2 f3
    have PF := Lib.hid ((PVH.out.fin (lasts' := lasts') (dn' := dn') S5.out RNH.out).pi TT.out.1)
    obtain ⟨W6, hW6⟩ : ∃ z, sets4 W5 rb (.slice ua un uc) (.int .i64 s.room) (.int .i64 lasts') (.bool dn') = z := ⟨_, rfl⟩
    rw [hW6] at PF
    unfold sets4 at hW6
    rw [hW6]
    clear hW6
    go_wp2
    go_returns
    exact ⟨rfl, t, _, l', lasts', dn', PF.out, HR.out, TT.out.2⟩
end Go.Proofs.Ytoddofcmdbifpaa
