/- Merged by tools/merge.py: SM7, SM8, SMn. -/
import Derived.Test.YtoddofcmdbifpaaSHJ

set_option linter.unusedVariables false
set_option linter.unusedSimpArgs false
set_option maxRecDepth 100000
namespace Go.Proofs.Ytoddofcmdbifpaa
open Go.RowKit Go.WideMaps Go.Maps

set_option maxHeartbeats 12800000 in
theorem does_7 (w W : World) (d rb : Nat) (s : DS) (v : Value) (l : List Fl) (lasts : Int) (dn : Bool) (h : PI w W d rb s v l lasts dn) (x : Ac) (hx : AcOk2 w x) (hl : l.length < 79000) (hk : x.k = 7) :
    Calls Try.prog 9 #[pv d, .pointer (some ⟨rb, 0, none⟩), .agg #[.int .i64 x.k, .int .u8 x.na, .int .u8 x.t2, .int .i64 x.n, .slice x.ba x.b.length x.bc, .slice x.ka x.kp.length x.kc]] W fun e W' => e = .returned (.bool true) ∧ DONE w d rb s l W' := by
  obtain ⟨va, vc, rfl⟩ := h.rd.1.shape
  have HK := Lib.hid hk
  clear hk
  have V1 := vstep W (.cells #[.int .i64 x.k, .int .u8 x.na, .int .u8 x.t2, .int .i64 x.n, .slice x.ba x.b.length x.bc, .slice x.ka x.kp.length x.kc] 36)
  have P1 := Lib.hid (h.step V1)
  have A1 := Lib.hid (show AB (W.alloc (.cells #[.int .i64 x.k, .int .u8 x.na, .int .u8 x.t2, .int .i64 x.n, .slice x.ba x.b.length x.bc, .slice x.ka x.kp.length x.kc] 36)) W.heap.size x from heap_alloc_new W _)
  obtain ⟨W1, hW1⟩ : ∃ y, W.alloc (.cells #[.int .i64 x.k, .int .u8 x.na, .int .u8 x.t2, .int .i64 x.n, .slice x.ba x.b.length x.bc, .slice x.ka x.kp.length x.kc] 36) = y := ⟨_, rfl⟩
  rw [hW1] at P1 A1
  have HW1 := Lib.hid hW1
  obtain ⟨ba, hba⟩ : ∃ z, W.heap.size = z := ⟨_, rfl⟩
  have HBA := Lib.hid hba
  rw [hba] at A1
  have BNH := Lib.hid (show ¬ Has d s ba from fun q => by have := (h.dk.base _ q).2; omega)
  have BNR := Lib.hid (show rb ≠ ba from fun q => by have := lt_of_block h.bx; omega)
  have AO := Lib.hid hx
  have HL := Lib.hid (show l.length < 80000 from by omega)
  clear h V1 hW1 hba hx
  have C1 : ∀ z : Later W1, z.w.cell? ⟨ba, 1, none⟩ = some (.int .u8 x.na) := fun z => (A1.out.step z.below).all.2.1
  have C2 : ∀ z : Later W1, z.w.cell? ⟨ba, 2, none⟩ = some (.int .u8 x.t2) := fun z => (A1.out.step z.below).all.2.2.1
  have F1 := Lib.hid (fun z : Later W1 => file_later z x.na AO.out.2.1)
  have F2 := Lib.hid (fun z : Later W1 => file_later z x.t2 AO.out.2.2.1)
  go_enter Try.func9, Try.ntmps9
  go_upto_region 1 with (fail)
  rw [HW1.out, HBA.out]
  refine wp_region_later (by kernel_rfl) (by kernel_rfl) ?_
  repeat (go_big_quiet_step (first | (go_at_call 26; with_reducible exact F1.out _) | (go_at_call 26; with_reducible exact F2.out _)))
  refine wpQuiet_nil ?_
  rintro _ ⟨z, rfl⟩
  have P2 := Lib.hid (P1.out.step z.below)
  have A2 := Lib.hid (A1.out.step z.below)
  clear C1 C2 F1 F2 P1 A1 HW1 HBA
  generalize z.w = W2 at *
  clear z
  obtain ⟨nm, hnm⟩ : ∃ nm, fileN x.na = nm := ⟨_, rfl⟩
  obtain ⟨nt, hnt⟩ : ∃ nt, fileN x.t2 = nt := ⟨_, rfl⟩
  have NL := Lib.hid (show nm.size ≤ maxLen ∧ nt.size ≤ maxLen from ⟨by rw [← hnm]; exact file_le _, by rw [← hnt]; exact file_le _⟩)
  rw [hnm, hnt]
  clear hnm hnt
  obtain ⟨a0, a1, a2, a3, a4, a5⟩ := A2.out.all
  clear a1 a2
  rw [HK.out] at a0
  have AR := Lib.hid (arm_any W2 _ d s P2.out.dk x.n AO.out.1.2.2)
  go_wp2_with fail
  refine AR.out.mono ?_
  rintro e W3 ⟨rfl, ho⟩
  have P3 := Lib.hid (P2.out.ph.out ho rfl)
  have A3 := Lib.hid (A2.out.far ho.far BNH.out)
  have TT := Lib.hid P2.out.tie
  clear ho AR a0 a3 a4 a5 P2 A2
  obtain ⟨a0, a1, a2, a3, a4, a5⟩ := A3.out.all
  rw [HK.out] at a0
  obtain ⟨r0, r1, r2, r3⟩ := P3.out.bx.cells
  have f2 := P3.out.bx.free.2.2.1
  cases dn with
  | true =>
    have KA := Lib.hid (kind_any W3 7)
    rw [show kindF 7 = -1 from by decide] at KA
    go_wp2_with fail
    refine KA.out.mono ?_
    rintro e w9 ⟨rfl, rfl⟩
    go_wp2
    go_returns
    exact ⟨rfl, _, _, _, _, _, P3.out.pi ⟨TT.out.cm, TT.out.dne, fun q => by cases q⟩, rfl, by omega⟩
  | false =>
    go_upto_region 24 with (fail)
    clear a0 a1 a2 a3 a4 a5 r0 r1 r2 r3 f2
    have P4 := Lib.hid (P3.out.last (max x.n (-1)))
    have A4 := Lib.hid (A3.out.far (far_set W3 rb 2 (.int .i64 (max x.n (-1)))) (fun q => BNR.out q.symm))
    obtain ⟨W4, hW4⟩ : ∃ z, W3.setCell ⟨rb, 2, none⟩ (.int .i64 (max x.n (-1))) = z := ⟨_, rfl⟩
    rw [hW4] at P4 A4 ⊢
    clear hW4
    obtain ⟨a0, a1, a2, a3, a4, a5⟩ := A4.out.all
    rw [HK.out] at a0
    have KA := Lib.hid (kind_any W4 7)
    rw [show kindF 7 = -1 from by decide] at KA
    go_wp2_with fail
    refine KA.out.mono ?_
    rintro e w9 ⟨rfl, rfl⟩
    go_wp2
    go_returns
    refine ⟨rfl, _, _, _, _, _, P4.out.pi ⟨TT.out.cm, TT.out.dne, fun q => ?_⟩, rfl, by omega⟩
    show max x.n (-1) = (if decide (0 ≤ x.n) = true then x.n else -1)
    by_cases q : 0 ≤ x.n
    · simp only [q, decide_true, if_true]; omega
    · simp only [q, decide_false, Bool.false_eq_true, if_false]; omega
end Go.Proofs.Ytoddofcmdbifpaa

set_option linter.unusedVariables false
set_option linter.unusedSimpArgs false
set_option maxRecDepth 100000
namespace Go.Proofs.Ytoddofcmdbifpaa
open Go.RowKit Go.WideMaps Go.Maps

theorem rn_boot {V W : World} {v u : Value} {l : List Fl} {keep : List Int} (h : RD V v l) (hs : ∀ x ∈ l, 0 ≤ x.s ∧ x.s ≤ (x.b.length : Int)) (hb : Below V.heap.size V W) (ho : W.ownsRow V.heap.size 66 3 u (btL keep l.length l).length ((btL keep l.length l).flatMap encR)) : RN V W l u (btL keep l.length l) := by
  have key : ∀ x ∈ btL keep l.length l, ∃ y ∈ l, ∃ i, x = bt keep i y := fun x hx => by
    obtain ⟨i, hi⟩ := List.getElem?_of_mem hx
    rw [btL_get] at hi
    cases hy : l[i]? with
    | none => rw [hy] at hi; cases hi
    | some y =>
      rw [hy, Option.map_some, if_pos (List.getElem?_eq_some_iff.1 hy).1] at hi
      injection hi with hi
      exact ⟨y, List.mem_of_getElem? hy, i, hi.symm⟩
  refine ⟨⟨own_liesK encR_len ho, fun x hx => ?_⟩, fun _ j q => (ho.lt j q).1, fun x hx => .inl ?_⟩
  · obtain ⟨y, hy, i, rfl⟩ := key x hx
    exact lies_take ((h.2 y hy).step hb) _ (btN_le (hs y hy) (moreK_nn keep i)).1
  · obtain ⟨y, hy, i, rfl⟩ := key x hx
    refine ⟨y, hy, fun q r => q (by show y.b.take _ = []; rw [r]; simp), ?_⟩
    show (Value.slice y.a _ y.c).ownBlock = (Value.slice y.a _ y.c).ownBlock
    cases y.a <;> rfl
set_option maxHeartbeats 12800000 in
theorem does_8 (w W : World) (d rb : Nat) (s : DS) (v : Value) (l : List Fl) (lasts : Int) (dn : Bool) (h : PI w W d rb s v l lasts dn) (x : Ac) (hx : AcOk2 w x) (hl : l.length < 79000) (hk : x.k = 8) :
    Calls Try.prog 9 #[pv d, .pointer (some ⟨rb, 0, none⟩), .agg #[.int .i64 x.k, .int .u8 x.na, .int .u8 x.t2, .int .i64 x.n, .slice x.ba x.b.length x.bc, .slice x.ka x.kp.length x.kc]] W fun e W' => e = .returned (.bool true) ∧ DONE w d rb s l W' := by
  obtain ⟨va, vc, rfl⟩ := h.rd.1.shape
  have HK := Lib.hid hk
  clear hk
  have V1 := vstep W (.cells #[.int .i64 x.k, .int .u8 x.na, .int .u8 x.t2, .int .i64 x.n, .slice x.ba x.b.length x.bc, .slice x.ka x.kp.length x.kc] 36)
  have P1 := Lib.hid (h.step V1)
  have A1 := Lib.hid (show AB (W.alloc (.cells #[.int .i64 x.k, .int .u8 x.na, .int .u8 x.t2, .int .i64 x.n, .slice x.ba x.b.length x.bc, .slice x.ka x.kp.length x.kc] 36)) W.heap.size x from heap_alloc_new W _)
  obtain ⟨W1, hW1⟩ : ∃ y, W.alloc (.cells #[.int .i64 x.k, .int .u8 x.na, .int .u8 x.t2, .int .i64 x.n, .slice x.ba x.b.length x.bc, .slice x.ka x.kp.length x.kc] 36) = y := ⟨_, rfl⟩
  rw [hW1] at P1 A1
  have HW1 := Lib.hid hW1
  obtain ⟨ba, hba⟩ : ∃ z, W.heap.size = z := ⟨_, rfl⟩
  have HBA := Lib.hid hba
  rw [hba] at A1
  have BNH := Lib.hid (show ¬ Has d s ba from fun q => by have := (h.dk.base _ q).2; omega)
  have BNR := Lib.hid (show rb ≠ ba from fun q => by have := lt_of_block h.bx; omega)
  have AO := Lib.hid hx
  have HL := Lib.hid (show l.length < 80000 from by omega)
  clear h V1 hW1 hba hx
  have C1 : ∀ z : Later W1, z.w.cell? ⟨ba, 1, none⟩ = some (.int .u8 x.na) := fun z => (A1.out.step z.below).all.2.1
  have C2 : ∀ z : Later W1, z.w.cell? ⟨ba, 2, none⟩ = some (.int .u8 x.t2) := fun z => (A1.out.step z.below).all.2.2.1
  have F1 := Lib.hid (fun z : Later W1 => file_later z x.na AO.out.2.1)
  have F2 := Lib.hid (fun z : Later W1 => file_later z x.t2 AO.out.2.2.1)
  go_enter Try.func9, Try.ntmps9
  go_upto_region 1 with (fail)
  rw [HW1.out, HBA.out]
  refine wp_region_later (by kernel_rfl) (by kernel_rfl) ?_
  repeat (go_big_quiet_step (first | (go_at_call 26; with_reducible exact F1.out _) | (go_at_call 26; with_reducible exact F2.out _)))
  refine wpQuiet_nil ?_
  rintro _ ⟨z, rfl⟩
  have P2 := Lib.hid (P1.out.step z.below)
  have A2 := Lib.hid (A1.out.step z.below)
  clear C1 C2 F1 F2 P1 A1 HW1 HBA
  generalize z.w = W2 at *
  clear z
  obtain ⟨nm, hnm⟩ : ∃ nm, fileN x.na = nm := ⟨_, rfl⟩
  obtain ⟨nt, hnt⟩ : ∃ nt, fileN x.t2 = nt := ⟨_, rfl⟩
  have NL := Lib.hid (show nm.size ≤ maxLen ∧ nt.size ≤ maxLen from ⟨by rw [← hnm]; exact file_le _, by rw [← hnt]; exact file_le _⟩)
  rw [hnm, hnt]
  clear hnm hnt
  obtain ⟨a0, a1, a2, a3, a4, a5⟩ := A2.out.all
  clear a1 a2
  rw [HK.out] at a0
  cases dn with
  | false =>
    have BO := Lib.hid (boot_up W2 _ d s P2.out.dk (.slice x.ka x.kp.length x.kc) P2.out.tie.dne)
    go_wp2_with fail
    refine BO.out.mono ?_
    rintro e W2 ⟨rfl, rfl⟩
    have P3 := Lib.hid P2.out.ph
    have A3 := Lib.hid A2.out
    have TT := Lib.hid P2.out.tie
    clear BO P2 A2 a0 a3 a4 a5
    obtain ⟨a0, a1, a2, a3, a4, a5⟩ := A3.out.all
    go_upto_region 23 with (fail)
    clear a0 a1 a2 a3 a4 a5
    have PV := P3.out.step (show Below W2.heap.size W2 W2.drew from (Below.refl _ _).drew)
    have AV := A3.out.step (show Below W2.heap.size W2 W2.drew from (Below.refl _ _).drew)
    have PVH := Lib.hid PV
    have AVH := Lib.hid AV
    have S0 := Lib.hid (AV.all.2.2.2.2.2)
    have L3 := Lib.hid (ldRD PV.bx)
    have BT := Lib.hid (rboot_up W2.drew va l.length vc s.room lasts (.slice x.ka x.kp.length x.kc))
    refine wp_region_held_drew (S := fun W => W.cell? ⟨ba, 5, none⟩ = some (.slice x.ka x.kp.length x.kc)) (by kernel_rfl) S0.out (fun _ => ?_)
    obtain ⟨V0, hV0⟩ : ∃ z, W2.drew = z := ⟨_, rfl⟩
    rw [hV0] at PVH AVH S0 L3 BT
    rw [hV0]
    clear PV AV P3 A3 hV0
    refine take_at (i := 0) 80 ?_ rfl rfl (by kernel_rfl) (by kernel_rfl) (by kernel_rfl) (fun _ _ _ h => h) (.inl ⟨rfl, ?_⟩) S0.out ?_
    rotate_left 1
    · intro w hSw; go_simp; try with_reducible rfl
    simp only [Act.put, List.setIfInBounds_toArray, List.set_cons_zero, List.set_cons_succ]
    refine take_at (i := 1) 81 ?_ rfl rfl (by kernel_rfl) (by kernel_rfl) (by kernel_rfl) (fun _ _ _ h => h) (.inl ⟨rfl, ?_⟩) S0.out ?_
    rotate_left 1
    · intro w hSw; go_simp; try with_reducible rfl
    simp only [Act.put, List.setIfInBounds_toArray, List.set_cons_zero, List.set_cons_succ]
    refine take_at (i := 2) 82 ?_ rfl rfl (by kernel_rfl) (by kernel_rfl) (by kernel_rfl) (fun _ _ _ h => h) (.inl ⟨rfl, ?_⟩) S0.out ?_
    rotate_left 1
    · intro w hSw; go_simp; try with_reducible rfl
    simp only [Act.put, List.setIfInBounds_toArray, List.set_cons_zero, List.set_cons_succ]
    refine take_at (i := 4) 84 ?_ rfl rfl (by kernel_rfl) (by kernel_rfl) (by kernel_rfl) (fun _ _ _ h => h) (.inl ⟨rfl, ?_⟩) S0.out ?_
    rotate_left 1
    · intro w hSw; go_simp; try with_reducible rfl
    simp only [Act.put, List.setIfInBounds_toArray, List.set_cons_zero, List.set_cons_succ]
    refine take_at (i := 5) 85 (.slice x.ka x.kp.length x.kc) rfl rfl (by kernel_rfl) (by kernel_rfl) (by kernel_rfl) (fun _ _ _ h => h) (yields_ld (.tmp 84) 34 (.pointer (some ⟨ba, 5, none⟩)) _ (fun W hS => ldN34 hS) rfl rfl rfl) S0.out ?_
    simp only [Act.put, List.setIfInBounds_toArray, List.set_cons_zero, List.set_cons_succ]
    refine wpAnyH_ready (rs := [3]) (by kernel_rfl) (by simp) (br_load (i := 3) 83 (.tmp 82) 29 (.pointer (some ⟨rb, 0, none⟩)) (rdv (.slice va l.length vc) s.room lasts false) rfl rfl rfl rfl rfl L3.out S0.out (fun _ => ?_) AllReadyH.nil)
    simp only [Act.put, List.setIfInBounds_toArray, List.set_cons_zero, List.set_cons_succ]
    refine wpAnyH_ready (rs := [6]) (by kernel_rfl) (by simp) (br_call (i := 6) 86 27 #[rdv (.slice va l.length vc) s.room lasts false, .slice x.ka x.kp.length x.kc] rfl rfl rfl (by go_simp) (BT.out.mono ?_) AllReadyH.nil)
    rintro e W4 ⟨rfl, hb4⟩
    have S4 := Lib.hid ((AVH.out.step hb4).all.2.2.2.2.2)
    have ST := Lib.hid (run_store29 W4 rb _ _ _ _ (PVH.out.bx.step hb4) va l.length vc s.room lasts false)
    have F5 := far_set4 W4 rb (.slice va l.length vc) (.int .i64 s.room) (.int .i64 lasts) (.bool false)
    have P5 := Lib.hid (PVH.out.fin (lasts' := lasts) (dn' := false) (u := .slice va l.length vc) hb4 (.inr ⟨rfl, rfl⟩))
    have A5 := Lib.hid ((AVH.out.step hb4).far F5 (fun q => BNR.out q.symm))
    have S5 := Lib.hid (A5.out.all.2.2.2.2.2)
    obtain ⟨W5, hW5⟩ : ∃ z, sets4 W4 rb (.slice va l.length vc) (.int .i64 s.room) (.int .i64 lasts) (.bool false) = z := ⟨_, rfl⟩
    rw [hW5] at ST P5 A5 S5
    clear hW5 F5 hb4
    refine ⟨_, rfl, S4.out, fun _ => ?_⟩
    simp only [Act.put, List.setIfInBounds_toArray, List.set_cons_zero, List.set_cons_succ]
    refine take_at (i := 7) 87 ?_ rfl rfl (by kernel_rfl) (by kernel_rfl) (by kernel_rfl) (fun _ _ _ h => h) (.inl ⟨rfl, ?_⟩) S4.out ?_
    rotate_left 1
    · intro w hSw; go_simp; try with_reducible rfl
    simp only [Act.put, List.setIfInBounds_toArray, List.set_cons_zero, List.set_cons_succ]
    refine wpAnyH_ready (rs := [8]) (by kernel_rfl) (by simp) (br_store (i := 8) 29 (.tmp 87) (.tmp 86) (.pointer (some ⟨rb, 0, none⟩)) (rdv (.slice va l.length vc) s.room lasts false) W5 rfl rfl rfl rfl rfl rfl ST.out S5.out (fun _ => ?_) AllReadyH.nil)
    simp only [Act.put, List.setIfInBounds_toArray, List.set_cons_zero, List.set_cons_succ]
    refine wpAnyH_done (by kernel_rfl) ?_ _
    obtain ⟨a0, a1, a2, a3, a4, a5⟩ := A5.out.all
    rw [HK.out] at a0
    have KA := Lib.hid (kind_any W5 8)
    rw [show kindF 8 = -1 from by decide] at KA
    go_wp2_with fail
    refine KA.out.mono ?_
    rintro e w9 ⟨rfl, rfl⟩
    go_wp2
    go_returns
    exact ⟨rfl, _, _, _, _, _, P5.out.pi TT.out, rfl, by omega⟩
  | true =>
    have BO := Lib.hid (boot_dn W2 _ d s P2.out.dk (by rw [P2.out.tie.cm.len]; have := HL.out; omega) (.slice x.ka x.kp.length x.kc) x.kp (AO.out.1.2.1.keep P2.out.bel (Nat.le_refl _)) (fun hne j q r => by have h1 := lt_of_own AO.out.1.2.1 hne q; have h2 := (P2.out.dk.base j r).1; omega) P2.out.tie.dne)
    have BY := Lib.hid (bytes_le (P2.out.pp HL.out nm NL.out.1))
    have SU := Lib.hid (show ∀ y ∈ l, 0 ≤ y.s ∧ y.s ≤ (y.b.length : Int) from fun y hy => by
      obtain ⟨i, hi⟩ := List.getElem?_of_mem hy
      obtain ⟨y2, hy2, e⟩ := P2.out.tie.cm.symm.get hi
      have := P2.out.dk.sure y2 (List.mem_of_getElem? hy2)
      rw [core_s e, core_b e]
      exact this)
    go_wp2_with fail
    refine BO.out.mono ?_
    rintro e W3 ⟨rfl, ho⟩
    have P3 := Lib.hid (P2.out.ph.out ho rfl)
    have A3 := Lib.hid (A2.out.far ho.far BNH.out)
    have TT := Lib.hid P2.out.tie
    clear BO ho P2 A2 a0 a3 a4 a5
    obtain ⟨a0, a1, a2, a3, a4, a5⟩ := A3.out.all
    go_upto_region 23 with (fail)
    clear a0 a1 a2 a3 a4 a5
    have PV := P3.out.step (show Below W3.heap.size W3 W3.drew from (Below.refl _ _).drew)
    have AV := A3.out.step (show Below W3.heap.size W3 W3.drew from (Below.refl _ _).drew)
    have PVH := Lib.hid PV
    have AVH := Lib.hid AV
    have S0 := Lib.hid (AV.all.2.2.2.2.2)
    have L3 := Lib.hid (ldRD PV.bx)
    have BT := Lib.hid (rboot_dn W3.drew (.slice va l.length vc) l s.room lasts PV.rd (.slice x.ka x.kp.length x.kc) x.kp (AO.out.1.2.1.keep PV.bel (Nat.le_refl _)) SU.out BY.out (by have := HL.out; omega))
    refine wp_region_held_drew (S := fun W => W.cell? ⟨ba, 5, none⟩ = some (.slice x.ka x.kp.length x.kc)) (by kernel_rfl) S0.out (fun _ => ?_)
    obtain ⟨V0, hV0⟩ : ∃ z, W3.drew = z := ⟨_, rfl⟩
    rw [hV0] at PVH AVH S0 L3 BT
    rw [hV0]
    clear PV AV P3 A3 hV0
    refine take_at (i := 0) 80 ?_ rfl rfl (by kernel_rfl) (by kernel_rfl) (by kernel_rfl) (fun _ _ _ h => h) (.inl ⟨rfl, ?_⟩) S0.out ?_
    rotate_left 1
    · intro w hSw; go_simp; try with_reducible rfl
    simp only [Act.put, List.setIfInBounds_toArray, List.set_cons_zero, List.set_cons_succ]
    refine take_at (i := 1) 81 ?_ rfl rfl (by kernel_rfl) (by kernel_rfl) (by kernel_rfl) (fun _ _ _ h => h) (.inl ⟨rfl, ?_⟩) S0.out ?_
    rotate_left 1
    · intro w hSw; go_simp; try with_reducible rfl
    simp only [Act.put, List.setIfInBounds_toArray, List.set_cons_zero, List.set_cons_succ]
    refine take_at (i := 2) 82 ?_ rfl rfl (by kernel_rfl) (by kernel_rfl) (by kernel_rfl) (fun _ _ _ h => h) (.inl ⟨rfl, ?_⟩) S0.out ?_
    rotate_left 1
    · intro w hSw; go_simp; try with_reducible rfl
    simp only [Act.put, List.setIfInBounds_toArray, List.set_cons_zero, List.set_cons_succ]
    refine take_at (i := 4) 84 ?_ rfl rfl (by kernel_rfl) (by kernel_rfl) (by kernel_rfl) (fun _ _ _ h => h) (.inl ⟨rfl, ?_⟩) S0.out ?_
    rotate_left 1
    · intro w hSw; go_simp; try with_reducible rfl
    simp only [Act.put, List.setIfInBounds_toArray, List.set_cons_zero, List.set_cons_succ]
    refine take_at (i := 5) 85 (.slice x.ka x.kp.length x.kc) rfl rfl (by kernel_rfl) (by kernel_rfl) (by kernel_rfl) (fun _ _ _ h => h) (yields_ld (.tmp 84) 34 (.pointer (some ⟨ba, 5, none⟩)) _ (fun W hS => ldN34 hS) rfl rfl rfl) S0.out ?_
    simp only [Act.put, List.setIfInBounds_toArray, List.set_cons_zero, List.set_cons_succ]
    refine wpAnyH_ready (rs := [3]) (by kernel_rfl) (by simp) (br_load (i := 3) 83 (.tmp 82) 29 (.pointer (some ⟨rb, 0, none⟩)) (rdv (.slice va l.length vc) s.room lasts true) rfl rfl rfl rfl rfl L3.out S0.out (fun _ => ?_) AllReadyH.nil)
    simp only [Act.put, List.setIfInBounds_toArray, List.set_cons_zero, List.set_cons_succ]
    refine wpAnyH_ready (rs := [6]) (by kernel_rfl) (by simp) (br_call (i := 6) 86 27 #[rdv (.slice va l.length vc) s.room lasts true, .slice x.ka x.kp.length x.kc] rfl rfl rfl (by go_simp) (BT.out.mono ?_) AllReadyH.nil)
    rintro e W4 ⟨u, rfl, ho4, hb4⟩
    obtain ⟨ua, uc, rfl⟩ := own_shapeK ho4
    obtain ⟨un, hun⟩ : ∃ un, (btL x.kp l.length l).length = un := ⟨_, rfl⟩
    have RNB := Lib.hid (rn_boot PVH.out.rd SU.out hb4 ho4)
    rw [hun] at RNB
    rw [hun]
    have HUN := Lib.hid hun
    clear hun ho4
    have S4 := Lib.hid ((AVH.out.step hb4).all.2.2.2.2.2)
    have ST := Lib.hid (run_store29 W4 rb _ _ _ _ (PVH.out.bx.step hb4) ua un uc s.room (-1) false)
    have F5 := far_set4 W4 rb (.slice ua un uc) (.int .i64 s.room) (.int .i64 (-1)) (.bool false)
    have P5 := Lib.hid (PVH.out.fin (lasts' := (-1)) (dn' := false) (u := .slice ua un uc) hb4 (.inl RNB.out))
    have A5 := Lib.hid ((AVH.out.step hb4).far F5 (fun q => BNR.out q.symm))
    have S5 := Lib.hid (A5.out.all.2.2.2.2.2)
    obtain ⟨W5, hW5⟩ : ∃ z, sets4 W4 rb (.slice ua un uc) (.int .i64 s.room) (.int .i64 (-1)) (.bool false) = z := ⟨_, rfl⟩
    rw [hW5] at ST P5 A5 S5
    clear hW5 F5 hb4
    refine ⟨_, rfl, S4.out, fun _ => ?_⟩
    simp only [Act.put, List.setIfInBounds_toArray, List.set_cons_zero, List.set_cons_succ]
    refine take_at (i := 7) 87 ?_ rfl rfl (by kernel_rfl) (by kernel_rfl) (by kernel_rfl) (fun _ _ _ h => h) (.inl ⟨rfl, ?_⟩) S4.out ?_
    rotate_left 1
    · intro w hSw; go_simp; try with_reducible rfl
    simp only [Act.put, List.setIfInBounds_toArray, List.set_cons_zero, List.set_cons_succ]
    refine wpAnyH_ready (rs := [8]) (by kernel_rfl) (by simp) (br_store (i := 8) 29 (.tmp 87) (.tmp 86) (.pointer (some ⟨rb, 0, none⟩)) (rdv (.slice ua un uc) s.room (-1) false) W5 rfl rfl rfl rfl rfl rfl ST.out S5.out (fun _ => ?_) AllReadyH.nil)
    simp only [Act.put, List.setIfInBounds_toArray, List.set_cons_zero, List.set_cons_succ]
    refine wpAnyH_done (by kernel_rfl) ?_ _
    obtain ⟨a0, a1, a2, a3, a4, a5⟩ := A5.out.all
    rw [HK.out] at a0
    have KA := Lib.hid (kind_any W5 8)
    rw [show kindF 8 = -1 from by decide] at KA
    go_wp2_with fail
    refine KA.out.mono ?_
    rintro e w9 ⟨rfl, rfl⟩
    go_wp2
    go_returns
    refine ⟨rfl, _, _, _, _, _, P5.out.pi ⟨?_, rfl, fun _ => rfl⟩, rfl, ?_⟩
    · show CM (btL x.kp s.l.length s.l) (btL x.kp l.length l)
      rw [TT.out.cm.len]
      exact TT.out.cm.bt x.kp _
    · rw [btL_len]; omega
end Go.Proofs.Ytoddofcmdbifpaa

set_option linter.unusedVariables false
set_option linter.unusedSimpArgs false
set_option maxRecDepth 100000
namespace Go.Proofs.Ytoddofcmdbifpaa
open Go.RowKit Go.WideMaps Go.Maps

set_option maxHeartbeats 12800000 in
theorem does_no (w W : World) (d rb : Nat) (s : DS) (v : Value) (l : List Fl) (lasts : Int) (dn : Bool) (h : PI w W d rb s v l lasts dn) (x : Ac) (hx : AcOk2 w x) (hl : l.length < 79000) (hk : x.k < 0 ∨ 8 < x.k) :
    Calls Try.prog 9 #[pv d, .pointer (some ⟨rb, 0, none⟩), .agg #[.int .i64 x.k, .int .u8 x.na, .int .u8 x.t2, .int .i64 x.n, .slice x.ba x.b.length x.bc, .slice x.ka x.kp.length x.kc]] W fun e W' => e = .returned (.bool true) ∧ DONE w d rb s l W' := by
  obtain ⟨va, vc, rfl⟩ := h.rd.1.shape
  have HK := Lib.hid hk
  clear hk
  have V1 := vstep W (.cells #[.int .i64 x.k, .int .u8 x.na, .int .u8 x.t2, .int .i64 x.n, .slice x.ba x.b.length x.bc, .slice x.ka x.kp.length x.kc] 36)
  have P1 := Lib.hid (h.step V1)
  have A1 := Lib.hid (show AB (W.alloc (.cells #[.int .i64 x.k, .int .u8 x.na, .int .u8 x.t2, .int .i64 x.n, .slice x.ba x.b.length x.bc, .slice x.ka x.kp.length x.kc] 36)) W.heap.size x from heap_alloc_new W _)
  obtain ⟨W1, hW1⟩ : ∃ y, W.alloc (.cells #[.int .i64 x.k, .int .u8 x.na, .int .u8 x.t2, .int .i64 x.n, .slice x.ba x.b.length x.bc, .slice x.ka x.kp.length x.kc] 36) = y := ⟨_, rfl⟩
  rw [hW1] at P1 A1
  have HW1 := Lib.hid hW1
  obtain ⟨ba, hba⟩ : ∃ z, W.heap.size = z := ⟨_, rfl⟩
  have HBA := Lib.hid hba
  rw [hba] at A1
  have BNH := Lib.hid (show ¬ Has d s ba from fun q => by have := (h.dk.base _ q).2; omega)
  have BNR := Lib.hid (show rb ≠ ba from fun q => by have := lt_of_block h.bx; omega)
  have AO := Lib.hid hx
  have HL := Lib.hid (show l.length < 80000 from by omega)
  clear h V1 hW1 hba hx
  have C1 : ∀ z : Later W1, z.w.cell? ⟨ba, 1, none⟩ = some (.int .u8 x.na) := fun z => (A1.out.step z.below).all.2.1
  have C2 : ∀ z : Later W1, z.w.cell? ⟨ba, 2, none⟩ = some (.int .u8 x.t2) := fun z => (A1.out.step z.below).all.2.2.1
  have F1 := Lib.hid (fun z : Later W1 => file_later z x.na AO.out.2.1)
  have F2 := Lib.hid (fun z : Later W1 => file_later z x.t2 AO.out.2.2.1)
  go_enter Try.func9, Try.ntmps9
  go_upto_region 1 with (fail)
  rw [HW1.out, HBA.out]
  refine wp_region_later (by kernel_rfl) (by kernel_rfl) ?_
  repeat (go_big_quiet_step (first | (go_at_call 26; with_reducible exact F1.out _) | (go_at_call 26; with_reducible exact F2.out _)))
  refine wpQuiet_nil ?_
  rintro _ ⟨z, rfl⟩
  have P2 := Lib.hid (P1.out.step z.below)
  have A2 := Lib.hid (A1.out.step z.below)
  clear C1 C2 F1 F2 P1 A1 HW1 HBA
  generalize z.w = W2 at *
  clear z
  obtain ⟨nm, hnm⟩ : ∃ nm, fileN x.na = nm := ⟨_, rfl⟩
  obtain ⟨nt, hnt⟩ : ∃ nt, fileN x.t2 = nt := ⟨_, rfl⟩
  have NL := Lib.hid (show nm.size ≤ maxLen ∧ nt.size ≤ maxLen from ⟨by rw [← hnm]; exact file_le _, by rw [← hnt]; exact file_le _⟩)
  rw [hnm, hnt]
  clear hnm hnt
  obtain ⟨a0, a1, a2, a3, a4, a5⟩ := A2.out.all
  clear a1 a2
  obtain ⟨xk, hxk⟩ : ∃ xk, x.k = xk := ⟨_, rfl⟩
  have HK2 := Lib.hid (show xk < 0 ∨ 8 < xk from by rw [← hxk]; exact HK.out)
  rw [hxk] at a0
  have q0 := bnek xk 0 (by have := HK2.out; omega)
  have q1 := bnek xk 1 (by have := HK2.out; omega)
  have q2 := bnek xk 2 (by have := HK2.out; omega)
  have q3 := bnek xk 3 (by have := HK2.out; omega)
  have q4 := bnek xk 4 (by have := HK2.out; omega)
  have q5 := bnek xk 5 (by have := HK2.out; omega)
  have q6 := bnek xk 6 (by have := HK2.out; omega)
  have q7 := bnek xk 7 (by have := HK2.out; omega)
  have q8 := bnek xk 8 (by have := HK2.out; omega)
  have KA := Lib.hid (kind_any W2 xk)
  rw [show kindF xk = -1 from by
    unfold kindF
    have := HK2.out
    by_cases q : xk < 0 ∨ 6 < xk
    · rw [if_pos q]
    · omega] at KA
  clear hxk
  go_wp2_with fail
  refine KA.out.mono ?_
  rintro e w9 ⟨rfl, rfl⟩
  go_wp2
  go_returns
  exact ⟨rfl, _, _, _, _, _, P2.out, rfl, by omega⟩
end Go.Proofs.Ytoddofcmdbifpaa
