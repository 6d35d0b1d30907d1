/- The chapter's example holds. -/
import Derived.Test.YtifeakmbeaflgaaDoorOM
set_option linter.unusedVariables false
namespace Go.Proofs.YtifeakmbeaflgaaDoor
open Go.RowKit
open Wi (RowOut nb Byt)

def o5 : O := ⟨5, 1, 2, 3, 0, 0, 0, ⟨#[97]⟩, true⟩
theorem dec_1 (n : Nat) (h : n < 10) : decS (n : Int) = ⟨(Lib.decDigits n).toArray⟩ := by unfold decS; rw [Int.toNat_natCast]
theorem dg (n : Nat) (h : n < 10) (b : UInt8) (hb : UInt8.ofNat (48 + n) = b) : decS (n : Int) = ⟨#[b]⟩ := by
  rw [dec_1 n h, Lib.decDigits_one h, ← hb]
theorem sdg (n : Nat) (h : n < 10) (b : UInt8) (hb : UInt8.ofNat (48 + n) = b) : St.decS (n : Int) = ⟨#[b]⟩ := dg n h b hb
theorem qa : quT ⟨#[97]⟩ = ⟨#[97]⟩ := by
  have h : qn (nl ⟨#[97]⟩) = [97] := by rfl
  unfold quT
  rw [h]; rfl
theorem tx_o5 : textO 5 1 2 3 0 0 0 ⟨#[97]⟩ true = ⟨#[53, 46, 49, 35, 50, 32, 109, 111, 118, 101, 32, 51, 46, 48, 32, 105, 110, 32, 48, 46, 48, 32, 97, 115, 32, 97, 32, 100, 105, 114]⟩ := by
  have a5 := sdg 5 (by omega) 53 rfl
  have a1 := sdg 1 (by omega) 49 rfl
  have a3 := sdg 3 (by omega) 51 rfl
  have a0 := sdg 0 (by omega) 48 rfl
  have b2 := dg 2 (by omega) 50 rfl
  unfold textO St.textS
  rw [show (5 : Int) = ((5 : Nat) : Int) from rfl, show (1 : Int) = ((1 : Nat) : Int) from rfl, show (3 : Int) = ((3 : Nat) : Int) from rfl, show (2 : Int) = ((2 : Nat) : Int) from rfl, show (0 : Int) = ((0 : Nat) : Int) from rfl, a5, a1, a3, a0, b2, qa]
  rfl
theorem ck_a : ckI ⟨#[97]⟩ = 0 := by
  refine ckI_eq (.inr (.inr ⟨?_, ?_, by decide, rfl⟩))
  · rintro (h | h | h) <;> (have := congrArg ByteArray.data h; revert this; decide)
  · rintro ⟨j, _, hj, hb⟩
    have : j = 0 := by have : (⟨#[97]⟩ : ByteArray).size = 1 := rfl; omega
    subst this
    revert hb
    decide
theorem r_o5 : rB 5 1 2 3 0 0 0 ⟨#[97]⟩ = true := by
  unfold rB
  rw [ck_a]
  decide
theorem k_o5 : kindI 5 1 3 0 0 0 = 2 := by decide
theorem fit_o5 : ∀ o ∈ [o5], Fit o ∧ o.nm.size ≤ 300 := by
  intro o ho
  rw [List.mem_singleton] at ho
  subst ho
  exact ⟨⟨by decide, by decide, by decide, by decide, by decide, by decide, by decide⟩, by decide⟩
theorem byt_nb : ∀ n : Nat, Byt (nb n)
  | n => by
    by_cases h : n < 128
    · rw [Wi.nb_small h]; intro x hx; rw [List.mem_singleton] at hx; omega
    · rw [Wi.nb_big h]
      have ih := byt_nb (n / 128)
      intro x hx
      rcases List.mem_cons.1 hx with q | q
      · omega
      · exact ih x q
  termination_by n => n
  decreasing_by omega
theorem byt_str (s : ByteArray) : Byt (Wi.strI s) := by
  intro x hx
  unfold Wi.strI at hx
  obtain ⟨c, _, rfl⟩ := List.mem_map.1 hx
  have : c.toNat < 256 := UInt8.toNat_lt _
  omega
theorem byt_oB (o : O) : Byt (oB o) := by
  unfold oB opB
  have f : ∀ b, Byt (Wi.fb b) := fun b => by cases b <;> (intro x hx; have hx := List.mem_singleton.1 hx; omega)
  exact byt_append (byt_append (byt_nb _) (byt_nb _)) (byt_append (byt_nb _) (byt_append (byt_append (byt_nb _) (byt_nb _)) (byt_append (byt_append (byt_nb _) (byt_nb _)) (byt_append (byt_append (byt_nb _) (byt_str _)) (f _)))))
theorem byt_body : ∀ l : List O, Byt (bodyB l)
  | [] => Byt.nil
  | o :: l => byt_append (byt_oB o) (byt_body l)
theorem byt_code (l : List O) : Byt (codeB l) := byt_append (byt_nb _) (byt_body l)
theorem codeB_len (l : List O) (h : ∀ o ∈ l, Fit o ∧ o.nm.size ≤ 300) (hl : l.length ≤ 70) : (codeB l).length ≤ 30000 := by
  have h1 := bodyB_len l h
  have h2 := Wi.nb_len9 l.length (by omega)
  unfold codeB
  rw [List.length_append]
  omega
theorem push_size (w : World) (o : Obj) : (w.alloc o).heap.size = w.heap.size + 1 := by
  show (w.heap.push o).size = _
  exact Array.size_push ..
set_option maxRecDepth 100000 in
set_option maxHeartbeats 6400000 in
theorem awake_any (w : World) (hT : Tab w) : Calls Tryd.prog 9 #[] w fun e w' => e = .returned (.bool true) ∧ Below w.heap.size w w' := by
  have T0 := Lib.hid (BX.start w 5 1 2 3 0 0 0 ⟨#[97]⟩ true)
  obtain ⟨W0, hW0⟩ : ∃ x, w.alloc (.cells #[.int .i64 5, .int .i64 1, .int .i64 2, .int .i64 3, .int .i64 0, .int .i64 0, .int .i64 0, .string ⟨#[97]⟩, .bool true] 25) = x := ⟨_, rfl⟩
  rw [hW0] at T0
  have CO := Lib.hid (code_any (W0.alloc (.cells #[.int .i64 o5.t, .int .i64 o5.r, .int .i64 o5.q, .int .i64 o5.nt, .int .i64 o5.nr, .int .i64 o5.pt, .int .i64 o5.pr, .string o5.nm, .bool o5.d] 25)) (.slice (some ⟨W0.heap.size, 0, none⟩) 1 1) [o5] (one_op W0 o5) (by decide) fit_o5)
  have bso := bs_op W0 o5
  have B1 := Lib.hid (vstep W0 (.cells #[.int .i64 o5.t, .int .i64 o5.r, .int .i64 o5.q, .int .i64 o5.nt, .int .i64 o5.nr, .int .i64 o5.pt, .int .i64 o5.pr, .string o5.nm, .bool o5.d] 25))
  have PC := Lib.hid (parse_code [o5] (by decide) (fun o ho => by rw [List.mem_singleton] at ho; subst ho; exact r_o5))
  have LC := Lib.hid (codeB_len [o5] fit_o5 (by decide))
  have BC := Lib.hid (byt_code [o5])
  generalize codeB [o5] = cb at *
  have HW0 := Lib.hid hW0
  clear hW0
  go_enter Tryd.func9, Tryd.ntmps9
  go_upto_region 2 with (fail)
  rw [HW0.out]
  obtain ⟨c0, c1, c2, c3, c4, c5, c6, c7, c8⟩ := T0.out.2.cells
  dsimp only [o5] at CO bso B1
  go_wp2_with fail
  refine CO.out.mono ?_
  rintro e w1 ⟨r, rfl, ho⟩
  have LI := Lib.hid (Wi.own_lies ho.1)
  have B2 := Lib.hid (B1.out.trans (ho.2.mono B1.out.size))
  clear ho CO bso c0 c1 c2 c3 c4 c5 c6 c7 c8
  have PA := Lib.hid (parse_any w1 r cb LI.out BC.out (by have := LC.out; omega))
  rw [PC.out] at PA
  obtain ⟨ra, rc, rfl⟩ : ∃ ra rc, r = .slice ra cb.length rc := by obtain ⟨ao, cap, e, _⟩ := LI.out; exact ⟨ao, cap, e⟩
  go_wp2_with fail
  refine PA.out.mono ?_
  rintro e w3 ⟨v', rfl, hl, hb⟩
  have B3 := Lib.hid (B2.out.trans (hb.mono B2.out.size))
  have X3 := Lib.hid (T0.out.step B3.out)
  obtain ⟨va, vc, rfl⟩ := hl.shape
  obtain ⟨g, k, p, rfl, hp, hg, d0, d1, d2, d3, d4, d5, d6, d7, d8⟩ := hl.at' (i := 0) (by decide)
  injection hp with hp
  subst hp
  dsimp only [o5, List.length] at d0 d1 d2 d3 d4 d5 d6 d7 d8
  rw [Nat.zero_mul, Nat.add_zero] at d0 d1 d2 d3 d4 d5 d6 d7 d8
  have e0 := fun x : Later w3 => (x.below.cell (p := ⟨g, k, none⟩) hg).trans d0
  have e1 := fun x : Later w3 => (x.below.cell (p := ⟨g, k + 1, none⟩) hg).trans d1
  have e2 := fun x : Later w3 => (x.below.cell (p := ⟨g, k + 2, none⟩) hg).trans d2
  have e3 := fun x : Later w3 => (x.below.cell (p := ⟨g, k + 3, none⟩) hg).trans d3
  have e4 := fun x : Later w3 => (x.below.cell (p := ⟨g, k + 4, none⟩) hg).trans d4
  have e5 := fun x : Later w3 => (x.below.cell (p := ⟨g, k + 5, none⟩) hg).trans d5
  have e6 := fun x : Later w3 => (x.below.cell (p := ⟨g, k + 6, none⟩) hg).trans d6
  have e7 := fun x : Later w3 => (x.below.cell (p := ⟨g, k + 7, none⟩) hg).trans d7
  have e8 := fun x : Later w3 => (x.below.cell (p := ⟨g, k + 8, none⟩) hg).trans d8
  have k0 := later_cell X3.out.2 (j := 0) rfl
  have k1 := later_cell X3.out.2 (j := 1) rfl
  have k2 := later_cell X3.out.2 (j := 2) rfl
  have k3 := later_cell X3.out.2 (j := 3) rfl
  have k4 := later_cell X3.out.2 (j := 4) rfl
  have k5 := later_cell X3.out.2 (j := 5) rfl
  have k6 := later_cell X3.out.2 (j := 6) rfl
  have k7 := later_cell X3.out.2 (j := 7) rfl
  have k8 := later_cell X3.out.2 (j := 8) rfl
  have TT := Lib.hid (fun x : Later w3 => textO_any x.w 5 1 2 3 0 0 0 ⟨#[97]⟩ true (by omega) (by omega) (by omega) (by omega) (by omega) (by omega) (by omega) (by decide) (tab_later hT (X3.out.1.trans (x.below.mono X3.out.1.size))))
  rw [tx_o5] at TT
  have RR := Lib.hid (fun x : Later w3 => right_any x.w 5 1 2 3 0 0 0 ⟨#[97]⟩ true (by decide))
  rw [r_o5] at RR
  have KK := Lib.hid (fun x : Later w3 => kind_any x.w 5 1 2 3 0 0 0 ⟨#[97]⟩ true)
  rw [k_o5] at KK
  have X4 := Lib.hid X3.out.1
  clear d0 d1 d2 d3 d4 d5 d6 d7 d8 hl hb hg PA LI hT
  go_upto_region 3 with (fail)
  refine wp_region_later (by kernel_rfl) (by kernel_rfl) ?_
  repeat (go_big_quiet_step (first
    | (go_at_call 17; with_reducible exact later_call (TT.out _))
    | (go_at_call 12; with_reducible exact later_call (RR.out _))
    | (go_at_call 14; with_reducible exact later_call (KK.out _))))
  refine wpQuiet_nil ?_
  rintro _ ⟨xl, rfl⟩
  have X5 := Lib.hid (X4.out.trans (xl.below.mono X4.out.size))
  generalize xl.w = w4 at *
  go_wp2
  go_returns
  exact ⟨rfl, X5.out⟩
end Go.Proofs.YtifeakmbeaflgaaDoor
