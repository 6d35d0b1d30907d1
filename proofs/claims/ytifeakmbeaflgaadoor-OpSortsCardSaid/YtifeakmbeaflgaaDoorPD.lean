/- The reference's reader: Text. -/
import Derived.Test.YtifeakmbeaflgaaDoorPC
set_option linter.unusedVariables false
set_option linter.unusedSimpArgs false
set_option maxRecDepth 100000
namespace Go.Proofs.YtifeakmbeaflgaaDoor
open Go.RowKit
open Wi (Feed Kr St Byt rd bytesOf)

theorem geF (a b : Int) (h : a ≤ b) : ¬ (b < a) := by omega
set_option maxHeartbeats 6400000 in
theorem rrtext_any (w : World) (M g : Nat) (v : Value) (bs : List Int) (s : St) (most : Int) (h : RS w M g v bs s) :
    Calls Tryd.prog 81 #[ptrR g, .int .i64 most] w fun e w' => e = .returned (.string (s.text most).1) ∧ RO w w' M g v bs (s.text most).2 := by
  have C := Lib.hid (rrnum_any w M g v bs s h)
  have R := rs_range h
  have HS := Lib.hid (show s.text most = if s.num.2.bad ≠ 0 then (⟨#[]⟩, s.num.2)
    else if s.num.1 > most then (⟨#[]⟩, s.num.2.fail 6)
    else if s.num.1 > s.num.2.bs.length then (⟨#[]⟩, s.num.2.fail 3)
    else (bytesOf (s.num.2.bs.take s.num.1.toNat), ⟨s.num.2.bs.drop s.num.1.toNat, s.num.2.bad⟩) from rfl)
  clear h
  obtain ⟨⟨n, t⟩, hn⟩ : ∃ q, s.num = q := ⟨_, rfl⟩
  rw [hn] at C R HS
  simp only at C R HS
  obtain ⟨tx, htx⟩ : ∃ q, s.text most = q := ⟨_, rfl⟩
  rw [htx] at HS
  simp only [htx]
  obtain ⟨R1, R2, R3⟩ := R
  clear hn htx
  unfold ptrR at *
  go_enter Tryd.func81, Tryd.ntmps81
  go_wp2_with fail
  refine C.out.mono ?_
  rintro e w1 ⟨rfl, ⟨p, hi, hd⟩, k1⟩
  obtain ⟨ao, cap, rfl, hc1, hc2⟩ := hi.shape
  have H := Lib.hid hi
  have HD := Lib.hid hd
  have K1 := Lib.hid k1
  obtain ⟨c0, c1, c2⟩ := hi.cells
  have f2 := hi.free 2
  have f1 := hi.free 1
  have hle := hi.le
  have hlen := hi.len
  clear hi hd k1 C
  by_cases hb : t.bad = 0
  · have q1 := eqb0 _ _ hb
    have HB := Lib.hid hb
    by_cases g2 : most < n
    · have EQ := Lib.hid ((HS.out.trans (if_neg (by omega))).trans (if_pos g2))
      have ET := Lib.hid (show t.fail 6 = ⟨[], 6⟩ from by unfold St.fail; rw [if_neg (by omega)])
      clear hb R3
      go_upto_region 4 with (fail)
      have H2 := Lib.hid (H.out.set2 6)
      obtain ⟨w2, hw2⟩ : ∃ z, w1.setCell ⟨g, 2, none⟩ (.int .i64 6) = z := ⟨_, rfl⟩
      rw [hw2] at H2 ⊢
      clear hw2 c0 c1 c2 f1 f2
      have C0 : ∀ z : Later w2, z.w.cell? ⟨g, 0, none⟩ = some (.slice ao bs.length cap) := fun z => (H2.out.1.below z.below).cells.1
      have C1 : ∀ z : Later w2, z.w.cell? ⟨g, 1, none⟩ = some (.int .i64 (p : Int)) := fun z => (H2.out.1.below z.below).cells.2.1
      have C2 : ∀ z : Later w2, z.w.cell? ⟨g, 2, none⟩ = some (.int .i64 6) := fun z => (H2.out.1.below z.below).cells.2.2
      refine wp_region_later (by kernel_rfl) (by kernel_rfl) ?_
      repeat (go_big_quiet_step (fail))
      refine wpQuiet_nil ?_
      rintro _ ⟨z, rfl⟩
      have H3 := Lib.hid (H2.out.1.below z.below)
      have K3 := Lib.hid ((K1.out.trans H2.out.2).trans (Kr.ofBelow g z.below))
      clear C0 C1 C2 H2
      generalize z.w = w3 at *
      obtain ⟨c0, c1, c2⟩ := H3.out.cells
      go_wp2
      go_returns
      rw [EQ.out, ET.out]
      exact ⟨rfl, ⟨p, H3.out, fun q => by cases q⟩, K3.out⟩
    · have E1 := Lib.hid ((HS.out.trans (if_neg (by omega))).trans (if_neg g2))
      have hdr := HD.out hb
      have hl2 : (t.bs.length : Int) = (bs.length : Int) - (p : Int) := by rw [hdr, List.length_drop]; omega
      have C0 : ∀ z : Later w1, z.w.cell? ⟨g, 0, none⟩ = some (.slice ao bs.length cap) := fun z => (H.out.below z.below).cells.1
      have C1 : ∀ z : Later w1, z.w.cell? ⟨g, 1, none⟩ = some (.int .i64 (p : Int)) := fun z => (H.out.below z.below).cells.2.1
      have C2 : ∀ z : Later w1, z.w.cell? ⟨g, 2, none⟩ = some (.int .i64 t.bad) := fun z => (H.out.below z.below).cells.2.2
      by_cases g3 : (bs.length : Int) - (p : Int) < n
      · have EQ := Lib.hid (E1.out.trans (if_pos (by omega)))
        have ET := Lib.hid (show t.fail 3 = ⟨[], 3⟩ from by unfold St.fail; rw [if_neg (by omega)])
        clear hb R3 hdr hl2
        go_upto_region 4 with (fail)
        clear c0 c1 c2 f1 f2
        refine wp_region_later (by kernel_rfl) (by kernel_rfl) ?_
        repeat (go_big_quiet_step (fail))
        refine wpQuiet_nil ?_
        rintro _ ⟨z, rfl⟩
        have H3 := Lib.hid (H.out.below z.below)
        have K3 := Lib.hid (K1.out.trans (Kr.ofBelow g z.below))
        clear C0 C1 C2
        generalize z.w = w3 at *
        obtain ⟨c0, c1, c2⟩ := H3.out.cells
        have f2 := H3.out.free 2
        go_wp2
        go_returns
        rw [EQ.out, ET.out]
        exact ⟨rfl, ⟨p, (H3.out.set2 3).1, fun q => by cases q⟩, K3.out.trans (H3.out.set2 3).2⟩
      · obtain ⟨N, rfl⟩ := Int.eq_ofNat_of_zero_le R1
        have EQ := Lib.hid (E1.out.trans (if_neg (by omega)))
        have PN := Lib.hid (show p + N ≤ bs.length from by omega)
        have TB := Lib.hid hdr
        clear hb R3 hdr hl2 E1
        go_upto_region 4 with (fail)
        clear c0 c1 c2 f1 f2
        refine wp_region_later (by kernel_rfl) (by kernel_rfl) ?_
        repeat (go_big_quiet_step (fail))
        refine wpQuiet_nil ?_
        rintro _ ⟨z, rfl⟩
        have H3 := Lib.hid (H.out.below z.below)
        have K3 := Lib.hid (K1.out.trans (Kr.ofBelow g z.below))
        clear C0 C1 C2
        generalize z.w = w3 at *
        clear z
        obtain ⟨c0, c1, c2⟩ := H3.out.cells
        have f1 := H3.out.free 1
        have nb := nebF _ _ HB.out
        have H4 := Lib.hid (H3.out.set1 (p + N) PN.out)
        obtain ⟨P2, hP2⟩ : ∃ P2, p + N = P2 := ⟨_, rfl⟩
        have hp2 : (p : Int) + (N : Int) = (P2 : Int) := by omega
        have hp3 : (P2 : Int) - (N : Int) = (p : Int) := by omega
        have PP := Lib.hid hP2
        rw [hP2] at H4
        clear hP2
        go_upto_region 9 with (fail)
        obtain ⟨w4, hw4⟩ : ∃ z, w3.setCell ⟨g, 1, none⟩ (.int .i64 (P2 : Int)) = z := ⟨_, rfl⟩
        rw [hw4] at H4 ⊢
        clear hw4 c0 c1 c2 f1 nb
        obtain ⟨A, hsl, hcv⟩ := cutR H4.out.1 p N PN.out
        rw [PP.out] at hsl
        have C0 : ∀ z : Later w4, z.w.cell? ⟨g, 0, none⟩ = some (.slice ao bs.length cap) := fun z => (H4.out.1.below z.below).cells.1
        have C1 : ∀ z : Later w4, z.w.cell? ⟨g, 1, none⟩ = some (.int .i64 (P2 : Int)) := fun z => (H4.out.1.below z.below).cells.2.1
        obtain ⟨cp, hcp⟩ : ∃ cp, cap - p = cp := ⟨_, rfl⟩
        rw [hcp] at hsl hcv
        obtain ⟨tt, htt⟩ : ∃ tt, bytesOf ((bs.drop p).take N) = tt := ⟨_, rfl⟩
        rw [htt] at hcv
        have TT := Lib.hid htt
        clear htt hcp
        refine wp_region_later (by kernel_rfl) (by kernel_rfl) ?_
        repeat (go_big_quiet_step (fail))
        refine wpQuiet_nil ?_
        rintro _ ⟨z, rfl⟩
        have H5 := Lib.hid (H4.out.1.below z.below)
        have K5 := Lib.hid ((K3.out.trans H4.out.2).trans (Kr.ofBelow g z.below))
        clear C0 C1 hsl hcv
        go_wp2
        go_returns
        rw [EQ.out]
        refine ⟨?_, ⟨P2, H5.out, fun _ => ?_⟩, K5.out⟩
        · rw [← TT.out, TB.out]; rfl
        · show t.bs.drop N = bs.drop P2
          rw [TB.out, List.drop_drop, PP.out]
  · have q1 := eqbF _ _ hb
    have q2 := nebT _ _ hb
    have EQ := Lib.hid (HS.out.trans (if_pos hb))
    clear hb R3
    have C2 : ∀ z : Later w1, z.w.cell? ⟨g, 2, none⟩ = some (.int .i64 t.bad) := fun z => (H.out.below z.below).cells.2.2
    go_upto_region 4 with (fail)
    clear c0 c1 c2 f1 f2
    refine wp_region_later (by kernel_rfl) (by kernel_rfl) ?_
    repeat (go_big_quiet_step (fail))
    refine wpQuiet_nil ?_
    rintro _ ⟨z, rfl⟩
    have H3 := Lib.hid (H.out.below z.below)
    have K3 := Lib.hid (K1.out.trans (Kr.ofBelow g z.below))
    clear C2
    generalize z.w = w3 at *
    obtain ⟨c0, c1, c2⟩ := H3.out.cells
    go_wp2
    go_returns
    rw [EQ.out]
    exact ⟨rfl, ⟨p, H3.out, HD.out⟩, K3.out⟩
end Go.Proofs.YtifeakmbeaflgaaDoor
