/- Merged by tools/merge.py: KN, HPlays. -/
import Derived.Test.YtgbihpfpiaacfaaGreatDoorCards
import Derived.Test.YtgbihpfpiaacfaaGreatDoorJEnds
import Derived.Test.YtgbihpfpiaacfaaGreatDoorKZ
import Derived.Test.YtgbihpfpiaacfaaGreatDoorTie
import Derived.ProofKit
import Derived.LaidMore
import Derived.OpenShut
import Derived.Stop.Joined
import Derived.SevenTiedAt
import Derived.Carry
import Derived.Lib.SmallJoins
import Derived.Deep.Slices
import Derived.Shelf.Vars
import Derived.Lay

set_option linter.unusedVariables false
set_option linter.unusedSimpArgs false
set_option maxRecDepth 100000
namespace Go.Proofs.YtgbihpfpiaacfaaGreatDoor
open Go.RowKit Go.Shelf Go.WideMaps Go.Maps

theorem open_arg (w : World) (d : Nat) (most : Int) (h : most < 16 ∨ 16777216 < most) : Calls Tryz.prog 11 #[pv d, .int .i64 most] w fun e w' => e = .returned (.tuple #[.pointer none, .slice none 0 0, .int .i64 2]) ∧ w = w' := by
  by_cases h1 : most < 16
  · clear h
    go_enter Tryz.func11, Tryz.ntmps11
    go_wp2
    go_returns
    exact ⟨rfl, rfl⟩
  · have h2 : 16777216 < most := by omega
    clear h
    go_enter Tryz.func11, Tryz.ntmps11
    go_wp2
    go_returns
    exact ⟨rfl, rfl⟩
/-- An act in its box. -/
def AcB (w : World) (g : Nat) (k n : Int) (v : Value) : Prop := w.heap[g]? = some (.cells #[.int .i64 k, .int .i64 n, v] 41 (0, 0))
theorem AcB.step {w w' : World} {g : Nat} {k n : Int} {v : Value} (h : AcB w g k n v) (hb : Below w.heap.size w w') : AcB w' g k n v := (hb.block g (lt_of_block h)).trans h
theorem AcB.far {w w' : World} {B q d g : Nat} {s : DS} {most f l sz : Int} {k n : Int} {v : Value} (h : AcB w g k n v) (hj : JK w B q d s most f l sz) (hf : Far (Lh d s q) w w') : AcB w' g k n v := (hf.block g (lt_of_block h) (jkT hj h (by decide) (by decide) (by decide))).trans h
theorem AcB.cells {w : World} {g : Nat} {k n : Int} {v : Value} (h : AcB w g k n v) : w.cell? ⟨g, 0, none⟩ = some (.int .i64 k) ∧ w.cell? ⟨g, 1, none⟩ = some (.int .i64 n) ∧ w.cell? ⟨g, 2, none⟩ = some v := by
  refine ⟨?_, ?_, ?_⟩ <;> (rw [cell_of_row _ _ _ _ _ _ h]; rfl)
theorem PQ.cells {w W : World} {d q bx : Nat} {most : Int} {s : DS} {f M : Nat} {gs : Nat → List (List Nat)} {f0 : Nat} {sv : Value} {ss : List Value} {Ss : List (List (List Nat))} (h : PQ w W d q bx most s f M gs f0 sv ss Ss) : W.cell? ⟨bx, 0, none⟩ = some (.int .i64 (f0 : Int)) ∧ W.cell? ⟨bx, 1, none⟩ = some sv ∧ W.cell? ⟨bx, 2, none⟩ = some (.int .i64 most) := by
  refine ⟨?_, ?_, ?_⟩ <;> (rw [cell_of_row _ _ _ _ _ _ h.bo]; rfl)
theorem ldV35 {W : World} {g o : Nat} {a : Option Addr} {n c : Nat} (h : W.cell? ⟨g, o, none⟩ = some (.slice a n c)) : (Instr.loadAt 35 (.pointer (some ⟨g, o, none⟩))).run Tryz.prog W = .ok (.slice a n c) W := by go_simp
theorem Says.nil_len {w : World} {E : Nat} {v : Value} (h : Says w E v []) : ∃ a c, v = .slice a 0 c := by
  obtain ⟨vs, h1, h2, _⟩ := h
  obtain ⟨a, c, e⟩ := own_shapeK h1
  exact ⟨a, c, by rw [e, h2]; rfl⟩
set_option maxHeartbeats 25600000 in
theorem plays_any (w : World) (most : Int) (v : Value) (l : List Ac) (h : AL w v l) : Calls Tryz.prog 3 #[.int .i64 most, v] w fun e w' => e = .returned (.bool true) ∧ Below w.heap.size w w' := by
  have HA := Lib.hid h
  obtain ⟨a1, c1, rfl⟩ := h.row.shape
  have HLN := Lib.hid h.row.len
  have NW := Lib.hid (new_any w 16777216 (by omega))
  have AW := Lib.hid awake_any
  clear h
  go_enter Tryz.func3, Tryz.ntmps3
  go_wp2_with fail
  refine NW.out.mono ?_
  rintro e w1 ⟨rfl, hd, hb1⟩
  have D1 := Lib.hid hd
  have B1 := Lib.hid hb1
  have LG := Lib.hid (long_any w1 _ l (HA.out.step hb1))
  obtain ⟨d, hdq⟩ : ∃ z, w.heap.size = z := ⟨_, rfl⟩
  rw [hdq] at D1 ⊢
  have HD1 := Lib.hid (show d ≤ w1.heap.size by have := B1.out.size; omega)
  have HDQ := Lib.hid hdq
  clear hd hb1 NW hdq
  go_wp2_with fail
  refine LG.out.mono ?_
  rintro e w2 ⟨r, rfl, hr, rfl⟩
  cases r with
  | true =>
    go_wp2_with fail
    refine (AW.out _).mono ?_
    rintro e w3 ⟨rfl, hb⟩
    have B3 := Lib.hid hb
    clear hb
    go_wp2
    go_returns
    exact ⟨rfl, by rw [HDQ.out]; exact (B1.out.mono (by have := HDQ.out; omega)).trans (B3.out.mono HD1.out)⟩
  | false =>
    have SH := Lib.hid (hr rfl)
    clear hr LG
    by_cases hm : most < 16 ∨ 16777216 < most
    · have OA := Lib.hid (open_arg w1 d most hm)
      have NM := Lib.hid (names_any w1 d d ⟨none, 16777216, [], false, 0, false⟩ D1.out (by simp))
      have hm' : most < 16 ∨ (¬ most < 16 ∧ 16777216 < most) := by omega
      clear hm
      rcases hm' with h1 | ⟨h1, h2⟩
      all_goals
        go_wp2_with fail
        refine OA.out.mono ?_
        rintro e w3 ⟨rfl, rfl⟩
        go_wp2_with fail
        refine NM.out.mono ?_
        rintro e w4 ⟨nv, rfl, ho, hb⟩
        have B4 := Lib.hid hb
        obtain ⟨na, nc, rfl⟩ := own_shapeK ho
        clear ho hb
        go_wp2_with fail
        refine (AW.out _).mono ?_
        rintro e w5 ⟨rfl, hb⟩
        have B5 := Lib.hid hb
        clear hb
        go_wp2
        go_returns
        exact ⟨rfl, by rw [HDQ.out]; exact ((B1.out.mono (by have := HDQ.out; omega)).trans (B4.out.mono HD1.out)).trans (B5.out.mono (Nat.le_trans HD1.out B4.out.size))⟩
    · have HM := Lib.hid (show 16 ≤ most ∧ most ≤ 16777216 from by omega)
      have hm1 : ¬ (most < 16) := by omega
      have hm2 : ¬ (16777216 < most) := by omega
      clear hm
      have OP := Lib.hid (jopen_new w1 d d ⟨none, 16777216, [], false, 0, false⟩ D1.out HD1.out rfl rfl most HM.out rfl)
      go_wp2_with fail
      refine OP.out.mono ?_
      rintro e w3 ⟨q0, iv0, s0, rfl, hq, hj, hsy, hfar, hrm, hus⟩
      have B3 := Lib.hid (show Below d w w3 from (B1.out.mono (by have := HDQ.out; omega)).trans (hfar.below HD1.out (fun k hk => (D1.out.base k hk).1)))
      have J3 := Lib.hid hj
      obtain ⟨ia, ic, rfl⟩ := hsy.nil_len
      have S0 := Lib.hid (And.intro hrm hus)
      have RN := Lib.hid (rnew_any w w3 (by rw [HDQ.out]; exact B3.out) most)
      clear hq hj hsy hfar hrm hus OP
      go_wp2_with fail
      refine RN.out.mono ?_
      rintro e w4 ⟨sv0, rfl, hr4, hb4⟩
      obtain ⟨sa0, sc0, rfl⟩ := hr4.row.shape
      have B4 := Lib.hid hb4
      have R4 := Lib.hid hr4
      clear hr4 hb4 RN
      go_upto_region 8 with (fail)
      have X5 := Lib.hid (vstep w4 (.cells #[.int .i64 1, .slice sa0 [Value.slice none 0 0].length sc0, .int .i64 most] 37))
      have N5 := Lib.hid (heap_alloc_new w4 (.cells #[.int .i64 1, .slice sa0 [Value.slice none 0 0].length sc0, .int .i64 most] 37))
      have HB5 := Lib.hid (show d ≤ w4.heap.size from Nat.le_trans J3.out.jk.size B4.out.size)
      obtain ⟨bx, hbx⟩ : ∃ z, w4.heap.size = z := ⟨_, rfl⟩
      have HBX := Lib.hid hbx
      have P5 := Lib.hid (show PQ w (w4.alloc (.cells #[.int .i64 1, .slice sa0 [Value.slice none 0 0].length sc0, .int .i64 most] 37)) d q0 bx most s0 1 0 (fun _ => []) 1 (.slice sa0 [Value.slice none 0 0].length sc0) [.slice none 0 0] (Sx (fun _ => []) 1 0) from
        ⟨(J3.out.step B4.out).step X5.out, R4.out.step X5.out, by rw [← hbx]; exact N5.out, by rw [← hbx]; exact HB5.out, HDQ.out⟩)
      have I5 := Lib.hid (show NJ 0 s0 1 0 (fun _ => []) from ⟨Nat.le_refl _, by omega, S0.out.1, fun b hb => (by simp [allP] at hb), by rw [S0.out.2]; rfl, by rw [S0.out.2]; omega⟩)
      rw [hbx] at X5 ⊢
      generalize (w4.alloc (.cells #[.int .i64 1, .slice sa0 [Value.slice none 0 0].length sc0, .int .i64 most] 37)) = w5 at *
      clear hbx N5 J3 R4 S0
      go_wp2_with fail
      go_loopw [7, 11] (fun jv iv wr => ∃ (q i : Nat) (s : DS) (f M : Nat) (gs : Nat → List (List Nat)) (sv : Value) (ss : List Value), jv = .pointer (some ⟨q, 0, none⟩) ∧ iv = .int .i64 (i : Int) ∧ i ≤ l.length ∧ i ≤ 60 ∧ Hid (PQ w wr d q bx most s f M gs f sv ss (Sx gs f M) ∧ NJ i s f M gs)) (fun _ iv _ => l.length - (intOf iv).toNat)
      case atStart => exact ⟨q0, 0, s0, 1, 0, fun _ => [], _, _, rfl, rfl, Nat.zero_le _, Nat.zero_le _, Lib.hid ⟨P5.out, I5.out⟩⟩
      case round =>
        obtain ⟨q, i, s, f, M, gs, sv, ss, rfl, rfl, hi, h60, hF⟩ := hrel
        have PP := Lib.hid hF.out.1
        have II := Lib.hid hF.out.2
        obtain ⟨sa, sc, rfl⟩ := PP.out.rl.shapeN (n := M + 1) (Sx_len _ _ _)
        clear hF P5 I5 B4 X5
        by_cases hlt : i < l.length
        · by_cases hl60 : i < 60
          · have hl2I : (i : Int) < 60 := by omega
            obtain ⟨g, o, p, rfl, hx, hg, a0⟩ := HA.out.row.at' hlt
            have LP := Lib.hid (HA.out.each p (List.mem_of_getElem? hx))
            have PB := Lib.hid (SH.out i p hl60 hx)
            obtain ⟨va, vc, hv⟩ := Rc.lies_shape LP.out.1
            have HV := Lib.hid hv
            have kk : ∀ (r : Nat) u, (encC p)[r]? = some u → wr.cell? ⟨g, o + i * 3 + r, none⟩ = some u := fun r u hu => (PP.out.rl.bel.cell (p := ⟨g, o + i * 3 + r, none⟩) (World.block_lt_of_cell? w _ (a0 r u hu))).trans (a0 r u hu)
            have k0 := kk 0 (.int .i64 p.k) rfl
            have k1 := kk 1 (.int .i64 p.n) rfl
            have k2 := kk 2 p.v rfl
            rw [Nat.add_zero] at k0
            rw [hv] at k2
            have LV := Lib.hid (show Rc.Lies w (.slice va p.b.length vc) p.b ∧ Rc.Byt p.b from ⟨by have := LP.out.1; rwa [hv] at this, LP.out.2⟩)
            have HI2 := Lib.hid (And.intro hlt hl60)
            obtain ⟨pk, hpk⟩ : ∃ z, p.k = z := ⟨_, rfl⟩
            obtain ⟨pn, hpn⟩ : ∃ z, p.n = z := ⟨_, rfl⟩
            obtain ⟨pb, hpb⟩ : ∃ z, p.b = z := ⟨_, rfl⟩
            rw [hpk] at k0
            rw [hpn] at k1
            rw [hpb] at k2 LV PB
            clear a0 hx hg kk hv HV LP hpk hpn hpb
            go_upto_region 14 with (fail)
            have X2 := Lib.hid (vstep wr (.cells #[.int .i64 pk, .int .i64 pn, .slice va pb.length vc] 41))
            have A2 := Lib.hid (show AcB (wr.alloc (.cells #[.int .i64 pk, .int .i64 pn, .slice va pb.length vc] 41)) wr.heap.size pk pn (.slice va pb.length vc) from heap_alloc_new wr _)
            have P2 := Lib.hid (PP.out.step X2.out)
            obtain ⟨ga, hga⟩ : ∃ z, wr.heap.size = z := ⟨_, rfl⟩
            rw [hga] at A2 ⊢
            generalize (wr.alloc (.cells #[.int .i64 pk, .int .i64 pn, .slice va pb.length vc] 41)) = w6 at *
            have BW := Lib.hid P2.out.rl.bel
            clear k0 k1 k2 X2 hga PP
            have FB := Lib.hid (show usedF s.l ≤ 68 * 60 ∧ f + M ≤ 60 ∧ (cat (gs (f + M))).length ≤ 68 * 60 from by
              have h1 := II.out.tot
              have h2 := II.out.fM
              have h3 := part_len gs f M
              have h4 := II.out.us
              have h5 := HI2.out.2
              omega)
            have LS := Lib.hid (show Rc.Lies w6 (.slice va pb.length vc) pb from LV.out.1.later BW.out)
            obtain ⟨x0, x1, x2⟩ := A2.out.cells
            rcases (show (pk = 0 ∨ pk = 1 ∨ pk = 2) ∨ pk = 3 ∨ pk = 4 ∨ pk = 5 ∨ (pk ≠ 0 ∧ pk ≠ 1 ∧ pk ≠ 2 ∧ pk ≠ 3 ∧ pk ≠ 4 ∧ pk ≠ 5) from by omega) with hp3 | rfl | rfl | rfl | ⟨n0, n1, n2, n3, n4, n5⟩
            · have JA := Lib.hid (jact2 w6 d q d s most f M gs P2.out.js II.out.f1 (by have := FB.out.2.1; omega) (.slice va pb.length vc) pb LS.out LV.out.2 (by have := PB.out; omega) (by have := FB.out.2.2; omega) (by rw [II.out.rm]; have := FB.out.1; have := PB.out; omega))
              rcases hp3 with rfl | rfl | rfl
              all_goals
                go_wp2_with fail
                refine JA.out.mono ?_
                rintro e w7 ⟨rfl, s', M', gs', hj, hfar, hM, hP, hrm2, hus2, hSx⟩
                have P7 := Lib.hid (P2.out.far hj hfar)
                have IZ := Lib.hid (II.out.app hM hP hrm2 hus2 ⟨LV.out.2, PB.out⟩)
                have A7 := Lib.hid (A2.out.far P2.out.js.jk hfar)
                have SX := Lib.hid hSx
                have RA := Lib.hid (rapp_any w w7 (f : Int) most (.slice sa (M + 1) sc) ss (Sx gs f M) (gs (f + M)) M P7.out.rl (Sx_len _ _ _) (Sx_get _ _ _) (by have := FB.out.2.1; omega) (by have := FB.out.2.2; omega) (.slice va pb.length vc) pb LV.out.1 (by have := PB.out; omega))
                rw [← SX.out] at RA
                obtain ⟨y0, y1, y2⟩ := A7.out.cells
                obtain ⟨z0, z1, z2⟩ := P7.out.cells
                clear x0 x1 x2 A2 P2 hj hfar hM hP hrm2 hus2 hSx JA
                go_wp2_with fail
                refine RA.out.mono ?_
                rintro e w8 ⟨sv8, ss8, rfl, hr8, hb8⟩
                have R8 := Lib.hid hr8
                have B8 := Lib.hid hb8
                clear hr8 hb8 RA y0 y1 y2 z0 z1 z2 A7
                obtain ⟨sz, cz, rfl⟩ := R8.out.shapeN (n := M' + 1) (Sx_len _ _ _)
                have P8 := Lib.hid (P7.out.step B8.out)
                have ST := Lib.hid (st37 (f := ((f : Nat) : Int)) (m := most) (a := sz) (n := M' + 1) (c := cz) P8.out.bo)
                have PZ := Lib.hid (P8.out.store (f1 := f) R8.out)
                clear P7 P8 R8 B8
                go_upto_region 31 with (with_reducible refine wpList_store_arr rfl (.tmp 10) (.tmp 98) 37 rfl (.pointer (some ⟨bx, 0, none⟩)) (.agg #[.int .i64 ((f : Nat) : Int), .slice sz (M' + 1) cz, .int .i64 most]) rfl rfl _ ST.out ?_)
                clear ST
                generalize (set3 w8 bx (.int .i64 ((f : Nat) : Int)) (.slice sz (M' + 1) cz) (.int .i64 most)) = WZ at *
                go_upto_region 31 with (fail)
                have NB := Lib.hid (show (f) + (M') ≤ 61 ∧ usedF (s').l ≤ 68 * 60 ∧ (cat ((gs') ((f) + (M')))).length ≤ 68 * 60 from by
                  have h1 := IZ.out.tot
                  have h2 := IZ.out.fM
                  have h3 := part_len (gs') (f) (M')
                  have h4 := IZ.out.us
                  have h5 := HI2.out.2
                  exact ⟨by omega, by omega, by omega⟩)
                have FP := Lib.hid (fun W (hb : Below WZ.heap.size WZ W) => PZ.out.step hb)
                have LD := Lib.hid (fun W (hb : Below WZ.heap.size WZ W) => ld37 (PZ.out.step hb).bo)
                have LD0 := Lib.hid (fun W (hb : Below WZ.heap.size WZ W) => ldI3 (PZ.out.step hb).cells.1)
                have LD1 := Lib.hid (fun W (hb : Below WZ.heap.size WZ W) => ldV35 (PZ.out.step hb).cells.2.1)
                refine wp_region_held_drew (S := fun w' => Below WZ.heap.size WZ w') (by kernel_rfl) (Below.refl _ _).drew (fun hHeld => ?_)
                have BV := Lib.hid (show Below WZ.heap.size WZ WZ.drew from (Below.refl _ _).drew)
                clear hHeld
                refine take_at (i := 0) 129 ?_ rfl rfl (by kernel_rfl) (by kernel_rfl) (by kernel_rfl) (fun _ _ _ h => h) (.inl ⟨rfl, ?_⟩) BV.out ?_
                rotate_left 1
                · intro w hSw; go_simp; try with_reducible rfl
                simp only [Act.put, List.setIfInBounds_toArray, List.set_cons_zero, List.set_cons_succ]
                refine take_at (i := 1) 130 ?_ rfl rfl (by kernel_rfl) (by kernel_rfl) (by kernel_rfl) (fun _ _ _ h => h) (.inl ⟨rfl, ?_⟩) BV.out ?_
                rotate_left 1
                · intro w hSw; go_simp; try with_reducible rfl
                simp only [Act.put, List.setIfInBounds_toArray, List.set_cons_zero, List.set_cons_succ]
                refine take_at (i := 2) 131 ?_ rfl rfl (by kernel_rfl) (by kernel_rfl) (by kernel_rfl) (fun _ _ _ h => h) (.inl ⟨rfl, ?_⟩) BV.out ?_
                rotate_left 1
                · intro w hSw; go_simp; try with_reducible rfl
                simp only [Act.put, List.setIfInBounds_toArray, List.set_cons_zero, List.set_cons_succ]
                refine take_at (i := 3) 132 ?_ rfl rfl (by kernel_rfl) (by kernel_rfl) (by kernel_rfl) (fun _ _ _ h => h) (.inl ⟨rfl, ?_⟩) BV.out ?_
                rotate_left 1
                · intro w hSw; go_simp; try with_reducible rfl
                simp only [Act.put, List.setIfInBounds_toArray, List.set_cons_zero, List.set_cons_succ]
                refine take_at (i := 5) 134 ?_ rfl rfl (by kernel_rfl) (by kernel_rfl) (by kernel_rfl) (fun _ _ _ h => h) (.inl ⟨rfl, ?_⟩) BV.out ?_
                rotate_left 1
                · intro w hSw; go_simp; try with_reducible rfl
                simp only [Act.put, List.setIfInBounds_toArray, List.set_cons_zero, List.set_cons_succ]
                refine take_at (i := 6) 135 (.int .i64 ((f : Nat) : Int)) rfl rfl (by kernel_rfl) (by kernel_rfl) (by kernel_rfl) (fun _ _ _ h => h) (yields_ld (.tmp 134) 3 (.pointer (some ⟨bx, 0, none⟩)) _ LD0.out rfl rfl rfl) BV.out ?_
                simp only [Act.put, List.setIfInBounds_toArray, List.set_cons_zero, List.set_cons_succ]
                refine wpAnyH_ready (rs := [4]) (by kernel_rfl) (by simp) (br_call (i := 4) 133 22 #[.pointer (some ⟨q, 0, none⟩)] rfl rfl rfl (by go_simp) ((pq_first (FP.out _ BV.out)).mono ?_) AllReadyH.nil)
                rintro e v1 ⟨rfl, hb⟩
                have BV := Lib.hid (BV.out.trans (hb.mono BV.out.size))
                clear hb
                refine ⟨_, rfl, BV.out, fun _ => ?_⟩
                simp only [Act.put, List.setIfInBounds_toArray, List.set_cons_zero, List.set_cons_succ]
                refine take_at (i := 7) 136 ?_ rfl rfl (by kernel_rfl) (by kernel_rfl) (by kernel_rfl) (fun _ _ _ h => h) (.inl ⟨rfl, ?_⟩) BV.out ?_
                rotate_left 1
                · intro w hSw; go_simp; try with_reducible rfl
                simp only [Act.put, List.setIfInBounds_toArray, List.set_cons_zero, List.set_cons_succ]
                refine take_at (i := 8) 137 ?_ rfl rfl (by kernel_rfl) (by kernel_rfl) (by kernel_rfl) (fun _ _ _ h => h) (.inl ⟨rfl, ?_⟩) BV.out ?_
                rotate_left 1
                · intro w hSw; go_simp; try with_reducible rfl
                simp only [Act.put, List.setIfInBounds_toArray, List.set_cons_zero, List.set_cons_succ]
                refine take_at (i := 9) 138 ?_ rfl rfl (by kernel_rfl) (by kernel_rfl) (by kernel_rfl) (fun _ _ _ h => h) (.inl ⟨rfl, ?_⟩) BV.out ?_
                rotate_left 1
                · intro w hSw; go_simp; try with_reducible rfl
                simp only [Act.put, List.setIfInBounds_toArray, List.set_cons_zero, List.set_cons_succ]
                refine take_at (i := 10) 139 ?_ rfl rfl (by kernel_rfl) (by kernel_rfl) (by kernel_rfl) (fun _ _ _ h => h) (.inl ⟨rfl, ?_⟩) BV.out ?_
                rotate_left 1
                · intro w hSw; go_simp; try with_reducible rfl
                simp only [Act.put, List.setIfInBounds_toArray, List.set_cons_zero, List.set_cons_succ]
                refine take_at (i := 12) 141 (.agg #[.int .i64 ((f : Nat) : Int), .slice sz (M' + 1) cz, .int .i64 most]) rfl rfl (by kernel_rfl) (by kernel_rfl) (by kernel_rfl) (fun _ _ _ h => h) (yields_ld (.tmp 10) 37 (.pointer (some ⟨bx, 0, none⟩)) _ LD.out rfl rfl rfl) BV.out ?_
                simp only [Act.put, List.setIfInBounds_toArray, List.set_cons_zero, List.set_cons_succ]
                refine wpAnyH_ready (rs := [11]) (by kernel_rfl) (by simp) (br_call (i := 11) 140 23 #[.pointer (some ⟨q, 0, none⟩)] rfl rfl rfl (by go_simp) ((pq_last (FP.out _ BV.out)).mono ?_) AllReadyH.nil)
                rintro e v2 ⟨rfl, hb⟩
                have BV := Lib.hid (BV.out.trans (hb.mono BV.out.size))
                clear hb
                refine ⟨_, rfl, BV.out, fun _ => ?_⟩
                simp only [Act.put, List.setIfInBounds_toArray, List.set_cons_zero, List.set_cons_succ]
                refine wpAnyH_ready (rs := [13]) (by kernel_rfl) (by simp) (br_call (i := 13) 142 24 #[.agg #[.int .i64 ((f : Nat) : Int), .slice sz (M' + 1) cz, .int .i64 most]] rfl rfl rfl (by go_simp) ((pq_rlast (FP.out _ BV.out) ⟨by have := NB.out.1; omega, by have := NB.out.1; omega⟩).mono ?_) AllReadyH.nil)
                rintro e v3 ⟨rfl, hb⟩
                have BV := Lib.hid (BV.out.trans (hb.mono BV.out.size))
                clear hb
                refine ⟨_, rfl, BV.out, fun _ => ?_⟩
                simp only [Act.put, List.setIfInBounds_toArray, List.set_cons_zero, List.set_cons_succ]
                refine take_at (i := 14) 143 ?_ rfl rfl (by kernel_rfl) (by kernel_rfl) (by kernel_rfl) (fun _ _ _ h => h) (.inl ⟨rfl, ?_⟩) BV.out ?_
                rotate_left 1
                · intro w hSw; go_simp; try with_reducible rfl
                simp only [Act.put, List.setIfInBounds_toArray, List.set_cons_zero, List.set_cons_succ]
                refine take_at (i := 15) 144 ?_ rfl rfl (by kernel_rfl) (by kernel_rfl) (by kernel_rfl) (fun _ _ _ h => h) (.inl ⟨rfl, ?_⟩) BV.out ?_
                rotate_left 1
                · intro w hSw; go_simp; try with_reducible rfl
                simp only [Act.put, List.setIfInBounds_toArray, List.set_cons_zero, List.set_cons_succ]
                refine take_at (i := 16) 145 ?_ rfl rfl (by kernel_rfl) (by kernel_rfl) (by kernel_rfl) (fun _ _ _ h => h) (.inl ⟨rfl, ?_⟩) BV.out ?_
                rotate_left 1
                · intro w hSw; go_simp; try with_reducible rfl
                simp only [Act.put, List.setIfInBounds_toArray, List.set_cons_zero, List.set_cons_succ]
                refine take_at (i := 17) 146 ?_ rfl rfl (by kernel_rfl) (by kernel_rfl) (by kernel_rfl) (fun _ _ _ h => h) (.inl ⟨rfl, ?_⟩) BV.out ?_
                rotate_left 1
                · intro w hSw; go_simp; try with_reducible rfl
                simp only [Act.put, List.setIfInBounds_toArray, List.set_cons_zero, List.set_cons_succ]
                refine take_at (i := 19) 148 (.agg #[.int .i64 ((f : Nat) : Int), .slice sz (M' + 1) cz, .int .i64 most]) rfl rfl (by kernel_rfl) (by kernel_rfl) (by kernel_rfl) (fun _ _ _ h => h) (yields_ld (.tmp 10) 37 (.pointer (some ⟨bx, 0, none⟩)) _ LD.out rfl rfl rfl) BV.out ?_
                simp only [Act.put, List.setIfInBounds_toArray, List.set_cons_zero, List.set_cons_succ]
                refine wpAnyH_ready (rs := [18]) (by kernel_rfl) (by simp) (br_call (i := 18) 147 25 #[.pointer (some ⟨q, 0, none⟩)] rfl rfl rfl (by go_simp) ((pq_len (FP.out _ BV.out)).mono ?_) AllReadyH.nil)
                rintro e v4 ⟨rfl, hb⟩
                have BV := Lib.hid (BV.out.trans (hb.mono BV.out.size))
                clear hb
                refine ⟨_, rfl, BV.out, fun _ => ?_⟩
                simp only [Act.put, List.setIfInBounds_toArray, List.set_cons_zero, List.set_cons_succ]
                refine wpAnyH_ready (rs := [20]) (by kernel_rfl) (by simp) (br_call (i := 20) 149 26 #[.agg #[.int .i64 ((f : Nat) : Int), .slice sz (M' + 1) cz, .int .i64 most]] rfl rfl rfl (by go_simp) ((pq_rlen (FP.out _ BV.out) ⟨by have := NB.out.1; omega, by have := NB.out.1; omega⟩ (by have := NB.out.2.2; omega)).mono ?_) AllReadyH.nil)
                rintro e v5 ⟨rfl, hb⟩
                have BV := Lib.hid (BV.out.trans (hb.mono BV.out.size))
                clear hb
                refine ⟨_, rfl, BV.out, fun _ => ?_⟩
                simp only [Act.put, List.setIfInBounds_toArray, List.set_cons_zero, List.set_cons_succ]
                refine take_at (i := 21) 150 ?_ rfl rfl (by kernel_rfl) (by kernel_rfl) (by kernel_rfl) (fun _ _ _ h => h) (.inl ⟨rfl, ?_⟩) BV.out ?_
                rotate_left 1
                · intro w hSw; go_simp; try with_reducible rfl
                simp only [Act.put, List.setIfInBounds_toArray, List.set_cons_zero, List.set_cons_succ]
                refine take_at (i := 22) 151 ?_ rfl rfl (by kernel_rfl) (by kernel_rfl) (by kernel_rfl) (fun _ _ _ h => h) (.inl ⟨rfl, ?_⟩) BV.out ?_
                rotate_left 1
                · intro w hSw; go_simp; try with_reducible rfl
                simp only [Act.put, List.setIfInBounds_toArray, List.set_cons_zero, List.set_cons_succ]
                refine take_at (i := 23) 152 ?_ rfl rfl (by kernel_rfl) (by kernel_rfl) (by kernel_rfl) (fun _ _ _ h => h) (.inl ⟨rfl, ?_⟩) BV.out ?_
                rotate_left 1
                · intro w hSw; go_simp; try with_reducible rfl
                simp only [Act.put, List.setIfInBounds_toArray, List.set_cons_zero, List.set_cons_succ]
                refine take_at (i := 24) 153 ?_ rfl rfl (by kernel_rfl) (by kernel_rfl) (by kernel_rfl) (fun _ _ _ h => h) (.inl ⟨rfl, ?_⟩) BV.out ?_
                rotate_left 1
                · intro w hSw; go_simp; try with_reducible rfl
                simp only [Act.put, List.setIfInBounds_toArray, List.set_cons_zero, List.set_cons_succ]
                refine take_at (i := 26) 155 (.agg #[.int .i64 ((f : Nat) : Int), .slice sz (M' + 1) cz, .int .i64 most]) rfl rfl (by kernel_rfl) (by kernel_rfl) (by kernel_rfl) (fun _ _ _ h => h) (yields_ld (.tmp 10) 37 (.pointer (some ⟨bx, 0, none⟩)) _ LD.out rfl rfl rfl) BV.out ?_
                simp only [Act.put, List.setIfInBounds_toArray, List.set_cons_zero, List.set_cons_succ]
                refine wpAnyH_ready (rs := [25]) (by kernel_rfl) (by simp) (br_call (i := 25) 154 27 #[pv d] rfl rfl rfl (by go_simp) ((pq_used (FP.out _ BV.out)).mono ?_) AllReadyH.nil)
                rintro e v6 ⟨rfl, hb⟩
                have BV := Lib.hid (BV.out.trans (hb.mono BV.out.size))
                clear hb
                refine ⟨_, rfl, BV.out, fun _ => ?_⟩
                simp only [Act.put, List.setIfInBounds_toArray, List.set_cons_zero, List.set_cons_succ]
                refine wpAnyH_ready (rs := [27]) (by kernel_rfl) (by simp) (br_call (i := 27) 156 28 #[.agg #[.int .i64 ((f : Nat) : Int), .slice sz (M' + 1) cz, .int .i64 most]] rfl rfl rfl (by go_simp) ((pq_rused (FP.out _ BV.out) IZ.out (by have := NB.out.1; omega) (by have := NB.out.2.1; omega)).mono ?_) AllReadyH.nil)
                rintro e v7 ⟨rfl, hb⟩
                have BV := Lib.hid (BV.out.trans (hb.mono BV.out.size))
                clear hb
                refine ⟨_, rfl, BV.out, fun _ => ?_⟩
                simp only [Act.put, List.setIfInBounds_toArray, List.set_cons_zero, List.set_cons_succ]
                refine take_at (i := 28) 157 ?_ rfl rfl (by kernel_rfl) (by kernel_rfl) (by kernel_rfl) (fun _ _ _ h => h) (.inl ⟨rfl, ?_⟩) BV.out ?_
                rotate_left 1
                · intro w hSw; go_simp; try with_reducible rfl
                simp only [Act.put, List.setIfInBounds_toArray, List.set_cons_zero, List.set_cons_succ]
                refine take_at (i := 29) 158 ?_ rfl rfl (by kernel_rfl) (by kernel_rfl) (by kernel_rfl) (fun _ _ _ h => h) (.inl ⟨rfl, ?_⟩) BV.out ?_
                rotate_left 1
                · intro w hSw; go_simp; try with_reducible rfl
                simp only [Act.put, List.setIfInBounds_toArray, List.set_cons_zero, List.set_cons_succ]
                refine take_at (i := 30) 159 ?_ rfl rfl (by kernel_rfl) (by kernel_rfl) (by kernel_rfl) (fun _ _ _ h => h) (.inl ⟨rfl, ?_⟩) BV.out ?_
                rotate_left 1
                · intro w hSw; go_simp; try with_reducible rfl
                simp only [Act.put, List.setIfInBounds_toArray, List.set_cons_zero, List.set_cons_succ]
                refine take_at (i := 31) 160 ?_ rfl rfl (by kernel_rfl) (by kernel_rfl) (by kernel_rfl) (fun _ _ _ h => h) (.inl ⟨rfl, ?_⟩) BV.out ?_
                rotate_left 1
                · intro w hSw; go_simp; try with_reducible rfl
                simp only [Act.put, List.setIfInBounds_toArray, List.set_cons_zero, List.set_cons_succ]
                refine take_at (i := 34) 163 ?_ rfl rfl (by kernel_rfl) (by kernel_rfl) (by kernel_rfl) (fun _ _ _ h => h) (.inl ⟨rfl, ?_⟩) BV.out ?_
                rotate_left 1
                · intro w hSw; go_simp; try with_reducible rfl
                simp only [Act.put, List.setIfInBounds_toArray, List.set_cons_zero, List.set_cons_succ]
                refine take_at (i := 35) 164 (.slice sz (M' + 1) cz) rfl rfl (by kernel_rfl) (by kernel_rfl) (by kernel_rfl) (fun _ _ _ h => h) (yields_ld (.tmp 163) 35 (.pointer (some ⟨bx, 1, none⟩)) _ LD1.out rfl rfl rfl) BV.out ?_
                simp only [Act.put, List.setIfInBounds_toArray, List.set_cons_zero, List.set_cons_succ]
                refine take_at (i := 36) 165 ?_ rfl rfl (by kernel_rfl) (by kernel_rfl) (by kernel_rfl) (fun _ _ _ h => h) (.inl ⟨rfl, ?_⟩) BV.out ?_
                rotate_left 1
                · intro w hSw; go_simp; try with_reducible rfl
                simp only [Act.put, List.setIfInBounds_toArray, List.set_cons_zero, List.set_cons_succ]
                refine wpAnyH_ready (rs := [32]) (by kernel_rfl) (by simp) (br_call (i := 32) 161 12 #[pv d] rfl rfl rfl (by go_simp) ((pq_names (FP.out _ BV.out) (by have := NB.out.1; omega)).mono ?_) AllReadyH.nil)
                rintro e v8 ⟨⟨na, nc, rfl⟩, hb⟩
                have BV := Lib.hid (BV.out.trans (hb.mono BV.out.size))
                clear hb
                refine ⟨_, rfl, BV.out, fun _ => ?_⟩
                simp only [Act.put, List.setIfInBounds_toArray, List.set_cons_zero, List.set_cons_succ]
                refine take_at (i := 33) 162 ?_ rfl rfl (by kernel_rfl) (by kernel_rfl) (by kernel_rfl) (fun _ _ _ h => h) (.inl ⟨rfl, ?_⟩) BV.out ?_
                rotate_left 1
                · intro w hSw; go_simp; try with_reducible rfl
                simp only [Act.put, List.setIfInBounds_toArray, List.set_cons_zero, List.set_cons_succ]
                refine take_at (i := 37) 166 ?_ rfl rfl (by kernel_rfl) (by kernel_rfl) (by kernel_rfl) (fun _ _ _ h => h) (.inl ⟨rfl, ?_⟩) BV.out ?_
                rotate_left 1
                · intro w hSw; go_simp; try with_reducible rfl
                simp only [Act.put, List.setIfInBounds_toArray, List.set_cons_zero, List.set_cons_succ]
                refine take_at (i := 38) 167 ?_ rfl rfl (by kernel_rfl) (by kernel_rfl) (by kernel_rfl) (fun _ _ _ h => h) (.inl ⟨rfl, ?_⟩) BV.out ?_
                rotate_left 1
                · intro w hSw; go_simp; try with_reducible rfl
                simp only [Act.put, List.setIfInBounds_toArray, List.set_cons_zero, List.set_cons_succ]
                refine wpAnyH_done (by kernel_rfl) ?_ _
                have PE := Lib.hid (FP.out _ BV.out)
                clear FP LD LD0 LD1 BV PZ
                go_wp2
                go_roundw
                case rel => exact ⟨q, i + 1, s', f, M', gs', _, _, by first | rfl | trivial, by go_num, by have := HI2.out; omega, by have := HI2.out; omega, Lib.hid ⟨PE.out, IZ.out⟩⟩
                case measure => simp [intOf]; have := HI2.out; omega
            · have JR := Lib.hid (jroll w6 d q d s most f M gs P2.out.js II.out.f1 (by have := FB.out.2.1; omega))
              go_wp2_with fail
              refine JR.out.mono ?_
              rintro e w7 ⟨rfl, s', hj, hfar, hrm2, hus2⟩
              have P7 := Lib.hid (P2.out.far hj hfar)
              have IZ := Lib.hid (II.out.roll hrm2 hus2)
              have RA := Lib.hid (rroll_any w w7 (f : Int) most (.slice sa (M + 1) sc) ss (Sx gs f M) P7.out.rl (by rw [Sx_len]; have := FB.out.2.1; omega))
              rw [← Sx_add] at RA
              obtain ⟨gs', hg⟩ : ∃ z : Nat → List (List Nat), (fun m => if m = f + M + 1 then [] else gs m) = z := ⟨_, rfl⟩
              rw [hg] at P7 IZ RA
              clear hg
              obtain ⟨z0, z1, z2⟩ := P7.out.cells
              clear x0 x1 x2 A2 P2 hj hfar hrm2 hus2 JR
              go_wp2_with fail
              refine RA.out.mono ?_
              rintro e w8 ⟨sv8, ss8, rfl, hr8, hb8⟩
              have R8 := Lib.hid hr8
              have B8 := Lib.hid hb8
              clear hr8 hb8 RA z0 z1 z2
              obtain ⟨sz, cz, rfl⟩ := R8.out.shapeN (n := (M + 1) + 1) (Sx_len _ _ _)
              have P8 := Lib.hid (P7.out.step B8.out)
              have ST := Lib.hid (st37 (f := ((f : Nat) : Int)) (m := most) (a := sz) (n := (M + 1) + 1) (c := cz) P8.out.bo)
              have PZ := Lib.hid (P8.out.store (f1 := f) R8.out)
              clear P7 P8 R8 B8
              go_upto_region 31 with (with_reducible refine wpList_store_arr rfl (.tmp 10) (.tmp 104) 37 rfl (.pointer (some ⟨bx, 0, none⟩)) (.agg #[.int .i64 ((f : Nat) : Int), .slice sz ((M + 1) + 1) cz, .int .i64 most]) rfl rfl _ ST.out ?_)
              clear ST
              generalize (set3 w8 bx (.int .i64 ((f : Nat) : Int)) (.slice sz ((M + 1) + 1) cz) (.int .i64 most)) = WZ at *
              go_upto_region 31 with (fail)
              have NB := Lib.hid (show (f) + ((M + 1)) ≤ 61 ∧ usedF (s').l ≤ 68 * 60 ∧ (cat ((gs') ((f) + ((M + 1))))).length ≤ 68 * 60 from by
                have h1 := IZ.out.tot
                have h2 := IZ.out.fM
                have h3 := part_len (gs') (f) ((M + 1))
                have h4 := IZ.out.us
                have h5 := HI2.out.2
                exact ⟨by omega, by omega, by omega⟩)
              have FP := Lib.hid (fun W (hb : Below WZ.heap.size WZ W) => PZ.out.step hb)
              have LD := Lib.hid (fun W (hb : Below WZ.heap.size WZ W) => ld37 (PZ.out.step hb).bo)
              have LD0 := Lib.hid (fun W (hb : Below WZ.heap.size WZ W) => ldI3 (PZ.out.step hb).cells.1)
              have LD1 := Lib.hid (fun W (hb : Below WZ.heap.size WZ W) => ldV35 (PZ.out.step hb).cells.2.1)
              refine wp_region_held_drew (S := fun w' => Below WZ.heap.size WZ w') (by kernel_rfl) (Below.refl _ _).drew (fun hHeld => ?_)
              have BV := Lib.hid (show Below WZ.heap.size WZ WZ.drew from (Below.refl _ _).drew)
              clear hHeld
              refine take_at (i := 0) 129 ?_ rfl rfl (by kernel_rfl) (by kernel_rfl) (by kernel_rfl) (fun _ _ _ h => h) (.inl ⟨rfl, ?_⟩) BV.out ?_
              rotate_left 1
              · intro w hSw; go_simp; try with_reducible rfl
              simp only [Act.put, List.setIfInBounds_toArray, List.set_cons_zero, List.set_cons_succ]
              refine take_at (i := 1) 130 ?_ rfl rfl (by kernel_rfl) (by kernel_rfl) (by kernel_rfl) (fun _ _ _ h => h) (.inl ⟨rfl, ?_⟩) BV.out ?_
              rotate_left 1
              · intro w hSw; go_simp; try with_reducible rfl
              simp only [Act.put, List.setIfInBounds_toArray, List.set_cons_zero, List.set_cons_succ]
              refine take_at (i := 2) 131 ?_ rfl rfl (by kernel_rfl) (by kernel_rfl) (by kernel_rfl) (fun _ _ _ h => h) (.inl ⟨rfl, ?_⟩) BV.out ?_
              rotate_left 1
              · intro w hSw; go_simp; try with_reducible rfl
              simp only [Act.put, List.setIfInBounds_toArray, List.set_cons_zero, List.set_cons_succ]
              refine take_at (i := 3) 132 ?_ rfl rfl (by kernel_rfl) (by kernel_rfl) (by kernel_rfl) (fun _ _ _ h => h) (.inl ⟨rfl, ?_⟩) BV.out ?_
              rotate_left 1
              · intro w hSw; go_simp; try with_reducible rfl
              simp only [Act.put, List.setIfInBounds_toArray, List.set_cons_zero, List.set_cons_succ]
              refine take_at (i := 5) 134 ?_ rfl rfl (by kernel_rfl) (by kernel_rfl) (by kernel_rfl) (fun _ _ _ h => h) (.inl ⟨rfl, ?_⟩) BV.out ?_
              rotate_left 1
              · intro w hSw; go_simp; try with_reducible rfl
              simp only [Act.put, List.setIfInBounds_toArray, List.set_cons_zero, List.set_cons_succ]
              refine take_at (i := 6) 135 (.int .i64 ((f : Nat) : Int)) rfl rfl (by kernel_rfl) (by kernel_rfl) (by kernel_rfl) (fun _ _ _ h => h) (yields_ld (.tmp 134) 3 (.pointer (some ⟨bx, 0, none⟩)) _ LD0.out rfl rfl rfl) BV.out ?_
              simp only [Act.put, List.setIfInBounds_toArray, List.set_cons_zero, List.set_cons_succ]
              refine wpAnyH_ready (rs := [4]) (by kernel_rfl) (by simp) (br_call (i := 4) 133 22 #[.pointer (some ⟨q, 0, none⟩)] rfl rfl rfl (by go_simp) ((pq_first (FP.out _ BV.out)).mono ?_) AllReadyH.nil)
              rintro e v1 ⟨rfl, hb⟩
              have BV := Lib.hid (BV.out.trans (hb.mono BV.out.size))
              clear hb
              refine ⟨_, rfl, BV.out, fun _ => ?_⟩
              simp only [Act.put, List.setIfInBounds_toArray, List.set_cons_zero, List.set_cons_succ]
              refine take_at (i := 7) 136 ?_ rfl rfl (by kernel_rfl) (by kernel_rfl) (by kernel_rfl) (fun _ _ _ h => h) (.inl ⟨rfl, ?_⟩) BV.out ?_
              rotate_left 1
              · intro w hSw; go_simp; try with_reducible rfl
              simp only [Act.put, List.setIfInBounds_toArray, List.set_cons_zero, List.set_cons_succ]
              refine take_at (i := 8) 137 ?_ rfl rfl (by kernel_rfl) (by kernel_rfl) (by kernel_rfl) (fun _ _ _ h => h) (.inl ⟨rfl, ?_⟩) BV.out ?_
              rotate_left 1
              · intro w hSw; go_simp; try with_reducible rfl
              simp only [Act.put, List.setIfInBounds_toArray, List.set_cons_zero, List.set_cons_succ]
              refine take_at (i := 9) 138 ?_ rfl rfl (by kernel_rfl) (by kernel_rfl) (by kernel_rfl) (fun _ _ _ h => h) (.inl ⟨rfl, ?_⟩) BV.out ?_
              rotate_left 1
              · intro w hSw; go_simp; try with_reducible rfl
              simp only [Act.put, List.setIfInBounds_toArray, List.set_cons_zero, List.set_cons_succ]
              refine take_at (i := 10) 139 ?_ rfl rfl (by kernel_rfl) (by kernel_rfl) (by kernel_rfl) (fun _ _ _ h => h) (.inl ⟨rfl, ?_⟩) BV.out ?_
              rotate_left 1
              · intro w hSw; go_simp; try with_reducible rfl
              simp only [Act.put, List.setIfInBounds_toArray, List.set_cons_zero, List.set_cons_succ]
              refine take_at (i := 12) 141 (.agg #[.int .i64 ((f : Nat) : Int), .slice sz ((M + 1) + 1) cz, .int .i64 most]) rfl rfl (by kernel_rfl) (by kernel_rfl) (by kernel_rfl) (fun _ _ _ h => h) (yields_ld (.tmp 10) 37 (.pointer (some ⟨bx, 0, none⟩)) _ LD.out rfl rfl rfl) BV.out ?_
              simp only [Act.put, List.setIfInBounds_toArray, List.set_cons_zero, List.set_cons_succ]
              refine wpAnyH_ready (rs := [11]) (by kernel_rfl) (by simp) (br_call (i := 11) 140 23 #[.pointer (some ⟨q, 0, none⟩)] rfl rfl rfl (by go_simp) ((pq_last (FP.out _ BV.out)).mono ?_) AllReadyH.nil)
              rintro e v2 ⟨rfl, hb⟩
              have BV := Lib.hid (BV.out.trans (hb.mono BV.out.size))
              clear hb
              refine ⟨_, rfl, BV.out, fun _ => ?_⟩
              simp only [Act.put, List.setIfInBounds_toArray, List.set_cons_zero, List.set_cons_succ]
              refine wpAnyH_ready (rs := [13]) (by kernel_rfl) (by simp) (br_call (i := 13) 142 24 #[.agg #[.int .i64 ((f : Nat) : Int), .slice sz ((M + 1) + 1) cz, .int .i64 most]] rfl rfl rfl (by go_simp) ((pq_rlast (FP.out _ BV.out) ⟨by have := NB.out.1; omega, by have := NB.out.1; omega⟩).mono ?_) AllReadyH.nil)
              rintro e v3 ⟨rfl, hb⟩
              have BV := Lib.hid (BV.out.trans (hb.mono BV.out.size))
              clear hb
              refine ⟨_, rfl, BV.out, fun _ => ?_⟩
              simp only [Act.put, List.setIfInBounds_toArray, List.set_cons_zero, List.set_cons_succ]
              refine take_at (i := 14) 143 ?_ rfl rfl (by kernel_rfl) (by kernel_rfl) (by kernel_rfl) (fun _ _ _ h => h) (.inl ⟨rfl, ?_⟩) BV.out ?_
              rotate_left 1
              · intro w hSw; go_simp; try with_reducible rfl
              simp only [Act.put, List.setIfInBounds_toArray, List.set_cons_zero, List.set_cons_succ]
              refine take_at (i := 15) 144 ?_ rfl rfl (by kernel_rfl) (by kernel_rfl) (by kernel_rfl) (fun _ _ _ h => h) (.inl ⟨rfl, ?_⟩) BV.out ?_
              rotate_left 1
              · intro w hSw; go_simp; try with_reducible rfl
              simp only [Act.put, List.setIfInBounds_toArray, List.set_cons_zero, List.set_cons_succ]
              refine take_at (i := 16) 145 ?_ rfl rfl (by kernel_rfl) (by kernel_rfl) (by kernel_rfl) (fun _ _ _ h => h) (.inl ⟨rfl, ?_⟩) BV.out ?_
              rotate_left 1
              · intro w hSw; go_simp; try with_reducible rfl
              simp only [Act.put, List.setIfInBounds_toArray, List.set_cons_zero, List.set_cons_succ]
              refine take_at (i := 17) 146 ?_ rfl rfl (by kernel_rfl) (by kernel_rfl) (by kernel_rfl) (fun _ _ _ h => h) (.inl ⟨rfl, ?_⟩) BV.out ?_
              rotate_left 1
              · intro w hSw; go_simp; try with_reducible rfl
              simp only [Act.put, List.setIfInBounds_toArray, List.set_cons_zero, List.set_cons_succ]
              refine take_at (i := 19) 148 (.agg #[.int .i64 ((f : Nat) : Int), .slice sz ((M + 1) + 1) cz, .int .i64 most]) rfl rfl (by kernel_rfl) (by kernel_rfl) (by kernel_rfl) (fun _ _ _ h => h) (yields_ld (.tmp 10) 37 (.pointer (some ⟨bx, 0, none⟩)) _ LD.out rfl rfl rfl) BV.out ?_
              simp only [Act.put, List.setIfInBounds_toArray, List.set_cons_zero, List.set_cons_succ]
              refine wpAnyH_ready (rs := [18]) (by kernel_rfl) (by simp) (br_call (i := 18) 147 25 #[.pointer (some ⟨q, 0, none⟩)] rfl rfl rfl (by go_simp) ((pq_len (FP.out _ BV.out)).mono ?_) AllReadyH.nil)
              rintro e v4 ⟨rfl, hb⟩
              have BV := Lib.hid (BV.out.trans (hb.mono BV.out.size))
              clear hb
              refine ⟨_, rfl, BV.out, fun _ => ?_⟩
              simp only [Act.put, List.setIfInBounds_toArray, List.set_cons_zero, List.set_cons_succ]
              refine wpAnyH_ready (rs := [20]) (by kernel_rfl) (by simp) (br_call (i := 20) 149 26 #[.agg #[.int .i64 ((f : Nat) : Int), .slice sz ((M + 1) + 1) cz, .int .i64 most]] rfl rfl rfl (by go_simp) ((pq_rlen (FP.out _ BV.out) ⟨by have := NB.out.1; omega, by have := NB.out.1; omega⟩ (by have := NB.out.2.2; omega)).mono ?_) AllReadyH.nil)
              rintro e v5 ⟨rfl, hb⟩
              have BV := Lib.hid (BV.out.trans (hb.mono BV.out.size))
              clear hb
              refine ⟨_, rfl, BV.out, fun _ => ?_⟩
              simp only [Act.put, List.setIfInBounds_toArray, List.set_cons_zero, List.set_cons_succ]
              refine take_at (i := 21) 150 ?_ rfl rfl (by kernel_rfl) (by kernel_rfl) (by kernel_rfl) (fun _ _ _ h => h) (.inl ⟨rfl, ?_⟩) BV.out ?_
              rotate_left 1
              · intro w hSw; go_simp; try with_reducible rfl
              simp only [Act.put, List.setIfInBounds_toArray, List.set_cons_zero, List.set_cons_succ]
              refine take_at (i := 22) 151 ?_ rfl rfl (by kernel_rfl) (by kernel_rfl) (by kernel_rfl) (fun _ _ _ h => h) (.inl ⟨rfl, ?_⟩) BV.out ?_
              rotate_left 1
              · intro w hSw; go_simp; try with_reducible rfl
              simp only [Act.put, List.setIfInBounds_toArray, List.set_cons_zero, List.set_cons_succ]
              refine take_at (i := 23) 152 ?_ rfl rfl (by kernel_rfl) (by kernel_rfl) (by kernel_rfl) (fun _ _ _ h => h) (.inl ⟨rfl, ?_⟩) BV.out ?_
              rotate_left 1
              · intro w hSw; go_simp; try with_reducible rfl
              simp only [Act.put, List.setIfInBounds_toArray, List.set_cons_zero, List.set_cons_succ]
              refine take_at (i := 24) 153 ?_ rfl rfl (by kernel_rfl) (by kernel_rfl) (by kernel_rfl) (fun _ _ _ h => h) (.inl ⟨rfl, ?_⟩) BV.out ?_
              rotate_left 1
              · intro w hSw; go_simp; try with_reducible rfl
              simp only [Act.put, List.setIfInBounds_toArray, List.set_cons_zero, List.set_cons_succ]
              refine take_at (i := 26) 155 (.agg #[.int .i64 ((f : Nat) : Int), .slice sz ((M + 1) + 1) cz, .int .i64 most]) rfl rfl (by kernel_rfl) (by kernel_rfl) (by kernel_rfl) (fun _ _ _ h => h) (yields_ld (.tmp 10) 37 (.pointer (some ⟨bx, 0, none⟩)) _ LD.out rfl rfl rfl) BV.out ?_
              simp only [Act.put, List.setIfInBounds_toArray, List.set_cons_zero, List.set_cons_succ]
              refine wpAnyH_ready (rs := [25]) (by kernel_rfl) (by simp) (br_call (i := 25) 154 27 #[pv d] rfl rfl rfl (by go_simp) ((pq_used (FP.out _ BV.out)).mono ?_) AllReadyH.nil)
              rintro e v6 ⟨rfl, hb⟩
              have BV := Lib.hid (BV.out.trans (hb.mono BV.out.size))
              clear hb
              refine ⟨_, rfl, BV.out, fun _ => ?_⟩
              simp only [Act.put, List.setIfInBounds_toArray, List.set_cons_zero, List.set_cons_succ]
              refine wpAnyH_ready (rs := [27]) (by kernel_rfl) (by simp) (br_call (i := 27) 156 28 #[.agg #[.int .i64 ((f : Nat) : Int), .slice sz ((M + 1) + 1) cz, .int .i64 most]] rfl rfl rfl (by go_simp) ((pq_rused (FP.out _ BV.out) IZ.out (by have := NB.out.1; omega) (by have := NB.out.2.1; omega)).mono ?_) AllReadyH.nil)
              rintro e v7 ⟨rfl, hb⟩
              have BV := Lib.hid (BV.out.trans (hb.mono BV.out.size))
              clear hb
              refine ⟨_, rfl, BV.out, fun _ => ?_⟩
              simp only [Act.put, List.setIfInBounds_toArray, List.set_cons_zero, List.set_cons_succ]
              refine take_at (i := 28) 157 ?_ rfl rfl (by kernel_rfl) (by kernel_rfl) (by kernel_rfl) (fun _ _ _ h => h) (.inl ⟨rfl, ?_⟩) BV.out ?_
              rotate_left 1
              · intro w hSw; go_simp; try with_reducible rfl
              simp only [Act.put, List.setIfInBounds_toArray, List.set_cons_zero, List.set_cons_succ]
              refine take_at (i := 29) 158 ?_ rfl rfl (by kernel_rfl) (by kernel_rfl) (by kernel_rfl) (fun _ _ _ h => h) (.inl ⟨rfl, ?_⟩) BV.out ?_
              rotate_left 1
              · intro w hSw; go_simp; try with_reducible rfl
              simp only [Act.put, List.setIfInBounds_toArray, List.set_cons_zero, List.set_cons_succ]
              refine take_at (i := 30) 159 ?_ rfl rfl (by kernel_rfl) (by kernel_rfl) (by kernel_rfl) (fun _ _ _ h => h) (.inl ⟨rfl, ?_⟩) BV.out ?_
              rotate_left 1
              · intro w hSw; go_simp; try with_reducible rfl
              simp only [Act.put, List.setIfInBounds_toArray, List.set_cons_zero, List.set_cons_succ]
              refine take_at (i := 31) 160 ?_ rfl rfl (by kernel_rfl) (by kernel_rfl) (by kernel_rfl) (fun _ _ _ h => h) (.inl ⟨rfl, ?_⟩) BV.out ?_
              rotate_left 1
              · intro w hSw; go_simp; try with_reducible rfl
              simp only [Act.put, List.setIfInBounds_toArray, List.set_cons_zero, List.set_cons_succ]
              refine take_at (i := 34) 163 ?_ rfl rfl (by kernel_rfl) (by kernel_rfl) (by kernel_rfl) (fun _ _ _ h => h) (.inl ⟨rfl, ?_⟩) BV.out ?_
              rotate_left 1
              · intro w hSw; go_simp; try with_reducible rfl
              simp only [Act.put, List.setIfInBounds_toArray, List.set_cons_zero, List.set_cons_succ]
              refine take_at (i := 35) 164 (.slice sz ((M + 1) + 1) cz) rfl rfl (by kernel_rfl) (by kernel_rfl) (by kernel_rfl) (fun _ _ _ h => h) (yields_ld (.tmp 163) 35 (.pointer (some ⟨bx, 1, none⟩)) _ LD1.out rfl rfl rfl) BV.out ?_
              simp only [Act.put, List.setIfInBounds_toArray, List.set_cons_zero, List.set_cons_succ]
              refine take_at (i := 36) 165 ?_ rfl rfl (by kernel_rfl) (by kernel_rfl) (by kernel_rfl) (fun _ _ _ h => h) (.inl ⟨rfl, ?_⟩) BV.out ?_
              rotate_left 1
              · intro w hSw; go_simp; try with_reducible rfl
              simp only [Act.put, List.setIfInBounds_toArray, List.set_cons_zero, List.set_cons_succ]
              refine wpAnyH_ready (rs := [32]) (by kernel_rfl) (by simp) (br_call (i := 32) 161 12 #[pv d] rfl rfl rfl (by go_simp) ((pq_names (FP.out _ BV.out) (by have := NB.out.1; omega)).mono ?_) AllReadyH.nil)
              rintro e v8 ⟨⟨na, nc, rfl⟩, hb⟩
              have BV := Lib.hid (BV.out.trans (hb.mono BV.out.size))
              clear hb
              refine ⟨_, rfl, BV.out, fun _ => ?_⟩
              simp only [Act.put, List.setIfInBounds_toArray, List.set_cons_zero, List.set_cons_succ]
              refine take_at (i := 33) 162 ?_ rfl rfl (by kernel_rfl) (by kernel_rfl) (by kernel_rfl) (fun _ _ _ h => h) (.inl ⟨rfl, ?_⟩) BV.out ?_
              rotate_left 1
              · intro w hSw; go_simp; try with_reducible rfl
              simp only [Act.put, List.setIfInBounds_toArray, List.set_cons_zero, List.set_cons_succ]
              refine take_at (i := 37) 166 ?_ rfl rfl (by kernel_rfl) (by kernel_rfl) (by kernel_rfl) (fun _ _ _ h => h) (.inl ⟨rfl, ?_⟩) BV.out ?_
              rotate_left 1
              · intro w hSw; go_simp; try with_reducible rfl
              simp only [Act.put, List.setIfInBounds_toArray, List.set_cons_zero, List.set_cons_succ]
              refine take_at (i := 38) 167 ?_ rfl rfl (by kernel_rfl) (by kernel_rfl) (by kernel_rfl) (fun _ _ _ h => h) (.inl ⟨rfl, ?_⟩) BV.out ?_
              rotate_left 1
              · intro w hSw; go_simp; try with_reducible rfl
              simp only [Act.put, List.setIfInBounds_toArray, List.set_cons_zero, List.set_cons_succ]
              refine wpAnyH_done (by kernel_rfl) ?_ _
              have PE := Lib.hid (FP.out _ BV.out)
              clear FP LD LD0 LD1 BV PZ
              go_wp2
              go_roundw
              case rel => exact ⟨q, i + 1, s', f, (M + 1), gs', _, _, by first | rfl | trivial, by go_num, by have := HI2.out; omega, by have := HI2.out; omega, Lib.hid ⟨PE.out, IZ.out⟩⟩
              case measure => simp [intOf]; have := HI2.out; omega
            · have JD := Lib.hid (drop_any w6 d q d s most f M gs P2.out.js II.out.f1 (by have := FB.out.2.1; omega) pn)
              go_wp2_with fail
              refine JD.out.mono ?_
              rintro e w7 ⟨rfl, k, s', hk, hk1, hk2, hD⟩
              have P7 := Lib.hid (P2.out.far hD.js hD.far)
              have IZ := Lib.hid (II.out.drop hk hD.rm hD.us)
              have A7 := Lib.hid (A2.out.far P2.out.js.jk hD.far)
              have SD := Lib.hid (Sx_drop gs f M k hk)
              have RA := Lib.hid (rdrop_any w w7 f most (.slice sa (M + 1) sc) ss (Sx gs f M) M P7.out.rl (Sx_len _ _ _) (by have := FB.out.2.1; omega) pn k hk hk1 hk2)
              rw [SD.out] at RA
              obtain ⟨y0, y1, y2⟩ := A7.out.cells
              obtain ⟨z0, z1, z2⟩ := P7.out.cells
              clear x0 x1 x2 A2 P2 hk hk1 hk2 hD JD
              go_wp2_with fail
              refine RA.out.mono ?_
              rintro e w8 ⟨sv8, ss8, rfl, hr8, hb8⟩
              have R8 := Lib.hid hr8
              have B8 := Lib.hid hb8
              clear hr8 hb8 RA y0 y1 y2 z0 z1 z2 A7
              obtain ⟨sz, cz, rfl⟩ := R8.out.shapeN (n := (M - k) + 1) (Sx_len _ _ _)
              have P8 := Lib.hid (P7.out.step B8.out)
              have ST := Lib.hid (st37 (f := (((f + k) : Nat) : Int)) (m := most) (a := sz) (n := (M - k) + 1) (c := cz) P8.out.bo)
              have PZ := Lib.hid (P8.out.store (f1 := (f + k)) R8.out)
              clear P7 P8 R8 B8
              go_upto_region 31 with (with_reducible refine wpList_store_arr rfl (.tmp 10) (.tmp 114) 37 rfl (.pointer (some ⟨bx, 0, none⟩)) (.agg #[.int .i64 (((f + k) : Nat) : Int), .slice sz ((M - k) + 1) cz, .int .i64 most]) rfl rfl _ ST.out ?_)
              clear ST
              generalize (set3 w8 bx (.int .i64 (((f + k) : Nat) : Int)) (.slice sz ((M - k) + 1) cz) (.int .i64 most)) = WZ at *
              go_upto_region 31 with (fail)
              have NB := Lib.hid (show ((f + k)) + ((M - k)) ≤ 61 ∧ usedF (s').l ≤ 68 * 60 ∧ (cat ((gs) (((f + k)) + ((M - k))))).length ≤ 68 * 60 from by
                have h1 := IZ.out.tot
                have h2 := IZ.out.fM
                have h3 := part_len (gs) ((f + k)) ((M - k))
                have h4 := IZ.out.us
                have h5 := HI2.out.2
                exact ⟨by omega, by omega, by omega⟩)
              have FP := Lib.hid (fun W (hb : Below WZ.heap.size WZ W) => PZ.out.step hb)
              have LD := Lib.hid (fun W (hb : Below WZ.heap.size WZ W) => ld37 (PZ.out.step hb).bo)
              have LD0 := Lib.hid (fun W (hb : Below WZ.heap.size WZ W) => ldI3 (PZ.out.step hb).cells.1)
              have LD1 := Lib.hid (fun W (hb : Below WZ.heap.size WZ W) => ldV35 (PZ.out.step hb).cells.2.1)
              refine wp_region_held_drew (S := fun w' => Below WZ.heap.size WZ w') (by kernel_rfl) (Below.refl _ _).drew (fun hHeld => ?_)
              have BV := Lib.hid (show Below WZ.heap.size WZ WZ.drew from (Below.refl _ _).drew)
              clear hHeld
              refine take_at (i := 0) 129 ?_ rfl rfl (by kernel_rfl) (by kernel_rfl) (by kernel_rfl) (fun _ _ _ h => h) (.inl ⟨rfl, ?_⟩) BV.out ?_
              rotate_left 1
              · intro w hSw; go_simp; try with_reducible rfl
              simp only [Act.put, List.setIfInBounds_toArray, List.set_cons_zero, List.set_cons_succ]
              refine take_at (i := 1) 130 ?_ rfl rfl (by kernel_rfl) (by kernel_rfl) (by kernel_rfl) (fun _ _ _ h => h) (.inl ⟨rfl, ?_⟩) BV.out ?_
              rotate_left 1
              · intro w hSw; go_simp; try with_reducible rfl
              simp only [Act.put, List.setIfInBounds_toArray, List.set_cons_zero, List.set_cons_succ]
              refine take_at (i := 2) 131 ?_ rfl rfl (by kernel_rfl) (by kernel_rfl) (by kernel_rfl) (fun _ _ _ h => h) (.inl ⟨rfl, ?_⟩) BV.out ?_
              rotate_left 1
              · intro w hSw; go_simp; try with_reducible rfl
              simp only [Act.put, List.setIfInBounds_toArray, List.set_cons_zero, List.set_cons_succ]
              refine take_at (i := 3) 132 ?_ rfl rfl (by kernel_rfl) (by kernel_rfl) (by kernel_rfl) (fun _ _ _ h => h) (.inl ⟨rfl, ?_⟩) BV.out ?_
              rotate_left 1
              · intro w hSw; go_simp; try with_reducible rfl
              simp only [Act.put, List.setIfInBounds_toArray, List.set_cons_zero, List.set_cons_succ]
              refine take_at (i := 5) 134 ?_ rfl rfl (by kernel_rfl) (by kernel_rfl) (by kernel_rfl) (fun _ _ _ h => h) (.inl ⟨rfl, ?_⟩) BV.out ?_
              rotate_left 1
              · intro w hSw; go_simp; try with_reducible rfl
              simp only [Act.put, List.setIfInBounds_toArray, List.set_cons_zero, List.set_cons_succ]
              refine take_at (i := 6) 135 (.int .i64 (((f + k) : Nat) : Int)) rfl rfl (by kernel_rfl) (by kernel_rfl) (by kernel_rfl) (fun _ _ _ h => h) (yields_ld (.tmp 134) 3 (.pointer (some ⟨bx, 0, none⟩)) _ LD0.out rfl rfl rfl) BV.out ?_
              simp only [Act.put, List.setIfInBounds_toArray, List.set_cons_zero, List.set_cons_succ]
              refine wpAnyH_ready (rs := [4]) (by kernel_rfl) (by simp) (br_call (i := 4) 133 22 #[.pointer (some ⟨q, 0, none⟩)] rfl rfl rfl (by go_simp) ((pq_first (FP.out _ BV.out)).mono ?_) AllReadyH.nil)
              rintro e v1 ⟨rfl, hb⟩
              have BV := Lib.hid (BV.out.trans (hb.mono BV.out.size))
              clear hb
              refine ⟨_, rfl, BV.out, fun _ => ?_⟩
              simp only [Act.put, List.setIfInBounds_toArray, List.set_cons_zero, List.set_cons_succ]
              refine take_at (i := 7) 136 ?_ rfl rfl (by kernel_rfl) (by kernel_rfl) (by kernel_rfl) (fun _ _ _ h => h) (.inl ⟨rfl, ?_⟩) BV.out ?_
              rotate_left 1
              · intro w hSw; go_simp; try with_reducible rfl
              simp only [Act.put, List.setIfInBounds_toArray, List.set_cons_zero, List.set_cons_succ]
              refine take_at (i := 8) 137 ?_ rfl rfl (by kernel_rfl) (by kernel_rfl) (by kernel_rfl) (fun _ _ _ h => h) (.inl ⟨rfl, ?_⟩) BV.out ?_
              rotate_left 1
              · intro w hSw; go_simp; try with_reducible rfl
              simp only [Act.put, List.setIfInBounds_toArray, List.set_cons_zero, List.set_cons_succ]
              refine take_at (i := 9) 138 ?_ rfl rfl (by kernel_rfl) (by kernel_rfl) (by kernel_rfl) (fun _ _ _ h => h) (.inl ⟨rfl, ?_⟩) BV.out ?_
              rotate_left 1
              · intro w hSw; go_simp; try with_reducible rfl
              simp only [Act.put, List.setIfInBounds_toArray, List.set_cons_zero, List.set_cons_succ]
              refine take_at (i := 10) 139 ?_ rfl rfl (by kernel_rfl) (by kernel_rfl) (by kernel_rfl) (fun _ _ _ h => h) (.inl ⟨rfl, ?_⟩) BV.out ?_
              rotate_left 1
              · intro w hSw; go_simp; try with_reducible rfl
              simp only [Act.put, List.setIfInBounds_toArray, List.set_cons_zero, List.set_cons_succ]
              refine take_at (i := 12) 141 (.agg #[.int .i64 (((f + k) : Nat) : Int), .slice sz ((M - k) + 1) cz, .int .i64 most]) rfl rfl (by kernel_rfl) (by kernel_rfl) (by kernel_rfl) (fun _ _ _ h => h) (yields_ld (.tmp 10) 37 (.pointer (some ⟨bx, 0, none⟩)) _ LD.out rfl rfl rfl) BV.out ?_
              simp only [Act.put, List.setIfInBounds_toArray, List.set_cons_zero, List.set_cons_succ]
              refine wpAnyH_ready (rs := [11]) (by kernel_rfl) (by simp) (br_call (i := 11) 140 23 #[.pointer (some ⟨q, 0, none⟩)] rfl rfl rfl (by go_simp) ((pq_last (FP.out _ BV.out)).mono ?_) AllReadyH.nil)
              rintro e v2 ⟨rfl, hb⟩
              have BV := Lib.hid (BV.out.trans (hb.mono BV.out.size))
              clear hb
              refine ⟨_, rfl, BV.out, fun _ => ?_⟩
              simp only [Act.put, List.setIfInBounds_toArray, List.set_cons_zero, List.set_cons_succ]
              refine wpAnyH_ready (rs := [13]) (by kernel_rfl) (by simp) (br_call (i := 13) 142 24 #[.agg #[.int .i64 (((f + k) : Nat) : Int), .slice sz ((M - k) + 1) cz, .int .i64 most]] rfl rfl rfl (by go_simp) ((pq_rlast (FP.out _ BV.out) ⟨by have := NB.out.1; omega, by have := NB.out.1; omega⟩).mono ?_) AllReadyH.nil)
              rintro e v3 ⟨rfl, hb⟩
              have BV := Lib.hid (BV.out.trans (hb.mono BV.out.size))
              clear hb
              refine ⟨_, rfl, BV.out, fun _ => ?_⟩
              simp only [Act.put, List.setIfInBounds_toArray, List.set_cons_zero, List.set_cons_succ]
              refine take_at (i := 14) 143 ?_ rfl rfl (by kernel_rfl) (by kernel_rfl) (by kernel_rfl) (fun _ _ _ h => h) (.inl ⟨rfl, ?_⟩) BV.out ?_
              rotate_left 1
              · intro w hSw; go_simp; try with_reducible rfl
              simp only [Act.put, List.setIfInBounds_toArray, List.set_cons_zero, List.set_cons_succ]
              refine take_at (i := 15) 144 ?_ rfl rfl (by kernel_rfl) (by kernel_rfl) (by kernel_rfl) (fun _ _ _ h => h) (.inl ⟨rfl, ?_⟩) BV.out ?_
              rotate_left 1
              · intro w hSw; go_simp; try with_reducible rfl
              simp only [Act.put, List.setIfInBounds_toArray, List.set_cons_zero, List.set_cons_succ]
              refine take_at (i := 16) 145 ?_ rfl rfl (by kernel_rfl) (by kernel_rfl) (by kernel_rfl) (fun _ _ _ h => h) (.inl ⟨rfl, ?_⟩) BV.out ?_
              rotate_left 1
              · intro w hSw; go_simp; try with_reducible rfl
              simp only [Act.put, List.setIfInBounds_toArray, List.set_cons_zero, List.set_cons_succ]
              refine take_at (i := 17) 146 ?_ rfl rfl (by kernel_rfl) (by kernel_rfl) (by kernel_rfl) (fun _ _ _ h => h) (.inl ⟨rfl, ?_⟩) BV.out ?_
              rotate_left 1
              · intro w hSw; go_simp; try with_reducible rfl
              simp only [Act.put, List.setIfInBounds_toArray, List.set_cons_zero, List.set_cons_succ]
              refine take_at (i := 19) 148 (.agg #[.int .i64 (((f + k) : Nat) : Int), .slice sz ((M - k) + 1) cz, .int .i64 most]) rfl rfl (by kernel_rfl) (by kernel_rfl) (by kernel_rfl) (fun _ _ _ h => h) (yields_ld (.tmp 10) 37 (.pointer (some ⟨bx, 0, none⟩)) _ LD.out rfl rfl rfl) BV.out ?_
              simp only [Act.put, List.setIfInBounds_toArray, List.set_cons_zero, List.set_cons_succ]
              refine wpAnyH_ready (rs := [18]) (by kernel_rfl) (by simp) (br_call (i := 18) 147 25 #[.pointer (some ⟨q, 0, none⟩)] rfl rfl rfl (by go_simp) ((pq_len (FP.out _ BV.out)).mono ?_) AllReadyH.nil)
              rintro e v4 ⟨rfl, hb⟩
              have BV := Lib.hid (BV.out.trans (hb.mono BV.out.size))
              clear hb
              refine ⟨_, rfl, BV.out, fun _ => ?_⟩
              simp only [Act.put, List.setIfInBounds_toArray, List.set_cons_zero, List.set_cons_succ]
              refine wpAnyH_ready (rs := [20]) (by kernel_rfl) (by simp) (br_call (i := 20) 149 26 #[.agg #[.int .i64 (((f + k) : Nat) : Int), .slice sz ((M - k) + 1) cz, .int .i64 most]] rfl rfl rfl (by go_simp) ((pq_rlen (FP.out _ BV.out) ⟨by have := NB.out.1; omega, by have := NB.out.1; omega⟩ (by have := NB.out.2.2; omega)).mono ?_) AllReadyH.nil)
              rintro e v5 ⟨rfl, hb⟩
              have BV := Lib.hid (BV.out.trans (hb.mono BV.out.size))
              clear hb
              refine ⟨_, rfl, BV.out, fun _ => ?_⟩
              simp only [Act.put, List.setIfInBounds_toArray, List.set_cons_zero, List.set_cons_succ]
              refine take_at (i := 21) 150 ?_ rfl rfl (by kernel_rfl) (by kernel_rfl) (by kernel_rfl) (fun _ _ _ h => h) (.inl ⟨rfl, ?_⟩) BV.out ?_
              rotate_left 1
              · intro w hSw; go_simp; try with_reducible rfl
              simp only [Act.put, List.setIfInBounds_toArray, List.set_cons_zero, List.set_cons_succ]
              refine take_at (i := 22) 151 ?_ rfl rfl (by kernel_rfl) (by kernel_rfl) (by kernel_rfl) (fun _ _ _ h => h) (.inl ⟨rfl, ?_⟩) BV.out ?_
              rotate_left 1
              · intro w hSw; go_simp; try with_reducible rfl
              simp only [Act.put, List.setIfInBounds_toArray, List.set_cons_zero, List.set_cons_succ]
              refine take_at (i := 23) 152 ?_ rfl rfl (by kernel_rfl) (by kernel_rfl) (by kernel_rfl) (fun _ _ _ h => h) (.inl ⟨rfl, ?_⟩) BV.out ?_
              rotate_left 1
              · intro w hSw; go_simp; try with_reducible rfl
              simp only [Act.put, List.setIfInBounds_toArray, List.set_cons_zero, List.set_cons_succ]
              refine take_at (i := 24) 153 ?_ rfl rfl (by kernel_rfl) (by kernel_rfl) (by kernel_rfl) (fun _ _ _ h => h) (.inl ⟨rfl, ?_⟩) BV.out ?_
              rotate_left 1
              · intro w hSw; go_simp; try with_reducible rfl
              simp only [Act.put, List.setIfInBounds_toArray, List.set_cons_zero, List.set_cons_succ]
              refine take_at (i := 26) 155 (.agg #[.int .i64 (((f + k) : Nat) : Int), .slice sz ((M - k) + 1) cz, .int .i64 most]) rfl rfl (by kernel_rfl) (by kernel_rfl) (by kernel_rfl) (fun _ _ _ h => h) (yields_ld (.tmp 10) 37 (.pointer (some ⟨bx, 0, none⟩)) _ LD.out rfl rfl rfl) BV.out ?_
              simp only [Act.put, List.setIfInBounds_toArray, List.set_cons_zero, List.set_cons_succ]
              refine wpAnyH_ready (rs := [25]) (by kernel_rfl) (by simp) (br_call (i := 25) 154 27 #[pv d] rfl rfl rfl (by go_simp) ((pq_used (FP.out _ BV.out)).mono ?_) AllReadyH.nil)
              rintro e v6 ⟨rfl, hb⟩
              have BV := Lib.hid (BV.out.trans (hb.mono BV.out.size))
              clear hb
              refine ⟨_, rfl, BV.out, fun _ => ?_⟩
              simp only [Act.put, List.setIfInBounds_toArray, List.set_cons_zero, List.set_cons_succ]
              refine wpAnyH_ready (rs := [27]) (by kernel_rfl) (by simp) (br_call (i := 27) 156 28 #[.agg #[.int .i64 (((f + k) : Nat) : Int), .slice sz ((M - k) + 1) cz, .int .i64 most]] rfl rfl rfl (by go_simp) ((pq_rused (FP.out _ BV.out) IZ.out (by have := NB.out.1; omega) (by have := NB.out.2.1; omega)).mono ?_) AllReadyH.nil)
              rintro e v7 ⟨rfl, hb⟩
              have BV := Lib.hid (BV.out.trans (hb.mono BV.out.size))
              clear hb
              refine ⟨_, rfl, BV.out, fun _ => ?_⟩
              simp only [Act.put, List.setIfInBounds_toArray, List.set_cons_zero, List.set_cons_succ]
              refine take_at (i := 28) 157 ?_ rfl rfl (by kernel_rfl) (by kernel_rfl) (by kernel_rfl) (fun _ _ _ h => h) (.inl ⟨rfl, ?_⟩) BV.out ?_
              rotate_left 1
              · intro w hSw; go_simp; try with_reducible rfl
              simp only [Act.put, List.setIfInBounds_toArray, List.set_cons_zero, List.set_cons_succ]
              refine take_at (i := 29) 158 ?_ rfl rfl (by kernel_rfl) (by kernel_rfl) (by kernel_rfl) (fun _ _ _ h => h) (.inl ⟨rfl, ?_⟩) BV.out ?_
              rotate_left 1
              · intro w hSw; go_simp; try with_reducible rfl
              simp only [Act.put, List.setIfInBounds_toArray, List.set_cons_zero, List.set_cons_succ]
              refine take_at (i := 30) 159 ?_ rfl rfl (by kernel_rfl) (by kernel_rfl) (by kernel_rfl) (fun _ _ _ h => h) (.inl ⟨rfl, ?_⟩) BV.out ?_
              rotate_left 1
              · intro w hSw; go_simp; try with_reducible rfl
              simp only [Act.put, List.setIfInBounds_toArray, List.set_cons_zero, List.set_cons_succ]
              refine take_at (i := 31) 160 ?_ rfl rfl (by kernel_rfl) (by kernel_rfl) (by kernel_rfl) (fun _ _ _ h => h) (.inl ⟨rfl, ?_⟩) BV.out ?_
              rotate_left 1
              · intro w hSw; go_simp; try with_reducible rfl
              simp only [Act.put, List.setIfInBounds_toArray, List.set_cons_zero, List.set_cons_succ]
              refine take_at (i := 34) 163 ?_ rfl rfl (by kernel_rfl) (by kernel_rfl) (by kernel_rfl) (fun _ _ _ h => h) (.inl ⟨rfl, ?_⟩) BV.out ?_
              rotate_left 1
              · intro w hSw; go_simp; try with_reducible rfl
              simp only [Act.put, List.setIfInBounds_toArray, List.set_cons_zero, List.set_cons_succ]
              refine take_at (i := 35) 164 (.slice sz ((M - k) + 1) cz) rfl rfl (by kernel_rfl) (by kernel_rfl) (by kernel_rfl) (fun _ _ _ h => h) (yields_ld (.tmp 163) 35 (.pointer (some ⟨bx, 1, none⟩)) _ LD1.out rfl rfl rfl) BV.out ?_
              simp only [Act.put, List.setIfInBounds_toArray, List.set_cons_zero, List.set_cons_succ]
              refine take_at (i := 36) 165 ?_ rfl rfl (by kernel_rfl) (by kernel_rfl) (by kernel_rfl) (fun _ _ _ h => h) (.inl ⟨rfl, ?_⟩) BV.out ?_
              rotate_left 1
              · intro w hSw; go_simp; try with_reducible rfl
              simp only [Act.put, List.setIfInBounds_toArray, List.set_cons_zero, List.set_cons_succ]
              refine wpAnyH_ready (rs := [32]) (by kernel_rfl) (by simp) (br_call (i := 32) 161 12 #[pv d] rfl rfl rfl (by go_simp) ((pq_names (FP.out _ BV.out) (by have := NB.out.1; omega)).mono ?_) AllReadyH.nil)
              rintro e v8 ⟨⟨na, nc, rfl⟩, hb⟩
              have BV := Lib.hid (BV.out.trans (hb.mono BV.out.size))
              clear hb
              refine ⟨_, rfl, BV.out, fun _ => ?_⟩
              simp only [Act.put, List.setIfInBounds_toArray, List.set_cons_zero, List.set_cons_succ]
              refine take_at (i := 33) 162 ?_ rfl rfl (by kernel_rfl) (by kernel_rfl) (by kernel_rfl) (fun _ _ _ h => h) (.inl ⟨rfl, ?_⟩) BV.out ?_
              rotate_left 1
              · intro w hSw; go_simp; try with_reducible rfl
              simp only [Act.put, List.setIfInBounds_toArray, List.set_cons_zero, List.set_cons_succ]
              refine take_at (i := 37) 166 ?_ rfl rfl (by kernel_rfl) (by kernel_rfl) (by kernel_rfl) (fun _ _ _ h => h) (.inl ⟨rfl, ?_⟩) BV.out ?_
              rotate_left 1
              · intro w hSw; go_simp; try with_reducible rfl
              simp only [Act.put, List.setIfInBounds_toArray, List.set_cons_zero, List.set_cons_succ]
              refine take_at (i := 38) 167 ?_ rfl rfl (by kernel_rfl) (by kernel_rfl) (by kernel_rfl) (fun _ _ _ h => h) (.inl ⟨rfl, ?_⟩) BV.out ?_
              rotate_left 1
              · intro w hSw; go_simp; try with_reducible rfl
              simp only [Act.put, List.setIfInBounds_toArray, List.set_cons_zero, List.set_cons_succ]
              refine wpAnyH_done (by kernel_rfl) ?_ _
              have PE := Lib.hid (FP.out _ BV.out)
              clear FP LD LD0 LD1 BV PZ
              go_wp2
              go_roundw
              case rel => exact ⟨q, i + 1, s', (f + k), (M - k), gs, _, _, by first | rfl | trivial, by go_num, by have := HI2.out; omega, by have := HI2.out; omega, Lib.hid ⟨PE.out, IZ.out⟩⟩
              case measure => simp [intOf]; have := HI2.out; omega
            · have JO := Lib.hid (jopen w6 d d s most f M gs P2.out.js.jk.dk (by have := P2.out.js.jk.size; exact this) P2.out.js.sg HM.out II.out.f1 (by have := FB.out.2.1; omega) (fun b hb => ⟨(II.out.byt b hb).1, by have := (II.out.byt b hb).2; omega⟩) (by have := II.out.us; have := FB.out.1; omega))
              go_wp2_with fail
              refine JO.out.mono ?_
              rintro e w7 ⟨q7, sv7, rfl, hq, hj, hsy, hfar⟩
              have P7 := Lib.hid (P2.out.far hj ((Far.refl (Lh d s q) w6).trans hfar (fun _ _ e => .inl e)))
              have SY := Lib.hid hsy
              have RA := Lib.hid (rall_any w w7 (f : Int) most (.slice sa (M + 1) sc) ss (Sx gs f M) P7.out.rl (by rw [Sx_len]; have := FB.out.2.1; omega) (by rw [Sx_flat]; have := len_cat (allP gs f M); have := II.out.us; have := FB.out.1; omega))
              rw [Sx_flat] at RA
              obtain ⟨z0, z1, z2⟩ := P7.out.cells
              clear x0 x1 x2 A2 P2 hj hfar hsy hq JO
              go_wp2_with fail
              refine RA.out.mono ?_
              rintro e w8 ⟨sv8, rfl, hs8, hb8⟩
              have P8 := Lib.hid (P7.out.step hb8)
              have SM := Lib.hid (same_says w8 _ _ _ _ _ (SY.out.step hb8) hs8 (by have := len_cat (allP gs f M); have := II.out.us; have := FB.out.1; omega))
              clear hs8 hb8 RA z0 z1 z2 SY P7
              go_wp2_with fail
              refine SM.out.mono ?_
              rintro e WZ ⟨rfl, hbz⟩
              have PZ := Lib.hid (P8.out.step hbz)
              have IZ := Lib.hid II.out.up
              obtain ⟨sz, hsz⟩ : ∃ z, sa = z := ⟨_, rfl⟩
              obtain ⟨cz, hcz⟩ : ∃ z, sc = z := ⟨_, rfl⟩
              rw [hsz, hcz] at PZ
              clear hbz SM P8 hsz hcz
              go_upto_region 31 with (fail)
              have NB := Lib.hid (show (f) + (M) ≤ 61 ∧ usedF (s).l ≤ 68 * 60 ∧ (cat ((gs) ((f) + (M)))).length ≤ 68 * 60 from by
                have h1 := IZ.out.tot
                have h2 := IZ.out.fM
                have h3 := part_len (gs) (f) (M)
                have h4 := IZ.out.us
                have h5 := HI2.out.2
                exact ⟨by omega, by omega, by omega⟩)
              have FP := Lib.hid (fun W (hb : Below WZ.heap.size WZ W) => PZ.out.step hb)
              have LD := Lib.hid (fun W (hb : Below WZ.heap.size WZ W) => ld37 (PZ.out.step hb).bo)
              have LD0 := Lib.hid (fun W (hb : Below WZ.heap.size WZ W) => ldI3 (PZ.out.step hb).cells.1)
              have LD1 := Lib.hid (fun W (hb : Below WZ.heap.size WZ W) => ldV35 (PZ.out.step hb).cells.2.1)
              refine wp_region_held_drew (S := fun w' => Below WZ.heap.size WZ w') (by kernel_rfl) (Below.refl _ _).drew (fun hHeld => ?_)
              have BV := Lib.hid (show Below WZ.heap.size WZ WZ.drew from (Below.refl _ _).drew)
              clear hHeld
              refine take_at (i := 0) 129 ?_ rfl rfl (by kernel_rfl) (by kernel_rfl) (by kernel_rfl) (fun _ _ _ h => h) (.inl ⟨rfl, ?_⟩) BV.out ?_
              rotate_left 1
              · intro w hSw; go_simp; try with_reducible rfl
              simp only [Act.put, List.setIfInBounds_toArray, List.set_cons_zero, List.set_cons_succ]
              refine take_at (i := 1) 130 ?_ rfl rfl (by kernel_rfl) (by kernel_rfl) (by kernel_rfl) (fun _ _ _ h => h) (.inl ⟨rfl, ?_⟩) BV.out ?_
              rotate_left 1
              · intro w hSw; go_simp; try with_reducible rfl
              simp only [Act.put, List.setIfInBounds_toArray, List.set_cons_zero, List.set_cons_succ]
              refine take_at (i := 2) 131 ?_ rfl rfl (by kernel_rfl) (by kernel_rfl) (by kernel_rfl) (fun _ _ _ h => h) (.inl ⟨rfl, ?_⟩) BV.out ?_
              rotate_left 1
              · intro w hSw; go_simp; try with_reducible rfl
              simp only [Act.put, List.setIfInBounds_toArray, List.set_cons_zero, List.set_cons_succ]
              refine take_at (i := 3) 132 ?_ rfl rfl (by kernel_rfl) (by kernel_rfl) (by kernel_rfl) (fun _ _ _ h => h) (.inl ⟨rfl, ?_⟩) BV.out ?_
              rotate_left 1
              · intro w hSw; go_simp; try with_reducible rfl
              simp only [Act.put, List.setIfInBounds_toArray, List.set_cons_zero, List.set_cons_succ]
              refine take_at (i := 5) 134 ?_ rfl rfl (by kernel_rfl) (by kernel_rfl) (by kernel_rfl) (fun _ _ _ h => h) (.inl ⟨rfl, ?_⟩) BV.out ?_
              rotate_left 1
              · intro w hSw; go_simp; try with_reducible rfl
              simp only [Act.put, List.setIfInBounds_toArray, List.set_cons_zero, List.set_cons_succ]
              refine take_at (i := 6) 135 (.int .i64 ((f : Nat) : Int)) rfl rfl (by kernel_rfl) (by kernel_rfl) (by kernel_rfl) (fun _ _ _ h => h) (yields_ld (.tmp 134) 3 (.pointer (some ⟨bx, 0, none⟩)) _ LD0.out rfl rfl rfl) BV.out ?_
              simp only [Act.put, List.setIfInBounds_toArray, List.set_cons_zero, List.set_cons_succ]
              refine wpAnyH_ready (rs := [4]) (by kernel_rfl) (by simp) (br_call (i := 4) 133 22 #[.pointer (some ⟨q7, 0, none⟩)] rfl rfl rfl (by go_simp) ((pq_first (FP.out _ BV.out)).mono ?_) AllReadyH.nil)
              rintro e v1 ⟨rfl, hb⟩
              have BV := Lib.hid (BV.out.trans (hb.mono BV.out.size))
              clear hb
              refine ⟨_, rfl, BV.out, fun _ => ?_⟩
              simp only [Act.put, List.setIfInBounds_toArray, List.set_cons_zero, List.set_cons_succ]
              refine take_at (i := 7) 136 ?_ rfl rfl (by kernel_rfl) (by kernel_rfl) (by kernel_rfl) (fun _ _ _ h => h) (.inl ⟨rfl, ?_⟩) BV.out ?_
              rotate_left 1
              · intro w hSw; go_simp; try with_reducible rfl
              simp only [Act.put, List.setIfInBounds_toArray, List.set_cons_zero, List.set_cons_succ]
              refine take_at (i := 8) 137 ?_ rfl rfl (by kernel_rfl) (by kernel_rfl) (by kernel_rfl) (fun _ _ _ h => h) (.inl ⟨rfl, ?_⟩) BV.out ?_
              rotate_left 1
              · intro w hSw; go_simp; try with_reducible rfl
              simp only [Act.put, List.setIfInBounds_toArray, List.set_cons_zero, List.set_cons_succ]
              refine take_at (i := 9) 138 ?_ rfl rfl (by kernel_rfl) (by kernel_rfl) (by kernel_rfl) (fun _ _ _ h => h) (.inl ⟨rfl, ?_⟩) BV.out ?_
              rotate_left 1
              · intro w hSw; go_simp; try with_reducible rfl
              simp only [Act.put, List.setIfInBounds_toArray, List.set_cons_zero, List.set_cons_succ]
              refine take_at (i := 10) 139 ?_ rfl rfl (by kernel_rfl) (by kernel_rfl) (by kernel_rfl) (fun _ _ _ h => h) (.inl ⟨rfl, ?_⟩) BV.out ?_
              rotate_left 1
              · intro w hSw; go_simp; try with_reducible rfl
              simp only [Act.put, List.setIfInBounds_toArray, List.set_cons_zero, List.set_cons_succ]
              refine take_at (i := 12) 141 (.agg #[.int .i64 ((f : Nat) : Int), .slice sz (M + 1) cz, .int .i64 most]) rfl rfl (by kernel_rfl) (by kernel_rfl) (by kernel_rfl) (fun _ _ _ h => h) (yields_ld (.tmp 10) 37 (.pointer (some ⟨bx, 0, none⟩)) _ LD.out rfl rfl rfl) BV.out ?_
              simp only [Act.put, List.setIfInBounds_toArray, List.set_cons_zero, List.set_cons_succ]
              refine wpAnyH_ready (rs := [11]) (by kernel_rfl) (by simp) (br_call (i := 11) 140 23 #[.pointer (some ⟨q7, 0, none⟩)] rfl rfl rfl (by go_simp) ((pq_last (FP.out _ BV.out)).mono ?_) AllReadyH.nil)
              rintro e v2 ⟨rfl, hb⟩
              have BV := Lib.hid (BV.out.trans (hb.mono BV.out.size))
              clear hb
              refine ⟨_, rfl, BV.out, fun _ => ?_⟩
              simp only [Act.put, List.setIfInBounds_toArray, List.set_cons_zero, List.set_cons_succ]
              refine wpAnyH_ready (rs := [13]) (by kernel_rfl) (by simp) (br_call (i := 13) 142 24 #[.agg #[.int .i64 ((f : Nat) : Int), .slice sz (M + 1) cz, .int .i64 most]] rfl rfl rfl (by go_simp) ((pq_rlast (FP.out _ BV.out) ⟨by have := NB.out.1; omega, by have := NB.out.1; omega⟩).mono ?_) AllReadyH.nil)
              rintro e v3 ⟨rfl, hb⟩
              have BV := Lib.hid (BV.out.trans (hb.mono BV.out.size))
              clear hb
              refine ⟨_, rfl, BV.out, fun _ => ?_⟩
              simp only [Act.put, List.setIfInBounds_toArray, List.set_cons_zero, List.set_cons_succ]
              refine take_at (i := 14) 143 ?_ rfl rfl (by kernel_rfl) (by kernel_rfl) (by kernel_rfl) (fun _ _ _ h => h) (.inl ⟨rfl, ?_⟩) BV.out ?_
              rotate_left 1
              · intro w hSw; go_simp; try with_reducible rfl
              simp only [Act.put, List.setIfInBounds_toArray, List.set_cons_zero, List.set_cons_succ]
              refine take_at (i := 15) 144 ?_ rfl rfl (by kernel_rfl) (by kernel_rfl) (by kernel_rfl) (fun _ _ _ h => h) (.inl ⟨rfl, ?_⟩) BV.out ?_
              rotate_left 1
              · intro w hSw; go_simp; try with_reducible rfl
              simp only [Act.put, List.setIfInBounds_toArray, List.set_cons_zero, List.set_cons_succ]
              refine take_at (i := 16) 145 ?_ rfl rfl (by kernel_rfl) (by kernel_rfl) (by kernel_rfl) (fun _ _ _ h => h) (.inl ⟨rfl, ?_⟩) BV.out ?_
              rotate_left 1
              · intro w hSw; go_simp; try with_reducible rfl
              simp only [Act.put, List.setIfInBounds_toArray, List.set_cons_zero, List.set_cons_succ]
              refine take_at (i := 17) 146 ?_ rfl rfl (by kernel_rfl) (by kernel_rfl) (by kernel_rfl) (fun _ _ _ h => h) (.inl ⟨rfl, ?_⟩) BV.out ?_
              rotate_left 1
              · intro w hSw; go_simp; try with_reducible rfl
              simp only [Act.put, List.setIfInBounds_toArray, List.set_cons_zero, List.set_cons_succ]
              refine take_at (i := 19) 148 (.agg #[.int .i64 ((f : Nat) : Int), .slice sz (M + 1) cz, .int .i64 most]) rfl rfl (by kernel_rfl) (by kernel_rfl) (by kernel_rfl) (fun _ _ _ h => h) (yields_ld (.tmp 10) 37 (.pointer (some ⟨bx, 0, none⟩)) _ LD.out rfl rfl rfl) BV.out ?_
              simp only [Act.put, List.setIfInBounds_toArray, List.set_cons_zero, List.set_cons_succ]
              refine wpAnyH_ready (rs := [18]) (by kernel_rfl) (by simp) (br_call (i := 18) 147 25 #[.pointer (some ⟨q7, 0, none⟩)] rfl rfl rfl (by go_simp) ((pq_len (FP.out _ BV.out)).mono ?_) AllReadyH.nil)
              rintro e v4 ⟨rfl, hb⟩
              have BV := Lib.hid (BV.out.trans (hb.mono BV.out.size))
              clear hb
              refine ⟨_, rfl, BV.out, fun _ => ?_⟩
              simp only [Act.put, List.setIfInBounds_toArray, List.set_cons_zero, List.set_cons_succ]
              refine wpAnyH_ready (rs := [20]) (by kernel_rfl) (by simp) (br_call (i := 20) 149 26 #[.agg #[.int .i64 ((f : Nat) : Int), .slice sz (M + 1) cz, .int .i64 most]] rfl rfl rfl (by go_simp) ((pq_rlen (FP.out _ BV.out) ⟨by have := NB.out.1; omega, by have := NB.out.1; omega⟩ (by have := NB.out.2.2; omega)).mono ?_) AllReadyH.nil)
              rintro e v5 ⟨rfl, hb⟩
              have BV := Lib.hid (BV.out.trans (hb.mono BV.out.size))
              clear hb
              refine ⟨_, rfl, BV.out, fun _ => ?_⟩
              simp only [Act.put, List.setIfInBounds_toArray, List.set_cons_zero, List.set_cons_succ]
              refine take_at (i := 21) 150 ?_ rfl rfl (by kernel_rfl) (by kernel_rfl) (by kernel_rfl) (fun _ _ _ h => h) (.inl ⟨rfl, ?_⟩) BV.out ?_
              rotate_left 1
              · intro w hSw; go_simp; try with_reducible rfl
              simp only [Act.put, List.setIfInBounds_toArray, List.set_cons_zero, List.set_cons_succ]
              refine take_at (i := 22) 151 ?_ rfl rfl (by kernel_rfl) (by kernel_rfl) (by kernel_rfl) (fun _ _ _ h => h) (.inl ⟨rfl, ?_⟩) BV.out ?_
              rotate_left 1
              · intro w hSw; go_simp; try with_reducible rfl
              simp only [Act.put, List.setIfInBounds_toArray, List.set_cons_zero, List.set_cons_succ]
              refine take_at (i := 23) 152 ?_ rfl rfl (by kernel_rfl) (by kernel_rfl) (by kernel_rfl) (fun _ _ _ h => h) (.inl ⟨rfl, ?_⟩) BV.out ?_
              rotate_left 1
              · intro w hSw; go_simp; try with_reducible rfl
              simp only [Act.put, List.setIfInBounds_toArray, List.set_cons_zero, List.set_cons_succ]
              refine take_at (i := 24) 153 ?_ rfl rfl (by kernel_rfl) (by kernel_rfl) (by kernel_rfl) (fun _ _ _ h => h) (.inl ⟨rfl, ?_⟩) BV.out ?_
              rotate_left 1
              · intro w hSw; go_simp; try with_reducible rfl
              simp only [Act.put, List.setIfInBounds_toArray, List.set_cons_zero, List.set_cons_succ]
              refine take_at (i := 26) 155 (.agg #[.int .i64 ((f : Nat) : Int), .slice sz (M + 1) cz, .int .i64 most]) rfl rfl (by kernel_rfl) (by kernel_rfl) (by kernel_rfl) (fun _ _ _ h => h) (yields_ld (.tmp 10) 37 (.pointer (some ⟨bx, 0, none⟩)) _ LD.out rfl rfl rfl) BV.out ?_
              simp only [Act.put, List.setIfInBounds_toArray, List.set_cons_zero, List.set_cons_succ]
              refine wpAnyH_ready (rs := [25]) (by kernel_rfl) (by simp) (br_call (i := 25) 154 27 #[pv d] rfl rfl rfl (by go_simp) ((pq_used (FP.out _ BV.out)).mono ?_) AllReadyH.nil)
              rintro e v6 ⟨rfl, hb⟩
              have BV := Lib.hid (BV.out.trans (hb.mono BV.out.size))
              clear hb
              refine ⟨_, rfl, BV.out, fun _ => ?_⟩
              simp only [Act.put, List.setIfInBounds_toArray, List.set_cons_zero, List.set_cons_succ]
              refine wpAnyH_ready (rs := [27]) (by kernel_rfl) (by simp) (br_call (i := 27) 156 28 #[.agg #[.int .i64 ((f : Nat) : Int), .slice sz (M + 1) cz, .int .i64 most]] rfl rfl rfl (by go_simp) ((pq_rused (FP.out _ BV.out) IZ.out (by have := NB.out.1; omega) (by have := NB.out.2.1; omega)).mono ?_) AllReadyH.nil)
              rintro e v7 ⟨rfl, hb⟩
              have BV := Lib.hid (BV.out.trans (hb.mono BV.out.size))
              clear hb
              refine ⟨_, rfl, BV.out, fun _ => ?_⟩
              simp only [Act.put, List.setIfInBounds_toArray, List.set_cons_zero, List.set_cons_succ]
              refine take_at (i := 28) 157 ?_ rfl rfl (by kernel_rfl) (by kernel_rfl) (by kernel_rfl) (fun _ _ _ h => h) (.inl ⟨rfl, ?_⟩) BV.out ?_
              rotate_left 1
              · intro w hSw; go_simp; try with_reducible rfl
              simp only [Act.put, List.setIfInBounds_toArray, List.set_cons_zero, List.set_cons_succ]
              refine take_at (i := 29) 158 ?_ rfl rfl (by kernel_rfl) (by kernel_rfl) (by kernel_rfl) (fun _ _ _ h => h) (.inl ⟨rfl, ?_⟩) BV.out ?_
              rotate_left 1
              · intro w hSw; go_simp; try with_reducible rfl
              simp only [Act.put, List.setIfInBounds_toArray, List.set_cons_zero, List.set_cons_succ]
              refine take_at (i := 30) 159 ?_ rfl rfl (by kernel_rfl) (by kernel_rfl) (by kernel_rfl) (fun _ _ _ h => h) (.inl ⟨rfl, ?_⟩) BV.out ?_
              rotate_left 1
              · intro w hSw; go_simp; try with_reducible rfl
              simp only [Act.put, List.setIfInBounds_toArray, List.set_cons_zero, List.set_cons_succ]
              refine take_at (i := 31) 160 ?_ rfl rfl (by kernel_rfl) (by kernel_rfl) (by kernel_rfl) (fun _ _ _ h => h) (.inl ⟨rfl, ?_⟩) BV.out ?_
              rotate_left 1
              · intro w hSw; go_simp; try with_reducible rfl
              simp only [Act.put, List.setIfInBounds_toArray, List.set_cons_zero, List.set_cons_succ]
              refine take_at (i := 34) 163 ?_ rfl rfl (by kernel_rfl) (by kernel_rfl) (by kernel_rfl) (fun _ _ _ h => h) (.inl ⟨rfl, ?_⟩) BV.out ?_
              rotate_left 1
              · intro w hSw; go_simp; try with_reducible rfl
              simp only [Act.put, List.setIfInBounds_toArray, List.set_cons_zero, List.set_cons_succ]
              refine take_at (i := 35) 164 (.slice sz (M + 1) cz) rfl rfl (by kernel_rfl) (by kernel_rfl) (by kernel_rfl) (fun _ _ _ h => h) (yields_ld (.tmp 163) 35 (.pointer (some ⟨bx, 1, none⟩)) _ LD1.out rfl rfl rfl) BV.out ?_
              simp only [Act.put, List.setIfInBounds_toArray, List.set_cons_zero, List.set_cons_succ]
              refine take_at (i := 36) 165 ?_ rfl rfl (by kernel_rfl) (by kernel_rfl) (by kernel_rfl) (fun _ _ _ h => h) (.inl ⟨rfl, ?_⟩) BV.out ?_
              rotate_left 1
              · intro w hSw; go_simp; try with_reducible rfl
              simp only [Act.put, List.setIfInBounds_toArray, List.set_cons_zero, List.set_cons_succ]
              refine wpAnyH_ready (rs := [32]) (by kernel_rfl) (by simp) (br_call (i := 32) 161 12 #[pv d] rfl rfl rfl (by go_simp) ((pq_names (FP.out _ BV.out) (by have := NB.out.1; omega)).mono ?_) AllReadyH.nil)
              rintro e v8 ⟨⟨na, nc, rfl⟩, hb⟩
              have BV := Lib.hid (BV.out.trans (hb.mono BV.out.size))
              clear hb
              refine ⟨_, rfl, BV.out, fun _ => ?_⟩
              simp only [Act.put, List.setIfInBounds_toArray, List.set_cons_zero, List.set_cons_succ]
              refine take_at (i := 33) 162 ?_ rfl rfl (by kernel_rfl) (by kernel_rfl) (by kernel_rfl) (fun _ _ _ h => h) (.inl ⟨rfl, ?_⟩) BV.out ?_
              rotate_left 1
              · intro w hSw; go_simp; try with_reducible rfl
              simp only [Act.put, List.setIfInBounds_toArray, List.set_cons_zero, List.set_cons_succ]
              refine take_at (i := 37) 166 ?_ rfl rfl (by kernel_rfl) (by kernel_rfl) (by kernel_rfl) (fun _ _ _ h => h) (.inl ⟨rfl, ?_⟩) BV.out ?_
              rotate_left 1
              · intro w hSw; go_simp; try with_reducible rfl
              simp only [Act.put, List.setIfInBounds_toArray, List.set_cons_zero, List.set_cons_succ]
              refine take_at (i := 38) 167 ?_ rfl rfl (by kernel_rfl) (by kernel_rfl) (by kernel_rfl) (fun _ _ _ h => h) (.inl ⟨rfl, ?_⟩) BV.out ?_
              rotate_left 1
              · intro w hSw; go_simp; try with_reducible rfl
              simp only [Act.put, List.setIfInBounds_toArray, List.set_cons_zero, List.set_cons_succ]
              refine wpAnyH_done (by kernel_rfl) ?_ _
              have PE := Lib.hid (FP.out _ BV.out)
              clear FP LD LD0 LD1 BV PZ
              go_wp2
              go_roundw
              case rel => exact ⟨q7, i + 1, s, f, M, gs, _, _, by first | rfl | trivial, by go_num, by have := HI2.out; omega, by have := HI2.out; omega, Lib.hid ⟨PE.out, IZ.out⟩⟩
              case measure => simp [intOf]; have := HI2.out; omega
            · have IZ := Lib.hid II.out.up
              obtain ⟨sz, hsz⟩ : ∃ z, sa = z := ⟨_, rfl⟩
              obtain ⟨cz, hcz⟩ : ∃ z, sc = z := ⟨_, rfl⟩
              rw [hsz, hcz] at P2
              have PZ := P2
              clear hsz hcz P2 A2
              obtain ⟨WZ, hWZ⟩ : ∃ z, w6 = z := ⟨_, rfl⟩
              subst hWZ
              go_upto_region 31 with (fail)
              have NB := Lib.hid (show (f) + (M) ≤ 61 ∧ usedF (s).l ≤ 68 * 60 ∧ (cat ((gs) ((f) + (M)))).length ≤ 68 * 60 from by
                have h1 := IZ.out.tot
                have h2 := IZ.out.fM
                have h3 := part_len (gs) (f) (M)
                have h4 := IZ.out.us
                have h5 := HI2.out.2
                exact ⟨by omega, by omega, by omega⟩)
              have FP := Lib.hid (fun W (hb : Below w6.heap.size w6 W) => PZ.out.step hb)
              have LD := Lib.hid (fun W (hb : Below w6.heap.size w6 W) => ld37 (PZ.out.step hb).bo)
              have LD0 := Lib.hid (fun W (hb : Below w6.heap.size w6 W) => ldI3 (PZ.out.step hb).cells.1)
              have LD1 := Lib.hid (fun W (hb : Below w6.heap.size w6 W) => ldV35 (PZ.out.step hb).cells.2.1)
              refine wp_region_held_drew (S := fun w' => Below w6.heap.size w6 w') (by kernel_rfl) (Below.refl _ _).drew (fun hHeld => ?_)
              have BV := Lib.hid (show Below w6.heap.size w6 w6.drew from (Below.refl _ _).drew)
              clear hHeld
              refine take_at (i := 0) 129 ?_ rfl rfl (by kernel_rfl) (by kernel_rfl) (by kernel_rfl) (fun _ _ _ h => h) (.inl ⟨rfl, ?_⟩) BV.out ?_
              rotate_left 1
              · intro w hSw; go_simp; try with_reducible rfl
              simp only [Act.put, List.setIfInBounds_toArray, List.set_cons_zero, List.set_cons_succ]
              refine take_at (i := 1) 130 ?_ rfl rfl (by kernel_rfl) (by kernel_rfl) (by kernel_rfl) (fun _ _ _ h => h) (.inl ⟨rfl, ?_⟩) BV.out ?_
              rotate_left 1
              · intro w hSw; go_simp; try with_reducible rfl
              simp only [Act.put, List.setIfInBounds_toArray, List.set_cons_zero, List.set_cons_succ]
              refine take_at (i := 2) 131 ?_ rfl rfl (by kernel_rfl) (by kernel_rfl) (by kernel_rfl) (fun _ _ _ h => h) (.inl ⟨rfl, ?_⟩) BV.out ?_
              rotate_left 1
              · intro w hSw; go_simp; try with_reducible rfl
              simp only [Act.put, List.setIfInBounds_toArray, List.set_cons_zero, List.set_cons_succ]
              refine take_at (i := 3) 132 ?_ rfl rfl (by kernel_rfl) (by kernel_rfl) (by kernel_rfl) (fun _ _ _ h => h) (.inl ⟨rfl, ?_⟩) BV.out ?_
              rotate_left 1
              · intro w hSw; go_simp; try with_reducible rfl
              simp only [Act.put, List.setIfInBounds_toArray, List.set_cons_zero, List.set_cons_succ]
              refine take_at (i := 5) 134 ?_ rfl rfl (by kernel_rfl) (by kernel_rfl) (by kernel_rfl) (fun _ _ _ h => h) (.inl ⟨rfl, ?_⟩) BV.out ?_
              rotate_left 1
              · intro w hSw; go_simp; try with_reducible rfl
              simp only [Act.put, List.setIfInBounds_toArray, List.set_cons_zero, List.set_cons_succ]
              refine take_at (i := 6) 135 (.int .i64 ((f : Nat) : Int)) rfl rfl (by kernel_rfl) (by kernel_rfl) (by kernel_rfl) (fun _ _ _ h => h) (yields_ld (.tmp 134) 3 (.pointer (some ⟨bx, 0, none⟩)) _ LD0.out rfl rfl rfl) BV.out ?_
              simp only [Act.put, List.setIfInBounds_toArray, List.set_cons_zero, List.set_cons_succ]
              refine wpAnyH_ready (rs := [4]) (by kernel_rfl) (by simp) (br_call (i := 4) 133 22 #[.pointer (some ⟨q, 0, none⟩)] rfl rfl rfl (by go_simp) ((pq_first (FP.out _ BV.out)).mono ?_) AllReadyH.nil)
              rintro e v1 ⟨rfl, hb⟩
              have BV := Lib.hid (BV.out.trans (hb.mono BV.out.size))
              clear hb
              refine ⟨_, rfl, BV.out, fun _ => ?_⟩
              simp only [Act.put, List.setIfInBounds_toArray, List.set_cons_zero, List.set_cons_succ]
              refine take_at (i := 7) 136 ?_ rfl rfl (by kernel_rfl) (by kernel_rfl) (by kernel_rfl) (fun _ _ _ h => h) (.inl ⟨rfl, ?_⟩) BV.out ?_
              rotate_left 1
              · intro w hSw; go_simp; try with_reducible rfl
              simp only [Act.put, List.setIfInBounds_toArray, List.set_cons_zero, List.set_cons_succ]
              refine take_at (i := 8) 137 ?_ rfl rfl (by kernel_rfl) (by kernel_rfl) (by kernel_rfl) (fun _ _ _ h => h) (.inl ⟨rfl, ?_⟩) BV.out ?_
              rotate_left 1
              · intro w hSw; go_simp; try with_reducible rfl
              simp only [Act.put, List.setIfInBounds_toArray, List.set_cons_zero, List.set_cons_succ]
              refine take_at (i := 9) 138 ?_ rfl rfl (by kernel_rfl) (by kernel_rfl) (by kernel_rfl) (fun _ _ _ h => h) (.inl ⟨rfl, ?_⟩) BV.out ?_
              rotate_left 1
              · intro w hSw; go_simp; try with_reducible rfl
              simp only [Act.put, List.setIfInBounds_toArray, List.set_cons_zero, List.set_cons_succ]
              refine take_at (i := 10) 139 ?_ rfl rfl (by kernel_rfl) (by kernel_rfl) (by kernel_rfl) (fun _ _ _ h => h) (.inl ⟨rfl, ?_⟩) BV.out ?_
              rotate_left 1
              · intro w hSw; go_simp; try with_reducible rfl
              simp only [Act.put, List.setIfInBounds_toArray, List.set_cons_zero, List.set_cons_succ]
              refine take_at (i := 12) 141 (.agg #[.int .i64 ((f : Nat) : Int), .slice sz (M + 1) cz, .int .i64 most]) rfl rfl (by kernel_rfl) (by kernel_rfl) (by kernel_rfl) (fun _ _ _ h => h) (yields_ld (.tmp 10) 37 (.pointer (some ⟨bx, 0, none⟩)) _ LD.out rfl rfl rfl) BV.out ?_
              simp only [Act.put, List.setIfInBounds_toArray, List.set_cons_zero, List.set_cons_succ]
              refine wpAnyH_ready (rs := [11]) (by kernel_rfl) (by simp) (br_call (i := 11) 140 23 #[.pointer (some ⟨q, 0, none⟩)] rfl rfl rfl (by go_simp) ((pq_last (FP.out _ BV.out)).mono ?_) AllReadyH.nil)
              rintro e v2 ⟨rfl, hb⟩
              have BV := Lib.hid (BV.out.trans (hb.mono BV.out.size))
              clear hb
              refine ⟨_, rfl, BV.out, fun _ => ?_⟩
              simp only [Act.put, List.setIfInBounds_toArray, List.set_cons_zero, List.set_cons_succ]
              refine wpAnyH_ready (rs := [13]) (by kernel_rfl) (by simp) (br_call (i := 13) 142 24 #[.agg #[.int .i64 ((f : Nat) : Int), .slice sz (M + 1) cz, .int .i64 most]] rfl rfl rfl (by go_simp) ((pq_rlast (FP.out _ BV.out) ⟨by have := NB.out.1; omega, by have := NB.out.1; omega⟩).mono ?_) AllReadyH.nil)
              rintro e v3 ⟨rfl, hb⟩
              have BV := Lib.hid (BV.out.trans (hb.mono BV.out.size))
              clear hb
              refine ⟨_, rfl, BV.out, fun _ => ?_⟩
              simp only [Act.put, List.setIfInBounds_toArray, List.set_cons_zero, List.set_cons_succ]
              refine take_at (i := 14) 143 ?_ rfl rfl (by kernel_rfl) (by kernel_rfl) (by kernel_rfl) (fun _ _ _ h => h) (.inl ⟨rfl, ?_⟩) BV.out ?_
              rotate_left 1
              · intro w hSw; go_simp; try with_reducible rfl
              simp only [Act.put, List.setIfInBounds_toArray, List.set_cons_zero, List.set_cons_succ]
              refine take_at (i := 15) 144 ?_ rfl rfl (by kernel_rfl) (by kernel_rfl) (by kernel_rfl) (fun _ _ _ h => h) (.inl ⟨rfl, ?_⟩) BV.out ?_
              rotate_left 1
              · intro w hSw; go_simp; try with_reducible rfl
              simp only [Act.put, List.setIfInBounds_toArray, List.set_cons_zero, List.set_cons_succ]
              refine take_at (i := 16) 145 ?_ rfl rfl (by kernel_rfl) (by kernel_rfl) (by kernel_rfl) (fun _ _ _ h => h) (.inl ⟨rfl, ?_⟩) BV.out ?_
              rotate_left 1
              · intro w hSw; go_simp; try with_reducible rfl
              simp only [Act.put, List.setIfInBounds_toArray, List.set_cons_zero, List.set_cons_succ]
              refine take_at (i := 17) 146 ?_ rfl rfl (by kernel_rfl) (by kernel_rfl) (by kernel_rfl) (fun _ _ _ h => h) (.inl ⟨rfl, ?_⟩) BV.out ?_
              rotate_left 1
              · intro w hSw; go_simp; try with_reducible rfl
              simp only [Act.put, List.setIfInBounds_toArray, List.set_cons_zero, List.set_cons_succ]
              refine take_at (i := 19) 148 (.agg #[.int .i64 ((f : Nat) : Int), .slice sz (M + 1) cz, .int .i64 most]) rfl rfl (by kernel_rfl) (by kernel_rfl) (by kernel_rfl) (fun _ _ _ h => h) (yields_ld (.tmp 10) 37 (.pointer (some ⟨bx, 0, none⟩)) _ LD.out rfl rfl rfl) BV.out ?_
              simp only [Act.put, List.setIfInBounds_toArray, List.set_cons_zero, List.set_cons_succ]
              refine wpAnyH_ready (rs := [18]) (by kernel_rfl) (by simp) (br_call (i := 18) 147 25 #[.pointer (some ⟨q, 0, none⟩)] rfl rfl rfl (by go_simp) ((pq_len (FP.out _ BV.out)).mono ?_) AllReadyH.nil)
              rintro e v4 ⟨rfl, hb⟩
              have BV := Lib.hid (BV.out.trans (hb.mono BV.out.size))
              clear hb
              refine ⟨_, rfl, BV.out, fun _ => ?_⟩
              simp only [Act.put, List.setIfInBounds_toArray, List.set_cons_zero, List.set_cons_succ]
              refine wpAnyH_ready (rs := [20]) (by kernel_rfl) (by simp) (br_call (i := 20) 149 26 #[.agg #[.int .i64 ((f : Nat) : Int), .slice sz (M + 1) cz, .int .i64 most]] rfl rfl rfl (by go_simp) ((pq_rlen (FP.out _ BV.out) ⟨by have := NB.out.1; omega, by have := NB.out.1; omega⟩ (by have := NB.out.2.2; omega)).mono ?_) AllReadyH.nil)
              rintro e v5 ⟨rfl, hb⟩
              have BV := Lib.hid (BV.out.trans (hb.mono BV.out.size))
              clear hb
              refine ⟨_, rfl, BV.out, fun _ => ?_⟩
              simp only [Act.put, List.setIfInBounds_toArray, List.set_cons_zero, List.set_cons_succ]
              refine take_at (i := 21) 150 ?_ rfl rfl (by kernel_rfl) (by kernel_rfl) (by kernel_rfl) (fun _ _ _ h => h) (.inl ⟨rfl, ?_⟩) BV.out ?_
              rotate_left 1
              · intro w hSw; go_simp; try with_reducible rfl
              simp only [Act.put, List.setIfInBounds_toArray, List.set_cons_zero, List.set_cons_succ]
              refine take_at (i := 22) 151 ?_ rfl rfl (by kernel_rfl) (by kernel_rfl) (by kernel_rfl) (fun _ _ _ h => h) (.inl ⟨rfl, ?_⟩) BV.out ?_
              rotate_left 1
              · intro w hSw; go_simp; try with_reducible rfl
              simp only [Act.put, List.setIfInBounds_toArray, List.set_cons_zero, List.set_cons_succ]
              refine take_at (i := 23) 152 ?_ rfl rfl (by kernel_rfl) (by kernel_rfl) (by kernel_rfl) (fun _ _ _ h => h) (.inl ⟨rfl, ?_⟩) BV.out ?_
              rotate_left 1
              · intro w hSw; go_simp; try with_reducible rfl
              simp only [Act.put, List.setIfInBounds_toArray, List.set_cons_zero, List.set_cons_succ]
              refine take_at (i := 24) 153 ?_ rfl rfl (by kernel_rfl) (by kernel_rfl) (by kernel_rfl) (fun _ _ _ h => h) (.inl ⟨rfl, ?_⟩) BV.out ?_
              rotate_left 1
              · intro w hSw; go_simp; try with_reducible rfl
              simp only [Act.put, List.setIfInBounds_toArray, List.set_cons_zero, List.set_cons_succ]
              refine take_at (i := 26) 155 (.agg #[.int .i64 ((f : Nat) : Int), .slice sz (M + 1) cz, .int .i64 most]) rfl rfl (by kernel_rfl) (by kernel_rfl) (by kernel_rfl) (fun _ _ _ h => h) (yields_ld (.tmp 10) 37 (.pointer (some ⟨bx, 0, none⟩)) _ LD.out rfl rfl rfl) BV.out ?_
              simp only [Act.put, List.setIfInBounds_toArray, List.set_cons_zero, List.set_cons_succ]
              refine wpAnyH_ready (rs := [25]) (by kernel_rfl) (by simp) (br_call (i := 25) 154 27 #[pv d] rfl rfl rfl (by go_simp) ((pq_used (FP.out _ BV.out)).mono ?_) AllReadyH.nil)
              rintro e v6 ⟨rfl, hb⟩
              have BV := Lib.hid (BV.out.trans (hb.mono BV.out.size))
              clear hb
              refine ⟨_, rfl, BV.out, fun _ => ?_⟩
              simp only [Act.put, List.setIfInBounds_toArray, List.set_cons_zero, List.set_cons_succ]
              refine wpAnyH_ready (rs := [27]) (by kernel_rfl) (by simp) (br_call (i := 27) 156 28 #[.agg #[.int .i64 ((f : Nat) : Int), .slice sz (M + 1) cz, .int .i64 most]] rfl rfl rfl (by go_simp) ((pq_rused (FP.out _ BV.out) IZ.out (by have := NB.out.1; omega) (by have := NB.out.2.1; omega)).mono ?_) AllReadyH.nil)
              rintro e v7 ⟨rfl, hb⟩
              have BV := Lib.hid (BV.out.trans (hb.mono BV.out.size))
              clear hb
              refine ⟨_, rfl, BV.out, fun _ => ?_⟩
              simp only [Act.put, List.setIfInBounds_toArray, List.set_cons_zero, List.set_cons_succ]
              refine take_at (i := 28) 157 ?_ rfl rfl (by kernel_rfl) (by kernel_rfl) (by kernel_rfl) (fun _ _ _ h => h) (.inl ⟨rfl, ?_⟩) BV.out ?_
              rotate_left 1
              · intro w hSw; go_simp; try with_reducible rfl
              simp only [Act.put, List.setIfInBounds_toArray, List.set_cons_zero, List.set_cons_succ]
              refine take_at (i := 29) 158 ?_ rfl rfl (by kernel_rfl) (by kernel_rfl) (by kernel_rfl) (fun _ _ _ h => h) (.inl ⟨rfl, ?_⟩) BV.out ?_
              rotate_left 1
              · intro w hSw; go_simp; try with_reducible rfl
              simp only [Act.put, List.setIfInBounds_toArray, List.set_cons_zero, List.set_cons_succ]
              refine take_at (i := 30) 159 ?_ rfl rfl (by kernel_rfl) (by kernel_rfl) (by kernel_rfl) (fun _ _ _ h => h) (.inl ⟨rfl, ?_⟩) BV.out ?_
              rotate_left 1
              · intro w hSw; go_simp; try with_reducible rfl
              simp only [Act.put, List.setIfInBounds_toArray, List.set_cons_zero, List.set_cons_succ]
              refine take_at (i := 31) 160 ?_ rfl rfl (by kernel_rfl) (by kernel_rfl) (by kernel_rfl) (fun _ _ _ h => h) (.inl ⟨rfl, ?_⟩) BV.out ?_
              rotate_left 1
              · intro w hSw; go_simp; try with_reducible rfl
              simp only [Act.put, List.setIfInBounds_toArray, List.set_cons_zero, List.set_cons_succ]
              refine take_at (i := 34) 163 ?_ rfl rfl (by kernel_rfl) (by kernel_rfl) (by kernel_rfl) (fun _ _ _ h => h) (.inl ⟨rfl, ?_⟩) BV.out ?_
              rotate_left 1
              · intro w hSw; go_simp; try with_reducible rfl
              simp only [Act.put, List.setIfInBounds_toArray, List.set_cons_zero, List.set_cons_succ]
              refine take_at (i := 35) 164 (.slice sz (M + 1) cz) rfl rfl (by kernel_rfl) (by kernel_rfl) (by kernel_rfl) (fun _ _ _ h => h) (yields_ld (.tmp 163) 35 (.pointer (some ⟨bx, 1, none⟩)) _ LD1.out rfl rfl rfl) BV.out ?_
              simp only [Act.put, List.setIfInBounds_toArray, List.set_cons_zero, List.set_cons_succ]
              refine take_at (i := 36) 165 ?_ rfl rfl (by kernel_rfl) (by kernel_rfl) (by kernel_rfl) (fun _ _ _ h => h) (.inl ⟨rfl, ?_⟩) BV.out ?_
              rotate_left 1
              · intro w hSw; go_simp; try with_reducible rfl
              simp only [Act.put, List.setIfInBounds_toArray, List.set_cons_zero, List.set_cons_succ]
              refine wpAnyH_ready (rs := [32]) (by kernel_rfl) (by simp) (br_call (i := 32) 161 12 #[pv d] rfl rfl rfl (by go_simp) ((pq_names (FP.out _ BV.out) (by have := NB.out.1; omega)).mono ?_) AllReadyH.nil)
              rintro e v8 ⟨⟨na, nc, rfl⟩, hb⟩
              have BV := Lib.hid (BV.out.trans (hb.mono BV.out.size))
              clear hb
              refine ⟨_, rfl, BV.out, fun _ => ?_⟩
              simp only [Act.put, List.setIfInBounds_toArray, List.set_cons_zero, List.set_cons_succ]
              refine take_at (i := 33) 162 ?_ rfl rfl (by kernel_rfl) (by kernel_rfl) (by kernel_rfl) (fun _ _ _ h => h) (.inl ⟨rfl, ?_⟩) BV.out ?_
              rotate_left 1
              · intro w hSw; go_simp; try with_reducible rfl
              simp only [Act.put, List.setIfInBounds_toArray, List.set_cons_zero, List.set_cons_succ]
              refine take_at (i := 37) 166 ?_ rfl rfl (by kernel_rfl) (by kernel_rfl) (by kernel_rfl) (fun _ _ _ h => h) (.inl ⟨rfl, ?_⟩) BV.out ?_
              rotate_left 1
              · intro w hSw; go_simp; try with_reducible rfl
              simp only [Act.put, List.setIfInBounds_toArray, List.set_cons_zero, List.set_cons_succ]
              refine take_at (i := 38) 167 ?_ rfl rfl (by kernel_rfl) (by kernel_rfl) (by kernel_rfl) (fun _ _ _ h => h) (.inl ⟨rfl, ?_⟩) BV.out ?_
              rotate_left 1
              · intro w hSw; go_simp; try with_reducible rfl
              simp only [Act.put, List.setIfInBounds_toArray, List.set_cons_zero, List.set_cons_succ]
              refine wpAnyH_done (by kernel_rfl) ?_ _
              have PE := Lib.hid (FP.out _ BV.out)
              clear FP LD LD0 LD1 BV PZ
              go_wp2
              go_roundw
              case rel => exact ⟨q, i + 1, s, f, M, gs, _, _, by first | rfl | trivial, by go_num, by have := HI2.out; omega, by have := HI2.out; omega, Lib.hid ⟨PE.out, IZ.out⟩⟩
              case measure => simp [intOf]; have := HI2.out; omega
          · have hno : ¬ ((i : Int) < 60) := by omega
            go_wp2_with fail
            refine (AW.out _).mono ?_
            rintro e w7 ⟨rfl, hb7⟩
            have B7 := Lib.hid ((show Below d w wr from by rw [← HDQ.out]; exact PP.out.rl.bel).trans (hb7.mono PP.out.js.jk.size))
            clear hb7
            go_wp2
            go_returns
            exact ⟨rfl, by rw [HDQ.out]; exact B7.out⟩
        · have hno : ¬ ((i : Int) < (l.length : Int)) := by omega
          go_wp2_with fail
          refine (AW.out _).mono ?_
          rintro e w7 ⟨rfl, hb7⟩
          have B7 := Lib.hid ((show Below d w wr from by rw [← HDQ.out]; exact PP.out.rl.bel).trans (hb7.mono PP.out.js.jk.size))
          clear hb7
          go_wp2
          go_returns
          exact ⟨rfl, by rw [HDQ.out]; exact B7.out⟩
end Go.Proofs.YtgbihpfpiaacfaaGreatDoor

set_option linter.unusedVariables false
namespace Go.Proofs.YtgbihpfpiaacfaaGreatDoor
open Go.ChangeShapes Go.WideShapes Go.ChangeAt Go.RowKit Go.Joins Go.Deep

section
variable {H : Type} {enc : TypeId × Value → H} {W : World}
set_option maxRecDepth 100000 in
theorem view_int {v : Value} {b0 : Nat} {r : Go.Reach} (hv : Value.okWide Tryz.prog W r b0 3 v) : ∃ n : Int, v = .int .i64 n := by
  obtain ⟨n, e⟩ := okWide_int (show Tryz.prog.underlying 3 = some (.int .i64) by kernel_rfl) hv
  exact ⟨n, e⟩
end
set_option maxRecDepth 100000 in
theorem journalPlays_lifted (os : Os) (started : os.Started) (H : Type) (enc : TypeId × Value → H) :
    ReturnsInHanded {} Tryz.checked os 3 .any (fun w args => (Rows.journalPlaysSpec.pre enc Tryz.prog Tryz.f3 [] false w args ∧ laidMetH Tryz.prog laid5 w) ∧ sizedMet enc Tryz.prog Tryz.f3 (OpenSpec.ofChange Rows.journalPlaysSpec) false w args)
      (Rows.journalPlaysSpec.post enc Tryz.prog Tryz.f3 false true false false) := by
  refine handed_both (C := Tryz.checked) (X := fun w _ => laidMetH Tryz.prog laid5 w) (fun _ _ _ hh h => h.of_heap hh) Tryz.own started (by kernel_rfl) Tryz.func3
    (ChangeSpec.witness_shaped (enc := enc) (C := Tryz.checked) (os := os) (X := fun w _ => laidMetH Tryz.prog laid5 w) false (World.laidAll Tryz.prog os laid5) #[.int .i64 0, .slice none 0 0] 8 (World.laidAll_os _ _ _)
      (World.shaped_of_ZipB (by kernel_rfl) (by kernel_rfl)) (by kernel_rfl) (by kernel_rfl) (by kernel_rfl)
      (by rw [MakeChecks.laidMetH_plain _ _ _ (by kernel_rfl)]; exact laidMet_laidAll _ (by kernel_rfl) (by kernel_rfl))) ?_
  intro W base args ds gs before hval0 hW hL hsh
  have hval : ∀ (j : Nat) t v, Tryz.f3.params[j]? = some t → args[j]? = some v → Value.okWide Tryz.prog W .any base t v := hval0
  have hW' := hW
  obtain ⟨p, q, hA0, hV, rfl, hfz, hnd⟩ := hW
  have hA : DataW.TrodAll enc Tryz.prog W 0 (fun _ => true) true Tryz.f3.params.toList args.toList ds p := hA0
  rw [Tryz.params3] at hA hval
  obtain ⟨v0, v1, d0, d1, p0, p1, rfl, rfl, rfl, h0, h1⟩ := trodAll_two hA
  obtain ⟨rfl, rfl⟩ := trodVars_none hV
  obtain ⟨n0, rfl⟩ := view_int (hval 0 3 v0 rfl rfl)
  obtain ⟨l1, hl1⟩ := view_acts (hval 1 22 v1 rfl rfl) h1
  clear hA0 hval0
  simp only [List.append_nil] at hW'
  have hlt : ∀ x ∈ p0 ++ p1, x.block < W.heap.size := fun x hx => by simpa using hW'.lt x (by simpa using hx)
  refine (plays_any W n0 v1 l1 hl1).mono fun e W' ⟨he, hb⟩ => ?_
  subst he
  have k0 := Below.trod Tryz.laidOut (by kernel_rfl) (of_decide_eq_true (by kernel_rfl)) h0 hb (fun x hx => hlt x (by simp [hx]))
  have k1 := Below.trod Tryz.laidOut (by kernel_rfl) (of_decide_eq_true (by kernel_rfl)) h1 hb (fun x hx => hlt x (by simp [hx]))
  exact ⟨_, rfl, post_read hW' hb (trodAll_mk2 k0 k1) rfl (trodAll_mk1 (shut_bool Tryz.underlying4 _))⟩

theorem journalPlays_row : Rows.JournalPlaysSaid :=
  OpenClaim.holds_of_wide 3 Tryz.f3 rfl rfl rfl rfl rfl rfl rfl ⟨rfl, rfl, rfl, rfl, rfl⟩ rfl rfl rfl rfl rfl (by kernel_rfl) Tryz.func3 (by kernel_rfl)
    (of_decide_eq_true (by kernel_rfl)) (by unfold Func.isWrapper; first | (rw [if_pos (by decide +kernel)]; kernel_rfl) | (rw [if_neg (by decide +kernel)]; exact ⟨rfl, rfl⟩))
    (fun os started H enc _ => journalPlays_lifted os started H enc)

theorem journalPlays_card : Rows.JournalPlaysCardSaid :=
  Claim7.holds_tied_plain_at .later [] [.data, .data, .data, .sentinel, .sentinel] true (true, "37d89584b4090b6d83cae9aaf7b646bde45796aa5682a52b96d4c6aad917f5bc") true
    journalPlays_row (fun _ h => by cases h) (by kernel_rfl) (fun _ h => by cases h) journalPlays_row_tie rfl ⟨rfl, rfl⟩ (by kernel_rfl) rfl
    (fun f fn hf hfn => by
      obtain rfl : f = 3 := Option.some.inj ((show Tryz.prog.funcNamed "banyan/banyanlaw12.JournalPlays" = some 3 by kernel_rfl).symm.trans hf) |>.symm
      obtain rfl : fn = Tryz.f3 := (Option.some.inj (Tryz.func3.symm.trans hfn)).symm
      exact ⟨by kernel_rfl, fun j t ht => by
        rw [Tryz.params3] at ht
        have hm : t ∈ [3, 22] := by simpa using Array.mem_of_getElem? ht
        have hall : ([3, 22].all fun u => !Tryz.prog.wantsStandIn u) = true := by kernel_rfl
        exact (show Tryz.prog.wantsStandIn t = false by simpa using List.all_eq_true.1 hall t hm)⟩)
    (by kernel_rfl)
end Go.Proofs.YtgbihpfpiaacfaaGreatDoor
