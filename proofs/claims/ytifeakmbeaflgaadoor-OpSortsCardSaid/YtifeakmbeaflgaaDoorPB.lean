/- The reference's reader: Num. -/
import Derived.Test.YtifeakmbeaflgaaDoorPA
set_option linter.unusedVariables false
set_option linter.unusedSimpArgs false
set_option maxRecDepth 100000
namespace Go.Proofs.YtifeakmbeaflgaaDoor
open Go.RowKit
open Wi (Feed Kr St Byt rd)

/-- Between two rounds. -/
structure NI (w W : World) (M g : Nat) (v : Value) (bs : List Int) (p : Nat) (D : List Int) (i : Nat) (acc wt : Int) : Prop where
  ri : RI W M g v bs p 0
  bel : Below w.heap.size w W
  lt : i ≤ 8 → rd 0 0 D = rd i acc (D.drop i) ∧ wt = 128 ^ i ∧ acc < 128 ^ i
  nn : 0 ≤ acc
  no : i = 9 → (rd 0 0 D).1 = 4
theorem num_bad (s : St) (h : s.bad ≠ 0) : s.num = (0, s) := by unfold St.num; rw [if_pos h]
theorem num_err {s : St} (h : s.bad = 0) {e : Int} (he : e ≠ 0) (hr : (rd 0 0 s.bs).1 = e) : s.num = (0, ⟨[], e⟩) := by unfold St.num; rw [if_neg (by omega), if_neg (by rw [hr]; exact he), hr]
theorem num_ok {s : St} (h : s.bad = 0) {k : Nat} {n : Int} (hr : rd 0 0 s.bs = (0, k, n)) : s.num = (n, ⟨s.bs.drop k, 0⟩) := by unfold St.num; rw [if_neg (by omega), hr]; rfl
set_option maxHeartbeats 6400000 in
theorem rrnum_any (w : World) (M g : Nat) (v : Value) (bs : List Int) (s : St) (h : RS w M g v bs s) :
    Calls Tryd.prog 63 #[ptrR g] w fun e w' => e = .returned (.int .i64 s.num.1) ∧ RO w w' M g v bs s.num.2 := by
  obtain ⟨p, hi, hd⟩ := h
  obtain ⟨ao, cap, rfl, hc1, hc2⟩ := hi.shape
  by_cases hb : s.bad = 0
  · have HD := Lib.hid (hd hb)
    have HB := Lib.hid hb
    rw [hb] at hi
    have H := Lib.hid hi
    have hlen := hi.len
    have hple := hi.le
    obtain ⟨c0, c1, c2⟩ := hi.cells
    obtain ⟨D, hD⟩ : ∃ D, s.bs = D := ⟨_, rfl⟩
    have DD := Lib.hid (show D = bs.drop p from by rw [← hD]; exact HD.out)
    have NE := Lib.hid (fun (e : Int) (he : e ≠ 0) (hr : (rd 0 0 D).1 = e) => num_err hb he (by rw [hD]; exact hr))
    have NK := Lib.hid (fun (k : Nat) (n : Int) (hr : rd 0 0 D = (0, k, n)) => (show s.num = (n, ⟨D.drop k, 0⟩) from by rw [← hD]; exact num_ok hb (by rw [hD]; exact hr)))
    obtain ⟨nm, hnm⟩ : ∃ nm, s.num = nm := ⟨_, rfl⟩
    rw [hnm] at NE NK
    simp only [hnm]
    clear hi hd hb hD hnm HD
    have K0 := Lib.hid (show NI w w M g (.slice ao bs.length cap) bs p D 0 0 1 from ⟨H.out, Below.refl _ _, fun _ => ⟨rfl, rfl, by decide⟩, Int.le_refl _, fun q => by omega⟩)
    unfold ptrR
    go_enter Tryd.func63, Tryd.ntmps63
    go_wp2_with fail
    go_loopw [3, 4, 5] (fun a3 a4 a5 wr => ∃ (i : Nat) (acc wt : Int), a3 = .int .i64 acc ∧ a4 = .int .i64 wt ∧ a5 = .int .i64 i ∧ i ≤ 9 ∧ Hid (NI w wr M g (.slice ao bs.length cap) bs p D i acc wt)) (fun _ _ a5 _ => 9 - (intOf a5).toNat)
    case atStart => exact ⟨0, 0, 1, rfl, rfl, rfl, by omega, K0⟩
    case round =>
      obtain ⟨i, acc, wt, rfl, rfl, rfl, hi9, hK⟩ := hrel
      have K := Lib.hid hK.out
      clear hK K0 c0 c1 c2
      by_cases h9 : i = 9
      · subst h9
        obtain ⟨c0, c1, c2⟩ := K.out.ri.cells
        have f2 := K.out.ri.free 2
        have EQ := Lib.hid (NE.out 4 (by decide) (K.out.no rfl))
        go_wp2
        go_returns
        rw [EQ.out]
        refine ⟨rfl, ⟨p, (K.out.ri.set2 4).1, fun q => by cases q⟩, (Kr.ofBelow g K.out.bel).trans (K.out.ri.set2 4).2⟩
      · have h8 : i ≤ 8 := by omega
        have C0 : ∀ z : Later wr, z.w.cell? ⟨g, 0, none⟩ = some (.slice ao bs.length cap) := fun z => (K.out.ri.below z.below).cells.1
        have C1 : ∀ z : Later wr, z.w.cell? ⟨g, 1, none⟩ = some (.int .i64 (p : Int)) := fun z => (K.out.ri.below z.below).cells.2.1
        have hi2 : (i : Int) < 9 := by omega
        go_upto_region 8 with (fail)
        refine wp_region_later (by kernel_rfl) (by kernel_rfl) ?_
        repeat (go_big_quiet_step (fail))
        refine wpQuiet_nil ?_
        rintro _ ⟨z, rfl⟩
        have K2 := Lib.hid (show NI w z.w M g (.slice ao bs.length cap) bs p D i acc wt from ⟨K.out.ri.below z.below, K.out.bel.trans (z.below.mono K.out.bel.size), K.out.lt, K.out.nn, K.out.no⟩)
        clear C0 C1 K
        generalize z.w = W2 at *
        clear z
        obtain ⟨hL1, hL2, hL3⟩ := K2.out.lt h8
        by_cases hin : p + i < bs.length
        · have hin2 : ¬ ((bs.length : Int) ≤ (p : Int) + (i : Int)) := by omega
          obtain ⟨b, off, c, rfl, hbM, hcx, hcc, hx0, hx1⟩ := K2.out.ri.at' hin
          have DC : D.drop i = c :: D.drop (i + 1) := by
            have e : D[i]? = some c := by rw [DD.out, List.getElem?_drop]; exact hcx
            obtain ⟨h1, h2⟩ := List.getElem?_eq_some_iff.1 e
            rw [List.drop_eq_getElem_cons h1, h2]
          have hpw := Wi.pow_bound i (by omega)
          rw [DC] at hL1
          have RDC := Lib.hid hL1
          have WT := Lib.hid hL2
          have HA := Lib.hid hL3
          have hacc := K2.out.nn
          have hwb : 1 ≤ wt ∧ wt ≤ 72057594037927936 := by rw [hL2]; exact ⟨hpw.2, hpw.1⟩
          have hab : acc < wt := by rw [hL2]; exact hL3
          clear hL1 hL2 hL3 hpw
          have C0 : ∀ z : Later W2, z.w.cell? ⟨g, 0, none⟩ = some (.slice (some ⟨b, off, none⟩) bs.length cap) := fun z => (K2.out.ri.below z.below).cells.1
          have C1 : ∀ z : Later W2, z.w.cell? ⟨g, 1, none⟩ = some (.int .i64 (p : Int)) := fun z => (K2.out.ri.below z.below).cells.2.1
          have C2 : ∀ z : Later W2, z.w.cell? ⟨b, off + (p + i), none⟩ = some (.int .u8 c) := fun z => (z.below.cell (p := ⟨b, off + (p + i), none⟩) (by show b < W2.heap.size; have := K2.out.ri.top; omega)).trans hcc
          obtain ⟨q, hq⟩ : ∃ q, p + i = q := ⟨_, rfl⟩
          have hqi : (p : Int) + (i : Int) = (q : Int) := by omega
          rw [hq] at C2 hin
          have HQ := Lib.hid hq
          clear hq hcc hcx DC
          go_upto_region 11 with (fail)
          refine wp_region_later (by kernel_rfl) (by kernel_rfl) ?_
          repeat (go_big_quiet_step (fail))
          refine wpQuiet_nil ?_
          rintro _ ⟨z, rfl⟩
          have K3 := Lib.hid (show NI w z.w M g (.slice (some ⟨b, off, none⟩) bs.length cap) bs p D i acc wt from ⟨K2.out.ri.below z.below, K2.out.bel.trans (z.below.mono K2.out.bel.size), K2.out.lt, K2.out.nn, K2.out.no⟩)
          clear C0 C1 C2 K2
          generalize z.w = W3 at *
          clear z
          obtain ⟨c0, c1, c2⟩ := K3.out.ri.cells
          have f1 := K3.out.ri.free 1
          have f2 := K3.out.ri.free 2
          by_cases hlow : c < 128
          · by_cases hz : 0 < i ∧ c = 0
            · have hz1 : (0 : Int) < (i : Int) := by omega
              have hz2 : c = 0 := hz.2
              subst hz2
              have EQ := Lib.hid (NE.out 4 (by decide) (by rw [RDC.out]; unfold rd; rw [if_pos (.inl ⟨rfl, hz.1⟩)]))
              clear hz
              go_wp2
              go_returns
              rw [EQ.out]
              exact ⟨rfl, ⟨p, (K3.out.ri.set2 4).1, fun q => by cases q⟩, (Kr.ofBelow g K3.out.bel).trans (K3.out.ri.set2 4).2⟩
            · have hm1 : 0 ≤ c * wt := Int.mul_nonneg hx0 (by omega)
              have hm2 : c * wt ≤ 127 * wt := Int.mul_le_mul_of_nonneg_right (by omega) (by omega)
              have EQ := Lib.hid (NK.out (i + 1) (acc + c * wt) (by
                rw [RDC.out]
                unfold rd
                rw [if_neg (by omega), if_pos hlow, show c % 128 = c by omega, WT.out]))
              obtain ⟨m, hm⟩ : ∃ m, c * wt = m := ⟨_, rfl⟩
              rw [hm] at hm1 hm2 EQ
              have HQ1 := Lib.hid (show q + 1 ≤ bs.length from by omega)
              have hq1 : ((q + 1 : Nat) : Int) = (q : Int) + 1 := by omega
              have FIN := Lib.hid (K3.out.ri.set1 (q + 1) HQ1.out)
              rw [hq1] at FIN
              have EB := Lib.hid (K3.out.bel)
              by_cases hi0 : 0 < i
              · have hz1 : (0 : Int) < (i : Int) := by omega
                have hz2 : (c == 0) = false := by
                  have : c ≠ 0 := fun e => hz ⟨hi0, e⟩
                  simpa using this
                clear hz hq1
                go_wp2
                go_returns
                rw [EQ.out]
                refine ⟨rfl, ⟨q + 1, FIN.out.1, fun _ => ?_⟩, (Kr.ofBelow g EB.out).trans FIN.out.2⟩
                show D.drop (i + 1) = bs.drop (q + 1)
                rw [DD.out, List.drop_drop, ← HQ.out]
                rfl
              · have hz1 : ¬ (0 : Int) < (i : Int) := by omega
                clear hz hq1
                go_wp2
                go_returns
                rw [EQ.out]
                refine ⟨rfl, ⟨q + 1, FIN.out.1, fun _ => ?_⟩, (Kr.ofBelow g EB.out).trans FIN.out.2⟩
                show D.drop (i + 1) = bs.drop (q + 1)
                rw [DD.out, List.drop_drop, ← HQ.out]
                rfl
          · have hm1 : 0 ≤ (c - 128) * wt := Int.mul_nonneg (by omega) (by omega)
            have hm2 : (c - 128) * wt ≤ 127 * wt := Int.mul_le_mul_of_nonneg_right (by omega) (by omega)
            by_cases hlast : i = 8
            · have hl8 : ¬ ((i : Int) < 8) := by omega
              have E4 := Lib.hid (show (rd 0 0 D).1 = 4 from by rw [RDC.out]; unfold rd; rw [if_pos (.inr ⟨by omega, by omega⟩)])
              obtain ⟨m, hm⟩ : ∃ m, (c - 128) * wt = m := ⟨_, rfl⟩
              rw [hm] at hm1 hm2
              go_wp2
              go_roundw
              case rel => exact ⟨i + 1, acc + m, wt, rfl, rfl, by go_num, by omega, Lib.hid ⟨K3.out.ri, K3.out.bel, fun q => by omega, by omega, fun _ => E4.out⟩⟩
              case measure => simp [intOf]; omega
            · have hl8 : (i : Int) < 8 := by omega
              have NXT := Lib.hid (show rd 0 0 D = rd (i + 1) (acc + (c - 128) * wt) (D.drop (i + 1)) from by
                rw [RDC.out]
                conv => lhs; unfold rd
                rw [if_neg (by omega), if_neg hlow, show c % 128 = c - 128 by omega, WT.out])
              have PW := Lib.hid (show wt * 128 = (128 : Int) ^ (i + 1) from by rw [Int.pow_succ, WT.out])
              obtain ⟨m, hm⟩ : ∃ m, (c - 128) * wt = m := ⟨_, rfl⟩
              rw [hm] at hm1 hm2 NXT
              have hwb2 : wt ≤ 562949953421312 := by
                rw [WT.out]
                have : i ≤ 7 := by omega
                match i, this with
                | 0, _ => decide
                | 1, _ => decide
                | 2, _ => decide
                | 3, _ => decide
                | 4, _ => decide
                | 5, _ => decide
                | 6, _ => decide
                | 7, _ => decide
              go_wp2
              go_roundw
              case rel => exact ⟨i + 1, acc + m, wt * 128, rfl, rfl, by go_num, by omega, Lib.hid ⟨K3.out.ri, K3.out.bel, fun _ => ⟨NXT.out, PW.out, by rw [← PW.out]; omega⟩, by omega, fun q => by omega⟩⟩
              case measure => simp [intOf]; omega
        · have hin2 : (bs.length : Int) ≤ (p : Int) + (i : Int) := by omega
          have EQ := Lib.hid (NE.out 3 (by decide) (by
            rw [hL1, show D.drop i = [] from by rw [DD.out, List.drop_drop]; exact List.drop_eq_nil_of_le (by omega)]
            rfl))
          obtain ⟨c0, c1, c2⟩ := K2.out.ri.cells
          have f2 := K2.out.ri.free 2
          clear hL1 hL2 hL3
          go_wp2
          go_returns
          rw [EQ.out]
          exact ⟨rfl, ⟨p, (K2.out.ri.set2 3).1, fun q => by cases q⟩, (Kr.ofBelow g K2.out.bel).trans (K2.out.ri.set2 3).2⟩
  · have q1 := nebT _ _ hb
    have EQ := Lib.hid (num_bad s hb)
    have H := Lib.hid hi
    have HD := Lib.hid hd
    obtain ⟨c0, c1, c2⟩ := hi.cells
    clear hi hd hb
    unfold ptrR
    go_enter Tryd.func63, Tryd.ntmps63
    go_wp2
    go_returns
    rw [EQ.out]
    exact ⟨rfl, ⟨p, H.out, HD.out⟩, Kr.refl _ _⟩
end Go.Proofs.YtifeakmbeaflgaaDoor
