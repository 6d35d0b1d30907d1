/- WireWrites: the bytes of whatever is written, one behind the other, and how many they are. -/
import Derived.Test.YteifkidkoofeaabParts
set_option linter.unusedVariables false
namespace Go.Proofs.Yteifkidkoofeaab
open Go.RowKit

set_option maxRecDepth 100000 in
set_option maxHeartbeats 2000000 in
theorem writes_law (w : World) (v0 : Value) (ps : List Pt) (h : Holds5 w v0 ps) :
    Calls Try.prog 3 #[v0] w fun e w' => e = .returned (.bool true) ∧ Below w.heap.size w w' := by
  obtain ⟨i0, hi, hz0, hz1, hz2⟩ := info_parts Try.info5
  obtain ⟨ao, cap, rfl, hlen, hok, hcells⟩ := h
  have HC := Lib.hid hcells
  have HOK := Lib.hid hok
  have HI0 := Lib.hid (wi_start w)
  clear hcells hok
  go_enter Try.func3, Try.ntmps3
  go_wp2
  go_loopw [5, 6] (fun wv iv wr => ∃ (i : Nat) (v : Value) (L : List Int), iv = .int .i64 i ∧ i ≤ ps.length ∧ i ≤ 40 ∧ L.length ≤ 309 * i ∧ WI w wr w.heap.size w.heap.size v wv L) (fun _ iv _ => 40 - (intOf iv).toNat)
  case atStart => exact ⟨0, _, [], rfl, by omega, by omega, by simp, HI0.out⟩
  case round =>
    obtain ⟨i, v, L, rfl, hil, hi40, hL, hI⟩ := hrel
    obtain ⟨wo, wp, rfl⟩ := own_shape hI.row
    have HI := Lib.hid hI
    clear hI
    by_cases hlt : i < ps.length
    · by_cases hlt4 : i < 40
      · obtain ⟨p, hp⟩ : ∃ p, ps[i]? = some p := ⟨_, List.getElem?_eq_getElem hlt⟩
        have hpk := HOK.out p (List.mem_of_getElem? hp)
        obtain ⟨g, off, rfl, hg, hcl⟩ := HC.out (by intro e; rw [e] at hlt; simp at hlt)
        obtain ⟨c0, c1, c2, c3, c4⟩ := hcl i p hp
        have d0 := (HI.out.below.cell (p := ⟨g, off + i * 5, none⟩) hg).trans c0
        have d1 := (HI.out.below.cell (p := ⟨g, off + i * 5 + 1, none⟩) hg).trans c1
        have d2 := (HI.out.below.cell (p := ⟨g, off + i * 5 + 2, none⟩) hg).trans c2
        have d3 := (HI.out.below.cell (p := ⟨g, off + i * 5 + 3, none⟩) hg).trans c3
        have d4 := (HI.out.below.cell (p := ⟨g, off + i * 5 + 4, none⟩) hg).trans c4
        clear hcl
        have HP := Lib.hid hp
        clear hp
        by_cases hs : p.s.size ≤ 300
        · have C1 := Lib.hid (writes_any wr w.heap.size w.heap.size v L p.k p.n p.s p.x p.y hpk.1 hpk.2.1 hpk.2.2.1 (by omega) HI.out.wt HI.out.hB (by omega))
          have hpl : (pb p.k p.n p.s p.x p.y).length ≤ 309 := pb_len p hpk hs
          have hLl : L.length ≤ 12360 := by omega
          unfold part at C1
          generalize pb p.k p.n p.s p.x p.y = l at C1 hpl
          go_wp2_with fail
          refine C1.out.mono ?_
          rintro e w2 ⟨x, rfl, hws⟩
          obtain ⟨v', hJ⟩ := HI.out.wrote hws
          have hbJ := hJ.below
          have HJ := Lib.hid hJ
          have e0 := (hbJ.cell (p := ⟨g, off + i * 5, none⟩) hg).trans c0
          have e1 := (hbJ.cell (p := ⟨g, off + i * 5 + 1, none⟩) hg).trans c1
          have e2 := (hbJ.cell (p := ⟨g, off + i * 5 + 2, none⟩) hg).trans c2
          have e3 := (hbJ.cell (p := ⟨g, off + i * 5 + 3, none⟩) hg).trans c3
          have e4 := (hbJ.cell (p := ⟨g, off + i * 5 + 4, none⟩) hg).trans c4
          obtain ⟨xo, xc, rfl⟩ := own_shape hws.2
          clear hJ hws hbJ
          go_wp2_with (at_builtin; refine wpList_append_src_own rfl (.tmp 34) (.tmp 35) 24 24 rfl w.heap.size 5 i0 (.int .u8 0) 1 1 Try.underlying24 hi hz0 hz1 hz2 rfl (by decide) _ _ _ rfl HJ.out.row _ _ _ rfl HJ.out.src (by unfold maxLen; omega) (by omega) HJ.out.hB ?_; intro v1 w3 hown hgr hsp; have hK := HJ.out.grown hown hgr hsp; have g0 := (hK.below.cell (p := ⟨g, off + i * 5, none⟩) hg).trans c0; have g1 := (hK.below.cell (p := ⟨g, off + i * 5 + 1, none⟩) hg).trans c1; have g2 := (hK.below.cell (p := ⟨g, off + i * 5 + 2, none⟩) hg).trans c2; have g3 := (hK.below.cell (p := ⟨g, off + i * 5 + 3, none⟩) hg).trans c3; have g4 := (hK.below.cell (p := ⟨g, off + i * 5 + 4, none⟩) hg).trans c4; have K := Lib.hid hK; clear hown hgr hsp hK)
          have C2 := Lib.hid (fun W => writes_nil W p.k p.n p.s p.x p.y hpk.1 hpk.2.1 hpk.2.2.1 (by omega))
          unfold part at C2
          refine (C2.out _).mono ?_
          rintro e w4 ⟨y, rfl, hb4⟩
          have K2 := Lib.hid (K.out.old hb4)
          clear hb4
          go_wp2
          go_roundw
          case rel => exact ⟨i + 1, v', L ++ l, by go_num, by omega, by omega, by rw [List.length_append]; omega, K2.out⟩
          case measure => simp [intOf]; omega
        · have hs' : 300 < p.s.size := by omega
          go_wp2_with fail
          refine (awake_any wr).mono ?_
          rintro e w2 ⟨rfl, hb⟩
          go_wp2
          go_returns
          exact ⟨rfl, HI.out.below.trans (hb.mono HI.out.below.size)⟩
      · obtain rfl : i = 40 := by omega
        have hLl : L.length ≤ 12400 := by omega
        go_wp2_with fail
        refine (wbytes_any wr w.heap.size w.heap.size v L HI.out.wt (by omega)).mono ?_
        rintro e w2 ⟨x, rfl, ho⟩
        have hI2 := HI.out.old ho.2
        have S1 := Lib.hid (same_any w2 _ _ L (own_lies ho.1) (own_lies hI2.row) (by omega))
        obtain ⟨ax, px, rfl⟩ := own_shape ho.1
        have HI2 := Lib.hid hI2
        clear ho hI2
        go_wp2_with fail
        refine S1.out.mono ?_
        rintro e w3 ⟨rfl, hb3⟩
        have HI3 := Lib.hid (HI2.out.old hb3)
        clear hb3
        go_wp2_with fail
        refine (wlen_any w3 w.heap.size w.heap.size v L HI3.out.wt (by omega)).mono ?_
        rintro e w4 ⟨rfl, rfl⟩
        go_wp2_with fail
        refine (wlen_nil w3).mono ?_
        rintro e w4 ⟨rfl, rfl⟩
        go_wp2_with fail
        refine (wbytes_nil w3).mono ?_
        rintro e w4 ⟨rfl, rfl⟩
        go_wp2_with fail
        refine (awake_any w3).mono ?_
        rintro e w5 ⟨rfl, hb5⟩
        go_wp2
        go_returns
        exact ⟨rfl, HI3.out.below.trans (hb5.mono HI3.out.below.size)⟩
    · obtain rfl : i = ps.length := by omega
      have hLl : L.length ≤ 12400 := by omega
      go_wp2_with fail
      refine (wbytes_any wr w.heap.size w.heap.size v L HI.out.wt (by omega)).mono ?_
      rintro e w2 ⟨x, rfl, ho⟩
      have hI2 := HI.out.old ho.2
      have S1 := Lib.hid (same_any w2 _ _ L (own_lies ho.1) (own_lies hI2.row) (by omega))
      obtain ⟨ax, px, rfl⟩ := own_shape ho.1
      have HI2 := Lib.hid hI2
      clear ho hI2
      go_wp2_with fail
      refine S1.out.mono ?_
      rintro e w3 ⟨rfl, hb3⟩
      have HI3 := Lib.hid (HI2.out.old hb3)
      clear hb3
      go_wp2_with fail
      refine (wlen_any w3 w.heap.size w.heap.size v L HI3.out.wt (by omega)).mono ?_
      rintro e w4 ⟨rfl, rfl⟩
      go_wp2_with fail
      refine (wlen_nil w3).mono ?_
      rintro e w4 ⟨rfl, rfl⟩
      go_wp2_with fail
      refine (wbytes_nil w3).mono ?_
      rintro e w4 ⟨rfl, rfl⟩
      go_wp2_with fail
      refine (awake_any w3).mono ?_
      rintro e w5 ⟨rfl, hb5⟩
      go_wp2
      go_returns
      exact ⟨rfl, HI3.out.below.trans (hb5.mono HI3.out.below.size)⟩
end Go.Proofs.Yteifkidkoofeaab
