/- WireOnce: what was read of any bytes is written as just those with which they begin. -/
import Derived.Test.YteifkidkoofeaabOnceBase
set_option linter.unusedVariables false
namespace Go.Proofs.Yteifkidkoofeaab
open Go.RowKit

set_option maxRecDepth 100000 in
set_option maxHeartbeats 400000 in
theorem once_far (w : World) (ao : Option Addr) (len cap : Nat) (v1 : Value) (h : 400 < len) (hm : len ≤ 9223372036854775807) :
    Calls Try.prog 5 #[.slice ao len cap, v1] w fun e w' => e = .returned (.bool true) ∧ Below w.heap.size w w' := by
  go_enter Try.func5, Try.ntmps5
  go_wp2_with fail
  refine (awake_any w).mono ?_
  rintro e w1 ⟨rfl, hb⟩
  go_wp2
  go_returns
  exact ⟨rfl, hb⟩

theorem stamp_range (s : St) (hb : Byt s.bs) : 0 ≤ s.stamp.1.1 ∧ s.stamp.1.1 ≤ 9223372036854775807 ∧ 0 ≤ s.stamp.1.2 ∧ s.stamp.1.2 ≤ 9223372036854775807 := by
  have h1 := St.num_range s hb
  have h2 := St.num_range s.num.2 (num_byt hb)
  unfold St.stamp
  split
  · exact ⟨Int.le_refl 0, by show (0 : Int) ≤ _; omega, Int.le_refl 0, by show (0 : Int) ≤ _; omega⟩
  · exact ⟨h1.1, h1.2, h2.1, h2.2⟩

theorem slice_head (ao : Option Addr) (len cap n : Nat) (h : n ≤ cap) (W : World) : (Instr.slice 24 (.slice ao len cap) none (some (.int .i64 (n : Int))) none).run Try.prog W = .ok (.slice ao n cap) W := by
  have e := run_slice_h (P := Try.prog) W 24 ao len cap Try.underlying24 .i64 n (by omega) (by omega)
  rw [e]
  cases ao <;> simp [go_sem, sliced, Addr.add]

theorem lies_prefix {w : World} {ao : Option Addr} {cap : Nat} {l out rest : List Int} (h : Lies w (.slice ao l.length cap) l) (he : l = out ++ rest) : Lies w (.slice ao out.length cap) out := by
  obtain ⟨a', c', hv, hn, h0, hc⟩ := h
  injection hv with e1 e2 e3
  subst e1; subst e3
  refine ⟨ao, cap, rfl, by rw [he, List.length_append] at hn; omega, fun e => ?_, fun b hb j u hj => hc b hb j u ?_⟩
  · obtain ⟨e1, e2⟩ := h0 e
    rw [e1] at he
    exact ⟨(List.append_eq_nil_iff.1 he.symm).1, e2⟩
  · rw [he, u8s_append, List.getElem?_append_left]
    · exact hj
    · exact (List.getElem?_eq_some_iff.1 hj).1

set_option maxRecDepth 100000 in
set_option maxHeartbeats 8000000 in
theorem once_near (w : World) (v0 : Value) (l0 : List Int) (ao : Option Addr) (cap : Nat) (ks : List Int) (h0 : Lies w v0 l0) (hb0 : Byt l0) (hl0 : l0.length ≤ 400)
    (hks : ks.length ≤ 9223372036854775807) (hc : ∀ b, ao = some b → ∀ j x, ks[j]? = some x → w.cell? (b.add j) = some (.int .u8 x)) (hn : ao = none → ks = []) (hbk : Byt ks) :
    Calls Try.prog 5 #[v0, .slice ao ks.length cap] w fun e w' => e = .returned (.bool true) ∧ Below w.heap.size w w' := by
  have H0 := Lib.hid h0
  have HB0 := Lib.hid hb0
  have HC := Lib.hid hc
  have HN := Lib.hid hn
  have HBK := Lib.hid hbk
  obtain ⟨a0, cap0, rfl, hcap0, _, _⟩ := h0
  clear hb0 hc hn hbk
  go_enter Try.func5, Try.ntmps5
  go_wp2_with fail
  refine (open_any w _ l0 H0.out HB0.out (by omega)).mono ?_
  rintro e w1 ⟨r, M, rfl, hR, hb1⟩
  have R1 := Lib.hid hR
  have B1 := Lib.hid hb1
  have hz1 := hb1.size
  clear hR hb1
  go_wp2
  go_loopw [7] (fun iv wr => ∃ (i : Nat) (v : Value) (out : List Int) (s : St), iv = .int .i64 i ∧ i ≤ ks.length ∧ i ≤ 40 ∧ OI w wr w1.heap.size M w1.heap.size r v out s ∧ s.bad = 0 ∧ Hid (l0 = out ++ s.bs)) (fun iv _ => 40 - (intOf iv).toNat)
  case atStart =>
    have hX := (Below.refl w1.heap.size w1).alloc (Nat.le_refl _) (.cells #[.slice none 0 0] 26)
    have hr : r < w1.heap.size := by obtain ⟨_, hb, _⟩ := R1.out.blk; exact lt_of_block hb
    exact ⟨0, .slice none 0 0, [], ⟨l0, 0⟩, rfl, by omega, by omega, ⟨R1.out.old hX, wr_start w1, B1.out.trans (hX.mono hz1), R1.out.top, hr, by simp, hz1⟩, rfl, rfl⟩
  case round =>
    obtain ⟨i, v, out, s, rfl, hi, hi40, hI, hbad, hout⟩ := hrel
    have hle : out.length + s.bs.length ≤ 400 := by
      have := congrArg List.length hout.out
      rw [List.length_append] at this
      omega
    have HI := Lib.hid hI
    have HBAD := Lib.hid hbad
    clear hI hbad
    by_cases hlt : i < ks.length
    · by_cases hlt4 : i < 40
      · obtain ⟨c, hc⟩ : ∃ c, ks[i]? = some c := ⟨_, List.getElem?_eq_getElem hlt⟩
        have hcb := HBK.out c (List.mem_of_getElem? hc)
        cases ao with
        | none => have := HN.out rfl; rw [this] at hlt; simp at hlt
        | some b =>
          have hcell0 := HC.out b rfl i c hc
          have hbl : (b.add i).block < w.heap.size := World.block_lt_of_cell? w _ hcell0
          have hcell := (HI.out.below.cell hbl).trans hcell0
          have L := Lib.hid (left_any wr w.heap.size M r s HI.out.rd)
          have HQ := Lib.hid (HI.out.made #[.int .i64 (c % 4), .int .i64 0, .string ⟨#[]⟩, .int .i64 0, .int .i64 0])
          obtain ⟨kd, hkd⟩ : ∃ kd, c % 4 = kd := ⟨_, rfl⟩
          rw [hkd] at HQ
          have hk4 : kd = 0 ∨ kd = 1 ∨ kd = 2 ∨ kd = 3 := by omega
          clear hc hcell0 hbl
          rcases hk4 with rfl | rfl | rfl | rfl
          · go_wp2_with fail
            refine L.out.mono ?_
            rintro e w2 ⟨rfl, rfl⟩
            go_wp2_with fail
            refine (num_any _ w.heap.size M r s HQ.out.oi.rd (by have := HI.out.below.size; simp; omega)).mono ?_
            rintro e w2 ⟨rfl, ho⟩
            have hrg := St.num_range s HI.out.rd.byt
            have hok := St.num_ok (s := s) (fun c => absurd HBAD.out c)
            have hp : s.num.2.bad = 0 → s.bs = pb 0 s.num.1 ⟨#[]⟩ 0 0 ++ s.num.2.bs ∧ pb 0 s.num.1 ⟨#[]⟩ 0 0 ≠ [] ∧ True := fun h => ⟨(St.num_inv HI.out.rd.byt h).2.1, nb_ne _, trivial⟩
            have Q1 := HQ.out.read ho
            clear ho
            generalize hX : s.num.1 = X at *
            generalize hT : s.num.2 = t at *
            have HXT := Lib.hid (And.intro hX hT)
            clear hX hT
            have HQ2 := Lib.hid (Q1.set 1 (.int .i64 X))
            obtain ⟨c0, c1, c2, c3, c4⟩ := five_cells Q1.blk
            obtain ⟨f0, f1, f2, f3, f4⟩ := five_free Q1.blk
            clear Q1
            go_upto_region 19 with (fail)
            clear c0 c1 c2 c3 c4 f0 f1 f2 f3 f4
            generalize hWW : w2.setCell ⟨wr.heap.size, 1, none⟩ (.int .i64 X) = W at *
            clear hWW

            obtain ⟨c0, c1, c2, c3, c4⟩ := five_cells HQ2.out.blk
            have HP := Lib.hid hp
            have HOK := Lib.hid hok
            clear hp hok
            go_wp2_with fail
            refine (bad_any W w.heap.size M r t HQ2.out.oi.rd).mono ?_
            rintro e w4 ⟨rfl, rfl⟩
            by_cases hbad : t.bad = 0
            · have t1 := eqb_ t.bad 0 hbad
              have hsp := HP.out hbad
              have hlt2 : t.bs.length < s.bs.length := by
                have h1 := congrArg List.length hsp.1
                have h2 := List.length_pos_iff.2 hsp.2.1
                rw [List.length_append] at h1
                omega
              have htl : out.length ≤ 400 := by omega
              have HSP := Lib.hid hsp
              have HBD := Lib.hid hbad
              clear hsp hbad
              go_wp2_with fail
              refine (left_any W w.heap.size M r t HQ2.out.oi.rd).mono ?_
              rintro e w4 ⟨rfl, rfl⟩
              go_wp2_with fail
              refine (writes_any W w1.heap.size w1.heap.size v out 0 X ⟨#[]⟩ 0 0 (by omega) (by omega) (by omega) (by decide) HQ2.out.oi.wt HQ2.out.oi.hB (by omega)).mono ?_
              rintro e w5 ⟨x, rfl, hws⟩
              have HWS := Lib.hid hws
              clear hws
              go_wp2
              go_roundw
              case rel =>
                obtain ⟨v', hO⟩ := HQ2.out.wrote HWS.out
                have hE : l0 = (out ++ pb 0 X ⟨#[]⟩ 0 0) ++ t.bs := by
                  rw [List.append_assoc, ← HSP.out.1]
                  exact hout.out
                exact ⟨i + 1, v', _, t, by go_num, by omega, by omega, hO, HBD.out, hE⟩
              case measure => simp [intOf]; omega
            · have t1 := neb_ t.bad 0 hbad
              have hnil : t.bs.length = 0 := by rw [HOK.out hbad]; rfl
              clear hbad
              go_wp2_with fail
              refine (left_any W w.heap.size M r t HQ2.out.oi.rd).mono ?_
              rintro e w4 ⟨rfl, rfl⟩
              go_wp2_with fail
              refine (awake_any W).mono ?_
              rintro e w5 ⟨rfl, hb5⟩
              go_wp2
              go_returns
              exact ⟨rfl, HQ2.out.oi.below.trans (hb5.mono HQ2.out.oi.below.size)⟩
          · go_wp2_with fail
            refine L.out.mono ?_
            rintro e w2 ⟨rfl, rfl⟩
            go_wp2_with fail
            refine (flag_any _ w.heap.size M r s HQ.out.oi.rd (by have := HI.out.below.size; simp; omega)).mono ?_
            rintro e w2 ⟨rfl, ho⟩
            have hok := St.flag_ok (s := s) (fun c => absurd HBAD.out c)
            have hp0 := fun h => St.flag_inv (s := s) HI.out.rd.byt h
            have Q1 := HQ.out.read ho
            clear ho
            generalize hX : s.flag.1 = X at *
            generalize hT : s.flag.2 = t at *
            have HXT := Lib.hid (And.intro hX hT)
            clear hX hT
            cases X
            · have hp : t.bad = 0 → s.bs = pb 1 0 ⟨#[]⟩ 0 0 ++ t.bs ∧ pb 1 0 ⟨#[]⟩ 0 0 ≠ [] ∧ True := fun h => ⟨hp0 h, by decide, trivial⟩
              clear hp0
              have HQ2 := Lib.hid Q1
              obtain ⟨c0, c1, c2, c3, c4⟩ := five_cells Q1.blk
              obtain ⟨f0, f1, f2, f3, f4⟩ := five_free Q1.blk
              clear Q1
              go_upto_region 19 with (fail)
              clear c0 c1 c2 c3 c4 f0 f1 f2 f3 f4
              generalize hWW : w2 = W at *
              clear hWW
              obtain ⟨c0, c1, c2, c3, c4⟩ := five_cells HQ2.out.blk
              have HP := Lib.hid hp
              have HOK := Lib.hid hok
              clear hp hok
              go_wp2_with fail
              refine (bad_any W w.heap.size M r t HQ2.out.oi.rd).mono ?_
              rintro e w4 ⟨rfl, rfl⟩
              by_cases hbad : t.bad = 0
              · have t1 := eqb_ t.bad 0 hbad
                have hsp := HP.out hbad
                have hlt2 : t.bs.length < s.bs.length := by
                  have h1 := congrArg List.length hsp.1
                  have h2 := List.length_pos_iff.2 hsp.2.1
                  rw [List.length_append] at h1
                  omega
                have htl : out.length ≤ 400 := by omega
                have HSP := Lib.hid hsp
                have HBD := Lib.hid hbad
                clear hsp hbad
                go_wp2_with fail
                refine (left_any W w.heap.size M r t HQ2.out.oi.rd).mono ?_
                rintro e w4 ⟨rfl, rfl⟩
                go_wp2_with fail
                refine (writes_any W w1.heap.size w1.heap.size v out 1 0 ⟨#[]⟩ 0 0 (by omega) (by omega) (by omega) (by decide) HQ2.out.oi.wt HQ2.out.oi.hB (by omega)).mono ?_
                rintro e w5 ⟨x, rfl, hws⟩
                have HWS := Lib.hid hws
                clear hws
                go_wp2
                go_roundw
                case rel =>
                  obtain ⟨v', hO⟩ := HQ2.out.wrote HWS.out
                  have hE : l0 = (out ++ pb 1 0 ⟨#[]⟩ 0 0) ++ t.bs := by
                    rw [List.append_assoc, ← HSP.out.1]
                    exact hout.out
                  exact ⟨i + 1, v', _, t, by go_num, by omega, by omega, hO, HBD.out, hE⟩
                case measure => simp [intOf]; omega
              · have t1 := neb_ t.bad 0 hbad
                have hnil : t.bs.length = 0 := by rw [HOK.out hbad]; rfl
                clear hbad
                go_wp2_with fail
                refine (left_any W w.heap.size M r t HQ2.out.oi.rd).mono ?_
                rintro e w4 ⟨rfl, rfl⟩
                go_wp2_with fail
                refine (awake_any W).mono ?_
                rintro e w5 ⟨rfl, hb5⟩
                go_wp2
                go_returns
                exact ⟨rfl, HQ2.out.oi.below.trans (hb5.mono HQ2.out.oi.below.size)⟩
            · have hp : t.bad = 0 → s.bs = pb 1 1 ⟨#[]⟩ 0 0 ++ t.bs ∧ pb 1 1 ⟨#[]⟩ 0 0 ≠ [] ∧ True := fun h => ⟨hp0 h, by decide, trivial⟩
              clear hp0
              have HQ2 := Lib.hid (Q1.set 1 (.int .i64 1))
              obtain ⟨c0, c1, c2, c3, c4⟩ := five_cells Q1.blk
              obtain ⟨f0, f1, f2, f3, f4⟩ := five_free Q1.blk
              clear Q1
              go_upto_region 19 with (fail)
              clear c0 c1 c2 c3 c4 f0 f1 f2 f3 f4
              generalize hWW : w2.setCell ⟨wr.heap.size, 1, none⟩ (.int .i64 1) = W at *
              clear hWW
              obtain ⟨c0, c1, c2, c3, c4⟩ := five_cells HQ2.out.blk
              have HP := Lib.hid hp
              have HOK := Lib.hid hok
              clear hp hok
              go_wp2_with fail
              refine (bad_any W w.heap.size M r t HQ2.out.oi.rd).mono ?_
              rintro e w4 ⟨rfl, rfl⟩
              by_cases hbad : t.bad = 0
              · have t1 := eqb_ t.bad 0 hbad
                have hsp := HP.out hbad
                have hlt2 : t.bs.length < s.bs.length := by
                  have h1 := congrArg List.length hsp.1
                  have h2 := List.length_pos_iff.2 hsp.2.1
                  rw [List.length_append] at h1
                  omega
                have htl : out.length ≤ 400 := by omega
                have HSP := Lib.hid hsp
                have HBD := Lib.hid hbad
                clear hsp hbad
                go_wp2_with fail
                refine (left_any W w.heap.size M r t HQ2.out.oi.rd).mono ?_
                rintro e w4 ⟨rfl, rfl⟩
                go_wp2_with fail
                refine (writes_any W w1.heap.size w1.heap.size v out 1 1 ⟨#[]⟩ 0 0 (by omega) (by omega) (by omega) (by decide) HQ2.out.oi.wt HQ2.out.oi.hB (by omega)).mono ?_
                rintro e w5 ⟨x, rfl, hws⟩
                have HWS := Lib.hid hws
                clear hws
                go_wp2
                go_roundw
                case rel =>
                  obtain ⟨v', hO⟩ := HQ2.out.wrote HWS.out
                  have hE : l0 = (out ++ pb 1 1 ⟨#[]⟩ 0 0) ++ t.bs := by
                    rw [List.append_assoc, ← HSP.out.1]
                    exact hout.out
                  exact ⟨i + 1, v', _, t, by go_num, by omega, by omega, hO, HBD.out, hE⟩
                case measure => simp [intOf]; omega
              · have t1 := neb_ t.bad 0 hbad
                have hnil : t.bs.length = 0 := by rw [HOK.out hbad]; rfl
                clear hbad
                go_wp2_with fail
                refine (left_any W w.heap.size M r t HQ2.out.oi.rd).mono ?_
                rintro e w4 ⟨rfl, rfl⟩
                go_wp2_with fail
                refine (awake_any W).mono ?_
                rintro e w5 ⟨rfl, hb5⟩
                go_wp2
                go_returns
                exact ⟨rfl, HQ2.out.oi.below.trans (hb5.mono HQ2.out.oi.below.size)⟩
          · go_wp2_with fail
            refine L.out.mono ?_
            rintro e w2 ⟨rfl, rfl⟩
            go_wp2_with fail
            refine (text_any _ w.heap.size M r s 500 (by omega) HQ.out.oi.rd (by have := HI.out.below.size; simp; omega)).mono ?_
            rintro e w2 ⟨rfl, ho⟩
            have hok := St.text_ok (s := s) (fun c => absurd HBAD.out c) 500
            have hp0 := fun h => St.text_inv (s := s) HI.out.rd.byt 500 h
            have Q1 := HQ.out.read ho
            clear ho
            generalize hX : (s.text 500).1 = X at *
            generalize hT : (s.text 500).2 = t at *
            have HXT := Lib.hid (And.intro hX hT)
            clear hX hT
            have hp : t.bad = 0 → s.bs = pb 2 0 X 0 0 ++ t.bs ∧ pb 2 0 X 0 0 ≠ [] ∧ X.size ≤ 500 := fun h => ⟨(hp0 h).1, by show tb X ≠ []; unfold tb; intro c; exact nb_ne _ (List.append_eq_nil_iff.1 c).1, by have := (hp0 h).2; omega⟩
            clear hp0
            have HQ2 := Lib.hid (Q1.set 2 (.string X))
            obtain ⟨c0, c1, c2, c3, c4⟩ := five_cells Q1.blk
            obtain ⟨f0, f1, f2, f3, f4⟩ := five_free Q1.blk
            clear Q1
            go_upto_region 19 with (fail)
            clear c0 c1 c2 c3 c4 f0 f1 f2 f3 f4
            generalize hWW : w2.setCell ⟨wr.heap.size, 2, none⟩ (.string X) = W at *
            clear hWW

            obtain ⟨c0, c1, c2, c3, c4⟩ := five_cells HQ2.out.blk
            have HP := Lib.hid hp
            have HOK := Lib.hid hok
            clear hp hok
            go_wp2_with fail
            refine (bad_any W w.heap.size M r t HQ2.out.oi.rd).mono ?_
            rintro e w4 ⟨rfl, rfl⟩
            by_cases hbad : t.bad = 0
            · have t1 := eqb_ t.bad 0 hbad
              have hsp := HP.out hbad
              have hlt2 : t.bs.length < s.bs.length := by
                have h1 := congrArg List.length hsp.1
                have h2 := List.length_pos_iff.2 hsp.2.1
                rw [List.length_append] at h1
                omega
              have htl : out.length ≤ 400 := by omega
              have HSP := Lib.hid hsp
              have HBD := Lib.hid hbad
              clear hsp hbad
              go_wp2_with fail
              refine (left_any W w.heap.size M r t HQ2.out.oi.rd).mono ?_
              rintro e w4 ⟨rfl, rfl⟩
              go_wp2_with fail
              refine (writes_any W w1.heap.size w1.heap.size v out 2 0 X 0 0 (by omega) (by omega) (by omega) (by have := HSP.out.2.2; omega) HQ2.out.oi.wt HQ2.out.oi.hB (by omega)).mono ?_
              rintro e w5 ⟨x, rfl, hws⟩
              have HWS := Lib.hid hws
              clear hws
              go_wp2
              go_roundw
              case rel =>
                obtain ⟨v', hO⟩ := HQ2.out.wrote HWS.out
                have hE : l0 = (out ++ pb 2 0 X 0 0) ++ t.bs := by
                  rw [List.append_assoc, ← HSP.out.1]
                  exact hout.out
                exact ⟨i + 1, v', _, t, by go_num, by omega, by omega, hO, HBD.out, hE⟩
              case measure => simp [intOf]; omega
            · have t1 := neb_ t.bad 0 hbad
              have hnil : t.bs.length = 0 := by rw [HOK.out hbad]; rfl
              clear hbad
              go_wp2_with fail
              refine (left_any W w.heap.size M r t HQ2.out.oi.rd).mono ?_
              rintro e w4 ⟨rfl, rfl⟩
              go_wp2_with fail
              refine (awake_any W).mono ?_
              rintro e w5 ⟨rfl, hb5⟩
              go_wp2
              go_returns
              exact ⟨rfl, HQ2.out.oi.below.trans (hb5.mono HQ2.out.oi.below.size)⟩
          · go_wp2_with fail
            refine L.out.mono ?_
            rintro e w2 ⟨rfl, rfl⟩
            go_wp2_with fail
            refine (stamp_any _ w.heap.size M r s HQ.out.oi.rd (by have := HI.out.below.size; simp; omega)).mono ?_
            rintro e w2 ⟨rfl, ho⟩
            have hrg := stamp_range s HI.out.rd.byt
            have hok := St.stamp_ok (s := s) (fun c => absurd HBAD.out c)
            have hp0 := fun h => St.stamp_inv (s := s) HI.out.rd.byt h
            have Q1 := HQ.out.read ho
            clear ho
            generalize hX : s.stamp.1.1 = X at *
            generalize hY : s.stamp.1.2 = Y at *
            generalize hT : s.stamp.2 = t at *
            have HXT := Lib.hid (And.intro hX (And.intro hY hT))
            clear hX hY hT
            have hp : t.bad = 0 → s.bs = pb 3 0 ⟨#[]⟩ X Y ++ t.bs ∧ pb 3 0 ⟨#[]⟩ X Y ≠ [] ∧ True := fun h => ⟨hp0 h, by show stb X Y ≠ []; unfold stb; intro c; exact nb_ne _ (List.append_eq_nil_iff.1 c).1, trivial⟩
            clear hp0
            have HQ2 := Lib.hid ((Q1.set 3 (.int .i64 X)).set 4 (.int .i64 Y))
            obtain ⟨c0, c1, c2, c3, c4⟩ := five_cells Q1.blk
            obtain ⟨f0, f1, f2, f3, f4⟩ := five_free Q1.blk
            clear Q1
            go_upto_region 19 with (fail)
            clear c0 c1 c2 c3 c4 f0 f1 f2 f3 f4
            generalize hWW : (w2.setCell ⟨wr.heap.size, 3, none⟩ (.int .i64 X)).setCell ⟨wr.heap.size, 4, none⟩ (.int .i64 Y) = W at *
            clear hWW

            obtain ⟨c0, c1, c2, c3, c4⟩ := five_cells HQ2.out.blk
            have HP := Lib.hid hp
            have HOK := Lib.hid hok
            clear hp hok
            go_wp2_with fail
            refine (bad_any W w.heap.size M r t HQ2.out.oi.rd).mono ?_
            rintro e w4 ⟨rfl, rfl⟩
            by_cases hbad : t.bad = 0
            · have t1 := eqb_ t.bad 0 hbad
              have hsp := HP.out hbad
              have hlt2 : t.bs.length < s.bs.length := by
                have h1 := congrArg List.length hsp.1
                have h2 := List.length_pos_iff.2 hsp.2.1
                rw [List.length_append] at h1
                omega
              have htl : out.length ≤ 400 := by omega
              have HSP := Lib.hid hsp
              have HBD := Lib.hid hbad
              clear hsp hbad
              go_wp2_with fail
              refine (left_any W w.heap.size M r t HQ2.out.oi.rd).mono ?_
              rintro e w4 ⟨rfl, rfl⟩
              go_wp2_with fail
              refine (writes_any W w1.heap.size w1.heap.size v out 3 0 ⟨#[]⟩ X Y (by omega) (by omega) (by omega) (by decide) HQ2.out.oi.wt HQ2.out.oi.hB (by omega)).mono ?_
              rintro e w5 ⟨x, rfl, hws⟩
              have HWS := Lib.hid hws
              clear hws
              go_wp2
              go_roundw
              case rel =>
                obtain ⟨v', hO⟩ := HQ2.out.wrote HWS.out
                have hE : l0 = (out ++ pb 3 0 ⟨#[]⟩ X Y) ++ t.bs := by
                  rw [List.append_assoc, ← HSP.out.1]
                  exact hout.out
                exact ⟨i + 1, v', _, t, by go_num, by omega, by omega, hO, HBD.out, hE⟩
              case measure => simp [intOf]; omega
            · have t1 := neb_ t.bad 0 hbad
              have hnil : t.bs.length = 0 := by rw [HOK.out hbad]; rfl
              clear hbad
              go_wp2_with fail
              refine (left_any W w.heap.size M r t HQ2.out.oi.rd).mono ?_
              rintro e w4 ⟨rfl, rfl⟩
              go_wp2_with fail
              refine (awake_any W).mono ?_
              rintro e w5 ⟨rfl, hb5⟩
              go_wp2
              go_returns
              exact ⟨rfl, HQ2.out.oi.below.trans (hb5.mono HQ2.out.oi.below.size)⟩
      · obtain rfl : i = 40 := by omega
        go_wp2_with fail
        refine (wbytes_any wr w1.heap.size w1.heap.size v out HI.out.wt (by omega)).mono ?_
        rintro e w2 ⟨x, rfl, ho⟩
        have hR2 := HI.out.rd.old ho.2
        have L := Lib.hid (left_any w2 w.heap.size M r s hR2)
        have hB2 := HI.out.below.trans (ho.2.mono HI.out.below.size)
        have hlie := own_lies ho.1
        obtain ⟨ax, px, rfl⟩ := own_shape ho.1
        have hpre : Lies w2 (.slice a0 out.length cap0) out := lies_prefix ((H0.out.later hB2)) hout.out
        have HS := Lib.hid (fun W (hb : Below w2.heap.size w2 W) => same_any W _ _ out (hlie.later hb) (hpre.later hb) (by omega))
        have HL0 := Lib.hid hle
        have HB3 := Lib.hid hB2
        clear ho hR2 hlie hpre hB2
        have hlo : (((out.length : Nat) : Int) == (l0.length : Int) - (s.bs.length : Int)) = true := by
          have := congrArg List.length hout.out
          rw [List.length_append] at this
          exact beq_iff_eq.2 (by omega)
        have hol : out.length ≤ l0.length := by
          have := congrArg List.length hout.out
          rw [List.length_append] at this
          omega
        have hsl := slice_head a0 l0.length cap0 out.length (by omega)
        go_wp2_with fail
        refine L.out.mono ?_
        rintro e w3 ⟨rfl, rfl⟩
        go_wp2_with fail
        refine (HS.out _ (Below.refl _ _)).mono ?_
        rintro e w4 ⟨rfl, hb4⟩
        go_wp2_with fail
        refine (awake_any w4).mono ?_
        rintro e w5 ⟨rfl, hb5⟩
        go_wp2
        go_returns
        exact ⟨rfl, (HB3.out.trans (hb4.mono HB3.out.size)).trans (hb5.mono (Nat.le_trans HB3.out.size hb4.size))⟩
    · obtain rfl : i = ks.length := by omega
      go_wp2_with fail
      refine (wbytes_any wr w1.heap.size w1.heap.size v out HI.out.wt (by omega)).mono ?_
      rintro e w2 ⟨x, rfl, ho⟩
      have hR2 := HI.out.rd.old ho.2
      have L := Lib.hid (left_any w2 w.heap.size M r s hR2)
      have hB2 := HI.out.below.trans (ho.2.mono HI.out.below.size)
      have hlie := own_lies ho.1
      obtain ⟨ax, px, rfl⟩ := own_shape ho.1
      have hpre : Lies w2 (.slice a0 out.length cap0) out := lies_prefix ((H0.out.later hB2)) hout.out
      have HS := Lib.hid (fun W (hb : Below w2.heap.size w2 W) => same_any W _ _ out (hlie.later hb) (hpre.later hb) (by omega))
      have HL0 := Lib.hid hle
      have HB3 := Lib.hid hB2
      clear ho hR2 hlie hpre hB2
      have hlo : (((out.length : Nat) : Int) == (l0.length : Int) - (s.bs.length : Int)) = true := by
        have := congrArg List.length hout.out
        rw [List.length_append] at this
        exact beq_iff_eq.2 (by omega)
      have hol : out.length ≤ l0.length := by
        have := congrArg List.length hout.out
        rw [List.length_append] at this
        omega
      have hsl := slice_head a0 l0.length cap0 out.length (by omega)
      go_wp2_with fail
      refine L.out.mono ?_
      rintro e w3 ⟨rfl, rfl⟩
      go_wp2_with fail
      refine (HS.out _ (Below.refl _ _)).mono ?_
      rintro e w4 ⟨rfl, hb4⟩
      go_wp2_with fail
      refine (awake_any w4).mono ?_
      rintro e w5 ⟨rfl, hb5⟩
      go_wp2
      go_returns
      exact ⟨rfl, (HB3.out.trans (hb4.mono HB3.out.size)).trans (hb5.mono (Nat.le_trans HB3.out.size hb4.size))⟩
end Go.Proofs.Yteifkidkoofeaab
