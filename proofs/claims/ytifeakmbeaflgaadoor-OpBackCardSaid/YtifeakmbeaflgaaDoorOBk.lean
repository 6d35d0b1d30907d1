/- OpBack's law. -/
import Derived.Test.YtifeakmbeaflgaaDoorOU
set_option linter.unusedVariables false
namespace Go.Proofs.YtifeakmbeaflgaaDoor
open Go.RowKit
open Wi (RowOut Byt WrI WrOut RdI RdOut)

abbrev opV (o : O) : Value := .agg #[.int .i64 o.t, .int .i64 o.r, .int .i64 o.q, .int .i64 o.nt, .int .i64 o.nr, .int .i64 o.pt, .int .i64 o.pr, .string o.nm, .bool o.d]
abbrev opC (o : O) : Array Value := #[.int .i64 o.t, .int .i64 o.r, .int .i64 o.q, .int .i64 o.nt, .int .i64 o.nr, .int .i64 o.pt, .int .i64 o.pr, .string o.nm, .bool o.d]
theorem wr_drewN {w : World} {B M r : Nat} {s : Wi.St} (h : RdI w B M r s) (n : Nat) : RdI (w.drewN n) B M r s := h.old (Wi.below_drewN w n)
set_option maxRecDepth 100000 in
set_option maxHeartbeats 6400000 in
theorem back_law (w : World) (o : O) (v2 : Value) (ms : List Int) (hT : Tab w) (hf : Fit o) (h2 : Wi.Lies w v2 ms) (hb : Byt ms) (hml : ms.length ≤ maxLen) :
    Calls Tryd.prog 4 #[.agg #[.int .i64 o.t, .int .i64 o.r, .int .i64 o.q, .int .i64 o.nt, .int .i64 o.nr, .int .i64 o.pt, .int .i64 o.pr, .string o.nm, .bool o.d], v2] w fun e w' => e = .returned (.bool true) ∧ Below w.heap.size w w' := by
  have AW := Lib.hid (fun W (hb : Below w.heap.size w W) => awake_any W (tab_later hT hb))
  have T0 := Lib.hid (BX.start w o.t o.r o.q o.nt o.nr o.pt o.pr o.nm o.d)
  obtain ⟨W0, hW0⟩ : ∃ x, w.alloc (.cells #[.int .i64 o.t, .int .i64 o.r, .int .i64 o.q, .int .i64 o.nt, .int .i64 o.nr, .int .i64 o.pt, .int .i64 o.pr, .string o.nm, .bool o.d] 25) = x := ⟨_, rfl⟩
  rw [hW0] at T0
  have HW0 := Lib.hid hW0
  clear hW0
  have L2 := Lib.hid h2
  have HB := Lib.hid hb
  obtain ⟨a2, c2, rfl, _⟩ := id h2
  unfold maxLen at hml
  have LG := Lib.hid (long_any (W0.alloc (.cells (opC o) 25)) _ _ (one_op W0 o))
  have bso := bs_op W0 o
  have B1 := Lib.hid (vstep W0 (.cells (opC o) 25))
  have NO := Lib.hid (fun h => (longO_no (l := [o]) h).2 o (by simp))
  have HF := Lib.hid hf
  clear hf hb h2 hT
  cases hlo : longO [o] with
  | true =>
    rw [hlo] at LG
    clear hlo NO
    go_enter Tryd.func4, Tryd.ntmps4
    go_upto_region 1 with (fail)
    rw [HW0.out]
    obtain ⟨c0, c1, c2, c3, c4, c5, c6, c7, c8⟩ := T0.out.2.cells
    go_wp2_with fail
    refine LG.out.mono ?_
    rintro e w1 ⟨rfl, rfl⟩
    have X1 := Lib.hid (T0.out.1.trans (B1.out.mono T0.out.1.size))
    go_wp2_with fail
    refine (AW.out _ X1.out).mono ?_
    rintro e w2 ⟨rfl, hb⟩
    have X2 := Lib.hid (X1.out.trans (hb.mono X1.out.size))
    clear hb
    go_wp2
    go_returns
    exact ⟨rfl, X2.out⟩
  | false =>
    rw [hlo] at LG
    have hz : o.nm.size ≤ 300 := NO.out hlo
    clear hlo NO
    by_cases hlen : 100 < ms.length
    · go_enter Tryd.func4, Tryd.ntmps4
      go_upto_region 1 with (fail)
      rw [HW0.out]
      obtain ⟨c0, c1, c2, c3, c4, c5, c6, c7, c8⟩ := T0.out.2.cells
      go_wp2_with fail
      refine LG.out.mono ?_
      rintro e w1 ⟨rfl, rfl⟩
      have X1 := Lib.hid (T0.out.1.trans (B1.out.mono T0.out.1.size))
      go_wp2_with fail
      refine (AW.out _ X1.out).mono ?_
      rintro e w2 ⟨rfl, hb⟩
      have X2 := Lib.hid (X1.out.trans (hb.mono X1.out.size))
      clear hb
      go_wp2
      go_returns
      exact ⟨rfl, X2.out⟩
    · go_enter Tryd.func4, Tryd.ntmps4
      go_upto_region 1 with (fail)
      rw [HW0.out]
      obtain ⟨c0, c1, c2, c3, c4, c5, c6, c7, c8⟩ := T0.out.2.cells
      go_wp2_with fail
      refine LG.out.mono ?_
      rintro e w1 ⟨rfl, rfl⟩
      clear c0 c1 c2 c3 c4 c5 c6 c7 c8 bso LG
      have X1 := Lib.hid (show BX w (W0.alloc (.cells (opC o) 25)) o.t o.r o.q o.nt o.nr o.pt o.pr o.nm o.d from T0.out.step B1.out)
      go_upto_region 3 with (fail)
      obtain ⟨V1, hV1⟩ : ∃ x, W0.alloc (.cells (opC o) 25) = x := ⟨_, rfl⟩
      rw [hV1] at X1 ⊢
      clear B1 T0 HW0 hV1
      have WI := Lib.hid (show WrI (V1.alloc (.cells #[.slice none 0 0] 39)) V1.heap.size V1.heap.size (.slice none 0 0) [] from ⟨Nat.le_refl _, heap_alloc_new V1 _, World.ownsRow_nil _ _ _ _⟩)
      have X2 := Lib.hid (X1.out.step (vstep V1 (.cells #[.slice none 0 0] 39)))
      have BV := Lib.hid (vstep V1 (.cells #[.slice none 0 0] 39))
      obtain ⟨V2, hV2⟩ : ∃ x, V1.alloc (.cells #[.slice none 0 0] 39) = x := ⟨_, rfl⟩
      rw [hV2] at WI X2 BV
      have HV2 := Lib.hid hV2
      clear hV2
      have PU := Lib.hid (put_any V2 V1.heap.size V1.heap.size (.slice none 0 0) [] o.t o.r o.q o.nt o.nr o.pt o.pr o.nm o.d HF.out.t HF.out.r HF.out.q HF.out.nt HF.out.nr HF.out.pt HF.out.pr (by omega) WI.out BV.out.size (by simp))
      rw [List.nil_append] at PU
      have OL := Lib.hid (show (oB o).length ≤ 400 from by have := oB_len o HF.out (by omega); omega)
      have OB := Lib.hid (byt_oB o)
      have GP := Lib.hid (fun h => getO_put (o := o) h ms)
      have RP := Lib.hid (fun W => rput_any W o.t o.r o.q o.nt o.nr o.pt o.pr o.nm o.d HF.out.t HF.out.r HF.out.q HF.out.nt HF.out.nr HF.out.pt HF.out.pr (by omega))
      have RR := Lib.hid (fun W => rright_any W o.t o.r o.q o.nt o.nr o.pt o.pr o.nm o.d (by omega))
      rw [show rB o.t o.r o.q o.nt o.nr o.pt o.pr o.nm = rO o from rfl] at RR
      rw [show opB o.t o.r o.q o.nt o.nr o.pt o.pr o.nm o.d = oB o from rfl] at PU RP
      generalize oB o = cs at *
      generalize rO o = ro at *
      go_upto_region 4 with (fail)
      rw [HV2.out]
      obtain ⟨c0, c1, c2, c3, c4, c5, c6, c7, c8⟩ := X2.out.2.cells
      go_wp2_with fail
      refine PU.out.mono ?_
      rintro e w3 ⟨rfl, v3, hw3, he3⟩
      have B3 := Lib.hid (he3.below WI.out BV.out.size)
      have X3 := Lib.hid (show BX w w3 o.t o.r o.q o.nt o.nr o.pt o.pr o.nm o.d from ⟨X2.out.1.trans ((Below.mono B3.out (by have := X1.out.1.size; omega))), (B3.out.block _ (lt_of_block X1.out.2)).trans X2.out.2⟩)
      have WB := Lib.hid (Wi.wbytes_any w3 V1.heap.size V1.heap.size v3 cs hw3 (by have := OL.out; omega))
      clear hw3 he3 PU WI c0 c1 c2 c3 c4 c5 c6 c7 c8
      go_wp2_with fail
      refine WB.out.mono ?_
      rintro e w4 ⟨r4, rfl, ho⟩
      have OW := Lib.hid ho.1
      have G4 := Lib.hid ho.2
      have R4 := Lib.hid (Wi.own_lies ho.1)
      have X4 := Lib.hid (X3.out.step ho.2)
      obtain ⟨ra, rc, rfl⟩ := Wi.own_shape ho.1
      clear ho WB
      obtain ⟨c0, c1, c2, c3, c4, c5, c6, c7, c8⟩ := X4.out.2.cells
      go_wp2_with fail
      refine (RP.out _).mono ?_
      rintro e w5 ⟨r5, rfl, ho⟩
      have R5 := Lib.hid (Wi.own_lies ho.1)
      have X5 := Lib.hid (X4.out.step ho.2)
      have G5 := Lib.hid (G4.out.trans (ho.2.mono G4.out.size))
      have OW5 := Lib.hid (own_below OW.out ho.2)
      have SA := Lib.hid (Wi.same_any w5 _ _ cs (R4.out.later ho.2) R5.out (by have := OL.out; omega))
      obtain ⟨rb, rd, rfl⟩ := Wi.own_shape ho.1
      clear ho RP c0 c1 c2 c3 c4 c5 c6 c7 c8
      go_wp2_with fail
      refine SA.out.mono ?_
      rintro e w6 ⟨rfl, hb⟩
      have X6 := Lib.hid (X5.out.step hb)
      have G6 := Lib.hid (G5.out.trans (hb.mono G5.out.size))
      have OW6 := Lib.hid (own_below OW5.out hb)
      clear hb SA
      obtain ⟨c0, c1, c2, c3, c4, c5, c6, c7, c8⟩ := X6.out.2.cells
      go_wp2_with fail
      refine (RR.out _).mono ?_
      rintro e w7 ⟨rfl, hb⟩
      have X7 := Lib.hid (X6.out.step hb)
      have OW7 := Lib.hid (own_below OW6.out hb)
      have G7 := Lib.hid (G6.out.trans (hb.mono G6.out.size))
      clear hb c0 c1 c2 c3 c4 c5 c6 c7 c8 RR
      cases ro with
      | false =>
        go_wp2_with fail
        refine (AW.out _ X7.out.1).mono ?_
        rintro e w8 ⟨rfl, hb⟩
        have X8 := Lib.hid (X7.out.1.trans (hb.mono X7.out.1.size))
        clear hb
        go_wp2
        go_returns
        exact ⟨rfl, X8.out⟩
      | true =>
        have SR := Lib.hid (Wi.Lies.src (L2.out.later X7.out.1))
        obtain ⟨i0, hi, hz0, hz1, hz2⟩ := info_parts Wi.Tryd.info5
        go_upto_region 10 with (fail)
        go_wp2_with (at_builtin; refine Wi.wpList_append_src_own rfl (.tmp 33) (.tmp 34) 36 36 rfl w3.heap.size 5 i0 (.int .u8 0) 1 1 Tryd.underlying36 hi hz0 hz1 hz2 rfl (by decide) _ _ _ rfl OW7.out _ _ _ rfl SR.out (by have := OL.out; unfold maxLen; omega) (by have := OL.out; omega) G7.out.size ?_; intro v8 w8 hown hgr hsp; have O8 := Lib.hid hown; have G8 := Lib.hid ((Below.refl w3.heap.size w7).grown hgr G7.out.size (fun k hk => (OW7.out.lt k hk).1)); obtain ⟨va8, vc8, rfl⟩ := Wi.own_shape hown; clear hown hgr hsp)
        have X8 := Lib.hid (show BX w w8 o.t o.r o.q o.nt o.nr o.pt o.pr o.nm o.d from ⟨X7.out.1.trans (G8.out.mono X3.out.1.size), (G8.out.block _ (lt_of_block X3.out.2)).trans X7.out.2⟩)
        have LE := Lib.hid (show (cs ++ ms).length = cs.length + ms.length from List.length_append)
        have L8 := Lib.hid (show Wi.Lies w8 (.slice va8 (cs.length + ms.length) vc8) (cs ++ ms) from Wi.own_lies (B := w3.heap.size) (by rw [LE.out, Wi.u8s_append]; exact O8.out))
        have OP := Lib.hid (Wi.open_any w8 _ _ L8.out (byt_append OB.out HB.out) (by have := OL.out; rw [LE.out]; omega))
        have GP := Lib.hid (GP.out trivial)
        generalize cs ++ ms = cm at *
        clear L8 O8 OW OW5 OW6 OW7 SR R4 R5 LE OL OB
        go_wp2_with fail
        refine OP.out.mono ?_
        rintro e w9 ⟨r9, M9, rfl, hr9, hb9⟩
        have X9 := Lib.hid (X8.out.step hb9)
        have GG := Lib.hid (fun W s (h : RdI W w8.heap.size M9 r9 s) (hB : w8.heap.size ≤ W.heap.size) => get_any W w8.heap.size M9 r9 s h hB)
        have GL := Lib.hid (fun W s (h : RdI W w8.heap.size M9 r9 s) => Wi.left_any W w8.heap.size M9 r9 s h)
        have GB := Lib.hid (fun W s (h : RdI W w8.heap.size M9 r9 s) => Wi.bad_any W w8.heap.size M9 r9 s h)
        have HR := Lib.hid (wr_drewN hr9 1)
        have BB := Lib.hid (hb9.trans ((Wi.below_drewN w9 1).mono hb9.size))
        have KEEP := Lib.hid (fun W (hb : Below w8.heap.size w8 W) => (show OpAt W w.heap.size o.t o.r o.q o.nt o.nr o.pt o.pr o.nm o.d from X8.out.2.step hb).cells)
        clear hr9 hb9 OP
        go_upto_region 11 with (fail)
        go_region_held3 (fun w' => w'.cell? ⟨w.heap.size, 0, none⟩ = some (.int .i64 o.t) ∧ w'.cell? ⟨w.heap.size, 1, none⟩ = some (.int .i64 o.r) ∧ w'.cell? ⟨w.heap.size, 2, none⟩ = some (.int .i64 o.q) ∧ w'.cell? ⟨w.heap.size, 3, none⟩ = some (.int .i64 o.nt) ∧ w'.cell? ⟨w.heap.size, 4, none⟩ = some (.int .i64 o.nr) ∧ w'.cell? ⟨w.heap.size, 5, none⟩ = some (.int .i64 o.pt) ∧ w'.cell? ⟨w.heap.size, 6, none⟩ = some (.int .i64 o.pr) ∧ w'.cell? ⟨w.heap.size, 7, none⟩ = some (.string o.nm) ∧ w'.cell? ⟨w.heap.size, 8, none⟩ = some (.bool o.d)) (exact KEEP.out _ BB.out)
          (first
          | (go_at_call 24; refine (GG.out _ _ HR.out BB.out.size).mono ?_; rw [GP.out]; rintro e w2 ⟨rfl, ho⟩; have HR := Lib.hid ho.1; have BB := Lib.hid (BB.out.trans (ho.2.below ho.1.ge BB.out.size)); dsimp only [oV, oCells]; clear ho)
          | (go_at_call 25; refine (GL.out _ _ HR.out).mono ?_; rintro e w2 ⟨rfl, rfl⟩)
          | (go_at_call 26; refine (GB.out _ _ HR.out).mono ?_; rintro e w2 ⟨rfl, rfl⟩)
          | (go_at_call 9; refine (AW.out _ (X8.out.1.trans (BB.out.mono X8.out.1.size))).mono ?_; rintro e w2 ⟨rfl, ho⟩; have BB := Lib.hid (BB.out.trans (ho.mono BB.out.size)); clear ho))
        all_goals
          go_wp2
          go_returns
          exact ⟨rfl, X8.out.1.trans (BB.out.mono X8.out.1.size)⟩
end Go.Proofs.YtifeakmbeaflgaaDoor
