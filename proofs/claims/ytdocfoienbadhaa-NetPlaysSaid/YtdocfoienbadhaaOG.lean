/- The reference's Clear. Made by genog.py. -/
import Derived.Test.YtdocfoienbadhaaOF
set_option linter.unusedVariables false
namespace Go.Proofs.Ytdocfoienbadhaa
open Go.RowKit

set_option maxRecDepth 100000 in
set_option maxHeartbeats 6400000 in
theorem rclear_any (N : Nat → Prop) (w : World) (hN : ∀ k, N k → k < w.heap.size) (rv : Value) (rl : List Fl) (lost : Int) (h : RowsN N w rv rl) (k : Int) :
    Calls Try.prog 24 #[nv rv lost, .int .i64 k] w fun e w' => ∃ rv', e = .returned (.tuple #[nv rv' lost, .int .i64 ((rl.length - (clearL rl k).length : Nat) : Int)]) ∧ RowsN N w' rv' (clearL rl k) ∧ Below w.heap.size w w' := by
  have HR := Lib.hid h
  have HN := Lib.hid hN
  have hl : rl.length ≤ 256 := by obtain ⟨_, _, _, hl, _⟩ := h; exact hl
  have HL := Lib.hid hl
  obtain ⟨ar, cr, hrv, _, hx⟩ := h
  subst hrv
  have HX := Lib.hid hx
  obtain ⟨W1, e1, B1, R1, s1⟩ := boxed w #[.slice ar rl.length cr, .int .i64 lost] 29
  have E1 := Lib.hid e1
  obtain ⟨W2, e2, B2, R2, s2⟩ := boxed W1 #[.slice none 0 0, .int .i64 0] 29
  have E2 := Lib.hid e2
  obtain ⟨W3, e3, B3, R3, s3⟩ := boxed W2 #[.slice none 0 0, .int .i64 lost] 29
  have E3 := Lib.hid e3
  obtain ⟨z, hz⟩ : ∃ z, w.heap.size = z := ⟨_, rfl⟩
  have s12 : W1.heap.size = z + 1 := by omega
  obtain ⟨b9, hb9⟩ : ∃ b, W2.heap.size = b := ⟨_, rfl⟩
  have HB9 := Lib.hid (show b9 = z + 2 by omega)
  have L1' := (B2.block _ (lt_of_block R1)).trans R1
  have M1 := Lib.hid ((B3.block _ (lt_of_block L1')).trans L1')
  have M2 := Lib.hid ((B3.block _ (lt_of_block R2)).trans R2)
  rw [hz] at M1 L1'
  rw [s12] at M2
  rw [hb9] at R3
  have M9 := Lib.hid R3
  have BB := Lib.hid ((B1.trans (B2.mono B1.size)).trans (B3.mono (B1.trans (B2.mono B1.size)).size))
  have HZ := Lib.hid hz
  have k0 := cell0 L1'
  have k1 := cell1 L1'
  unfold nv
  clear hx e1 e2 e3 B1 B2 B3 R1 R2 R3 s1 s2 s3 s12 hl L1'
  go_enter Try.func24, Try.ntmps24
  go_upto_region 1 with (fail)
  rw [E1.out, E2.out]
  go_upto_region 2 with (fail)
  rw [E3.out]
  clear k0 k1 hb9
  have G0 := Lib.hid (show Gat N w W3 z b9 ar cr rl [] lost none 0 from ⟨M9.out, World.ownsRow_nil _ _ _ _, M1.out, BB.out, fun k _ => nil_ne k⟩)
  have HZB := Lib.hid (show z < b9 ∧ w.heap.size ≤ b9 from ⟨by have := HB9.out; omega, by have := HB9.out; have := HZ.out; omega⟩)
  go_wp2_with fail
  go_loopw [7] (fun iv wr => ∃ (i : Nat) (al : Option Addr) (cl : Nat) (cur : List Fl), iv = .int .i64 i ∧ i ≤ rl.length ∧ Hid (Gat N w wr z b9 ar cr rl cur lost al cl ∧ cur = leftN (goesT k) rl i ∧ W3.heap.size ≤ wr.heap.size ∧ ∀ j, j < W3.heap.size → j < b9 → wr.heap[j]? = W3.heap[j]?)) (fun iv _ => rl.length - (intOf iv).toNat)
  case atStart => exact ⟨0, none, 0, [], rfl, Nat.zero_le _, Lib.hid ⟨G0.out, rfl, Nat.le_refl _, fun _ _ _ => rfl⟩⟩
  case round =>
    obtain ⟨i, al, cl, cur, rfl, hi, hI⟩ := hrel
    have G := Lib.hid hI.out.1
    have ki := cell0 G.out.inp
    have hll := HL.out
    by_cases hlt : i < rl.length
    · obtain ⟨f, hf⟩ : ∃ f, rl[i]? = some f := ⟨_, List.getElem?_eq_getElem hlt⟩
      obtain ⟨⟨g, o, e, hg, _, q0, q1, q2⟩, hfn⟩ := HX.out i f hf
      subst e
      obtain ⟨fa, fca, hbv⟩ := hfn.shape
      obtain ⟨fd, fb, fs, fh⟩ := f
      simp only at hbv q0 q1 q2
      subst hbv
      have EL := Lib.hid (fun (W : World) (hW : Below w.heap.size w W) => And.intro ((hW.cell (p := ⟨g, o + i * 3, none⟩) hg).trans q0) (And.intro ((hW.cell (p := ⟨g, o + i * 3 + 1, none⟩) hg).trans q1) ((hW.cell (p := ⟨g, o + i * 3 + 2, none⟩) hg).trans q2)))
      have hel := (EL.out wr G.out.bel).1
      have HCUR := Lib.hid hI.out.2.1
      have HLC := Lib.hid (show cur.length < 256 by rw [HCUR.out]; have := leftN_len (goesT k) rl i; have := HL.out; omega)
      have HLN := Lib.hid (show leftN (goesT k) rl (i + 1) = leftN (goesT k) rl i ++ (if goesT k i ⟨fd, .slice fa fs.length fca, fs, fh⟩ then [] else [⟨fd, .slice fa fs.length fca, fs, fh⟩]) by
        show leftN (goesT k) rl i ++ (match rl[i]? with | some f => if goesT k i f then [] else [f] | none => []) = _
        rw [hf])
      have HKP := Lib.hid hI.out.2.2
      have hi1 : (0 : Int) ≤ (i : Int) := by omega
      have hi2 : (i : Int) < (rl.length : Int) := by omega
      clear hI hf hfn q0 q1 q2 hg
      by_cases hik : fd = k
      · have HG := Lib.hid (show leftN (goesT k) rl (i + 1) = leftN (goesT k) rl i by
          rw [HLN.out, if_pos (show goesT k i _ = true from decide_eq_true hik), List.append_nil])
        have hnk : (fd != k) = false := by simpa using hik
        clear hik
        go_wp2_with fail
        go_roundw
        case rel => exact ⟨i + 1, al, cl, cur, by go_num, by omega, Lib.hid ⟨G.out, by rw [HG.out]; exact HCUR.out, HKP.out⟩⟩
        case measure => simp [intOf]; omega
      · have hnk : (fd != k) = true := by simpa using hik
        have HNX := Lib.hid (show ∀ W' al' cl', Gat N w W' z b9 (some ⟨g, o, none⟩) cr rl (cur ++ [⟨fd, .slice fa fs.length fca, fs, fh⟩]) lost al' cl' → (wr.heap.size ≤ W'.heap.size ∧ ∀ j, j < wr.heap.size → j < b9 → W'.heap[j]? = wr.heap[j]?) → Gat N w W' z b9 (some ⟨g, o, none⟩) cr rl (cur ++ [⟨fd, .slice fa fs.length fca, fs, fh⟩]) lost al' cl' ∧ cur ++ [⟨fd, .slice fa fs.length fca, fs, fh⟩] = leftN (goesT k) rl (i + 1) ∧ W3.heap.size ≤ W'.heap.size ∧ ∀ j, j < W3.heap.size → j < b9 → W'.heap[j]? = W3.heap[j]? from fun W' al' cl' hG hk =>
          ⟨hG, by rw [HLN.out, if_neg (show ¬ goesT k i _ = true by unfold goesT; simpa using hik), ← HCUR.out], Nat.le_trans HKP.out.1 hk.1, fun j hj hjb => (hk.2 j (Nat.lt_of_lt_of_le hj HKP.out.1) hjb).trans (HKP.out.2 j hj hjb)⟩)
        clear hik
        go_upto_region 6 with (fail)
        clear hel hnk
        have GD := Lib.hid (G.out.step (below_drewN wr 1))
        have HS0 := Lib.hid (show (wr.drewN 1).heap[z]? = some (.cells #[.slice (some ⟨g, o, none⟩) rl.length cr, .int .i64 lost] 29 (0, 0)) ∧ Below w.heap.size w (wr.drewN 1) from ⟨GD.out.inp, GD.out.bel⟩)
        refine wp_region_held_drew (S := (fun w' => w'.heap[z]? = some (.cells #[.slice (some ⟨g, o, none⟩) rl.length cr, .int .i64 lost] 29 (0, 0)) ∧ Below w.heap.size w w')) (by kernel_rfl) HS0.out (fun hHeld => ?_)
        have LP := Lib.hid (fun (W : World) (h : W.heap[z]? = some (.cells #[.slice (some ⟨g, o, none⟩) rl.length cr, .int .i64 lost] 29 (0, 0)) ∧ Below w.heap.size w W) => load27 W ⟨z, 0, none⟩ (some ⟨g, o, none⟩) rl.length cr (cell0 h.1))
        have LE := Lib.hid (fun (W : World) (h : W.heap[z]? = some (.cells #[.slice (some ⟨g, o, none⟩) rl.length cr, .int .i64 lost] 29 (0, 0)) ∧ Below w.heap.size w W) => load32_at W g (o + i * 3) fd fa fs.length fca fh (EL.out W h.2).1 (EL.out W h.2).2.1 (EL.out W h.2).2.2)
        have IX := Lib.hid (fun (W : World) => index27o W g o rl.length cr i hlt HL.out)
        refine take_at (i := 0) 26 ?_ rfl rfl (by kernel_rfl) (by kernel_rfl) (by kernel_rfl) (fun _ _ _ h => h) (.inl ⟨rfl, ?_⟩) hHeld ?_
        rotate_left 1
        · intro w hSw; go_simp; try with_reducible rfl
        simp only [Act.put, List.setIfInBounds_toArray, List.set_cons_zero, List.set_cons_succ]
        refine take_at (i := 2) 28 ?_ rfl rfl (by kernel_rfl) (by kernel_rfl) (by kernel_rfl) (fun _ _ _ h => h) (.inl ⟨rfl, ?_⟩) hHeld ?_
        rotate_left 1
        · intro w hSw; go_simp; try with_reducible rfl
        simp only [Act.put, List.setIfInBounds_toArray, List.set_cons_zero, List.set_cons_succ]
        refine take_at (i := 3) 29 (.slice (some ⟨g, o, none⟩) rl.length cr) rfl rfl (by kernel_rfl) (by kernel_rfl) (by kernel_rfl) (fun _ _ _ h => h) (yields_ld (.tmp 28) 27 (.pointer (some ⟨z, 0, none⟩)) _ LP.out rfl rfl rfl) hHeld ?_
        simp only [Act.put, List.setIfInBounds_toArray, List.set_cons_zero, List.set_cons_succ]
        refine take_at (i := 4) 30 ?_ rfl rfl (by kernel_rfl) (by kernel_rfl) (by kernel_rfl) (fun _ _ _ h => h) (.inl ⟨rfl, ?_⟩) hHeld ?_
        rotate_left 1
        · intro w hSw; go_simp; try with_reducible rfl
        simp only [Act.put, List.setIfInBounds_toArray, List.set_cons_zero, List.set_cons_succ]
        refine take_at (i := 5) 31 (.pointer (some ⟨g, o + i * 3, none⟩)) rfl rfl (by kernel_rfl) (by kernel_rfl) (by kernel_rfl) (fun _ _ _ h => h) (yields_ix (.tmp 29) (.tmp 30) 27 (.slice (some ⟨g, o, none⟩) rl.length cr) (.int .i64 (i : Int)) _ IX.out rfl rfl rfl rfl) hHeld ?_
        simp only [Act.put, List.setIfInBounds_toArray, List.set_cons_zero, List.set_cons_succ]
        refine take_at (i := 6) 32 (.agg #[.int .i64 fd, .slice fa fs.length fca, .bool fh]) rfl rfl (by kernel_rfl) (by kernel_rfl) (by kernel_rfl) (fun _ _ _ h => h) (yields_ld (.tmp 31) 32 (.pointer (some ⟨g, o + i * 3, none⟩)) _ LE.out rfl rfl rfl) hHeld ?_
        simp only [Act.put, List.setIfInBounds_toArray, List.set_cons_zero, List.set_cons_succ]
        obtain ⟨al', cl', w7, ha, hz7, hb7, hk7, hst, hG⟩ := gat_put GD.out HZB.out.1 HZB.out.2 HLC.out ⟨fd, .slice fa fs.length fca, fs, fh⟩ fa fs.length fca rfl
        have HA := Lib.hid ha
        have HST := Lib.hid hst
        have HG := Lib.hid hG
        have HK7 := Lib.hid (And.intro hz7 (And.intro hb7 hk7))
        have VA := Lib.hid (vstep (wr.drewN 1) (.cells #[.int .i64 fd, .slice fa fs.length fca, .bool fh] 32))
        have GV := Lib.hid (GD.out.step VA.out)
        have HS1 := Lib.hid (show ((wr.drewN 1).alloc (.cells #[.int .i64 fd, .slice fa fs.length fca, .bool fh] 32)).heap[z]? = some (.cells #[.slice (some ⟨g, o, none⟩) rl.length cr, .int .i64 lost] 29 (0, 0)) ∧ Below w.heap.size w ((wr.drewN 1).alloc (.cells #[.int .i64 fd, .slice fa fs.length fca, .bool fh] 32)) from ⟨GV.out.inp, GV.out.bel⟩)
        have HS2 := Lib.hid (show w7.heap[z]? = some (.cells #[.slice (some ⟨g, o, none⟩) rl.length cr, .int .i64 lost] 29 (0, 0)) ∧ Below w.heap.size w w7 from ⟨HK7.out.1, HK7.out.2.1⟩)
        have HS3 := Lib.hid (show (w7.setCell ⟨b9, 0, none⟩ (.slice al' (cur.length + 1) cl')).heap[z]? = some (.cells #[.slice (some ⟨g, o, none⟩) rl.length cr, .int .i64 lost] 29 (0, 0)) ∧ Below w.heap.size w (w7.setCell ⟨b9, 0, none⟩ (.slice al' (cur.length + 1) cl')) from ⟨HG.out.inp, HG.out.bel⟩)
        have K7 := Lib.hid (And.intro (show wr.heap.size ≤ (w7.setCell ⟨b9, 0, none⟩ (.slice al' (cur.length + 1) cl')).heap.size by simpa using hk7.1) (fun k (hk : k < wr.heap.size) (hkb : k < b9) => (Below.heap_setCell (a := ⟨b9, 0, none⟩) w7 (.slice al' (cur.length + 1) cl') k (show k ≠ b9 by omega)).trans (hk7.2 k hk (by omega))))
        clear ha hz7 hb7 hk7 hst hG
        refine wpAnyH_ready (rs := [1, 7]) (by kernel_rfl) (by simp) (br_load2 (i := 1) 27 27 (.tmp 26) (.pointer (some ⟨b9, 0, none⟩)) (.slice al cur.length cl) rfl rfl rfl rfl rfl (load27 (wr.drewN 1) ⟨b9, 0, none⟩ al cur.length cl (cell0 GD.out.row)) HS0.out (fun hH => ?_) (br_bslice (i := 7) 33 27 1 _ #[(0, .agg #[.int .i64 fd, .slice fa fs.length fca, .bool fh])] _ _ rfl rfl rfl rfl rfl (bs32 (wr.drewN 1) fd fa fs.length fca fh) HS1.out (fun hH => ?_) AllReadyH.nil))
        · simp only [Act.put, List.setIfInBounds_toArray, List.set_cons_zero, List.set_cons_succ]
          refine wpAnyH_ready (rs := [7]) (by kernel_rfl) (by simp) (br_bslice (i := 7) 33 27 1 _ #[(0, .agg #[.int .i64 fd, .slice fa fs.length fca, .bool fh])] _ _ rfl rfl rfl rfl rfl (bs32 (wr.drewN 1) fd fa fs.length fca fh) HS1.out (fun hH => ?_) AllReadyH.nil)
          simp only [Act.put, List.setIfInBounds_toArray, List.set_cons_zero, List.set_cons_succ]
          refine one_append (i := 8) 34 (.tmp 27) (.tmp 33) 27 27 rfl rfl (by kernel_rfl) rfl rfl _ _ _ w7 rfl rfl HA.out HS2.out (fun hH => ?_)
          simp only [Act.put, List.setIfInBounds_toArray, List.set_cons_zero, List.set_cons_succ]
          refine take_at (i := 9) 35 ?_ rfl rfl (by kernel_rfl) (by kernel_rfl) (by kernel_rfl) (fun _ _ _ h => h) (.inl ⟨rfl, ?_⟩) HS2.out ?_
          rotate_left 1
          · intro w hSw; go_simp; try with_reducible rfl
          simp only [Act.put, List.setIfInBounds_toArray, List.set_cons_zero, List.set_cons_succ]
          refine wpAnyH_ready (rs := [10]) (by kernel_rfl) (by simp) (br_store 27 (.tmp 35) (.tmp 34) (.pointer (some ⟨b9, 0, none⟩)) (.slice al' (cur.length + 1) cl') _ rfl rfl rfl rfl rfl rfl HST.out HS3.out (fun _ => ?_) AllReadyH.nil)
          simp only [Act.put]
          refine wpAnyH_done (by kernel_rfl) ?_ _
          go_wp2_with fail
          go_roundw
          case rel => exact ⟨i + 1, al', cl', cur ++ [⟨fd, .slice fa fs.length fca, fs, fh⟩], by go_num, by omega, Lib.hid (HNX.out _ al' cl' HG.out K7.out)⟩
          case measure => simp [intOf]; omega
        · simp only [Act.put, List.setIfInBounds_toArray, List.set_cons_zero, List.set_cons_succ]
          refine wpAnyH_ready (rs := [1]) (by kernel_rfl) (by simp) (br_load2 (i := 1) 27 27 (.tmp 26) (.pointer (some ⟨b9, 0, none⟩)) (.slice al cur.length cl) rfl rfl rfl rfl rfl (load27 _ ⟨b9, 0, none⟩ al cur.length cl (cell0 GV.out.row)) HS1.out (fun hH => ?_) AllReadyH.nil)
          simp only [Act.put, List.setIfInBounds_toArray, List.set_cons_zero, List.set_cons_succ]
          refine one_append (i := 8) 34 (.tmp 27) (.tmp 33) 27 27 rfl rfl (by kernel_rfl) rfl rfl _ _ _ w7 rfl rfl HA.out HS2.out (fun hH => ?_)
          simp only [Act.put, List.setIfInBounds_toArray, List.set_cons_zero, List.set_cons_succ]
          refine take_at (i := 9) 35 ?_ rfl rfl (by kernel_rfl) (by kernel_rfl) (by kernel_rfl) (fun _ _ _ h => h) (.inl ⟨rfl, ?_⟩) HS2.out ?_
          rotate_left 1
          · intro w hSw; go_simp; try with_reducible rfl
          simp only [Act.put, List.setIfInBounds_toArray, List.set_cons_zero, List.set_cons_succ]
          refine wpAnyH_ready (rs := [10]) (by kernel_rfl) (by simp) (br_store 27 (.tmp 35) (.tmp 34) (.pointer (some ⟨b9, 0, none⟩)) (.slice al' (cur.length + 1) cl') _ rfl rfl rfl rfl rfl rfl HST.out HS3.out (fun _ => ?_) AllReadyH.nil)
          simp only [Act.put]
          refine wpAnyH_done (by kernel_rfl) ?_ _
          go_wp2_with fail
          go_roundw
          case rel => exact ⟨i + 1, al', cl', cur ++ [⟨fd, .slice fa fs.length fca, fs, fh⟩], by go_num, by omega, Lib.hid (HNX.out _ al' cl' HG.out K7.out)⟩
          case measure => simp [intOf]; omega
    · have hie : i = rl.length := by omega
      have HCUR := Lib.hid (show cur = clearL rl k by rw [hI.out.2.1, hie]; rfl)
      have HK := Lib.hid hI.out.2.2
      have G1 := Lib.hid (G.out.step (below_drewN wr 1))
      have T2 := Lib.hid (show (wr.drewN 1).heap[z + 1]? = some (.cells #[.slice none 0 0, .int .i64 0] 29 (0, 0)) from (HK.out.2 (z + 1) (by have := lt_of_block M2.out; omega) (by have := HB9.out; omega)).trans M2.out)
      have NB := Lib.hid (show b9 ≠ z + 1 ∧ z ≠ z + 1 ∧ z + 1 ≤ b9 from ⟨by have := HB9.out; omega, by omega, by have := HB9.out; omega⟩)
      obtain ⟨nc, hnc⟩ : ∃ m, cur.length = m := ⟨_, rfl⟩
      have HNC := Lib.hid hnc
      have hncl : nc ≤ rl.length := by rw [← hnc, HCUR.out]; exact (clearL_sub rl k).length_le
      have HWR := Lib.hid (show IntKind.i64.wrap ((rl.length : Int) - (nc : Int)) = ((rl.length - nc : Nat) : Int) by
        rw [IntKind.wrap_i64]
        omega)
      have HRES := Lib.hid (show (clearL rl k).length = nc by rw [← HCUR.out]; exact hnc)
      have G9 := Lib.hid (show (wr.drewN 1).heap[b9]? = some (.cells #[.slice al nc cl, .int .i64 lost] 29 (0, 0)) by rw [← hnc]; exact G1.out.row)
      have G0z := Lib.hid G1.out.inp
      have SA := Lib.hid (fun (U : World) x y (hU : U.heap[z + 1]? = some (.cells #[x, y] 29 (0, 0))) => store29 U (z + 1) al nc cl lost x y hU)
      clear hI hie hnc
      go_upto_region 7 with (fail)
      clear ki hi hlt
      go_cut [5] from 36 to 43 (fun ev wx => ev = .int .i64 ((rl.length - nc : Nat) : Int) ∧ RowsN N wx (.slice al nc cl) (clearL rl k) ∧ Below w.heap.size w wx ∧ wx.heap[z + 1]? = some (.cells #[.slice al nc cl, .int .i64 lost] 29 (0, 0)))
      case first =>
        have GL := Lib.hid (show ∀ U : World, Below w.heap.size w U → U.ownsRow w.heap.size 32 3 (.slice al nc cl) nc (flat cur) → RowsN N U (.slice al nc cl) (clearL rl k) from fun U hb ho => by
          rw [← HCUR.out]
          rw [← HNC.out] at ho ⊢
          refine own_rowsN ho HN.out (by rw [HCUR.out]; exact Nat.le_trans (clearL_sub rl k).length_le HL.out) fun f hf => ?_
          rw [HCUR.out] at hf
          exact (HR.out.fls f ((clearL_sub rl k).subset hf)).step hb)
        have OW := Lib.hid (show (wr.drewN 1).ownsRow w.heap.size 32 3 (.slice al nc cl) nc (flat cur) by rw [← HNC.out]; exact G1.out.own)
        have NE := Lib.hid (show (Value.slice al nc cl).ownBlock ≠ some (z + 1) by rw [← HNC.out]; exact G1.out.ne _ NB.out.2.2)
        have BD := Lib.hid G1.out.bel
        have ZW := Lib.hid (show w.heap.size ≤ z + 1 by have := HZ.out; omega)
        refine wp_region_held_drew (S := fun w' => w'.heap[b9]? = some (.cells #[.slice al nc cl, .int .i64 lost] 29 (0, 0)) ∧ w'.heap[z]? = some (.cells #[.slice ar rl.length cr, .int .i64 lost] 29 (0, 0))) (by kernel_rfl) ⟨G9.out, G0z.out⟩ (fun hHeld => ?_)
        have LA := Lib.hid (fun (W : World) (h : W.heap[b9]? = some (.cells #[.slice al nc cl, .int .i64 lost] 29 (0, 0)) ∧ W.heap[z]? = some (.cells #[.slice ar rl.length cr, .int .i64 lost] 29 (0, 0))) => load29 W b9 al nc cl lost h.1)
        have LB := Lib.hid (fun (W : World) (h : W.heap[b9]? = some (.cells #[.slice al nc cl, .int .i64 lost] 29 (0, 0)) ∧ W.heap[z]? = some (.cells #[.slice ar rl.length cr, .int .i64 lost] 29 (0, 0))) => load27 W ⟨b9, 0, none⟩ al nc cl (cell0 h.1))
        have LC := Lib.hid (fun (W : World) (h : W.heap[b9]? = some (.cells #[.slice al nc cl, .int .i64 lost] 29 (0, 0)) ∧ W.heap[z]? = some (.cells #[.slice ar rl.length cr, .int .i64 lost] 29 (0, 0))) => load27 W ⟨z, 0, none⟩ ar rl.length cr (cell0 h.2))
        unfold nv at LA
        refine take_at (i := 0) 36 (.agg #[.slice al nc cl, .int .i64 lost]) rfl rfl (by kernel_rfl) (by kernel_rfl) (by kernel_rfl) (fun _ _ _ h => h) (yields_ld (.tmp 6) 29 (.pointer (some ⟨b9, 0, none⟩)) _ LA.out rfl rfl rfl) hHeld ?_
        simp only [Act.put, List.setIfInBounds_toArray, List.set_cons_zero, List.set_cons_succ]
        refine take_at (i := 1) 37 ?_ rfl rfl (by kernel_rfl) (by kernel_rfl) (by kernel_rfl) (fun _ _ _ h => h) (.inl ⟨rfl, ?_⟩) hHeld ?_
        rotate_left 1
        · intro w hSw; go_simp; try with_reducible rfl
        simp only [Act.put, List.setIfInBounds_toArray, List.set_cons_zero, List.set_cons_succ]
        refine take_at (i := 2) 38 (.slice ar rl.length cr) rfl rfl (by kernel_rfl) (by kernel_rfl) (by kernel_rfl) (fun _ _ _ h => h) (yields_ld (.tmp 37) 27 (.pointer (some ⟨z, 0, none⟩)) _ LC.out rfl rfl rfl) hHeld ?_
        simp only [Act.put, List.setIfInBounds_toArray, List.set_cons_zero, List.set_cons_succ]
        refine take_at (i := 3) 39 ?_ rfl rfl (by kernel_rfl) (by kernel_rfl) (by kernel_rfl) (fun _ _ _ h => h) (.inl ⟨rfl, ?_⟩) hHeld ?_
        rotate_left 1
        · intro w hSw; go_simp; try with_reducible rfl
        simp only [Act.put, List.setIfInBounds_toArray, List.set_cons_zero, List.set_cons_succ]
        refine take_at (i := 4) 40 ?_ rfl rfl (by kernel_rfl) (by kernel_rfl) (by kernel_rfl) (fun _ _ _ h => h) (.inl ⟨rfl, ?_⟩) hHeld ?_
        rotate_left 1
        · intro w hSw; go_simp; try with_reducible rfl
        simp only [Act.put, List.setIfInBounds_toArray, List.set_cons_zero, List.set_cons_succ]
        refine take_at (i := 5) 41 (.slice al nc cl) rfl rfl (by kernel_rfl) (by kernel_rfl) (by kernel_rfl) (fun _ _ _ h => h) (yields_ld (.tmp 40) 27 (.pointer (some ⟨b9, 0, none⟩)) _ LB.out rfl rfl rfl) hHeld ?_
        simp only [Act.put, List.setIfInBounds_toArray, List.set_cons_zero, List.set_cons_succ]
        refine take_at (i := 6) 42 ?_ rfl rfl (by kernel_rfl) (by kernel_rfl) (by kernel_rfl) (fun _ _ _ h => h) (.inl ⟨rfl, ?_⟩) hHeld ?_
        rotate_left 1
        · intro w hSw; go_simp; try with_reducible rfl
        simp only [Act.put, List.setIfInBounds_toArray, List.set_cons_zero, List.set_cons_succ]
        refine take_at (i := 7) 43 ?_ rfl rfl (by kernel_rfl) (by kernel_rfl) (by kernel_rfl) (fun _ _ _ h => h) (.inl ⟨rfl, ?_⟩) hHeld ?_
        rotate_left 1
        · intro w hSw; go_simp; try with_reducible rfl
        simp only [Act.put, List.setIfInBounds_toArray, List.set_cons_zero, List.set_cons_succ]
        have HA1 := Lib.hid (And.intro ((set2_other (x := .slice al nc cl) (y := .int .i64 lost) NB.out.1).trans G9.out) ((set2_other (x := .slice al nc cl) (y := .int .i64 lost) NB.out.2.1).trans G0z.out))
        have FA := Lib.hid (show RowsN N (set2 (wr.drewN 1) (z + 1) (.slice al nc cl) (.int .i64 lost)) (.slice al nc cl) (clearL rl k) ∧ Below w.heap.size w (set2 (wr.drewN 1) (z + 1) (.slice al nc cl) (.int .i64 lost)) ∧ (set2 (wr.drewN 1) (z + 1) (.slice al nc cl) (.int .i64 lost)).heap[z + 1]? = some (.cells #[.slice al nc cl, .int .i64 lost] 29 (0, 0)) from
          ⟨GL.out _ (below_set2 BD.out ZW.out _ _) (own_set2 OW.out NE.out), below_set2 BD.out ZW.out _ _, set2_row T2.out _ _⟩)
        refine wpAnyH_ready (rs := [8]) (by kernel_rfl) (by simp) (br_store (i := 8) 29 (.tmp 4) (.tmp 36) (.pointer (some ⟨z + 1, 0, none⟩)) (.agg #[.slice al nc cl, .int .i64 lost]) (set2 (wr.drewN 1) (z + 1) (.slice al nc cl) (.int .i64 lost)) rfl rfl rfl rfl rfl rfl (SA.out (wr.drewN 1) _ _ T2.out) HA1.out (fun _ => ?_) AllReadyH.nil)
        simp only [Act.put]
        refine take_at (i := 9) 5 ?_ rfl rfl (by kernel_rfl) (by kernel_rfl) (by kernel_rfl) (fun _ _ _ h => h) (.inl ⟨rfl, ?_⟩) HA1.out ?_
        rotate_left 1
        · intro w hSw; go_simp; try with_reducible rfl
        simp only [Act.put, List.setIfInBounds_toArray, List.set_cons_zero, List.set_cons_succ]
        refine wpAnyH_done (by kernel_rfl) ?_ _
        go_wp2_with fail
        go_meet
        exact ⟨by rw [← HWR.out], FA.out⟩
      case rest =>
        obtain ⟨rfl, hR, hB, hF⟩ := hcut
        have HF := Lib.hid (And.intro hR hB)
        have r0 := cell0 hF
        have r1 := cell1 hF
        clear hR hB hF
        go_wp2
        refine bodyPost_ret (by simp [results, Try.results24, go_sem, r0, r1]; try rfl) rfl ?_
        have hz' := HZ.out
        have q := HF.out.2
        first
        | exact ⟨.slice al nc cl, by rw [HRES.out], HF.out.1, q⟩
        | (rw [hz'] at q; exact ⟨.slice al nc cl, by rw [HRES.out], HF.out.1, q⟩)
end Go.Proofs.Ytdocfoienbadhaa
