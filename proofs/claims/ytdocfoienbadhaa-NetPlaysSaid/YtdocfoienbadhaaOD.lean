/- The reference's Twice, Swap. Made by genod.py. -/
import Derived.Test.YtdocfoienbadhaaOC
set_option linter.unusedVariables false
namespace Go.Proofs.Ytdocfoienbadhaa
open Go.RowKit

theorem load32 (W : World) (b : Nat) (d : Int) (a : Option Addr) (n c : Nat) (hu : Bool) (h : W.heap[b]? = some (.cells #[.int .i64 d, .slice a n c, .bool hu] 32 (0, 0))) : (Instr.loadAt 32 (.pointer (some ⟨b, 0, none⟩))).run Try.prog W = .ok (.agg #[.int .i64 d, .slice a n c, .bool hu]) W := by
  have c0 := cell_of_row _ b 0 _ _ _ h
  have c1 := cell_of_row _ b 1 _ _ _ h
  have c2 := cell_of_row _ b 2 _ _ _ h
  simp at c0 c1 c2
  go_simp
theorem below_two {w W : World} {b : Nat} (hb : Below w.heap.size w W) (h : w.heap.size ≤ b) (x y : Value) : Below w.heap.size w ((W.setCell ⟨b, 0, none⟩ x).setCell ⟨b, 1, none⟩ y) :=
  (hb.setCell (p := ⟨b, 0, none⟩) h x).setCell (p := ⟨b, 1, none⟩) h y
theorem store29 (W : World) (z : Nat) (a : Option Addr) (n c : Nat) (l : Int) (x y : Value) (h : W.heap[z]? = some (.cells #[x, y] 29 (0, 0))) : (Instr.storeAt 29 (.pointer (some ⟨z, 0, none⟩)) (.agg #[.slice a n c, .int .i64 l])).run Try.prog W = .ok () ((W.setCell ⟨z, 0, none⟩ (.slice a n c)).setCell ⟨z, 1, none⟩ (.int .i64 l)) := by
  have c0 := cell0 h
  have c1 := cell1 h
  have f0 := frozen0 h
  have f1 := frozen1 h
  go_simp
/-- Apart from a box, too. -/
def Or1 (N : Nat → Prop) (b : Nat) : Nat → Prop := fun k => N k ∨ k = b
theorem RowsN.more {N : Nat → Prop} {w W : World} {v : Value} {rl : List Fl} (h : RowsN N w v rl) (hb : Below w.heap.size w W) {b : Nat} (hz : w.heap.size ≤ b) : RowsN (Or1 N b) W v rl :=
  h.move hb.size fun k hk hn => ⟨hb.block k hk, fun e => e.elim hn (fun e => by omega)⟩
theorem FlN.more {N : Nat → Prop} {w W : World} {f : Fl} (h : FlN N w f) (hb : Below w.heap.size w W) {b : Nat} (hz : w.heap.size ≤ b) : FlN (Or1 N b) W f :=
  h.move hb.size fun k hk hn => ⟨hb.block k hk, fun e => e.elim hn (fun e => by omega)⟩
theorem RowsN.less2 {N : Nat → Prop} {W : World} {v : Value} {rl : List Fl} {b : Nat} (h : RowsN (Or1 N b) W v rl) (x y : Value) : RowsN N ((W.setCell ⟨b, 0, none⟩ x).setCell ⟨b, 1, none⟩ y) v rl :=
  h.move (by simp) fun k hk hn => ⟨(Below.heap_setCell (a := ⟨b, 1, none⟩) _ _ _ (show k ≠ b from fun e => hn (.inr e))).trans (Below.heap_setCell (a := ⟨b, 0, none⟩) _ _ _ (show k ≠ b from fun e => hn (.inr e))), fun e => hn (.inl e)⟩
set_option maxRecDepth 100000 in
set_option maxHeartbeats 3200000 in
theorem rtwice_out (N : Nat → Prop) (w : World) (rv : Value) (rl : List Fl) (lost : Int) (h : RowsN N w rv rl) (k : Int) (hk : ¬ (0 ≤ k ∧ k < (rl.length : Int))) :
    Calls Try.prog 21 #[nv rv lost, .int .i64 k] w fun e w' => e = .returned (.tuple #[nv rv lost, .int .i64 8]) ∧ Below w.heap.size w w' := by
  have HR := Lib.hid h
  obtain ⟨ar, cr, rfl⟩ := h.shape
  obtain ⟨W1, e1, B1, R1, s1⟩ := boxed w #[.slice ar rl.length cr, .int .i64 lost] 29
  have E1 := Lib.hid e1
  obtain ⟨W2, e2, B2, R2, s2⟩ := boxed W1 #[.slice none 0 0, .int .i64 0] 29
  have E2 := Lib.hid e2
  obtain ⟨z, hz⟩ : ∃ z, w.heap.size = z := ⟨_, rfl⟩
  have L1 := Lib.hid ((B2.block _ (lt_of_block R1)).trans R1)
  have s12 : W1.heap.size = z + 1 := by omega
  have s22 : W2.heap.size = z + 2 := by omega
  rw [hz] at L1
  rw [s12] at R2
  have L2 := Lib.hid R2
  have BW := Lib.hid (B1.trans (B2.mono B1.size))
  have HZ := Lib.hid (And.intro hz s22)
  have k0 := cell0 L1.out
  have k1 := cell1 L1.out
  have LK := Lib.hid (rlook_out N W2 _ rl lost (HR.out.step BW.out) k hk)
  unfold nv flz at LK
  unfold nv
  clear h e1 e2 B1 B2 R1 R2 s1 s2 s12 s22 hk
  go_enter Try.func21, Try.ntmps21
  go_upto_region 1 with (fail)
  rw [E1.out, E2.out]
  go_wp2_with fail
  refine LK.out.mono ?_
  rintro e w3 ⟨rfl, b3⟩
  obtain ⟨W4, e4, B4, R4, s4⟩ := boxed w3 #[.int .i64 0, .slice none 0 0, .bool false] 32
  have E4 := Lib.hid e4
  have BX := Lib.hid (b3.trans (B4.mono b3.size))
  have BB := Lib.hid (BW.out.trans (BX.out.mono BW.out.size))
  have M1 := (BX.out.block _ (lt_of_block L1.out)).trans L1.out
  have M2 := (BX.out.block _ (lt_of_block L2.out)).trans L2.out
  have k0 := cell0 M1
  have k1 := cell1 M1
  have r0 := cell0 M2
  have r1 := cell1 M2
  have g0 := frozen0 M2
  have g1 := frozen1 M2
  clear e4 B4 R4 s4 b3 M1 M2
  go_upto_region 2 with (fail)
  rw [E4.out]
  go_wp2
  refine bodyPost_ret (by simp [results, Try.results21, go_sem, r0, r1]; try rfl) rfl ?_
  have hz' := HZ.out.1
  have q := below_two BB.out (show w.heap.size ≤ z + 1 by omega) (.slice ar rl.length cr) (.int .i64 lost)
  first
  | exact ⟨rfl, q⟩
  | (rw [hz'] at q; exact ⟨rfl, q⟩)
set_option maxRecDepth 100000 in
set_option maxHeartbeats 3200000 in
theorem rtwice_in (N : Nat → Prop) (w : World) (hN : ∀ k, N k → k < w.heap.size) (rv : Value) (rl : List Fl) (lost : Int) (h : RowsN N w rv rl) (hn : rl.length < 256) (i : Nat) (f : Fl) (hf : rl[i]? = some f) :
    Calls Try.prog 21 #[nv rv lost, .int .i64 (i : Int)] w fun e w' => ∃ rv', e = .returned (.tuple #[nv rv' lost, .int .i64 0]) ∧ RowsN N w' rv' (rl ++ [f]) ∧ Below w.heap.size w w' := by
  have hff := h.fls f (List.mem_iff_getElem?.2 ⟨i, hf⟩)
  have HFF := Lib.hid hff
  have HX := Lib.hid (And.intro hn hN)
  have HR := Lib.hid h
  obtain ⟨ar, cr, rfl⟩ := h.shape
  obtain ⟨W1, e1, B1, R1, s1⟩ := boxed w #[.slice ar rl.length cr, .int .i64 lost] 29
  have E1 := Lib.hid e1
  obtain ⟨W2, e2, B2, R2, s2⟩ := boxed W1 #[.slice none 0 0, .int .i64 0] 29
  have E2 := Lib.hid e2
  obtain ⟨z, hz⟩ : ∃ z, w.heap.size = z := ⟨_, rfl⟩
  have L1 := Lib.hid ((B2.block _ (lt_of_block R1)).trans R1)
  have s12 : W1.heap.size = z + 1 := by omega
  have s22 : W2.heap.size = z + 2 := by omega
  rw [hz] at L1
  rw [s12] at R2
  have L2 := Lib.hid R2
  have BW := Lib.hid (B1.trans (B2.mono B1.size))
  have HZ := Lib.hid (And.intro hz s22)
  have k0 := cell0 L1.out
  have k1 := cell1 L1.out
  have LK := Lib.hid (rlook_in N W2 _ rl lost (HR.out.step BW.out) i f hf)
  obtain ⟨ab, cb, hbv⟩ := hff.shape
  obtain ⟨fd, fb, fs, fh⟩ := f
  simp only at hbv
  subst hbv
  unfold nv flv at LK
  unfold nv
  clear h e1 e2 B1 B2 R1 R2 s1 s2 s12 s22 hf hff hn
  go_enter Try.func21, Try.ntmps21
  go_upto_region 1 with (fail)
  rw [E1.out, E2.out]
  go_wp2_with fail
  refine LK.out.mono ?_
  rintro e w3 ⟨rfl, b3⟩
  obtain ⟨W4, e4, B4, R4, s4⟩ := boxed w3 #[.int .i64 fd, .slice ab fs.length cb, .bool fh] 32
  have E4 := Lib.hid e4
  have BX := Lib.hid (b3.trans (B4.mono b3.size))
  have BB := Lib.hid (BW.out.trans (BX.out.mono BW.out.size))
  have M1 := (BX.out.block _ (lt_of_block L1.out)).trans L1.out
  have M2 := Lib.hid ((BX.out.block _ (lt_of_block L2.out)).trans L2.out)
  have SD := Lib.hid (rsend_in (Or1 N (z + 1)) W4 (fun k hk => hk.elim (fun hk => Nat.lt_of_lt_of_le (HX.out.2 k hk) BB.out.size) (fun e => by rw [e]; exact lt_of_block M2.out)) _ rl lost (HR.out.more BB.out (by have := HZ.out.1; omega)) HX.out.1 _ (HFF.out.more BB.out (by have := HZ.out.1; omega)))
  unfold nv flv at SD
  obtain ⟨b4, hb4⟩ : ∃ b, w3.heap.size = b := ⟨_, rfl⟩
  rw [hb4] at R4
  have k0 := cell0 M1
  have k1 := cell1 M1
  have d0 := cell_of_row _ b4 0 _ _ _ R4
  have d1 := cell_of_row _ b4 1 _ _ _ R4
  have d2 := cell_of_row _ b4 2 _ _ _ R4
  simp at d0 d1 d2
  clear e4 B4 R4 s4 b3 M1
  go_upto_region 2 with (fail)
  rw [E4.out]
  go_wp2_with fail
  refine SD.out.mono ?_
  rintro e w5 ⟨rv', rfl, hR, b5⟩
  have HR5 := Lib.hid hR
  obtain ⟨a5, c5, hrv⟩ := hR.shape
  rw [List.length_append, List.length_singleton] at hrv
  subst hrv
  have BB := Lib.hid (BB.out.trans (b5.mono BB.out.size))
  have M3 := Lib.hid ((b5.block _ (lt_of_block M2.out)).trans M2.out)
  have r0 := cell0 M3.out
  have r1 := cell1 M3.out
  have g0 := frozen0 M3.out
  have g1 := frozen1 M3.out
  have HLT := Lib.hid (Nat.lt_of_lt_of_le (lt_of_block L2.out) (Nat.le_trans BX.out.size b5.size))
  clear hR b5 k0 k1 d0 d1 d2
  go_wp2
  refine bodyPost_ret (by simp [results, Try.results21, go_sem, r0, r1]; try rfl) rfl ?_
  have hz' := HZ.out.1
  have hb := below_two BB.out (show w.heap.size ≤ z + 1 by omega) (.slice a5 (rl.length + 1) c5) (.int .i64 lost)
  refine ⟨_, rfl, ?_, ?_⟩
  · exact HR5.out.less2 _ _
  · first
    | exact hb
    | (rw [hz'] at hb; exact hb)
set_option maxRecDepth 100000 in
set_option maxHeartbeats 3200000 in
theorem rtwice_full (N : Nat → Prop) (w : World) (hN : ∀ k, N k → k < w.heap.size) (rv : Value) (rl : List Fl) (lost : Int) (h : RowsN N w rv rl) (hn : rl.length = 256) (h0 : 0 ≤ lost) (h1 : lost < 100000) (i : Nat) (f : Fl) (hf : rl[i]? = some f) :
    Calls Try.prog 21 #[nv rv lost, .int .i64 (i : Int)] w fun e w' => e = .returned (.tuple #[nv rv (lost + 1), .int .i64 7]) ∧ Below w.heap.size w w' := by
  have hff := h.fls f (List.mem_iff_getElem?.2 ⟨i, hf⟩)
  have HFF := Lib.hid hff
  have HX := Lib.hid (And.intro hn hN)
  have HR := Lib.hid h
  obtain ⟨ar, cr, rfl⟩ := h.shape
  obtain ⟨W1, e1, B1, R1, s1⟩ := boxed w #[.slice ar rl.length cr, .int .i64 lost] 29
  have E1 := Lib.hid e1
  obtain ⟨W2, e2, B2, R2, s2⟩ := boxed W1 #[.slice none 0 0, .int .i64 0] 29
  have E2 := Lib.hid e2
  obtain ⟨z, hz⟩ : ∃ z, w.heap.size = z := ⟨_, rfl⟩
  have L1 := Lib.hid ((B2.block _ (lt_of_block R1)).trans R1)
  have s12 : W1.heap.size = z + 1 := by omega
  have s22 : W2.heap.size = z + 2 := by omega
  rw [hz] at L1
  rw [s12] at R2
  have L2 := Lib.hid R2
  have BW := Lib.hid (B1.trans (B2.mono B1.size))
  have HZ := Lib.hid (And.intro hz s22)
  have k0 := cell0 L1.out
  have k1 := cell1 L1.out
  have LK := Lib.hid (rlook_in N W2 _ rl lost (HR.out.step BW.out) i f hf)
  obtain ⟨ab, cb, hbv⟩ := hff.shape
  obtain ⟨fd, fb, fs, fh⟩ := f
  simp only at hbv
  subst hbv
  unfold nv flv at LK
  unfold nv
  clear h e1 e2 B1 B2 R1 R2 s1 s2 s12 s22 hf hff hn
  go_enter Try.func21, Try.ntmps21
  go_upto_region 1 with (fail)
  rw [E1.out, E2.out]
  go_wp2_with fail
  refine LK.out.mono ?_
  rintro e w3 ⟨rfl, b3⟩
  obtain ⟨W4, e4, B4, R4, s4⟩ := boxed w3 #[.int .i64 fd, .slice ab fs.length cb, .bool fh] 32
  have E4 := Lib.hid e4
  have BX := Lib.hid (b3.trans (B4.mono b3.size))
  have BB := Lib.hid (BW.out.trans (BX.out.mono BW.out.size))
  have M1 := (BX.out.block _ (lt_of_block L1.out)).trans L1.out
  have M2 := Lib.hid ((BX.out.block _ (lt_of_block L2.out)).trans L2.out)
  have SD := Lib.hid (rsend_full N W4 _ rl lost (HR.out.step BB.out) HX.out.1 h0 h1 _ (HFF.out.step BB.out))
  unfold nv flv at SD
  obtain ⟨b4, hb4⟩ : ∃ b, w3.heap.size = b := ⟨_, rfl⟩
  rw [hb4] at R4
  have k0 := cell0 M1
  have k1 := cell1 M1
  have d0 := cell_of_row _ b4 0 _ _ _ R4
  have d1 := cell_of_row _ b4 1 _ _ _ R4
  have d2 := cell_of_row _ b4 2 _ _ _ R4
  simp at d0 d1 d2
  clear e4 B4 R4 s4 b3 M1
  go_upto_region 2 with (fail)
  rw [E4.out]
  go_wp2_with fail
  refine SD.out.mono ?_
  rintro e w5 ⟨rfl, b5⟩
  have BB := Lib.hid (BB.out.trans (b5.mono BB.out.size))
  have M3 := Lib.hid ((b5.block _ (lt_of_block M2.out)).trans M2.out)
  have r0 := cell0 M3.out
  have r1 := cell1 M3.out
  have g0 := frozen0 M3.out
  have g1 := frozen1 M3.out
  clear b5 k0 k1 d0 d1 d2
  go_wp2
  refine bodyPost_ret (by simp [results, Try.results21, go_sem, r0, r1]; try rfl) rfl ?_
  have hz' := HZ.out.1
  have q := below_two BB.out (show w.heap.size ≤ z + 1 by omega) (.slice ar rl.length cr) (.int .i64 (lost + 1))
  first
  | exact ⟨rfl, q⟩
  | (rw [hz'] at q; exact ⟨rfl, q⟩)
set_option maxRecDepth 100000 in
set_option maxHeartbeats 3200000 in
theorem rswap_in (N : Nat → Prop) (w : World) (hN : ∀ k, N k → k < w.heap.size) (rv : Value) (rl : List Fl) (lost : Int) (h : RowsN N w rv rl) (i j : Nat) (fi fj : Fl) (hi : rl[i]? = some fi) (hj : rl[j]? = some fj) :
    Calls Try.prog 22 #[nv rv lost, .int .i64 (i : Int), .int .i64 (j : Int)] w fun e w' => ∃ rv', e = .returned (.tuple #[nv rv' lost, .int .i64 0]) ∧ RowsN N w' rv' (swapL rl i j fi fj) ∧ Below w.heap.size w w' := by
  have hfi := h.fls fi (List.mem_iff_getElem?.2 ⟨i, hi⟩)
  have hfj := h.fls fj (List.mem_iff_getElem?.2 ⟨j, hj⟩)
  have HFI := Lib.hid hfi
  have HFJ := Lib.hid hfj
  have HN := Lib.hid (And.intro hN (And.intro (List.getElem?_eq_some_iff.1 hi).1 (List.getElem?_eq_some_iff.1 hj).1))
  have HR := Lib.hid h
  obtain ⟨ar, cr, rfl⟩ := h.shape
  obtain ⟨W1, e1, B1, R1, s1⟩ := boxed w #[.slice ar rl.length cr, .int .i64 lost] 29
  have E1 := Lib.hid e1
  obtain ⟨W2, e2, B2, R2, s2⟩ := boxed W1 #[.slice none 0 0, .int .i64 0] 29
  have E2 := Lib.hid e2
  obtain ⟨z, hz⟩ : ∃ z, w.heap.size = z := ⟨_, rfl⟩
  have L1 := Lib.hid ((B2.block _ (lt_of_block R1)).trans R1)
  have s12 : W1.heap.size = z + 1 := by omega
  have s22 : W2.heap.size = z + 2 := by omega
  rw [hz] at L1
  rw [s12] at R2
  have L2 := Lib.hid R2
  have BW := Lib.hid (B1.trans (B2.mono B1.size))
  have HZ := Lib.hid (And.intro hz s22)
  have k0 := cell0 L1.out
  have k1 := cell1 L1.out
  have LI := Lib.hid (rlook_in N W2 _ rl lost (HR.out.step BW.out) i fi hi)
  have LJ := Lib.hid (fun W (hW : Below w.heap.size w W) => rlook_in N W _ rl lost (HR.out.step hW) j fj hj)
  obtain ⟨ai, ci, hbi⟩ := hfi.shape
  obtain ⟨aj, cj, hbj⟩ := hfj.shape
  obtain ⟨di, bi, si, ti⟩ := fi
  obtain ⟨dj, bj, sj, tj⟩ := fj
  simp only at hbi hbj
  subst hbi
  subst hbj
  unfold nv flv at LI LJ
  unfold nv
  clear h e1 e2 B1 B2 R1 R2 s1 s2 s12 s22 hi hj hfi hfj
  go_enter Try.func22, Try.ntmps22
  go_upto_region 1 with (fail)
  rw [E1.out, E2.out]
  go_wp2_with fail
  refine LI.out.mono ?_
  rintro e w3 ⟨rfl, b3⟩
  obtain ⟨W4, e4, B4, R4, s4⟩ := boxed w3 #[.int .i64 di, .slice ai si.length ci, .bool ti] 32
  have E4 := Lib.hid e4
  have BX := Lib.hid (b3.trans (B4.mono b3.size))
  have BB := Lib.hid (BW.out.trans (BX.out.mono BW.out.size))
  have M1 := Lib.hid ((BX.out.block _ (lt_of_block L1.out)).trans L1.out)
  have M2 := Lib.hid ((BX.out.block _ (lt_of_block L2.out)).trans L2.out)
  obtain ⟨bi', hbi'⟩ : ∃ b, w3.heap.size = b := ⟨_, rfl⟩
  rw [hbi'] at R4
  have S3 := Lib.hid (show W2.heap.size ≤ bi' by rw [← hbi']; exact b3.size)
  have RI := Lib.hid R4
  have k0 := cell0 M1.out
  have k1 := cell1 M1.out
  clear e4 B4 R4 s4 b3
  go_upto_region 2 with (fail)
  rw [E4.out]
  go_wp2_with fail
  refine (LJ.out _ BB.out).mono ?_
  rintro e w5 ⟨rfl, b5⟩
  obtain ⟨W6, e6, B6, R6, s6⟩ := boxed w5 #[.int .i64 dj, .slice aj sj.length cj, .bool tj] 32
  have E6 := Lib.hid e6
  have BY := Lib.hid (b5.trans (B6.mono b5.size))
  have BB := Lib.hid (BB.out.trans (BY.out.mono BB.out.size))
  obtain ⟨bj', hbj'⟩ : ∃ b, w5.heap.size = b := ⟨_, rfl⟩
  rw [hbj'] at R6
  have D := Lib.hid (show Below W6.heap.size W6 W6.drew from below_drewN W6 1)
  have BD := Lib.hid (show Below w.heap.size w W6.drew from BB.out.trans (D.out.mono BB.out.size))
  have RJ := Lib.hid ((D.out.block _ (lt_of_block R6)).trans R6)
  have RI' := (BY.out.block _ (lt_of_block RI.out)).trans RI.out
  have RI := Lib.hid ((D.out.block _ (lt_of_block RI')).trans RI')
  have M1' := (BY.out.block _ (lt_of_block M1.out)).trans M1.out
  have M1 := Lib.hid ((D.out.block _ (lt_of_block M1')).trans M1')
  have M2' := (BY.out.block _ (lt_of_block M2.out)).trans M2.out
  have M2 := Lib.hid ((D.out.block _ (lt_of_block M2')).trans M2')
  have NE := Lib.hid (show z + 1 ≠ bi' ∧ z + 1 ≠ bj' from ⟨by have := S3.out; have := lt_of_block L2.out; omega, by intro e; have := lt_of_block M2'; have := hbj'; have := lt_of_block L2.out; have := b5.size; have := BX.out.size; omega⟩)
  have WA := Lib.hid (fun W (hW : Below w.heap.size w W) (hz1 : z + 1 < W.heap.size) => rwith_any (Or1 N (z + 1)) W (fun k hk => hk.elim (fun hk => Nat.lt_of_lt_of_le (HN.out.1 k hk) hW.size) (fun e => by rw [e]; exact hz1)) _ rl lost (HR.out.more hW (by have := HZ.out.1; omega)) i HN.out.2.1 _ (HFJ.out.more hW (by have := HZ.out.1; omega)))
  have WB := Lib.hid (fun W (hW : Below w.heap.size w W) (hz1 : z + 1 < W.heap.size) rv1 (hr : RowsN (Or1 N (z + 1)) W rv1 (rl.set i ⟨dj, .slice aj sj.length cj, sj, tj⟩)) => rwith_any (Or1 N (z + 1)) W (fun k hk => hk.elim (fun hk => Nat.lt_of_lt_of_le (HN.out.1 k hk) hW.size) (fun e => by rw [e]; exact hz1)) rv1 (rl.set i ⟨dj, .slice aj sj.length cj, sj, tj⟩) lost hr j (by rw [List.length_set]; exact HN.out.2.2) _ (HFI.out.more hW (by have := HZ.out.1; omega)))
  unfold nv flv at WA WB
  clear e6 B6 R6 s6 b5 k0 k1 M1' M2' RI' hbi'
  go_upto_region 3 with (fail)
  clear hbj'
  rw [E6.out]
  go_upto_region 5 with (fail)
  go_cut [7] from 31 to 37 (fun ev wx => ev = .int .i64 0 ∧ ∃ a7 c7, RowsN N wx (.slice a7 rl.length c7) (swapL rl i j ⟨di, .slice ai si.length ci, si, ti⟩ ⟨dj, .slice aj sj.length cj, sj, tj⟩) ∧ Below w.heap.size w wx ∧ wx.heap[z + 1]? = some (.cells #[.slice a7 rl.length c7, .int .i64 lost] 29 (0, 0)))
  case first =>
    refine wp_region_held_drew (S := fun w' => w'.heap[z]? = some (.cells #[.slice ar rl.length cr, .int .i64 lost] 29 (0, 0)) ∧ w'.heap[bi']? = some (.cells #[.int .i64 di, .slice ai si.length ci, .bool ti] 32 (0, 0)) ∧ w'.heap[bj']? = some (.cells #[.int .i64 dj, .slice aj sj.length cj, .bool tj] 32 (0, 0))) (by kernel_rfl) ⟨M1.out, RI.out, RJ.out⟩ (fun hHeld => ?_)
    have LA := Lib.hid (fun (W : World) (h : W.heap[z]? = some (.cells #[.slice ar rl.length cr, .int .i64 lost] 29 (0, 0)) ∧ W.heap[bi']? = some (.cells #[.int .i64 di, .slice ai si.length ci, .bool ti] 32 (0, 0)) ∧ W.heap[bj']? = some (.cells #[.int .i64 dj, .slice aj sj.length cj, .bool tj] 32 (0, 0))) => load29 W z ar rl.length cr lost h.1)
    have LB := Lib.hid (fun (W : World) (h : W.heap[z]? = some (.cells #[.slice ar rl.length cr, .int .i64 lost] 29 (0, 0)) ∧ W.heap[bi']? = some (.cells #[.int .i64 di, .slice ai si.length ci, .bool ti] 32 (0, 0)) ∧ W.heap[bj']? = some (.cells #[.int .i64 dj, .slice aj sj.length cj, .bool tj] 32 (0, 0))) => load32 W bi' di ai si.length ci ti h.2.1)
    have LC := Lib.hid (fun (W : World) (h : W.heap[z]? = some (.cells #[.slice ar rl.length cr, .int .i64 lost] 29 (0, 0)) ∧ W.heap[bi']? = some (.cells #[.int .i64 di, .slice ai si.length ci, .bool ti] 32 (0, 0)) ∧ W.heap[bj']? = some (.cells #[.int .i64 dj, .slice aj sj.length cj, .bool tj] 32 (0, 0))) => load32 W bj' dj aj sj.length cj tj h.2.2)
    have STP := Lib.hid (fun W (hb : Below W6.drew.heap.size W6.drew W) => And.intro ((hb.block _ (lt_of_block M1.out)).trans M1.out) (And.intro ((hb.block _ (lt_of_block RI.out)).trans RI.out) ((hb.block _ (lt_of_block RJ.out)).trans RJ.out)))
    unfold nv at LA
    refine take_at (i := 0) 31 (.agg #[.slice ar rl.length cr, .int .i64 lost]) rfl rfl (by kernel_rfl) (by kernel_rfl) (by kernel_rfl) (fun _ _ _ h => h) (yields_ld (.tmp 3) 29 (.pointer (some ⟨z, 0, none⟩)) _ LA.out rfl rfl rfl) hHeld ?_
    simp only [Act.put, List.setIfInBounds_toArray, List.set_cons_zero, List.set_cons_succ]
    refine take_at (i := 1) 32 ?_ rfl rfl (by kernel_rfl) (by kernel_rfl) (by kernel_rfl) (fun _ _ _ h => h) (.inl ⟨rfl, ?_⟩) hHeld ?_
    rotate_left 1
    · intro w hSw; go_simp; try with_reducible rfl
    simp only [Act.put, List.setIfInBounds_toArray, List.set_cons_zero, List.set_cons_succ]
    refine take_at (i := 2) 33 (.agg #[.int .i64 dj, .slice aj sj.length cj, .bool tj]) rfl rfl (by kernel_rfl) (by kernel_rfl) (by kernel_rfl) (fun _ _ _ h => h) (yields_ld (.tmp 10) 32 (.pointer (some ⟨bj', 0, none⟩)) _ LC.out rfl rfl rfl) hHeld ?_
    simp only [Act.put, List.setIfInBounds_toArray, List.set_cons_zero, List.set_cons_succ]
    refine take_at (i := 4) 35 ?_ rfl rfl (by kernel_rfl) (by kernel_rfl) (by kernel_rfl) (fun _ _ _ h => h) (.inl ⟨rfl, ?_⟩) hHeld ?_
    rotate_left 1
    · intro w hSw; go_simp; try with_reducible rfl
    simp only [Act.put, List.setIfInBounds_toArray, List.set_cons_zero, List.set_cons_succ]
    refine take_at (i := 5) 36 (.agg #[.int .i64 di, .slice ai si.length ci, .bool ti]) rfl rfl (by kernel_rfl) (by kernel_rfl) (by kernel_rfl) (fun _ _ _ h => h) (yields_ld (.tmp 8) 32 (.pointer (some ⟨bi', 0, none⟩)) _ LB.out rfl rfl rfl) hHeld ?_
    simp only [Act.put, List.setIfInBounds_toArray, List.set_cons_zero, List.set_cons_succ]
    refine wpAnyH_ready (rs := [3]) (by kernel_rfl) (by simp) (br_call (i := 3) 34 31 #[.agg #[.slice ar rl.length cr, .int .i64 lost], .int .i64 (i : Int), .agg #[.int .i64 dj, .slice aj sj.length cj, .bool tj]] rfl rfl rfl (by go_simp) ((WA.out _ BD.out (lt_of_block M2.out)).mono ?_) AllReadyH.nil)
    rintro e w7 ⟨rv1, rfl, hr1, b7⟩
    have HR1 := Lib.hid hr1
    obtain ⟨a1, c1, hrv⟩ := hr1.shape
    rw [List.length_set] at hrv
    subst hrv
    have H7 := Lib.hid b7
    refine ⟨_, rfl, STP.out _ H7.out, fun hH => ?_⟩
    clear hr1 b7
    simp only [Act.put, List.setIfInBounds_toArray, List.set_cons_zero, List.set_cons_succ]
    refine wpAnyH_ready (rs := [6]) (by kernel_rfl) (by simp) (br_call (i := 6) 37 31 #[.agg #[.slice a1 rl.length c1, .int .i64 lost], .int .i64 (j : Int), .agg #[.int .i64 di, .slice ai si.length ci, .bool ti]] rfl rfl rfl (by go_simp) ((WB.out _ (BD.out.trans (H7.out.mono BD.out.size)) (Nat.lt_of_lt_of_le (lt_of_block M2.out) H7.out.size) _ HR1.out).mono ?_) AllReadyH.nil)
    rintro e w8 ⟨rv2, rfl, hr2, b8⟩
    have HR2 := Lib.hid hr2
    obtain ⟨a2, c2, hrv⟩ := hr2.shape
    rw [List.length_set, List.length_set] at hrv
    subst hrv
    have H8 := Lib.hid (H7.out.trans (b8.mono H7.out.size))
    refine ⟨_, rfl, STP.out _ H8.out, fun hH => ?_⟩
    clear hr2 b8
    simp only [Act.put, List.setIfInBounds_toArray, List.set_cons_zero, List.set_cons_succ]
    have M8 := (H8.out.block _ (lt_of_block M2.out)).trans M2.out
    have S8 := Lib.hid (store29 w8 (z + 1) a2 rl.length c2 lost _ _ M8)
    have B8 := Lib.hid (below_two (BD.out.trans (H8.out.mono BD.out.size)) (show w.heap.size ≤ z + 1 by have := HZ.out.1; omega) (.slice a2 rl.length c2) (.int .i64 lost))
    have ST8 := STP.out _ H8.out
    have FIN := Lib.hid (show ((w8.setCell ⟨z + 1, 0, none⟩ (.slice a2 rl.length c2)).setCell ⟨z + 1, 1, none⟩ (.int .i64 lost)).heap[z + 1]? = some (.cells #[.slice a2 rl.length c2, .int .i64 lost] 29 (0, 0)) from by
      have := row_setC (j := 1) (u := .int .i64 lost) (row_set2 (.slice a2 rl.length c2) M8)
      simpa using this)
    have KP8 := Lib.hid (show ∀ k, k ≠ z + 1 → ((w8.setCell ⟨z + 1, 0, none⟩ (.slice a2 rl.length c2)).setCell ⟨z + 1, 1, none⟩ (.int .i64 lost)).heap[k]? = w8.heap[k]? from fun k hk => (Below.heap_setCell (a := ⟨z + 1, 1, none⟩) _ _ _ hk).trans (Below.heap_setCell (a := ⟨z + 1, 0, none⟩) _ _ _ hk))
    have HS8 := And.intro ((KP8.out z (by omega)).trans ST8.1) (And.intro ((KP8.out bi' (fun e => NE.out.1 e.symm)).trans ST8.2.1) ((KP8.out bj' (fun e => NE.out.2 e.symm)).trans ST8.2.2))
    refine wpAnyH_ready (rs := [7]) (by kernel_rfl) (by simp) (br_store 29 (.tmp 6) (.tmp 37) (.pointer (some ⟨z + 1, 0, none⟩)) (.agg #[.slice a2 rl.length c2, .int .i64 lost]) _ rfl rfl rfl rfl rfl rfl S8.out HS8 (fun _ => ?_) AllReadyH.nil)
    simp only [Act.put]
    refine take_at (i := 8) 7 ?_ rfl rfl (by kernel_rfl) (by kernel_rfl) (by kernel_rfl) (fun _ _ _ h => h) (.inl ⟨rfl, ?_⟩) HS8 ?_
    rotate_left 1
    · intro w hSw; go_simp; try with_reducible rfl
    simp only [Act.put, List.setIfInBounds_toArray, List.set_cons_zero, List.set_cons_succ]
    refine wpAnyH_done (by kernel_rfl) ?_ _
    go_wp2_with fail
    go_meet
    exact ⟨rfl, a2, c2, HR2.out.less2 _ _, B8.out, FIN.out⟩
  case rest =>
    obtain ⟨rfl, a7, c7, hR, hB, hF⟩ := hcut
    have HF := Lib.hid (And.intro hR hB)
    have r0 := cell0 hF
    have r1 := cell1 hF
    have g0 := frozen0 hF
    have g1 := frozen1 hF
    clear hR hB hF
    go_wp2
    refine bodyPost_ret (by simp [results, Try.results22, go_sem, r0, r1]; try rfl) rfl ?_
    have hz' := HZ.out.1
    have q := HF.out.2
    first
    | exact ⟨_, rfl, HF.out.1, q⟩
    | (rw [hz'] at q; exact ⟨_, rfl, HF.out.1, q⟩)
end Go.Proofs.Ytdocfoienbadhaa
