/- The reference's with, Twice, Swap. Made by genoc.py. -/
import Derived.Test.YtdocfoienbadhaaOB
set_option linter.unusedVariables false
namespace Go.Proofs.Ytdocfoienbadhaa
open Go.RowKit

theorem index27 (W : World) (g n cap i : Nat) (hi : i < n) (hn : n ≤ 256) : (Instr.indexAt 27 (.slice (some ⟨g, 0, none⟩) n cap) (.int .i64 (i : Int))).run Try.prog W = .ok (.pointer (some ⟨g, i * 3, none⟩)) W := by
  have h1 : (0 : Int) ≤ (i : Int) := by omega
  have h2 : (i : Int) < (n : Int) := by omega
  have hu := ut27
  go_simp
theorem row_at32 {B : Nat} {W : World} {fv : Value} {fl : List Fl} (h : W.ownsRow B 32 3 fv fl.length (flat fl)) {i : Nat} {f : Fl} (hf : fl[i]? = some f) : ∃ g cap, fv = .slice (some ⟨g, 0, none⟩) fl.length cap ∧ B ≤ g ∧ g < W.heap.size ∧
    W.cell? ⟨g, i * 3, none⟩ = some (.int .i64 f.dst) ∧ W.cell? ⟨g, i * 3 + 1, none⟩ = some f.bv ∧ W.cell? ⟨g, i * 3 + 2, none⟩ = some (.bool f.hurt) := by
  have hi := (List.getElem?_eq_some_iff.1 hf).1
  obtain ⟨a0, a1, a2⟩ := flat_at fl i f hf
  have h2 := h
  rcases h.2 with ⟨_, e⟩ | ⟨g, cap, cur, rfl, hB, hg, _⟩
  · omega
  · exact ⟨g, cap, rfl, hB, lt_of_block hg, (h2.cellAt _ (by omega)).trans a0, (h2.cellAt _ (by omega)).trans a1, (h2.cellAt _ (by omega)).trans a2⟩
theorem row_put32 {W : World} {B g cap : Nat} {fl : List Fl} (h : W.ownsRow B 32 3 (.slice (some ⟨g, 0, none⟩) fl.length cap) fl.length (flat fl)) (i : Nat) (f : Fl) (hi : i < fl.length) :
    (put3 W g (i * 3) f).ownsRow B 32 3 (.slice (some ⟨g, 0, none⟩) fl.length cap) fl.length (flat (fl.set i f)) := by
  have h1 := h.stored (i * 3) (.int .i64 f.dst)
  have h2 := h1.1.stored (i * 3 + 1) f.bv
  have h3 := h2.1.stored (i * 3 + 2) (.bool f.hurt)
  rw [flat_set fl i f hi] at h3
  exact h3.1
theorem store32_at (W : World) (g o : Nat) (d : Int) (a : Option Addr) (n c : Nat) (hu : Bool) (u0 u1 u2 : Value) (c0 : W.cell? ⟨g, o, none⟩ = some u0) (c1 : W.cell? ⟨g, o + 1, none⟩ = some u1) (c2 : W.cell? ⟨g, o + 2, none⟩ = some u2)
    (f0 : W.frozen? ⟨g, o, none⟩ = false) (f1 : W.frozen? ⟨g, o + 1, none⟩ = false) (f2 : W.frozen? ⟨g, o + 2, none⟩ = false) (f : Fl) (hd : f.dst = d) (hb : f.bv = .slice a n c) (hh : f.hurt = hu) :
    (Instr.storeAt 32 (.pointer (some ⟨g, o, none⟩)) (.agg #[.int .i64 d, .slice a n c, .bool hu])).run Try.prog W = .ok () (put3 W g o f) := by
  unfold put3
  rw [hd, hb, hh]
  go_simp
theorem store32_row {W : World} {B g cap : Nat} {fl : List Fl} (h : W.ownsRow B 32 3 (.slice (some ⟨g, 0, none⟩) fl.length cap) fl.length (flat fl)) (i : Nat) (f : Fl) (hi : i < fl.length) (a : Option Addr) (n c : Nat) (hb : f.bv = .slice a n c) :
    (Instr.storeAt 32 (.pointer (some ⟨g, i * 3, none⟩)) (.agg #[.int .i64 f.dst, .slice a n c, .bool f.hurt])).run Try.prog W = .ok () (put3 W g (i * 3) f) := by
  obtain ⟨y, hy⟩ : ∃ y, fl[i]? = some y := ⟨_, List.getElem?_eq_getElem hi⟩
  obtain ⟨g', cap', e, _, _, c0, c1, c2⟩ := row_at32 h hy
  injection e with e e1 e2
  injection e with e
  injection e with e
  subst e
  exact store32_at W g (i * 3) f.dst a n c f.hurt _ _ _ c0 c1 c2 (h.frozenAt _) (h.frozenAt _) (h.frozenAt _) f rfl hb rfl
theorem load27 (W : World) (p : Addr) (a : Option Addr) (n c : Nat) (h : W.cell? p = some (.slice a n c)) : (Instr.loadAt 27 (.pointer (some p))).run Try.prog W = .ok (.slice a n c) W := by go_simp
theorem below_put3' {B : Nat} {w W : World} (h : Below B w W) (g o : Nat) (f : Fl) (hg : B ≤ g) : Below B w (put3 W g o f) :=
  ((h.setCell (p := ⟨g, o, none⟩) hg _).setCell (p := ⟨g, o + 1, none⟩) hg _).setCell (p := ⟨g, o + 2, none⟩) hg _
set_option maxRecDepth 100000 in
set_option maxHeartbeats 3200000 in
theorem rwith_any (N : Nat → Prop) (w : World) (hN : ∀ k, N k → k < w.heap.size) (rv : Value) (rl : List Fl) (lost : Int) (h : RowsN N w rv rl) (i : Nat) (hi : i < rl.length) (f : Fl) (hf : FlN N w f) :
    Calls Try.prog 31 #[nv rv lost, .int .i64 (i : Int), flv f f.bv] w fun e w' => ∃ rv', e = .returned (nv rv' lost) ∧ RowsN N w' rv' (rl.set i f) ∧ Below w.heap.size w w' := by
  obtain ⟨i0, hi32, hz0, hz1, hz2⟩ := info_parts i32
  have HR := Lib.hid h
  have HF := Lib.hid hf
  obtain ⟨ar, cr, rfl⟩ := h.shape
  have hl : rl.length ≤ 256 := by obtain ⟨_, _, _, hl, _⟩ := h; exact hl
  obtain ⟨ab, cb, hbv⟩ := hf.shape
  obtain ⟨fd, fb, fs, fh⟩ := f
  simp only at hbv
  subst hbv
  obtain ⟨W1, e1, B1, R1, s1⟩ := boxed w #[.slice ar rl.length cr, .int .i64 lost] 29
  have E1 := Lib.hid e1
  obtain ⟨W2, e2, B2, R2, s2⟩ := boxed W1 #[.int .i64 fd, .slice ab fs.length cb, .bool fh] 32
  have E2 := Lib.hid e2
  obtain ⟨W3, e3, B3, R3, s3⟩ := boxed W2 #[.slice none 0 0, .int .i64 0] 29
  have E3 := Lib.hid e3
  obtain ⟨W4, e4, B4, R4, s4⟩ := boxed W3 #[.slice none 0 0, .int .i64 lost] 29
  have E4 := Lib.hid e4
  obtain ⟨z, hz⟩ : ∃ z, w.heap.size = z := ⟨_, rfl⟩
  have L1 := Lib.hid ((((B2.trans (B3.mono B2.size)).trans (B4.mono (B2.trans (B3.mono B2.size)).size)).block _ (lt_of_block R1)).trans R1)
  have L2 := Lib.hid (((B3.trans (B4.mono B3.size)).block _ (lt_of_block R2)).trans R2)
  have L3 := Lib.hid ((B4.block _ (lt_of_block R3)).trans R3)
  have L4 := Lib.hid R4
  have BW := Lib.hid (((B1.trans (B2.mono B1.size)).trans (B3.mono (B1.trans (B2.mono B1.size)).size)).trans (B4.mono ((B1.trans (B2.mono B1.size)).trans (B3.mono (B1.trans (B2.mono B1.size)).size)).size))
  have s12 : W1.heap.size = z + 1 := by omega
  have s22 : W2.heap.size = z + 1 + 1 := by omega
  obtain ⟨y, hy⟩ : ∃ y, W3.heap.size = y := ⟨_, rfl⟩
  have s32 : y = z + 3 := by omega
  have s42 : W4.heap.size = z + 4 := by omega
  rw [hz] at L1
  rw [s12] at L2
  rw [s22] at L3
  rw [hy] at L4
  have R1z := Lib.hid (show W3.heap[z]? = some (.cells #[.slice ar rl.length cr, .int .i64 lost] 29 (0, 0)) by rw [← B4.block _ (by omega)]; exact L1.out)
  have HZ := Lib.hid (And.intro hz (And.intro hy (And.intro s32 s42)))
  have k1 := cell1 R1z.out
  have HN := Lib.hid (And.intro hl (And.intro hi hN))
  have SR := Lib.hid (HR.out.step BW.out).src
  have MX := Lib.hid (show 0 + rl.length ≤ maxLen by unfold maxLen; omega)
  have BY := Lib.hid (show (0 + rl.length) * 40 ≤ 140737488355328 by omega)
  have BS := Lib.hid BW.out.size
  have ON := Lib.hid (World.ownsRow_nil W4 w.heap.size 32 3)
  unfold nv flv
  clear h hf e1 e2 e3 e4 B1 B2 B3 B4 R1 R2 R3 R4 s12 s22 s32 s42 hi s1 s2 s3 s4 hl
  go_enter Try.func31, Try.ntmps31
  go_upto_region 1 with (fail)
  rw [E1.out, E2.out, E3.out]
  go_upto_region 2 with (fail)
  rw [E4.out]
  clear k1
  have k0 := cell0 L1.out
  have k4 := cell0 L4.out
  go_upto_region 3 with (refine wpList_append_src_own rfl (.tmp 12) (.tmp 14) 27 27 rfl w.heap.size 32 i0 _ 3 40 ut27 hi32 hz0 hz1 hz2 rfl (Nat.succ_pos _) (.slice none 0 0) (0) ([]) rfl ON.out (.slice ar rl.length cr) (rl.length) (flat rl) rfl SR.out MX.out BY.out BS.out ?_; intro v5 w5 ho hg hs; obtain ⟨a5, c5, rfl⟩ := own_shape ho; have q5 := grown_row hg (nil_ne _) L4.out; have k5 := cell0 q5; have f5 := frozen0 q5)
  simp only [Nat.zero_add, List.nil_append] at ho hs ⊢
  have BG := Lib.hid (grown_below BW.out BS.out hg (fun k e => by cases e))
  have o5 := sprung_ne hs (z := y) (lt_of_block L4.out) (nil_ne y)
  have o5r := sprung_ne hs (z := z + 1 + 1) (lt_of_block L3.out) (nil_ne _)
  have P2 := grown_row hg (nil_ne _) L2.out
  have P3 := grown_row hg (nil_ne _) L3.out
  obtain ⟨W6, hW6⟩ : ∃ W, w5.setCell ⟨y, 0, none⟩ (.slice a5 rl.length c5) = W := ⟨_, rfl⟩
  have HO6 := Lib.hid (show W6.ownsRow w.heap.size 32 3 (.slice a5 rl.length c5) rl.length (flat rl) by rw [← hW6]; exact own_setCell ho o5)
  have o52 : (Value.slice a5 rl.length c5).ownBlock ≠ some (z + 1) := sprung_ne hs (z := z + 1) (lt_of_block L2.out) (nil_ne _)
  have M2 := Lib.hid (show W6.heap[z + 1]? = some (.cells #[.int .i64 fd, .slice ab fs.length cb, .bool fh] 32 (0, 0)) by rw [← hW6]; exact set_other (by have := HZ.out.2.2.1; omega) P2)
  have M3 := Lib.hid (show W6.heap[z + 1 + 1]? = some (.cells #[.slice none 0 0, .int .i64 0] 29 (0, 0)) by rw [← hW6]; exact set_other (by have := HZ.out.2.2.1; omega) P3)
  have M4 := Lib.hid (show W6.heap[y]? = some (.cells #[.slice a5 rl.length c5, .int .i64 lost] 29 (0, 0)) by rw [← hW6]; exact row_set2 _ q5)
  have B6 := Lib.hid (show Below w.heap.size w W6 by rw [← hW6]; exact BG.out.setCell (p := ⟨y, 0, none⟩) (by have := HZ.out.1; have := HZ.out.2.2.1; show w.heap.size ≤ y; omega) _)
  have E6 := Lib.hid hW6
  obtain ⟨fo, hfo⟩ : ∃ fo, rl[i]? = some fo := ⟨_, List.getElem?_eq_getElem HN.out.2.1⟩
  obtain ⟨g, cg, hgv, hBg, _, _, _, _⟩ := row_at32 HO6.out hfo
  injection hgv with ha _ hc
  subst ha
  subst hc
  have S3 := Lib.hid (store32_row HO6.out i ⟨fd, .slice ab fs.length cb, fs, fh⟩ HN.out.2.1 ab fs.length cb rfl)
  have HO7 := Lib.hid (row_put32 HO6.out i ⟨fd, .slice ab fs.length cb, fs, fh⟩ HN.out.2.1)
  have OG := Lib.hid (show g ≠ y ∧ g ≠ z + 1 + 1 from ⟨fun e => o5 (by rw [e]; rfl), fun e => o5r (by rw [e]; rfl)⟩)
  have Q3 := Lib.hid ((put3_other (o := i * 3) (f := ⟨fd, .slice ab fs.length cb, fs, fh⟩) (fun e => OG.out.2 e.symm)).trans M3.out)
  have Q4 := Lib.hid ((put3_other (o := i * 3) (f := ⟨fd, .slice ab fs.length cb, fs, fh⟩) (fun e => OG.out.1 e.symm)).trans M4.out)
  have B7 := Lib.hid (below_put3' B6.out g (i * 3) ⟨fd, .slice ab fs.length cb, fs, fh⟩ hBg)
  clear ho hg hs q5 k5 f5 P2 P3 hW6 k0 k4 o5 o5r BG hfo
  have k4 := cell0 M4.out
  have d0 := cell_of_row _ (z + 1) 0 _ _ _ M2.out
  have d1 := cell_of_row _ (z + 1) 1 _ _ _ M2.out
  have d2 := cell_of_row _ (z + 1) 2 _ _ _ M2.out
  simp at d0 d1 d2
  have hi1 : (0 : Int) ≤ (i : Int) := by omega
  have hi2 : (i : Int) < (rl.length : Int) := by have := HN.out.2.1; omega
  have hl := HN.out.1
  rw [E6.out]
  obtain ⟨W7, hW7⟩ : ∃ W, put3 W6 g (i * 3) ⟨fd, .slice ab fs.length cb, fs, fh⟩ = W := ⟨_, rfl⟩
  rw [hW7] at S3 HO7 Q3 Q4 B7
  go_upto_region 4 with (refine wpList_store_arr rfl (.tmp 21) (.tmp 20) 32 rfl (.pointer (some ⟨g, i * 3, none⟩)) (.agg #[.int .i64 fd, .slice ab fs.length cb, .bool fh]) rfl rfl _ S3.out ?_)
  clear k4 d0 d1 d2
  have c0 := cell0 Q4.out
  have c1 := cell1 Q4.out
  have r0 := cell0 Q3.out
  have r1 := cell1 Q3.out
  have g0 := frozen0 Q3.out
  have g1 := frozen1 Q3.out
  go_wp2
  refine bodyPost_ret (by simp [results, Try.results31, go_sem, r0, r1]; try rfl) rfl ?_
  have hz' := HZ.out.1
  have hb := (B7.out.setCell (p := ⟨z + 1 + 1, 0, none⟩) (by show w.heap.size ≤ z + 1 + 1; omega) (.slice (some ⟨g, 0, none⟩) rl.length c5)).setCell (p := ⟨z + 1 + 1, 1, none⟩) (by show w.heap.size ≤ z + 1 + 1; omega) (.int .i64 lost)
  refine ⟨.slice (some ⟨g, 0, none⟩) rl.length c5, rfl, ?_, ?_⟩
  · refine own_rowsN (B := w.heap.size) (rl := rl.set i ⟨fd, .slice ab fs.length cb, fs, fh⟩) ?_ HN.out.2.2 (by rw [List.length_set]; exact HN.out.1) ?_
    · rw [List.length_set]
      have ne : (Value.slice (some ⟨g, 0, none⟩) rl.length c5).ownBlock ≠ some (z + 1 + 1) := fun e => OG.out.2 (by injection e)
      exact own_setCell (own_setCell HO7.out ne) ne
    · intro f hf
      rcases List.mem_or_eq_of_mem_set hf with hf | rfl
      · exact (HR.out.fls f hf).step hb
      · exact HF.out.step hb
  · first
    | exact hb
    | (rw [hz'] at hb; exact hb)
end Go.Proofs.Ytdocfoienbadhaa
