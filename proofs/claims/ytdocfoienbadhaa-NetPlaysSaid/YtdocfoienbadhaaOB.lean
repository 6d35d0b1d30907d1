/- The reference's Send, with. Made by genob.py. -/
import Derived.Test.YtdocfoienbadhaaOA
set_option linter.unusedVariables false
namespace Go.Proofs.Ytdocfoienbadhaa
open Go.RowKit

theorem wpList_store_arr {P : Program} {w : World} {ops : Array Oper} {rest : List Oper} {o : Oper} {a : Act} {Q : Exit → Act → World → Prop} (hgd : o.guard = none) (x y : Operand) (ty : TypeId)
    (ho : o.op = .store ty x y) (p v : Value) (hx : a.eval x = p) (hy : a.eval y = v) (w' : World) (hr : (Instr.storeAt ty p v).run P w = .ok () w')
    (h : wpList P ops Q rest (a.put o.dst undef) w') : wpList P ops Q (o :: rest) a w :=
  wpList_plain hgd fun _ hK => by
    unfold Oper.wp execOp
    simp only [ho, hx, hy, hr, Sem.run_bind, Sem.run_pure, Result.andThen_ok]
    exact hK _ _ h
theorem cell0 {w : World} {z : Nat} {x y : Value} {t : TypeId} {fz : Nat × Nat} (h : w.heap[z]? = some (.cells #[x, y] t fz)) : w.cell? ⟨z, 0, none⟩ = some x := by rw [cell_of_row _ _ _ _ _ _ h]; rfl
theorem cell1 {w : World} {z : Nat} {x y : Value} {t : TypeId} {fz : Nat × Nat} (h : w.heap[z]? = some (.cells #[x, y] t fz)) : w.cell? ⟨z, 1, none⟩ = some y := by rw [cell_of_row _ _ _ _ _ _ h]; rfl
theorem frozen0 {w : World} {z : Nat} {c : Array Value} {t : TypeId} (h : w.heap[z]? = some (.cells c t (0, 0))) : w.frozen? ⟨z, 0, none⟩ = false := frozen_of_row _ z 0 _ _ h
theorem frozen1 {w : World} {z : Nat} {c : Array Value} {t : TypeId} (h : w.heap[z]? = some (.cells c t (0, 0))) : w.frozen? ⟨z, 1, none⟩ = false := frozen_of_row _ z 1 _ _ h
theorem grown_row {W w5 : World} {z : Nat} {ob : Option Nat} {o : Obj} (hg : W.grownBy w5 ob) (hne : ob ≠ some z) (hr : W.heap[z]? = some o) : w5.heap[z]? = some o :=
  (hg.block z (lt_of_block hr) (fun e => hne e.symm)).trans hr
theorem grown_below {B : Nat} {w W w5 : World} {ob : Option Nat} (hb : Below B w W) (hB : B ≤ W.heap.size) (hg : W.grownBy w5 ob) (hl : ∀ k, ob = some k → B ≤ k) : Below B w w5 :=
  ⟨hg.os.trans hb.os, hg.tape.trans hb.tape, hg.output.trans hb.output, Nat.le_trans hb.size hg.size, fun k hk => (hg.block k (Nat.lt_of_lt_of_le hk hB) (fun e => by have := hl k e.symm; omega)).trans (hb.block k hk)⟩
theorem row_set2 {w : World} {z : Nat} {x y : Value} {t : TypeId} {fz : Nat × Nat} (v : Value) (h : w.heap[z]? = some (.cells #[x, y] t fz)) : (w.setCell ⟨z, 0, none⟩ v).heap[z]? = some (.cells #[v, y] t fz) := by
  have := row_setC (j := 0) (u := v) h
  simpa using this
theorem set_other {w : World} {b o k : Nat} {v : Value} {ob : Obj} (hk : k ≠ b) (h : w.heap[k]? = some ob) : (w.setCell ⟨b, o, none⟩ v).heap[k]? = some ob :=
  (Below.heap_setCell (a := ⟨b, o, none⟩) _ _ _ hk).trans h
/-- Fresh, or what it was: not a block of before. -/
theorem sprung_ne {W : World} {v v' : Value} {z : Nat} (hs : Sprung W v v') (hz : z < W.heap.size) (hne : v.ownBlock ≠ some z) : v'.ownBlock ≠ some z := fun e => by
  rcases hs with h | ⟨k, h, hk⟩
  · rw [e] at h; exact hne h.symm
  · rw [e] at h; injection h with h; omega
theorem nil_ne (z : Nat) : (Value.slice none 0 0).ownBlock ≠ some z := fun e => by cases e
theorem load29 (W : World) (z : Nat) (a : Option Addr) (n c : Nat) (l : Int) (h : W.heap[z]? = some (.cells #[.slice a n c, .int .i64 l] 29 (0, 0))) : (Instr.loadAt 29 (.pointer (some ⟨z, 0, none⟩))).run Try.prog W = .ok (nv (.slice a n c) l) W := by
  have c0 := cell0 h
  have c1 := cell1 h
  unfold nv
  go_simp
set_option maxRecDepth 100000 in
set_option maxHeartbeats 3200000 in
theorem rsend_in (N : Nat → Prop) (w : World) (hN : ∀ k, N k → k < w.heap.size) (rv : Value) (rl : List Fl) (lost : Int) (h : RowsN N w rv rl) (hn : rl.length < 256) (f : Fl) (hf : FlN N w f) :
    Calls Try.prog 19 #[nv rv lost, flv f f.bv] w fun e w' => ∃ rv', e = .returned (.tuple #[nv rv' lost, .int .i64 0]) ∧ RowsN N w' rv' (rl ++ [f]) ∧ Below w.heap.size w w' := by
  obtain ⟨i0, hi32, hz0, hz1, hz2⟩ := info_parts i32
  have HR := Lib.hid h
  have HF := Lib.hid hf
  obtain ⟨ar, cr, rfl⟩ := h.shape
  obtain ⟨ab, cb, hbv⟩ := hf.shape
  obtain ⟨fd, fb, fs, fh⟩ := f
  simp only at hbv
  subst hbv
  obtain ⟨W1, e1, B1, R1, s1⟩ := boxed w #[.slice ar rl.length cr, .int .i64 lost] 29
  have E1 := Lib.hid e1
  obtain ⟨W2, e2, B2, R2, s2⟩ := boxed W1 #[.int .i64 fd, .slice ab fs.length cb, .bool fh] 32
  have E2 := Lib.hid e2
  obtain ⟨W3, e3, B3, R3, s3⟩ := boxed W2 #[.slice none 0 0, .int .i64 0] 29
  have E3 := Lib.hid e3
  obtain ⟨W4, e4, B4, R4, s4⟩ := boxed W3 #[.slice none 0 0, .int .i64 lost] 29
  have E4 := Lib.hid e4
  obtain ⟨z, hz⟩ : ∃ z, w.heap.size = z := ⟨_, rfl⟩
  have L1 := Lib.hid ((((B2.trans (B3.mono B2.size)).trans (B4.mono (B2.trans (B3.mono B2.size)).size)).block _ (lt_of_block R1)).trans R1)
  have L2 := Lib.hid (((B3.trans (B4.mono B3.size)).block _ (lt_of_block R2)).trans R2)
  have L3 := Lib.hid ((B4.block _ (lt_of_block R3)).trans R3)
  have L4 := Lib.hid R4
  have BW := Lib.hid (((B1.trans (B2.mono B1.size)).trans (B3.mono (B1.trans (B2.mono B1.size)).size)).trans (B4.mono ((B1.trans (B2.mono B1.size)).trans (B3.mono (B1.trans (B2.mono B1.size)).size)).size))
  have s12 : W1.heap.size = z + 1 := by omega
  have s22 : W2.heap.size = z + 1 + 1 := by omega
  obtain ⟨y, hy⟩ : ∃ y, W3.heap.size = y := ⟨_, rfl⟩
  have s32 : y = z + 3 := by omega
  have s42 : W4.heap.size = z + 4 := by omega
  rw [hz] at L1
  rw [s12] at L2
  rw [s22] at L3
  rw [hy] at L4
  have R1z := Lib.hid (show W3.heap[z]? = some (.cells #[.slice ar rl.length cr, .int .i64 lost] 29 (0, 0)) by rw [← B4.block _ (by omega)]; exact L1.out)
  have HZ := Lib.hid (And.intro hz (And.intro hy (And.intro s32 s42)))
  have hn' : ¬ (256 : Int) ≤ (rl.length : Int) := by omega
  have k0 := cell0 R1z.out
  have k1 := cell1 R1z.out
  have HN := Lib.hid (And.intro hn hN)
  have SR := Lib.hid (HR.out.step BW.out).src
  have FLS := Lib.hid (And.intro (HR.out.step BW.out).fls (HF.out.step BW.out))
  have MX := Lib.hid (show 0 + rl.length ≤ maxLen by unfold maxLen; omega)
  have BY := Lib.hid (show (0 + rl.length) * 40 ≤ 140737488355328 by omega)
  have BS := Lib.hid BW.out.size
  have ON := Lib.hid (World.ownsRow_nil W4 w.heap.size 32 3)
  unfold nv flv
  clear h hf e1 e2 e3 e4 B1 B2 B3 B4 R1 R2 R3 R4 s12 s22 s32 s42 hn s1 s2 s3 s4
  go_enter Try.func19, Try.ntmps19
  go_upto_region 1 with (fail)
  rw [E1.out, E2.out, E3.out]
  go_upto_region 4 with (fail)
  rw [E4.out]
  clear k0 k1
  have k0 := cell0 L1.out
  have k4 := cell0 L4.out
  go_upto_region 5 with (refine wpList_append_src_own rfl (.tmp 21) (.tmp 23) 27 27 rfl w.heap.size 32 i0 _ 3 40 ut27 hi32 hz0 hz1 hz2 rfl (Nat.succ_pos _) (.slice none 0 0) (0) ([]) rfl ON.out (.slice ar rl.length cr) (rl.length) (flat rl) rfl SR.out MX.out BY.out BS.out ?_; intro v5 w5 ho hg hs; obtain ⟨a5, c5, rfl⟩ := own_shape ho; have q5 := grown_row hg (nil_ne _) L4.out; have k5 := cell0 q5; have f5 := frozen0 q5)
  simp only [Nat.zero_add, List.nil_append] at ho hs ⊢
  have BG := Lib.hid (grown_below BW.out BS.out hg (fun k e => by cases e))
  have o5 := sprung_ne hs (z := y) (lt_of_block L4.out) (nil_ne y)
  have o5r := sprung_ne hs (z := z + 1 + 1) (lt_of_block L3.out) (nil_ne _)
  have P2 := grown_row hg (nil_ne _) L2.out
  have P3 := grown_row hg (nil_ne _) L3.out
  obtain ⟨W6, hW6⟩ : ∃ W, w5.setCell ⟨y, 0, none⟩ (.slice a5 rl.length c5) = W := ⟨_, rfl⟩
  have HO6 := Lib.hid (show W6.ownsRow w.heap.size 32 3 (.slice a5 rl.length c5) rl.length (flat rl) by rw [← hW6]; exact own_setCell ho o5)
  have M2 := Lib.hid (show W6.heap[z + 1]? = some (.cells #[.int .i64 fd, .slice ab fs.length cb, .bool fh] 32 (0, 0)) by rw [← hW6]; exact set_other (by have := HZ.out.2.2.1; omega) P2)
  have M3 := Lib.hid (show W6.heap[z + 1 + 1]? = some (.cells #[.slice none 0 0, .int .i64 0] 29 (0, 0)) by rw [← hW6]; exact set_other (by have := HZ.out.2.2.1; omega) P3)
  have M4 := Lib.hid (show W6.heap[y]? = some (.cells #[.slice a5 rl.length c5, .int .i64 lost] 29 (0, 0)) by rw [← hW6]; exact row_set2 _ q5)
  have B6 := Lib.hid (show Below w.heap.size w W6 by rw [← hW6]; exact BG.out.setCell (p := ⟨y, 0, none⟩) (by have := HZ.out.1; have := HZ.out.2.2.1; show w.heap.size ≤ y; omega) _)
  have E6 := Lib.hid hW6
  have O5 := Lib.hid (And.intro o5 o5r)
  clear ho hg hs q5 k5 f5 P2 P3 hW6 k0 k4 o5 o5r BG
  have V7 := Lib.hid (vstep W6 (.cells #[.int .i64 fd, .slice ab fs.length cb, .bool fh] 32))
  have HO7 := Lib.hid (own_kept HO6.out V7.out)
  have M47 := Lib.hid ((V7.out.block _ (lt_of_block M4.out)).trans M4.out)
  have SR7 := Lib.hid (src32 W6 fd ab fs.length cb fh ⟨fd, .slice ab fs.length cb, fs, fh⟩ rfl rfl rfl)
  have MX2 := Lib.hid (show rl.length + 1 ≤ maxLen by unfold maxLen; have := HN.out.1; omega)
  have BY2 := Lib.hid (show (rl.length + 1) * 40 ≤ 140737488355328 by have := HN.out.1; omega)
  have BS2 := Lib.hid (Nat.le_trans B6.out.size V7.out.size)
  have k4 := cell0 M4.out
  have d0 := cell_of_row _ (z + 1) 0 _ _ _ M2.out
  have d1 := cell_of_row _ (z + 1) 1 _ _ _ M2.out
  have d2 := cell_of_row _ (z + 1) 2 _ _ _ M2.out
  simp at d0 d1 d2
  rw [E6.out]
  go_upto_region 6 with (refine wpList_append_src_own rfl (.tmp 27) (.tmp 29) 27 27 rfl w.heap.size 32 i0 _ 3 40 ut27 hi32 hz0 hz1 hz2 rfl (Nat.succ_pos _) (.slice a5 rl.length c5) (rl.length) (flat rl) rfl HO7.out (.slice (some ⟨W6.heap.size, 0, none⟩) 1 1) (1) (fc ⟨fd, .slice ab fs.length cb, fs, fh⟩) rfl SR7.out MX2.out BY2.out BS2.out ?_; intro v8 w8 ho hg hs; obtain ⟨a8, c8, rfl⟩ := own_shape ho; have q8 := grown_row hg O5.out.1 M47.out; have k8 := cell0 q8; have f8 := frozen0 q8)
  have BG := Lib.hid (grown_below (B6.out.trans (V7.out.mono B6.out.size)) BS2.out hg (fun k e => (HO7.out.lt k e).1))
  have o8 := sprung_ne hs (z := y) (lt_of_block M47.out) O5.out.1
  have M37 := (V7.out.block _ (lt_of_block M3.out)).trans M3.out
  have o8r := sprung_ne hs (z := z + 1 + 1) (lt_of_block M37) O5.out.2
  have P3 := grown_row hg O5.out.2 M37
  obtain ⟨W9, hW9⟩ : ∃ W, w8.setCell ⟨y, 0, none⟩ (.slice a8 (rl.length + 1) c8) = W := ⟨_, rfl⟩
  have HO9 := Lib.hid (show W9.ownsRow w.heap.size 32 3 (.slice a8 (rl.length + 1) c8) (rl.length + 1) (flat rl ++ fc ⟨fd, .slice ab fs.length cb, fs, fh⟩) by rw [← hW9]; exact own_setCell ho o8)
  have Q3 := Lib.hid (show W9.heap[z + 1 + 1]? = some (.cells #[.slice none 0 0, .int .i64 0] 29 (0, 0)) by rw [← hW9]; exact set_other (by have := HZ.out.2.2.1; omega) P3)
  have Q4 := Lib.hid (show W9.heap[y]? = some (.cells #[.slice a8 (rl.length + 1) c8, .int .i64 lost] 29 (0, 0)) by rw [← hW9]; exact row_set2 _ q8)
  have B9 := Lib.hid (show Below w.heap.size w W9 by rw [← hW9]; exact BG.out.setCell (p := ⟨y, 0, none⟩) (by have := HZ.out.1; have := HZ.out.2.2.1; show w.heap.size ≤ y; omega) _)
  have E9 := Lib.hid hW9
  have O9 := Lib.hid o8r
  clear ho hg hs q8 k8 f8 P3 hW9 k4 d0 d1 d2 o8 o8r BG M37
  have c0 := cell0 Q4.out
  have c1 := cell1 Q4.out
  have r0 := cell0 Q3.out
  have r1 := cell1 Q3.out
  have g0 := frozen0 Q3.out
  have g1 := frozen1 Q3.out
  rw [E9.out]
  go_wp2
  refine bodyPost_ret (by simp [results, Try.results19, go_sem, r0, r1]; try rfl) rfl ?_
  have hz' := HZ.out.1
  refine ⟨.slice a8 (rl.length + 1) c8, rfl, ?_, ?_⟩
  · refine own_rowsN (B := w.heap.size) (rl := rl ++ [⟨fd, .slice ab fs.length cb, fs, fh⟩]) ?_ HN.out.2 (by rw [List.length_append, List.length_singleton]; have := HN.out.1; omega) ?_
    · rw [flat_snoc, List.length_append, List.length_singleton]
      exact own_setCell (own_setCell HO9.out O9.out) O9.out
    · have hb := (B9.out.setCell (p := ⟨z + 1 + 1, 0, none⟩) (by show w.heap.size ≤ z + 1 + 1; omega) (.slice a8 (rl.length + 1) c8)).setCell (p := ⟨z + 1 + 1, 1, none⟩) (by show w.heap.size ≤ z + 1 + 1; omega) (.int .i64 lost)
      intro f hf
      rcases List.mem_append.1 hf with hf | hf
      · exact (HR.out.fls f hf).step hb
      · rw [List.mem_singleton.1 hf]; exact HF.out.step hb
  · have q := (B9.out.setCell (p := ⟨z + 1 + 1, 0, none⟩) (by show w.heap.size ≤ z + 1 + 1; omega) (.slice a8 (rl.length + 1) c8)).setCell (p := ⟨z + 1 + 1, 1, none⟩) (by show w.heap.size ≤ z + 1 + 1; omega) (.int .i64 lost)
    first
    | exact q
    | (rw [hz'] at q; exact q)
set_option maxRecDepth 100000 in
set_option maxHeartbeats 1600000 in
theorem rsend_full (N : Nat → Prop) (w : World) (rv : Value) (rl : List Fl) (lost : Int) (h : RowsN N w rv rl) (hn : rl.length = 256) (h0 : 0 ≤ lost) (h1 : lost < 100000) (f : Fl) (hf : FlN N w f) :
    Calls Try.prog 19 #[nv rv lost, flv f f.bv] w fun e w' => e = .returned (.tuple #[nv rv (lost + 1), .int .i64 7]) ∧ Below w.heap.size w w' := by
  obtain ⟨ar, cr, rfl⟩ := h.shape
  obtain ⟨ab, cb, hbv⟩ := hf.shape
  obtain ⟨fd, fb, fs, fh⟩ := f
  simp only at hbv
  subst hbv
  obtain ⟨W1, e1, B1, R1, s1⟩ := boxed w #[.slice ar rl.length cr, .int .i64 lost] 29
  have E1 := Lib.hid e1
  obtain ⟨W2, e2, B2, R2, s2⟩ := boxed W1 #[.int .i64 fd, .slice ab fs.length cb, .bool fh] 32
  have E2 := Lib.hid e2
  obtain ⟨W3, e3, B3, R3, s3⟩ := boxed W2 #[.slice none 0 0, .int .i64 0] 29
  have E3 := Lib.hid e3
  obtain ⟨z, hz⟩ : ∃ z, w.heap.size = z := ⟨_, rfl⟩
  have L1 := Lib.hid (((B2.trans (B3.mono B2.size)).block _ (lt_of_block R1)).trans R1)
  have s22 : W2.heap.size = z + 1 + 1 := by omega
  rw [hz] at L1
  rw [s22] at R3
  have BW := Lib.hid ((B1.trans (B2.mono B1.size)).trans (B3.mono (B1.trans (B2.mono B1.size)).size))
  have HZ := Lib.hid hz
  have k0 := cell0 L1.out
  have k1 := cell1 L1.out
  have r0 := cell0 R3
  have r1 := cell1 R3
  have g0 := frozen0 R3
  have g1 := frozen1 R3
  have hge : (256 : Int) ≤ (rl.length : Int) := by omega
  have hwr : wrap64 (lost + 1) = lost + 1 := by unfold wrap64; omega
  unfold nv flv
  clear h hf e1 e2 e3 B1 B2 B3 R1 R2 R3 s22 s1 s2 s3 hn
  go_enter Try.func19, Try.ntmps19
  go_upto_region 1 with (fail)
  rw [E1.out, E2.out, E3.out]
  go_wp2
  refine bodyPost_ret (by simp [results, Try.results19, go_sem, r0, r1]; try rfl) rfl ?_
  have hz' := HZ.out
  have q := (BW.out.setCell (p := ⟨z + 1 + 1, 0, none⟩) (by show w.heap.size ≤ z + 1 + 1; omega) (.slice ar rl.length cr)).setCell (p := ⟨z + 1 + 1, 1, none⟩) (by show w.heap.size ≤ z + 1 + 1; omega) (.int .i64 (lost + 1))
  first
  | exact ⟨rfl, q⟩
  | (rw [hz'] at q; exact ⟨rfl, q⟩)
end Go.Proofs.Ytdocfoienbadhaa
