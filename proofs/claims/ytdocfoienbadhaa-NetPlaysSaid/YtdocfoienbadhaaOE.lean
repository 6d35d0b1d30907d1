/- The reference's Swap that does not, Hurt. Made by genoe.py. -/
import Derived.Test.YtdocfoienbadhaaOD
set_option linter.unusedVariables false
namespace Go.Proofs.Ytdocfoienbadhaa
open Go.RowKit

theorem rlook_any (N : Nat → Prop) (w : World) (rv : Value) (rl : List Fl) (lost : Int) (h : RowsN N w rv rl) (k : Int) :
    Calls Try.prog 12 #[nv rv lost, .int .i64 k] w fun e w' => ∃ (d : Int) (a : Option Addr) (n c : Nat) (hu : Bool), e = .returned (.tuple #[.agg #[.int .i64 d, .slice a n c, .bool hu], .int .i64 (findF rl.length k)]) ∧ Below w.heap.size w w' := by
  by_cases hk : 0 ≤ k ∧ k < (rl.length : Int)
  · obtain ⟨i, rfl⟩ : ∃ i : Nat, k = (i : Int) := ⟨k.toNat, by omega⟩
    obtain ⟨f, hf⟩ : ∃ f, rl[i]? = some f := ⟨_, List.getElem?_eq_getElem (by omega)⟩
    refine (rlook_in N w rv rl lost h i f hf).mono ?_
    rintro e w' ⟨rfl, hb⟩
    obtain ⟨a, c, e⟩ := (h.fls f (List.mem_iff_getElem?.2 ⟨i, hf⟩)).shape
    rw [find_in (by omega)]
    unfold flv
    rw [e]
    exact ⟨_, _, _, _, _, rfl, hb⟩
  · refine (rlook_out N w rv rl lost h k hk).mono ?_
    rintro e w' ⟨rfl, hb⟩
    rw [find_out hk]
    exact ⟨_, _, _, _, _, rfl, hb⟩
set_option maxRecDepth 100000 in
set_option maxHeartbeats 3200000 in
theorem rswap_out (N : Nat → Prop) (w : World) (rv : Value) (rl : List Fl) (lost : Int) (h : RowsN N w rv rl) (k m : Int) (hk : ¬ (0 ≤ k ∧ k < (rl.length : Int)) ∨ ¬ (0 ≤ m ∧ m < (rl.length : Int))) :
    Calls Try.prog 22 #[nv rv lost, .int .i64 k, .int .i64 m] w fun e w' => e = .returned (.tuple #[nv rv lost, .int .i64 8]) ∧ Below w.heap.size w w' := by
  have HR := Lib.hid h
  obtain ⟨ar, cr, rfl⟩ := h.shape
  obtain ⟨W1, e1, B1, R1, s1⟩ := boxed w #[.slice ar rl.length cr, .int .i64 lost] 29
  have E1 := Lib.hid e1
  obtain ⟨W2, e2, B2, R2, s2⟩ := boxed W1 #[.slice none 0 0, .int .i64 0] 29
  have E2 := Lib.hid e2
  obtain ⟨z, hz⟩ : ∃ z, w.heap.size = z := ⟨_, rfl⟩
  have L1 := Lib.hid ((B2.block _ (lt_of_block R1)).trans R1)
  have s12 : W1.heap.size = z + 1 := by omega
  have s22 : W2.heap.size = z + 2 := by omega
  rw [hz] at L1
  rw [s12] at R2
  have L2 := Lib.hid R2
  have BW := Lib.hid (B1.trans (B2.mono B1.size))
  have HZ := Lib.hid (And.intro hz s22)
  have k0 := cell0 L1.out
  have k1 := cell1 L1.out
  have LK := Lib.hid (fun W (hW : Below w.heap.size w W) k => rlook_any N W _ rl lost (HR.out.step hW) k)
  have M1 := Lib.hid L1.out
  have M2 := Lib.hid L2.out
  have BB := Lib.hid BW.out
  unfold nv at LK
  unfold nv
  have hee : findF rl.length k = 8 ∨ (findF rl.length k = 0 ∧ findF rl.length m = 8) := by
    by_cases h1 : 0 ≤ k ∧ k < (rl.length : Int)
    · exact .inr ⟨by unfold findF; rw [if_pos h1], find_out (hk.resolve_left (fun x => x h1))⟩
    · exact .inl (find_out h1)
  generalize hea : findF rl.length k = ea at hee
  generalize heb : findF rl.length m = eb at hee
  have HEA := Lib.hid hea
  have HEB := Lib.hid heb
  clear h e1 e2 B1 B2 R1 R2 s1 s2 s12 s22 hk hea heb
  go_enter Try.func22, Try.ntmps22
  go_upto_region 1 with (fail)
  rw [E1.out, E2.out]
  go_wp2_with fail
  refine (LK.out _ BB.out k).mono ?_
  rintro e w3 ⟨d3, a3, m3, c3, h3, rfl, b3⟩
  obtain ⟨W4, e4, B4, R4, s4⟩ := boxed w3 #[.int .i64 d3, .slice a3 m3 c3, .bool h3] 32
  have E4 := Lib.hid e4
  have BX := Lib.hid (b3.trans (B4.mono b3.size))
  have BB := Lib.hid (BB.out.trans (BX.out.mono BB.out.size))
  have M1 := Lib.hid ((BX.out.block _ (lt_of_block M1.out)).trans M1.out)
  have M2 := Lib.hid ((BX.out.block _ (lt_of_block M2.out)).trans M2.out)
  clear e4 B4 R4 s4 b3 k0 k1
  have k0 := cell0 M1.out
  have k1 := cell1 M1.out
  go_upto_region 2 with (fail)
  rw [E4.out]
  go_wp2_with fail
  refine (LK.out _ BB.out m).mono ?_
  rintro e w5 ⟨d5, a5, m5, c5, h5, rfl, b5⟩
  obtain ⟨W6, e6, B6, R6, s6⟩ := boxed w5 #[.int .i64 d5, .slice a5 m5 c5, .bool h5] 32
  have E6 := Lib.hid e6
  have BX := Lib.hid (b5.trans (B6.mono b5.size))
  have BB := Lib.hid (BB.out.trans (BX.out.mono BB.out.size))
  have M1 := Lib.hid ((BX.out.block _ (lt_of_block M1.out)).trans M1.out)
  have M2 := Lib.hid ((BX.out.block _ (lt_of_block M2.out)).trans M2.out)
  clear e6 B6 R6 s6 b5 k0 k1
  have k0 := cell0 M1.out
  have k1 := cell1 M1.out
  go_upto_region 3 with (fail)
  rw [E6.out]
  rw [HEA.out, HEB.out]
  have r0 := cell0 M2.out
  have r1 := cell1 M2.out
  have g0 := frozen0 M2.out
  have g1 := frozen1 M2.out
  rcases hee with rfl | ⟨rfl, rfl⟩
  all_goals
    go_wp2
    refine bodyPost_ret (by simp [results, Try.results22, go_sem, r0, r1]; try rfl) rfl ?_
    have hz' := HZ.out.1
    have q := below_two BB.out (show w.heap.size ≤ z + 1 by omega) (.slice ar rl.length cr) (.int .i64 lost)
    first
    | exact ⟨rfl, q⟩
    | (rw [hz'] at q; exact ⟨rfl, q⟩)
set_option maxRecDepth 100000 in
set_option maxHeartbeats 3200000 in
theorem rhurt_out (N : Nat → Prop) (w : World) (rv : Value) (rl : List Fl) (lost : Int) (h : RowsN N w rv rl) (k a b : Int) (hk : ¬ (0 ≤ k ∧ k < (rl.length : Int))) :
    Calls Try.prog 23 #[nv rv lost, .int .i64 k, .int .i64 a, .int .i64 b] w fun e w' => e = .returned (.tuple #[nv rv lost, .int .i64 8]) ∧ Below w.heap.size w w' := by
  have HR := Lib.hid h
  obtain ⟨ar, cr, rfl⟩ := h.shape
  obtain ⟨W1, e1, B1, R1, s1⟩ := boxed w #[.slice ar rl.length cr, .int .i64 lost] 29
  have E1 := Lib.hid e1
  obtain ⟨W2, e2, B2, R2, s2⟩ := boxed W1 #[.slice none 0 0, .int .i64 0] 29
  have E2 := Lib.hid e2
  obtain ⟨z, hz⟩ : ∃ z, w.heap.size = z := ⟨_, rfl⟩
  have L1 := Lib.hid ((B2.block _ (lt_of_block R1)).trans R1)
  have s12 : W1.heap.size = z + 1 := by omega
  have s22 : W2.heap.size = z + 2 := by omega
  rw [hz] at L1
  rw [s12] at R2
  have L2 := Lib.hid R2
  have BW := Lib.hid (B1.trans (B2.mono B1.size))
  have HZ := Lib.hid (And.intro hz s22)
  have k0 := cell0 L1.out
  have k1 := cell1 L1.out
  have LK := Lib.hid (rlook_out N W2 _ rl lost (HR.out.step BW.out) k hk)
  unfold nv flz at LK
  unfold nv
  clear h e1 e2 B1 B2 R1 R2 s1 s2 s12 s22 hk
  go_enter Try.func23, Try.ntmps23
  go_upto_region 1 with (fail)
  rw [E1.out, E2.out]
  go_wp2_with fail
  refine LK.out.mono ?_
  rintro e w3 ⟨rfl, b3⟩
  obtain ⟨W4, e4, B4, R4, s4⟩ := boxed w3 #[.int .i64 0, .slice none 0 0, .bool false] 32
  have E4 := Lib.hid e4
  have BX := Lib.hid (b3.trans (B4.mono b3.size))
  have BB := Lib.hid (BW.out.trans (BX.out.mono BW.out.size))
  have M1 := (BX.out.block _ (lt_of_block L1.out)).trans L1.out
  have M2 := (BX.out.block _ (lt_of_block L2.out)).trans L2.out
  have k0 := cell0 M1
  have k1 := cell1 M1
  have r0 := cell0 M2
  have r1 := cell1 M2
  have g0 := frozen0 M2
  have g1 := frozen1 M2
  clear e4 B4 R4 s4 b3 M1 M2
  go_upto_region 2 with (fail)
  rw [E4.out]
  go_wp2
  refine bodyPost_ret (by simp [results, Try.results23, go_sem, r0, r1]; try rfl) rfl ?_
  have hz' := HZ.out.1
  have q := below_two BB.out (show w.heap.size ≤ z + 1 by omega) (.slice ar rl.length cr) (.int .i64 lost)
  first
  | exact ⟨rfl, q⟩
  | (rw [hz'] at q; exact ⟨rfl, q⟩)
set_option maxRecDepth 100000 in
set_option maxHeartbeats 3200000 in
theorem rhurt_bad (N : Nat → Prop) (w : World) (rv : Value) (rl : List Fl) (lost : Int) (h : RowsN N w rv rl) (i : Nat) (f : Fl) (hf : rl[i]? = some f) (at_ by_ : Int) (hbad : f.hurt = true ∨ ¬ (0 ≤ at_ ∧ at_ < (f.bs.length : Int) ∧ 1 ≤ by_ ∧ by_ ≤ 255)) :
    Calls Try.prog 23 #[nv rv lost, .int .i64 (i : Int), .int .i64 at_, .int .i64 by_] w fun e w' => e = .returned (.tuple #[nv rv lost, .int .i64 (hurtE f at_ by_)]) ∧ Below w.heap.size w w' := by
  have hff := h.fls f (List.mem_iff_getElem?.2 ⟨i, hf⟩)
  have HFF := Lib.hid hff
  have HIL := Lib.hid (List.getElem?_eq_some_iff.1 hf).1
  have HR := Lib.hid h
  obtain ⟨ar, cr, rfl⟩ := h.shape
  obtain ⟨W1, e1, B1, R1, s1⟩ := boxed w #[.slice ar rl.length cr, .int .i64 lost] 29
  have E1 := Lib.hid e1
  obtain ⟨W2, e2, B2, R2, s2⟩ := boxed W1 #[.slice none 0 0, .int .i64 0] 29
  have E2 := Lib.hid e2
  obtain ⟨z, hz⟩ : ∃ z, w.heap.size = z := ⟨_, rfl⟩
  have L1 := Lib.hid ((B2.block _ (lt_of_block R1)).trans R1)
  have s12 : W1.heap.size = z + 1 := by omega
  have s22 : W2.heap.size = z + 2 := by omega
  rw [hz] at L1
  rw [s12] at R2
  have L2 := Lib.hid R2
  have BW := Lib.hid (B1.trans (B2.mono B1.size))
  have HZ := Lib.hid (And.intro hz s22)
  have k0 := cell0 L1.out
  have k1 := cell1 L1.out
  have LK := Lib.hid (rlook_in N W2 _ rl lost (HR.out.step BW.out) i f hf)
  obtain ⟨ab, cb, hbv⟩ := hff.shape
  obtain ⟨fd, fb, fs, fh⟩ := f
  simp only at hbv
  subst hbv
  unfold nv flv at LK
  unfold nv
  have hlb := HFF.out.len
  have hcase : (fh = true ∧ hurtE ⟨fd, .slice ab fs.length cb, fs, fh⟩ at_ by_ = 9) ∨ (fh = false ∧ hurtE ⟨fd, .slice ab fs.length cb, fs, fh⟩ at_ by_ = 2 ∧ (at_ < 0 ∨ (¬ at_ < 0 ∧ (fs.length : Int) ≤ at_) ∨ (¬ at_ < 0 ∧ ¬ (fs.length : Int) ≤ at_ ∧ by_ < 1) ∨ (¬ at_ < 0 ∧ ¬ (fs.length : Int) ≤ at_ ∧ ¬ by_ < 1 ∧ 255 < by_))) := by
    cases fh with
    | true => exact .inl ⟨rfl, by unfold hurtE; rfl⟩
    | false =>
      have hb := hbad.resolve_left (fun e => by cases e)
      simp only at hb hlb
      exact .inr ⟨rfl, by unfold hurtE; rw [if_neg Bool.false_ne_true, if_neg hb], by omega⟩
  generalize hurtE ⟨fd, .slice ab fs.length cb, fs, fh⟩ at_ by_ = er at hcase ⊢
  clear h e1 e2 B1 B2 R1 R2 s1 s2 s12 s22 hf hff hbad
  go_enter Try.func23, Try.ntmps23
  go_upto_region 1 with (fail)
  rw [E1.out, E2.out]
  go_wp2_with fail
  refine LK.out.mono ?_
  rintro e w3 ⟨rfl, b3⟩
  obtain ⟨W4, e4, B4, R4, s4⟩ := boxed w3 #[.int .i64 fd, .slice ab fs.length cb, .bool fh] 32
  have E4 := Lib.hid e4
  have BX := Lib.hid (b3.trans (B4.mono b3.size))
  have BB := Lib.hid (BW.out.trans (BX.out.mono BW.out.size))
  have M1 := Lib.hid ((BX.out.block _ (lt_of_block L1.out)).trans L1.out)
  have M2 := Lib.hid ((BX.out.block _ (lt_of_block L2.out)).trans L2.out)
  obtain ⟨b4, hb4⟩ : ∃ b, w3.heap.size = b := ⟨_, rfl⟩
  rw [hb4] at R4
  have S3 := Lib.hid (show W2.heap.size ≤ b4 by rw [← hb4]; exact b3.size)
  have RF := Lib.hid R4
  have k0 := cell0 M1.out
  have k1 := cell1 M1.out
  have d0 := cell_of_row _ b4 0 _ _ _ R4
  have d1 := cell_of_row _ b4 1 _ _ _ R4
  have d2 := cell_of_row _ b4 2 _ _ _ R4
  simp at d0 d1 d2
  clear e4 B4 R4 s4 b3
  go_upto_region 2 with (fail)
  rw [E4.out]
  clear hb4
  have r0 := cell0 M2.out
  have r1 := cell1 M2.out
  have g0 := frozen0 M2.out
  have g1 := frozen1 M2.out
  rcases hcase with ⟨rfl, rfl⟩ | ⟨rfl, rfl, h1 | ⟨h1, h2⟩ | ⟨h1, h2, h3⟩ | ⟨h1, h2, h3, h4⟩⟩
  all_goals
    go_wp2
    refine bodyPost_ret (by simp [results, Try.results23, go_sem, r0, r1]; try rfl) rfl ?_
    have hz' := HZ.out.1
    have q := below_two BB.out (show w.heap.size ≤ z + 1 by omega) (.slice ar rl.length cr) (.int .i64 lost)
    first
    | exact ⟨rfl, q⟩
    | (rw [hz'] at q; exact ⟨rfl, q⟩)
set_option maxRecDepth 100000 in
set_option maxHeartbeats 3200000 in
theorem rhurt_in (N : Nat → Prop) (w : World) (hN : ∀ k, N k → k < w.heap.size) (rv : Value) (rl : List Fl) (lost : Int) (h : RowsN N w rv rl) (i : Nat) (f : Fl) (hf : rl[i]? = some f) (hh : f.hurt = false) (a b x : Nat) (hx : f.bs[a]? = some x) (hb1 : 1 ≤ b) (hb2 : b < 256) :
    Calls Try.prog 23 #[nv rv lost, .int .i64 (i : Int), .int .i64 (a : Int), .int .i64 (b : Int)] w fun e w' => ∃ rv' r, e = .returned (.tuple #[nv rv' lost, .int .i64 0]) ∧ RowsN N w' rv' (rl.set i ⟨f.dst, r, f.bs.set a (x ^^^ b), true⟩) ∧ Below w.heap.size w w' := by
  obtain ⟨i0, hi5, hz0, hz1, hz2⟩ := info_parts Try.info5
  have HN := Lib.hid hN
  have hff := h.fls f (List.mem_iff_getElem?.2 ⟨i, hf⟩)
  have HFF := Lib.hid hff
  have HIL := Lib.hid (List.getElem?_eq_some_iff.1 hf).1
  have HR := Lib.hid h
  obtain ⟨ar, cr, rfl⟩ := h.shape
  obtain ⟨W1, e1, B1, R1, s1⟩ := boxed w #[.slice ar rl.length cr, .int .i64 lost] 29
  have E1 := Lib.hid e1
  obtain ⟨W2, e2, B2, R2, s2⟩ := boxed W1 #[.slice none 0 0, .int .i64 0] 29
  have E2 := Lib.hid e2
  obtain ⟨z, hz⟩ : ∃ z, w.heap.size = z := ⟨_, rfl⟩
  have L1 := Lib.hid ((B2.block _ (lt_of_block R1)).trans R1)
  have s12 : W1.heap.size = z + 1 := by omega
  have s22 : W2.heap.size = z + 2 := by omega
  rw [hz] at L1
  rw [s12] at R2
  have L2 := Lib.hid R2
  have BW := Lib.hid (B1.trans (B2.mono B1.size))
  have HZ := Lib.hid (And.intro hz s22)
  have k0 := cell0 L1.out
  have k1 := cell1 L1.out
  have LK := Lib.hid (rlook_in N W2 _ rl lost (HR.out.step BW.out) i f hf)
  obtain ⟨ab, cb, hbv⟩ := hff.shape
  obtain ⟨fd, fb, fs, fh⟩ := f
  simp only at hbv
  subst hbv
  unfold nv flv at LK
  unfold nv
  simp only at hx hh
  subst hh
  have ha := (List.getElem?_eq_some_iff.1 hx).1
  have HXA := Lib.hid hx
  have hlb := HFF.out.len
  simp only at hlb
  have hx256 := HFF.out.byt x (List.mem_iff_getElem?.2 ⟨a, hx⟩)
  have e8 := x8 x b hx256 hb2
  have ew : IntKind.u8.wrap (b : Int) = (b : Int) := by rw [IntKind.wrap_u8']; omega
  have ha1 : ¬ (a : Int) < 0 := by omega
  have ha2 : ¬ (fs.length : Int) ≤ (a : Int) := by omega
  have hb3 : ¬ (b : Int) < 1 := by omega
  have hb4 : ¬ 255 < (b : Int) := by omega
  have ha5 : (0 : Int) ≤ (a : Int) := by omega
  have ha6 : (a : Int) < (fs.length : Int) := by omega
  obtain ⟨y, hy⟩ : ∃ y, x ^^^ b = y := ⟨_, rfl⟩
  have HY := Lib.hid (show y < 256 by rw [← hy]; exact Nat.xor_lt_two_pow (n := 8) hx256 hb2)
  rw [hy] at e8 ⊢
  have MX := Lib.hid (show 0 + fs.length ≤ maxLen by unfold maxLen; omega)
  have BY := Lib.hid (show (0 + fs.length) * 1 ≤ 140737488355328 by omega)
  clear h e1 e2 B1 B2 R1 R2 s1 s2 s12 s22 hf hff hx hx256 hy
  go_enter Try.func23, Try.ntmps23
  go_upto_region 1 with (fail)
  rw [E1.out, E2.out]
  go_wp2_with fail
  refine LK.out.mono ?_
  rintro e w3 ⟨rfl, b3⟩
  obtain ⟨W4, e4, B4, R4, s4⟩ := boxed w3 #[.int .i64 fd, .slice ab fs.length cb, .bool false] 32
  have E4 := Lib.hid e4
  have BX := Lib.hid (b3.trans (B4.mono b3.size))
  have BB := Lib.hid (BW.out.trans (BX.out.mono BW.out.size))
  have M1 := Lib.hid ((BX.out.block _ (lt_of_block L1.out)).trans L1.out)
  have M2 := Lib.hid ((BX.out.block _ (lt_of_block L2.out)).trans L2.out)
  obtain ⟨b4, hbx⟩ : ∃ b, w3.heap.size = b := ⟨_, rfl⟩
  rw [hbx] at R4
  have S3 := Lib.hid (show W2.heap.size ≤ b4 by rw [← hbx]; exact b3.size)
  have RF := Lib.hid R4
  have k0 := cell0 M1.out
  have k1 := cell1 M1.out
  have d0 := cell_of_row _ b4 0 _ _ _ R4
  have d1 := cell_of_row _ b4 1 _ _ _ R4
  have d2 := cell_of_row _ b4 2 _ _ _ R4
  simp at d0 d1 d2
  clear e4 B4 R4 s4 b3
  go_upto_region 2 with (fail)
  rw [E4.out]
  clear hbx
  have SRB := Lib.hid ((HFF.out.step BB.out).lies.1.src)
  have ON := Lib.hid (World.ownsRow_nil W4 w.heap.size 5 1)
  have BS := Lib.hid BB.out.size
  go_upto_region 10 with (at_builtin; refine wpList_append_src_own rfl (.tmp 44) (.tmp 46) 30 30 rfl w.heap.size 5 i0 (.int .u8 0) 1 1 Try.underlying30 hi5 hz0 hz1 hz2 rfl (by decide) (.slice none 0 0) 0 [] rfl ON.out (.slice ab fs.length cb) fs.length (u8s fs) rfl SRB.out MX.out BY.out BS.out ?_; intro v5 w5 ho hg hs)
  rw [Nat.zero_add, List.nil_append] at ho
  have BG := grown_below BB.out BS.out hg (fun k e => by cases e)
  have P1 := grown_row hg (nil_ne _) M1.out
  have P2 := grown_row hg (nil_ne _) M2.out
  have PF := grown_row hg (nil_ne _) RF.out
  have o1 := sprung_ne hs (z := z) (lt_of_block M1.out) (nil_ne _)
  have o2 := sprung_ne hs (z := z + 1) (lt_of_block M2.out) (nil_ne _)
  have o3 := sprung_ne hs (z := b4) (lt_of_block RF.out) (nil_ne _)
  obtain ⟨g, cg, rfl, hgB, hgl, kx, kf, kst⟩ := own_byte ho HXA.out
  have OY := kst y
  have g1' : g ≠ z := fun e => o1 (by rw [e]; rfl)
  have g2' : g ≠ z + 1 := fun e => o2 (by rw [e]; rfl)
  have g3' : g ≠ b4 := fun e => o3 (by rw [e]; rfl)
  obtain ⟨W6, hW6⟩ : ∃ W, w5.setCell ⟨g, a, none⟩ (.int .u8 (y : Int)) = W := ⟨_, rfl⟩
  have T1 := Lib.hid (show W6.heap[z]? = some (.cells #[.slice ar rl.length cr, .int .i64 lost] 29 (0, 0)) by rw [← hW6]; exact set_other (fun e => g1' e.symm) P1)
  have T2 := Lib.hid (show W6.heap[z + 1]? = some (.cells #[.slice none 0 0, .int .i64 0] 29 (0, 0)) by rw [← hW6]; exact set_other (fun e => g2' e.symm) P2)
  have TF := Lib.hid (show W6.heap[b4]? = some (.cells #[.int .i64 fd, .slice ab fs.length cb, .bool false] 32 (0, 0)) by rw [← hW6]; exact set_other (fun e => g3' e.symm) PF)
  have B6 := Lib.hid (show Below w.heap.size w W6 by rw [← hW6]; exact BG.setCell (p := ⟨g, a, none⟩) hgB _)
  rw [hW6] at OY
  have hlen' : (fs.set a y).length = fs.length := List.length_set
  have HE6 := Lib.hid hW6
  have FN := Lib.hid (show FlN (Or1 N (z + 1)) W6 ⟨fd, .slice (some ⟨g, 0, none⟩) fs.length cg, fs.set a y, true⟩ from
    ⟨⟨own_lies (B := w.heap.size) (by show World.ownsRow _ _ 5 1 _ (fs.set a y).length _; rw [hlen']; exact OY), fun k o n c e _ => by
        injection e with e
        injection e with e
        injection e with e e'
        subst e
        exact fun hn => hn.elim (fun hn => by have := HN.out g hn; omega) (fun e => g2' e)⟩,
      fun u hu => by
        rcases List.mem_or_eq_of_mem_set hu with hu | rfl
        · exact HFF.out.byt u hu
        · exact HY.out,
      by show (fs.set a y).length ≤ 1000; rw [hlen']; exact hlb⟩)
  have WI := Lib.hid (rwith_any (Or1 N (z + 1)) W6 (fun k hk => hk.elim (fun hk => Nat.lt_of_lt_of_le (HN.out k hk) B6.out.size) (fun e => by rw [e]; exact lt_of_block T2.out)) _ rl lost (HR.out.more B6.out (by have := HZ.out.1; omega)) i HIL.out _ FN.out)
  unfold nv flv at WI
  clear ho hg hs BG P1 P2 PF o1 o2 o3 kst OY g1' g2' g3' hW6 k0 k1 d0 d1 d2 hgB hgl
  go_upto_region 11 with (fail)
  rw [HE6.out]
  clear kx kf
  have k0 := cell0 T1.out
  have k1 := cell1 T1.out
  have d0 := cell_of_row _ b4 0 _ _ _ TF.out
  simp at d0
  go_wp2_with fail
  refine WI.out.mono ?_
  rintro e w7 ⟨rv', rfl, hR, b7⟩
  have HR7 := Lib.hid hR
  obtain ⟨a7, c7, hrv⟩ := hR.shape
  rw [List.length_set] at hrv
  subst hrv
  have BB := Lib.hid (B6.out.trans (b7.mono B6.out.size))
  have M3 := (b7.block _ (lt_of_block T2.out)).trans T2.out
  have r0 := cell0 M3
  have r1 := cell1 M3
  have g0 := frozen0 M3
  have g1 := frozen1 M3
  clear hR b7 M3
  go_wp2
  refine bodyPost_ret (by simp [results, Try.results23, go_sem, r0, r1]; try rfl) rfl ?_
  have hz' := HZ.out.1
  have q := below_two BB.out (show w.heap.size ≤ z + 1 by omega) (.slice a7 rl.length c7) (.int .i64 lost)
  first
  | exact ⟨_, _, rfl, HR7.out.less2 _ _, q⟩
  | (rw [hz'] at q; exact ⟨_, _, rfl, HR7.out.less2 _ _, q⟩)
end Go.Proofs.Ytdocfoienbadhaa
