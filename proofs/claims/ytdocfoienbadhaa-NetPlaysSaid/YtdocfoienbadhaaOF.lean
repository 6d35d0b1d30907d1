/- The reference's Take, Clear. Made by genof.py. -/
import Derived.Test.YtdocfoienbadhaaOE
set_option linter.unusedVariables false
namespace Go.Proofs.Ytdocfoienbadhaa
open Go.RowKit

theorem load32_at (W : World) (g o : Nat) (d : Int) (a : Option Addr) (n c : Nat) (hu : Bool) (c0 : W.cell? ⟨g, o, none⟩ = some (.int .i64 d)) (c1 : W.cell? ⟨g, o + 1, none⟩ = some (.slice a n c)) (c2 : W.cell? ⟨g, o + 2, none⟩ = some (.bool hu)) :
    (Instr.loadAt 32 (.pointer (some ⟨g, o, none⟩))).run Try.prog W = .ok (.agg #[.int .i64 d, .slice a n c, .bool hu]) W := by
  go_simp
theorem index27o (W : World) (g o n cap i : Nat) (hi : i < n) (hn : n ≤ 256) : (Instr.indexAt 27 (.slice (some ⟨g, o, none⟩) n cap) (.int .i64 (i : Int))).run Try.prog W = .ok (.pointer (some ⟨g, o + i * 3, none⟩)) W := by
  have h1 : (0 : Int) ≤ (i : Int) := by omega
  have h2 : (i : Int) < (n : Int) := by omega
  have hu := ut27
  go_simp
theorem bs32 (W : World) (d : Int) (a : Option Addr) (n c : Nat) (hu : Bool) : (Instr.buildSlice 27 1 #[(0, .agg #[.int .i64 d, .slice a n c, .bool hu])]).run Try.prog W = .ok (.slice (some ⟨W.heap.size, 0, none⟩) 1 1) (W.alloc (.cells #[.int .i64 d, .slice a n c, .bool hu] 32)) := by go_simp
theorem store27 (W : World) (z : Nat) (a : Option Addr) (n c : Nat) (x y : Value) (h : W.heap[z]? = some (.cells #[x, y] 29 (0, 0))) : (Instr.storeAt 27 (.pointer (some ⟨z, 0, none⟩)) (.slice a n c)).run Try.prog W = .ok () (W.setCell ⟨z, 0, none⟩ (.slice a n c)) := by
  have c0 := cell0 h
  have f0 := frozen0 h
  go_simp
theorem put3_row {W : World} {q : Nat} {u0 u1 u2 : Value} {t : TypeId} {fz : Nat × Nat} (h : W.heap[q]? = some (.cells #[u0, u1, u2] t fz)) (f : Fl) : (put3 W q 0 f).heap[q]? = some (.cells #[.int .i64 f.dst, f.bv, .bool f.hurt] t fz) := by
  have := row_setC (j := 2) (u := .bool f.hurt) (row_setC (j := 1) (u := f.bv) (row_setC (j := 0) (u := .int .i64 f.dst) h))
  simpa [put3] using this
theorem store32_box (W : World) (q : Nat) (u0 u1 u2 : Value) (h : W.heap[q]? = some (.cells #[u0, u1, u2] 32 (0, 0))) (f : Fl) (a : Option Addr) (n c : Nat) (hb : f.bv = .slice a n c) :
    (Instr.storeAt 32 (.pointer (some ⟨q, 0, none⟩)) (.agg #[.int .i64 f.dst, .slice a n c, .bool f.hurt])).run Try.prog W = .ok () (put3 W q 0 f) := by
  have c0 := cell_of_row _ q 0 _ _ _ h
  have c1 := cell_of_row _ q 1 _ _ _ h
  have c2 := cell_of_row _ q 2 _ _ _ h
  simp at c0 c1 c2
  exact store32_at W q 0 f.dst a n c f.hurt u0 u1 u2 c0 c1 c2 (frozen_of_row _ q 0 _ _ h) (frozen_of_row _ q 1 _ _ h) (frozen_of_row _ q 2 _ _ h) f rfl hb rfl
def set2 (W : World) (p : Nat) (x y : Value) : World := (W.setCell ⟨p, 0, none⟩ x).setCell ⟨p, 1, none⟩ y
theorem set2_row {W : World} {p : Nat} {x0 y0 : Value} {t : TypeId} {fz : Nat × Nat} (h : W.heap[p]? = some (.cells #[x0, y0] t fz)) (x y : Value) : (set2 W p x y).heap[p]? = some (.cells #[x, y] t fz) := by
  have := row_setC (j := 1) (u := y) (row_setC (j := 0) (u := x) h)
  simpa [set2] using this
theorem set2_other {W : World} {p k : Nat} {x y : Value} (h : k ≠ p) : (set2 W p x y).heap[k]? = W.heap[k]? :=
  (Below.heap_setCell (a := ⟨p, 1, none⟩) _ _ _ h).trans (Below.heap_setCell (a := ⟨p, 0, none⟩) _ _ _ h)
theorem below_set2 {B : Nat} {w W : World} (h : Below B w W) {p : Nat} (hp : B ≤ p) (x y : Value) : Below B w (set2 W p x y) := (h.setCell (p := ⟨p, 0, none⟩) hp x).setCell (p := ⟨p, 1, none⟩) hp y
theorem own_set2 {W : World} {B e size n p : Nat} {v x y : Value} {xs : List Value} (h : W.ownsRow B e size v n xs) (hn : v.ownBlock ≠ some p) : (set2 W p x y).ownsRow B e size v n xs := own_setCell (own_setCell h hn) hn
theorem own_put3 {W : World} {B e size n g o : Nat} {v : Value} {xs : List Value} {f : Fl} (h : W.ownsRow B e size v n xs) (hn : v.ownBlock ≠ some g) : (put3 W g o f).ownsRow B e size v n xs := own_setCell (own_setCell (own_setCell h hn) hn) hn
/-- The list that is gathered: where it lies, what else stands. -/
structure Gat (N : Nat → Prop) (w W : World) (z b9 : Nat) (ar : Option Addr) (cr : Nat) (rl cur : List Fl) (lost : Int) (al : Option Addr) (cl : Nat) : Prop where
  row : W.heap[b9]? = some (.cells #[.slice al cur.length cl, .int .i64 lost] 29 (0, 0))
  own : W.ownsRow w.heap.size 32 3 (.slice al cur.length cl) cur.length (flat cur)
  inp : W.heap[z]? = some (.cells #[.slice ar rl.length cr, .int .i64 lost] 29 (0, 0))
  bel : Below w.heap.size w W
  ne : ∀ k, k ≤ b9 → (Value.slice al cur.length cl).ownBlock ≠ some k
theorem Gat.step {N : Nat → Prop} {w W W' : World} {z b9 : Nat} {ar al : Option Addr} {cr cl : Nat} {rl cur : List Fl} {lost : Int} (h : Gat N w W z b9 ar cr rl cur lost al cl) (hb : Below W.heap.size W W') : Gat N w W' z b9 ar cr rl cur lost al cl :=
  ⟨(hb.block _ (lt_of_block h.row)).trans h.row, own_kept h.own hb, (hb.block _ (lt_of_block h.inp)).trans h.inp, h.bel.trans (hb.mono h.bel.size), h.ne⟩
/-- One more, put behind it. -/
theorem gat_put {N : Nat → Prop} {w W : World} {z b9 : Nat} {ar al : Option Addr} {cr cl : Nat} {rl cur : List Fl} {lost : Int} (h : Gat N w W z b9 ar cr rl cur lost al cl) (hzb : z < b9) (hwb : w.heap.size ≤ b9) (hlen : cur.length < 256) (f : Fl) (a : Option Addr) (n c : Nat) (hb : f.bv = .slice a n c) :
    ∃ al' cl' w7, (Builtin.append_ #[27, 27] 27 #[.slice al cur.length cl, .slice (some ⟨W.heap.size, 0, none⟩) 1 1]).run Try.prog (W.alloc (.cells #[.int .i64 f.dst, .slice a n c, .bool f.hurt] 32)) = .ok (.slice al' (cur.length + 1) cl') w7 ∧
      w7.heap[z]? = some (.cells #[.slice ar rl.length cr, .int .i64 lost] 29 (0, 0)) ∧ Below w.heap.size w w7 ∧ (W.heap.size ≤ w7.heap.size ∧ ∀ k, k < W.heap.size → k ≤ b9 → w7.heap[k]? = W.heap[k]?) ∧
      (Instr.storeAt 27 (.pointer (some ⟨b9, 0, none⟩)) (.slice al' (cur.length + 1) cl')).run Try.prog w7 = .ok () (w7.setCell ⟨b9, 0, none⟩ (.slice al' (cur.length + 1) cl')) ∧
      Gat N w (w7.setCell ⟨b9, 0, none⟩ (.slice al' (cur.length + 1) cl')) z b9 ar cr rl (cur ++ [f]) lost al' cl' := by
  obtain ⟨i0, hi32, hz0, hz1, hz2⟩ := info_parts i32
  have V := vstep W (.cells #[.int .i64 f.dst, .slice a n c, .bool f.hurt] 32)
  have G := h.step V
  have SR := src32 W f.dst a n c f.hurt f rfl hb rfl
  obtain ⟨v', w7, ha, ho, hg, hsp⟩ := run_append_src_own (P := Try.prog) (W.alloc (.cells #[.int .i64 f.dst, .slice a n c, .bool f.hurt] 32)) w.heap.size 27 27 27 32 i0 _ 3 40 ut27 hi32 hz0 hz1 hz2 rfl (by omega) (.slice al cur.length cl) cur.length (flat cur) G.own _ 1 (fc f) SR (by unfold maxLen; omega) (by omega) (Nat.le_trans h.bel.size V.size)
  obtain ⟨al', cl', rfl⟩ := own_shape ho
  have hrow := grown_row hg (h.ne b9 (Nat.le_refl _)) G.row
  have hinp := grown_row hg (h.ne z (by omega)) G.inp
  have hbel := grown_below G.bel (Nat.le_trans h.bel.size V.size) hg (fun k e => (G.own.lt k e).1)
  have hne : ∀ k, k ≤ b9 → (Value.slice al' (cur.length + 1) cl').ownBlock ≠ some k := fun k hk => sprung_ne hsp (z := k) (by have := lt_of_block G.row; omega) (h.ne k hk)
  refine ⟨al', cl', w7, ha, hinp, hbel, ⟨Nat.le_trans V.size hg.size, fun k hk hkb => ?_⟩, store27 w7 b9 al' (cur.length + 1) cl' _ _ hrow, ?_⟩
  · exact (hg.block k (Nat.lt_of_lt_of_le hk V.size) (fun e => h.ne k hkb e.symm)).trans (V.block k hk)
  · have hl : (cur ++ [f]).length = cur.length + 1 := by rw [List.length_append, List.length_singleton]
    refine ⟨?_, ?_, set_other (by omega) hinp, hbel.setCell (p := ⟨b9, 0, none⟩) hwb _, ?_⟩
    · rw [hl]; exact row_set2 _ hrow
    · rw [flat_snoc, hl]; exact own_setCell ho (hne b9 (Nat.le_refl _))
    · rw [hl]; exact hne
set_option maxRecDepth 100000 in
set_option maxHeartbeats 6400000 in
theorem rtake_any (N : Nat → Prop) (w : World) (hN : ∀ k, N k → k < w.heap.size) (rv : Value) (rl : List Fl) (lost : Int) (h : RowsN N w rv rl) (k : Int) (d : Int) (a : Option Addr) (n c : Nat) (hu : Bool) (ec : Int)
    (hlk : ∀ W, Below w.heap.size w W → Calls Try.prog 12 #[nv rv lost, .int .i64 k] W fun e w' => e = .returned (.tuple #[.agg #[.int .i64 d, .slice a n c, .bool hu], .int .i64 ec]) ∧ Below W.heap.size W w') :
    Calls Try.prog 20 #[nv rv lost, .int .i64 k] w fun e w' => ∃ rv', e = .returned (.tuple #[nv rv' lost, .agg #[.int .i64 d, .slice a n c, .bool hu], .int .i64 ec]) ∧ RowsN N w' rv' (takeL rl k) ∧ Below w.heap.size w w' := by
  have HR := Lib.hid h
  have HN := Lib.hid hN
  have hl : rl.length ≤ 256 := by obtain ⟨_, _, _, hl, _⟩ := h; exact hl
  have HL := Lib.hid hl
  obtain ⟨ar, cr, hrv, _, hx⟩ := h
  subst hrv
  have HX := Lib.hid hx
  obtain ⟨W1, e1, B1, R1, s1⟩ := boxed w #[.slice ar rl.length cr, .int .i64 lost] 29
  have E1 := Lib.hid e1
  obtain ⟨W2, e2, B2, R2, s2⟩ := boxed W1 #[.slice none 0 0, .int .i64 0] 29
  have E2 := Lib.hid e2
  obtain ⟨W3, e3, B3, R3, s3⟩ := boxed W2 #[.int .i64 0, .slice none 0 0, .bool false] 32
  have E3 := Lib.hid e3
  obtain ⟨z, hz⟩ : ∃ z, w.heap.size = z := ⟨_, rfl⟩
  have s12 : W1.heap.size = z + 1 := by omega
  have s22 : W2.heap.size = z + 1 + 1 := by omega
  have L1 := Lib.hid (((B2.trans (B3.mono B2.size)).block _ (lt_of_block R1)).trans R1)
  have L2 := Lib.hid ((B3.block _ (lt_of_block R2)).trans R2)
  rw [hz] at L1
  rw [s12] at L2
  rw [s22] at R3
  have L3 := Lib.hid R3
  have BW := Lib.hid ((B1.trans (B2.mono B1.size)).trans (B3.mono (B1.trans (B2.mono B1.size)).size))
  have HZ := Lib.hid (And.intro hz (show W3.heap.size = z + 3 by omega))
  have LK := Lib.hid (hlk W3 BW.out)
  have k0 := cell0 L1.out
  have k1 := cell1 L1.out
  unfold nv at LK
  unfold nv
  clear hx e1 e2 e3 B1 B2 B3 R1 R2 R3 s1 s2 s3 s12 s22 hlk hl
  go_enter Try.func20, Try.ntmps20
  go_upto_region 1 with (fail)
  rw [E1.out, E2.out, E3.out]
  go_wp2_with fail
  refine LK.out.mono ?_
  rintro e w4 ⟨rfl, b4⟩
  obtain ⟨W5, e5, B5, R5, s5⟩ := boxed w4 #[.int .i64 d, .slice a n c, .bool hu] 32
  obtain ⟨W6, e6, B6, R6, s6⟩ := boxed W5 #[.slice none 0 0, .int .i64 lost] 29
  have E5 := Lib.hid e5
  have E6 := Lib.hid e6
  have BX5 := b4.trans (B5.mono b4.size)
  have BX6 := BX5.trans (B6.mono BX5.size)
  have BB := Lib.hid (BW.out.trans (BX6.mono BW.out.size))
  have M1 := Lib.hid ((BX6.block _ (lt_of_block L1.out)).trans L1.out)
  have M2 := Lib.hid ((BX6.block _ (lt_of_block L2.out)).trans L2.out)
  have M3 := Lib.hid ((BX6.block _ (lt_of_block L3.out)).trans L3.out)
  have M1' := (BX5.block _ (lt_of_block L1.out)).trans L1.out
  obtain ⟨b7, hb7⟩ : ∃ b, w4.heap.size = b := ⟨_, rfl⟩
  have s52 : W5.heap.size = b7 + 1 := by omega
  have SZ := Lib.hid (show z + 3 ≤ b7 by have := HZ.out.2; have := b4.size; omega)
  rw [hb7] at R5
  obtain ⟨b9, hb9⟩ : ∃ b, W5.heap.size = b := ⟨_, rfl⟩
  have HB9 := Lib.hid (show b7 + 1 = b9 by omega)
  rw [hb9] at R6
  have M7 := Lib.hid ((B6.block _ (lt_of_block R5)).trans R5)
  have M9 := Lib.hid R6
  have k0 := cell0 M1'
  have k1 := cell1 M1'
  clear e5 e6 B5 B6 R5 R6 s5 s6 b4 BX5 BX6 M1' s52
  go_upto_region 2 with (fail)
  rw [E5.out]
  go_upto_region 3 with (fail)
  rw [E6.out]
  clear hb7 k0 k1 hb9
  have G0 := Lib.hid (show Gat N w W6 z b9 ar cr rl [] lost none 0 from ⟨M9.out, World.ownsRow_nil _ _ _ _, M1.out, BB.out, fun k _ => nil_ne k⟩)
  have HZB := Lib.hid (show z < b9 ∧ w.heap.size ≤ b9 from ⟨by have := SZ.out; have := HB9.out; omega, by have := SZ.out; have := HB9.out; have := HZ.out.1; omega⟩)
  have HSZ6 := Lib.hid (show b9 < W6.heap.size from lt_of_block M9.out)
  go_wp2_with fail
  go_loopw [10] (fun iv wr => ∃ (i : Nat) (al : Option Addr) (cl : Nat) (cur : List Fl), iv = .int .i64 i ∧ i ≤ rl.length ∧ Hid (Gat N w wr z b9 ar cr rl cur lost al cl ∧ cur = leftN (goesK k) rl i ∧ W6.heap.size ≤ wr.heap.size ∧ ∀ j, j < W6.heap.size → j < b9 → wr.heap[j]? = W6.heap[j]?)) (fun iv _ => rl.length - (intOf iv).toNat)
  case atStart => exact ⟨0, none, 0, [], rfl, Nat.zero_le _, Lib.hid ⟨G0.out, rfl, Nat.le_refl _, fun _ _ _ => rfl⟩⟩
  case round =>
    obtain ⟨i, al, cl, cur, rfl, hi, hI⟩ := hrel
    have G := Lib.hid hI.out.1
    have ki := cell0 G.out.inp
    have hll := HL.out
    by_cases hlt : i < rl.length
    · obtain ⟨f, hf⟩ : ∃ f, rl[i]? = some f := ⟨_, List.getElem?_eq_getElem hlt⟩
      obtain ⟨⟨g, o, e, hg, _, q0, q1, q2⟩, hfn⟩ := HX.out i f hf
      subst e
      obtain ⟨fa, fca, hbv⟩ := hfn.shape
      obtain ⟨fd, fb, fs, fh⟩ := f
      simp only at hbv q0 q1 q2
      subst hbv
      have EL := Lib.hid (fun (W : World) (hW : Below w.heap.size w W) => And.intro ((hW.cell (p := ⟨g, o + i * 3, none⟩) hg).trans q0) (And.intro ((hW.cell (p := ⟨g, o + i * 3 + 1, none⟩) hg).trans q1) ((hW.cell (p := ⟨g, o + i * 3 + 2, none⟩) hg).trans q2)))
      have HCUR := Lib.hid hI.out.2.1
      have HLC := Lib.hid (show cur.length < 256 by rw [HCUR.out]; have := leftN_len (goesK k) rl i; have := HL.out; omega)
      have HLN := Lib.hid (show leftN (goesK k) rl (i + 1) = leftN (goesK k) rl i ++ (if goesK k i ⟨fd, .slice fa fs.length fca, fs, fh⟩ then [] else [⟨fd, .slice fa fs.length fca, fs, fh⟩]) by
        show leftN (goesK k) rl i ++ (match rl[i]? with | some f => if goesK k i f then [] else [f] | none => []) = _
        rw [hf])
      have HKP := Lib.hid hI.out.2.2
      clear hI hf hfn q0 q1 q2 hg
      by_cases hik : (i : Int) = k
      · have hnk : ((i : Int) != k) = false := by simpa using hik
        have HG := Lib.hid (show leftN (goesK k) rl (i + 1) = leftN (goesK k) rl i by
          rw [HLN.out, if_pos (show goesK k i _ = true from decide_eq_true hik), List.append_nil])
        clear hik
        go_wp2_with fail
        go_roundw
        case rel => exact ⟨i + 1, al, cl, cur, by go_num, by omega, Lib.hid ⟨G.out, by rw [HG.out]; exact HCUR.out, HKP.out⟩⟩
        case measure => simp [intOf]; omega
      · have hnk : ((i : Int) != k) = true := by simpa using hik
        have HNX := Lib.hid (show ∀ W' al' cl', Gat N w W' z b9 (some ⟨g, o, none⟩) cr rl (cur ++ [⟨fd, .slice fa fs.length fca, fs, fh⟩]) lost al' cl' → (wr.heap.size ≤ W'.heap.size ∧ ∀ j, j < wr.heap.size → j < b9 → W'.heap[j]? = wr.heap[j]?) → Gat N w W' z b9 (some ⟨g, o, none⟩) cr rl (cur ++ [⟨fd, .slice fa fs.length fca, fs, fh⟩]) lost al' cl' ∧ cur ++ [⟨fd, .slice fa fs.length fca, fs, fh⟩] = leftN (goesK k) rl (i + 1) ∧ W6.heap.size ≤ W'.heap.size ∧ ∀ j, j < W6.heap.size → j < b9 → W'.heap[j]? = W6.heap[j]? from fun W' al' cl' hG hk =>
          ⟨hG, by rw [HLN.out, if_neg (show ¬ goesK k i _ = true by unfold goesK; simpa using hik), ← HCUR.out], Nat.le_trans HKP.out.1 hk.1, fun j hj hjb => (hk.2 j (Nat.lt_of_lt_of_le hj HKP.out.1) hjb).trans (HKP.out.2 j hj hjb)⟩)
        clear hik
        go_upto_region 7 with (fail)
        have GD := Lib.hid (G.out.step (below_drewN wr 1))
        have HS0 := Lib.hid (show (wr.drewN 1).heap[z]? = some (.cells #[.slice (some ⟨g, o, none⟩) rl.length cr, .int .i64 lost] 29 (0, 0)) ∧ Below w.heap.size w (wr.drewN 1) from ⟨GD.out.inp, GD.out.bel⟩)
        refine wp_region_held_drew (S := (fun w' => w'.heap[z]? = some (.cells #[.slice (some ⟨g, o, none⟩) rl.length cr, .int .i64 lost] 29 (0, 0)) ∧ Below w.heap.size w w')) (by kernel_rfl) HS0.out (fun hHeld => ?_)
        have LP := Lib.hid (fun (W : World) (h : W.heap[z]? = some (.cells #[.slice (some ⟨g, o, none⟩) rl.length cr, .int .i64 lost] 29 (0, 0)) ∧ Below w.heap.size w W) => load27 W ⟨z, 0, none⟩ (some ⟨g, o, none⟩) rl.length cr (cell0 h.1))
        have LE := Lib.hid (fun (W : World) (h : W.heap[z]? = some (.cells #[.slice (some ⟨g, o, none⟩) rl.length cr, .int .i64 lost] 29 (0, 0)) ∧ Below w.heap.size w W) => load32_at W g (o + i * 3) fd fa fs.length fca fh (EL.out W h.2).1 (EL.out W h.2).2.1 (EL.out W h.2).2.2)
        have IX := Lib.hid (fun (W : World) => index27o W g o rl.length cr i hlt HL.out)
        refine take_at (i := 0) 30 ?_ rfl rfl (by kernel_rfl) (by kernel_rfl) (by kernel_rfl) (fun _ _ _ h => h) (.inl ⟨rfl, ?_⟩) hHeld ?_
        rotate_left 1
        · intro w hSw; go_simp; try with_reducible rfl
        simp only [Act.put, List.setIfInBounds_toArray, List.set_cons_zero, List.set_cons_succ]
        refine take_at (i := 2) 32 ?_ rfl rfl (by kernel_rfl) (by kernel_rfl) (by kernel_rfl) (fun _ _ _ h => h) (.inl ⟨rfl, ?_⟩) hHeld ?_
        rotate_left 1
        · intro w hSw; go_simp; try with_reducible rfl
        simp only [Act.put, List.setIfInBounds_toArray, List.set_cons_zero, List.set_cons_succ]
        refine take_at (i := 3) 33 (.slice (some ⟨g, o, none⟩) rl.length cr) rfl rfl (by kernel_rfl) (by kernel_rfl) (by kernel_rfl) (fun _ _ _ h => h) (yields_ld (.tmp 32) 27 (.pointer (some ⟨z, 0, none⟩)) _ LP.out rfl rfl rfl) hHeld ?_
        simp only [Act.put, List.setIfInBounds_toArray, List.set_cons_zero, List.set_cons_succ]
        refine take_at (i := 4) 34 ?_ rfl rfl (by kernel_rfl) (by kernel_rfl) (by kernel_rfl) (fun _ _ _ h => h) (.inl ⟨rfl, ?_⟩) hHeld ?_
        rotate_left 1
        · intro w hSw; go_simp; try with_reducible rfl
        simp only [Act.put, List.setIfInBounds_toArray, List.set_cons_zero, List.set_cons_succ]
        refine take_at (i := 5) 35 (.pointer (some ⟨g, o + i * 3, none⟩)) rfl rfl (by kernel_rfl) (by kernel_rfl) (by kernel_rfl) (fun _ _ _ h => h) (yields_ix (.tmp 33) (.tmp 34) 27 (.slice (some ⟨g, o, none⟩) rl.length cr) (.int .i64 (i : Int)) _ IX.out rfl rfl rfl rfl) hHeld ?_
        simp only [Act.put, List.setIfInBounds_toArray, List.set_cons_zero, List.set_cons_succ]
        refine take_at (i := 6) 36 (.agg #[.int .i64 fd, .slice fa fs.length fca, .bool fh]) rfl rfl (by kernel_rfl) (by kernel_rfl) (by kernel_rfl) (fun _ _ _ h => h) (yields_ld (.tmp 35) 32 (.pointer (some ⟨g, o + i * 3, none⟩)) _ LE.out rfl rfl rfl) hHeld ?_
        simp only [Act.put, List.setIfInBounds_toArray, List.set_cons_zero, List.set_cons_succ]
        obtain ⟨al', cl', w7, ha, hz7, hb7, hk7, hst, hG⟩ := gat_put GD.out HZB.out.1 HZB.out.2 HLC.out ⟨fd, .slice fa fs.length fca, fs, fh⟩ fa fs.length fca rfl
        have HA := Lib.hid ha
        have HST := Lib.hid hst
        have HG := Lib.hid hG
        have HK7 := Lib.hid (And.intro hz7 (And.intro hb7 hk7))
        have VA := Lib.hid (vstep (wr.drewN 1) (.cells #[.int .i64 fd, .slice fa fs.length fca, .bool fh] 32))
        have GV := Lib.hid (GD.out.step VA.out)
        have HS1 := Lib.hid (show ((wr.drewN 1).alloc (.cells #[.int .i64 fd, .slice fa fs.length fca, .bool fh] 32)).heap[z]? = some (.cells #[.slice (some ⟨g, o, none⟩) rl.length cr, .int .i64 lost] 29 (0, 0)) ∧ Below w.heap.size w ((wr.drewN 1).alloc (.cells #[.int .i64 fd, .slice fa fs.length fca, .bool fh] 32)) from ⟨GV.out.inp, GV.out.bel⟩)
        have HS2 := Lib.hid (show w7.heap[z]? = some (.cells #[.slice (some ⟨g, o, none⟩) rl.length cr, .int .i64 lost] 29 (0, 0)) ∧ Below w.heap.size w w7 from ⟨HK7.out.1, HK7.out.2.1⟩)
        have HS3 := Lib.hid (show (w7.setCell ⟨b9, 0, none⟩ (.slice al' (cur.length + 1) cl')).heap[z]? = some (.cells #[.slice (some ⟨g, o, none⟩) rl.length cr, .int .i64 lost] 29 (0, 0)) ∧ Below w.heap.size w (w7.setCell ⟨b9, 0, none⟩ (.slice al' (cur.length + 1) cl')) from ⟨HG.out.inp, HG.out.bel⟩)
        have K7 := Lib.hid (And.intro (show wr.heap.size ≤ (w7.setCell ⟨b9, 0, none⟩ (.slice al' (cur.length + 1) cl')).heap.size by simpa using hk7.1) (fun k (hk : k < wr.heap.size) (hkb : k < b9) => (Below.heap_setCell (a := ⟨b9, 0, none⟩) w7 (.slice al' (cur.length + 1) cl') k (show k ≠ b9 by omega)).trans (hk7.2 k hk (by omega))))
        clear ha hz7 hb7 hk7 hst hG
        refine wpAnyH_ready (rs := [1, 7]) (by kernel_rfl) (by simp) (br_load2 (i := 1) 31 27 (.tmp 30) (.pointer (some ⟨b9, 0, none⟩)) (.slice al cur.length cl) rfl rfl rfl rfl rfl (load27 (wr.drewN 1) ⟨b9, 0, none⟩ al cur.length cl (cell0 GD.out.row)) HS0.out (fun hH => ?_) (br_bslice (i := 7) 37 27 1 _ #[(0, .agg #[.int .i64 fd, .slice fa fs.length fca, .bool fh])] _ _ rfl rfl rfl rfl rfl (bs32 (wr.drewN 1) fd fa fs.length fca fh) HS1.out (fun hH => ?_) AllReadyH.nil))
        · simp only [Act.put, List.setIfInBounds_toArray, List.set_cons_zero, List.set_cons_succ]
          refine wpAnyH_ready (rs := [7]) (by kernel_rfl) (by simp) (br_bslice (i := 7) 37 27 1 _ #[(0, .agg #[.int .i64 fd, .slice fa fs.length fca, .bool fh])] _ _ rfl rfl rfl rfl rfl (bs32 (wr.drewN 1) fd fa fs.length fca fh) HS1.out (fun hH => ?_) AllReadyH.nil)
          simp only [Act.put, List.setIfInBounds_toArray, List.set_cons_zero, List.set_cons_succ]
          refine one_append (i := 8) 38 (.tmp 31) (.tmp 37) 27 27 rfl rfl (by kernel_rfl) rfl rfl _ _ _ w7 rfl rfl HA.out HS2.out (fun hH => ?_)
          simp only [Act.put, List.setIfInBounds_toArray, List.set_cons_zero, List.set_cons_succ]
          refine take_at (i := 9) 39 ?_ rfl rfl (by kernel_rfl) (by kernel_rfl) (by kernel_rfl) (fun _ _ _ h => h) (.inl ⟨rfl, ?_⟩) HS2.out ?_
          rotate_left 1
          · intro w hSw; go_simp; try with_reducible rfl
          simp only [Act.put, List.setIfInBounds_toArray, List.set_cons_zero, List.set_cons_succ]
          refine wpAnyH_ready (rs := [10]) (by kernel_rfl) (by simp) (br_store 27 (.tmp 39) (.tmp 38) (.pointer (some ⟨b9, 0, none⟩)) (.slice al' (cur.length + 1) cl') _ rfl rfl rfl rfl rfl rfl HST.out HS3.out (fun _ => ?_) AllReadyH.nil)
          simp only [Act.put]
          refine wpAnyH_done (by kernel_rfl) ?_ _
          go_wp2_with fail
          go_roundw
          case rel => exact ⟨i + 1, al', cl', cur ++ [⟨fd, .slice fa fs.length fca, fs, fh⟩], by go_num, by omega, Lib.hid (HNX.out _ al' cl' HG.out K7.out)⟩
          case measure => simp [intOf]; omega
        · simp only [Act.put, List.setIfInBounds_toArray, List.set_cons_zero, List.set_cons_succ]
          refine wpAnyH_ready (rs := [1]) (by kernel_rfl) (by simp) (br_load2 (i := 1) 31 27 (.tmp 30) (.pointer (some ⟨b9, 0, none⟩)) (.slice al cur.length cl) rfl rfl rfl rfl rfl (load27 _ ⟨b9, 0, none⟩ al cur.length cl (cell0 GV.out.row)) HS1.out (fun hH => ?_) AllReadyH.nil)
          simp only [Act.put, List.setIfInBounds_toArray, List.set_cons_zero, List.set_cons_succ]
          refine one_append (i := 8) 38 (.tmp 31) (.tmp 37) 27 27 rfl rfl (by kernel_rfl) rfl rfl _ _ _ w7 rfl rfl HA.out HS2.out (fun hH => ?_)
          simp only [Act.put, List.setIfInBounds_toArray, List.set_cons_zero, List.set_cons_succ]
          refine take_at (i := 9) 39 ?_ rfl rfl (by kernel_rfl) (by kernel_rfl) (by kernel_rfl) (fun _ _ _ h => h) (.inl ⟨rfl, ?_⟩) HS2.out ?_
          rotate_left 1
          · intro w hSw; go_simp; try with_reducible rfl
          simp only [Act.put, List.setIfInBounds_toArray, List.set_cons_zero, List.set_cons_succ]
          refine wpAnyH_ready (rs := [10]) (by kernel_rfl) (by simp) (br_store 27 (.tmp 39) (.tmp 38) (.pointer (some ⟨b9, 0, none⟩)) (.slice al' (cur.length + 1) cl') _ rfl rfl rfl rfl rfl rfl HST.out HS3.out (fun _ => ?_) AllReadyH.nil)
          simp only [Act.put]
          refine wpAnyH_done (by kernel_rfl) ?_ _
          go_wp2_with fail
          go_roundw
          case rel => exact ⟨i + 1, al', cl', cur ++ [⟨fd, .slice fa fs.length fca, fs, fh⟩], by go_num, by omega, Lib.hid (HNX.out _ al' cl' HG.out K7.out)⟩
          case measure => simp [intOf]; omega
    · have hie : i = rl.length := by omega
      have HCUR := Lib.hid (show cur = takeL rl k by rw [hI.out.2.1, hie]; rfl)
      have HK := Lib.hid hI.out.2.2
      have G1 := Lib.hid (G.out.step (below_drewN wr 1))
      have T7 := Lib.hid (show (wr.drewN 1).heap[b7]? = some (.cells #[.int .i64 d, .slice a n c, .bool hu] 32 (0, 0)) from (HK.out.2 b7 (by have := lt_of_block M7.out; omega) (by have := HB9.out; omega)).trans M7.out)
      have T2 := Lib.hid (show (wr.drewN 1).heap[z + 1]? = some (.cells #[.slice none 0 0, .int .i64 0] 29 (0, 0)) from (HK.out.2 (z + 1) (by have := lt_of_block M2.out; omega) (by have := HB9.out; have := SZ.out; omega)).trans M2.out)
      have T3 := Lib.hid (show (wr.drewN 1).heap[z + 1 + 1]? = some (.cells #[.int .i64 0, .slice none 0 0, .bool false] 32 (0, 0)) from (HK.out.2 (z + 1 + 1) (by have := lt_of_block M3.out; omega) (by have := HB9.out; have := SZ.out; omega)).trans M3.out)
      have NB := Lib.hid (show b9 ≠ z + 1 ∧ b9 ≠ z + 1 + 1 ∧ b7 ≠ z + 1 ∧ b7 ≠ z + 1 + 1 ∧ z + 1 ≤ b9 ∧ z + 1 + 1 ≤ b9 from ⟨by have := HB9.out; have := SZ.out; omega, by have := HB9.out; have := SZ.out; omega, by have := SZ.out; omega, by have := SZ.out; omega, by have := HB9.out; have := SZ.out; omega, by have := HB9.out; have := SZ.out; omega⟩)
      obtain ⟨nc, hnc⟩ : ∃ m, cur.length = m := ⟨_, rfl⟩
      have HNC := Lib.hid hnc
      have G9 := Lib.hid (show (wr.drewN 1).heap[b9]? = some (.cells #[.slice al nc cl, .int .i64 lost] 29 (0, 0)) by rw [← hnc]; exact G1.out.row)
      obtain ⟨ff, hff⟩ : ∃ ff : Fl, ff = ⟨d, .slice a n c, [], hu⟩ := ⟨_, rfl⟩
      have FF := Lib.hid (show ff.dst = d ∧ ff.bv = .slice a n c ∧ ff.hurt = hu by rw [hff]; exact ⟨rfl, rfl, rfl⟩)
      have LEQ := Lib.hid (show Value.agg #[.int .i64 d, .slice a n c, .bool hu] = .agg #[.int .i64 ff.dst, .slice a n c, .bool ff.hurt] by rw [hff])
      have SA := Lib.hid (fun (U : World) x y (hU : U.heap[z + 1]? = some (.cells #[x, y] 29 (0, 0))) => store29 U (z + 1) al nc cl lost x y hU)
      have SB := Lib.hid (fun (U : World) (hU : U.heap[z + 1 + 1]? = some (.cells #[.int .i64 0, .slice none 0 0, .bool false] 32 (0, 0))) => show (Instr.storeAt 32 (.pointer (some ⟨z + 1 + 1, 0, none⟩)) (.agg #[.int .i64 d, .slice a n c, .bool hu])).run Try.prog U = .ok () (put3 U (z + 1 + 1) 0 ff) by rw [LEQ.out]; exact store32_box U (z + 1 + 1) _ _ _ hU ff a n c FF.out.2.1)
      clear hI hie hnc hff
      go_upto_region 8 with (fail)
      clear ki hll hi hlt
      go_cut [6] from 40 to 42 (fun ev wx => ev = .int .i64 ec ∧ RowsN N wx (.slice al nc cl) (takeL rl k) ∧ Below w.heap.size w wx ∧ wx.heap[z + 1]? = some (.cells #[.slice al nc cl, .int .i64 lost] 29 (0, 0)) ∧ wx.heap[z + 1 + 1]? = some (.cells #[.int .i64 d, .slice a n c, .bool hu] 32 (0, 0)))
      case first =>
        have GL := Lib.hid (show ∀ U : World, Below w.heap.size w U → U.ownsRow w.heap.size 32 3 (.slice al nc cl) nc (flat cur) → RowsN N U (.slice al nc cl) (takeL rl k) from fun U hb ho => by
          rw [← HCUR.out]
          rw [← HNC.out] at ho ⊢
          refine own_rowsN ho HN.out (by rw [HCUR.out]; exact Nat.le_trans (takeL_sub rl k).length_le HL.out) fun f hf => ?_
          rw [HCUR.out] at hf
          exact (HR.out.fls f ((takeL_sub rl k).subset hf)).step hb)
        have OW := Lib.hid (show (wr.drewN 1).ownsRow w.heap.size 32 3 (.slice al nc cl) nc (flat cur) by rw [← HNC.out]; exact G1.out.own)
        have NE := Lib.hid (show (Value.slice al nc cl).ownBlock ≠ some (z + 1) ∧ (Value.slice al nc cl).ownBlock ≠ some (z + 1 + 1) by rw [← HNC.out]; exact ⟨G1.out.ne _ NB.out.2.2.2.2.1, G1.out.ne _ NB.out.2.2.2.2.2⟩)
        have BD := Lib.hid G1.out.bel
        have ZW := Lib.hid (show w.heap.size ≤ z + 1 ∧ w.heap.size ≤ z + 1 + 1 from ⟨by have := HZ.out.1; omega, by have := HZ.out.1; omega⟩)
        refine wp_region_held_drew (S := fun w' => w'.heap[b9]? = some (.cells #[.slice al nc cl, .int .i64 lost] 29 (0, 0)) ∧ w'.heap[b7]? = some (.cells #[.int .i64 d, .slice a n c, .bool hu] 32 (0, 0))) (by kernel_rfl) ⟨G9.out, T7.out⟩ (fun hHeld => ?_)
        have LA := Lib.hid (fun (W : World) (h : W.heap[b9]? = some (.cells #[.slice al nc cl, .int .i64 lost] 29 (0, 0)) ∧ W.heap[b7]? = some (.cells #[.int .i64 d, .slice a n c, .bool hu] 32 (0, 0))) => load29 W b9 al nc cl lost h.1)
        have LB := Lib.hid (fun (W : World) (h : W.heap[b9]? = some (.cells #[.slice al nc cl, .int .i64 lost] 29 (0, 0)) ∧ W.heap[b7]? = some (.cells #[.int .i64 d, .slice a n c, .bool hu] 32 (0, 0))) => load32 W b7 d a n c hu h.2)
        unfold nv at LA
        refine take_at (i := 0) 40 (.agg #[.slice al nc cl, .int .i64 lost]) rfl rfl (by kernel_rfl) (by kernel_rfl) (by kernel_rfl) (fun _ _ _ h => h) (yields_ld (.tmp 9) 29 (.pointer (some ⟨b9, 0, none⟩)) _ LA.out rfl rfl rfl) hHeld ?_
        simp only [Act.put, List.setIfInBounds_toArray, List.set_cons_zero, List.set_cons_succ]
        refine take_at (i := 1) 41 (.agg #[.int .i64 d, .slice a n c, .bool hu]) rfl rfl (by kernel_rfl) (by kernel_rfl) (by kernel_rfl) (fun _ _ _ h => h) (yields_ld (.tmp 7) 32 (.pointer (some ⟨b7, 0, none⟩)) _ LB.out rfl rfl rfl) hHeld ?_
        simp only [Act.put, List.setIfInBounds_toArray, List.set_cons_zero, List.set_cons_succ]
        refine take_at (i := 2) 42 ?_ rfl rfl (by kernel_rfl) (by kernel_rfl) (by kernel_rfl) (fun _ _ _ h => h) (.inl ⟨rfl, ?_⟩) hHeld ?_
        rotate_left 1
        · intro w hSw; go_simp; try with_reducible rfl
        simp only [Act.put, List.setIfInBounds_toArray, List.set_cons_zero, List.set_cons_succ]
        have HA1 := Lib.hid (And.intro ((set2_other (x := .slice al nc cl) (y := .int .i64 lost) NB.out.1).trans G9.out) ((set2_other (x := .slice al nc cl) (y := .int .i64 lost) NB.out.2.2.1).trans T7.out))
        have TA3 := Lib.hid ((set2_other (x := .slice al nc cl) (y := .int .i64 lost) (show z + 1 + 1 ≠ z + 1 by omega)).trans T3.out)
        have HA2 := Lib.hid (And.intro ((put3_other (o := 0) (f := ff) NB.out.2.1).trans HA1.out.1) ((put3_other (o := 0) (f := ff) NB.out.2.2.2.1).trans HA1.out.2))
        have FA := Lib.hid (show RowsN N (put3 (set2 (wr.drewN 1) (z + 1) (.slice al nc cl) (.int .i64 lost)) (z + 1 + 1) 0 ff) (.slice al nc cl) (takeL rl k) ∧ Below w.heap.size w (put3 (set2 (wr.drewN 1) (z + 1) (.slice al nc cl) (.int .i64 lost)) (z + 1 + 1) 0 ff) ∧ (put3 (set2 (wr.drewN 1) (z + 1) (.slice al nc cl) (.int .i64 lost)) (z + 1 + 1) 0 ff).heap[z + 1]? = some (.cells #[.slice al nc cl, .int .i64 lost] 29 (0, 0)) ∧ (put3 (set2 (wr.drewN 1) (z + 1) (.slice al nc cl) (.int .i64 lost)) (z + 1 + 1) 0 ff).heap[z + 1 + 1]? = some (.cells #[.int .i64 d, .slice a n c, .bool hu] 32 (0, 0)) from
          ⟨GL.out _ (below_put3' (below_set2 BD.out ZW.out.1 _ _) _ _ _ ZW.out.2) (own_put3 (own_set2 OW.out NE.out.1) NE.out.2), below_put3' (below_set2 BD.out ZW.out.1 _ _) _ _ _ ZW.out.2, (put3_other (show z + 1 ≠ z + 1 + 1 by omega)).trans (set2_row T2.out _ _), by rw [put3_row TA3.out ff, FF.out.1, FF.out.2.1, FF.out.2.2]⟩)
        refine wpAnyH_ready (rs := [3]) (by kernel_rfl) (by simp) (br_store (i := 3) 29 (.tmp 4) (.tmp 40) (.pointer (some ⟨z + 1, 0, none⟩)) (.agg #[.slice al nc cl, .int .i64 lost]) (set2 (wr.drewN 1) (z + 1) (.slice al nc cl) (.int .i64 lost)) rfl rfl rfl rfl rfl rfl (SA.out (wr.drewN 1) _ _ T2.out) HA1.out (fun _ => ?_) AllReadyH.nil)
        simp only [Act.put]
        refine wpAnyH_ready (rs := [4]) (by kernel_rfl) (by simp) (br_store (i := 4) 32 (.tmp 5) (.tmp 41) (.pointer (some ⟨z + 1 + 1, 0, none⟩)) (.agg #[.int .i64 d, .slice a n c, .bool hu]) (put3 (set2 (wr.drewN 1) (z + 1) (.slice al nc cl) (.int .i64 lost)) (z + 1 + 1) 0 ff) rfl rfl rfl rfl rfl rfl (SB.out (set2 (wr.drewN 1) (z + 1) (.slice al nc cl) (.int .i64 lost)) TA3.out) HA2.out (fun _ => ?_) AllReadyH.nil)
        simp only [Act.put]
        refine take_at (i := 5) 6 ?_ rfl rfl (by kernel_rfl) (by kernel_rfl) (by kernel_rfl) (fun _ _ _ h => h) (.inl ⟨rfl, ?_⟩) HA2.out ?_
        rotate_left 1
        · intro w hSw; go_simp; try with_reducible rfl
        simp only [Act.put, List.setIfInBounds_toArray, List.set_cons_zero, List.set_cons_succ]
        refine wpAnyH_done (by kernel_rfl) ?_ _
        go_wp2_with fail
        go_meet
        exact ⟨rfl, FA.out⟩
      case rest =>
        obtain ⟨rfl, hR, hB, hF, hF2⟩ := hcut
        have HF := Lib.hid (And.intro hR hB)
        have r0 := cell0 hF
        have r1 := cell1 hF
        have t0 := cell_of_row _ (z + 1 + 1) 0 _ _ _ hF2
        have t1 := cell_of_row _ (z + 1 + 1) 1 _ _ _ hF2
        have t2 := cell_of_row _ (z + 1 + 1) 2 _ _ _ hF2
        simp at t0 t1 t2
        clear hR hB hF hF2
        go_wp2
        refine bodyPost_ret (by simp [results, Try.results20, go_sem, r0, r1, t0, t1, t2]; try rfl) rfl ?_
        have hz' := HZ.out.1
        have q := HF.out.2
        first
        | exact ⟨_, rfl, HF.out.1, q⟩
        | (rw [hz'] at q; exact ⟨_, rfl, HF.out.1, q⟩)
end Go.Proofs.Ytdocfoienbadhaa
