/- Look, Twice. -/
import Derived.Test.YtdocfoienbadhaaNC
set_option linter.unusedVariables false
namespace Go.Proofs.Ytdocfoienbadhaa
open Go.RowKit

theorem row_at {B : Nat} {W : World} {fv : Value} {fl : List Fl} (h : W.ownsRow B 39 3 fv fl.length (flat fl)) {i : Nat} {f : Fl} (hf : fl[i]? = some f) : ∃ g cap, fv = .slice (some ⟨g, 0, none⟩) fl.length cap ∧ B ≤ g ∧ g < W.heap.size ∧
    W.cell? ⟨g, i * 3, none⟩ = some (.int .i64 f.dst) ∧ W.cell? ⟨g, i * 3 + 1, none⟩ = some f.bv ∧ W.cell? ⟨g, i * 3 + 2, none⟩ = some (.bool f.hurt) := by
  have hi := (List.getElem?_eq_some_iff.1 hf).1
  obtain ⟨a0, a1, a2⟩ := flat_at fl i f hf
  have h2 := h
  rcases h.2 with ⟨_, e⟩ | ⟨g, cap, cur, rfl, hB, hg, _⟩
  · omega
  · exact ⟨g, cap, rfl, hB, lt_of_block hg, (h2.cellAt _ (by omega)).trans a0, (h2.cellAt _ (by omega)).trans a1, (h2.cellAt _ (by omega)).trans a2⟩
theorem find_in {n : Nat} {i : Nat} (h : i < n) : findF n (i : Int) = 0 := by unfold findF; rw [if_pos (by omega)]
theorem find_out {n : Nat} {k : Int} (h : ¬ (0 ≤ k ∧ k < (n : Int))) : findF n k = 8 := by unfold findF; rw [if_neg h]
def flz : Value := .agg #[.int .i64 0, .slice none 0 0, .bool false]
def flv (f : Fl) (r : Value) : Value := .agg #[.int .i64 f.dst, r, .bool f.hurt]
theorem below_three {w W : World} {b : Nat} (hb : Below w.heap.size w W) (h : w.heap.size ≤ b) (x y z : Value) : Below w.heap.size w (((W.setCell ⟨b, 0, none⟩ x).setCell ⟨b, 1, none⟩ y).setCell ⟨b, 2, none⟩ z) :=
  ((hb.setCell (p := ⟨b, 0, none⟩) h x).setCell (p := ⟨b, 1, none⟩) h y).setCell (p := ⟨b, 2, none⟩) h z
set_option maxRecDepth 100000 in
set_option maxHeartbeats 1600000 in
theorem look_in {B : Nat} (w : World) (p : Nat) (fv : Value) (fl : List Fl) (lost : Int) (h : NetAt B w p fv fl lost) (i : Nat) (f : Fl) (hf : fl[i]? = some f) :
    Calls Try.prog 10 #[.pointer (some ⟨p, 0, none⟩), .int .i64 (i : Int)] w fun e w' => ∃ r, e = .returned (.tuple #[flv f r, .int .i64 0]) ∧ RowOut w w' r f.bs := by
  have hi := (List.getElem?_eq_some_iff.1 hf).1
  have X := Lib.hid (vstep w (.cells #[.int .i64 0, .slice none 0 0, .bool false] 39))
  have XB := Lib.hid (heap_alloc_new w (.cells #[.int .i64 0, .slice none 0 0, .bool false] 39))
  obtain ⟨W, hW⟩ : ∃ y, w.alloc (.cells #[.int .i64 0, .slice none 0 0, .bool false] 39) = y := ⟨_, rfl⟩
  rw [hW] at X XB
  have HW := Lib.hid hW
  have H1 := Lib.hid (h.step X.out)
  have FI := Lib.hid (find_any W p fv fl lost H1.out (i : Int))
  rw [find_in hi] at FI
  obtain ⟨g, cap, hfv, _, _, c0, c1, c2⟩ := row_at H1.out.row hf
  have hby := h.byt f (List.mem_iff_getElem?.2 ⟨i, hf⟩)
  have CL := Lib.hid (fclone_any W f.dst f.bv f.bs f.hurt ((own_lies hby.1).later X.out) (by have := hby.2.2; omega))
  obtain ⟨ab, cb, hbv⟩ := own_shape hby.1
  have cp := cell_of_row _ p 0 _ _ _ H1.out.row0
  simp at cp
  rw [hfv] at cp
  rw [hbv] at c1 CL
  have hlen := h.len
  have hi1 : (0 : Int) ≤ (i : Int) := by omega
  have hi2 : (i : Int) < (fl.length : Int) := by omega
  obtain ⟨b0, hb0⟩ : ∃ b, w.heap.size = b := ⟨_, rfl⟩
  rw [hb0] at XB
  have HB := Lib.hid hb0
  unfold flv
  obtain ⟨fd, fb, fs, fh⟩ := f
  simp only at c0 c1 c2 CL hbv hby ⊢
  clear hW h hby hbv hf hfv
  go_enter Try.func10, Try.ntmps10
  go_upto_region 1 with (fail)
  rw [HW.out]
  go_wp2_with fail
  refine FI.out.mono ?_
  rintro e w1 ⟨rfl, rfl⟩
  go_wp2_with fail
  refine CL.out.mono ?_
  rintro e w3 ⟨r, rfl, ro, rb⟩
  have N3 := (rb.block _ (lt_of_block XB.out)).trans XB.out
  have k0 := cell_of_row _ b0 0 _ _ _ N3
  have k1 := cell_of_row _ b0 1 _ _ _ N3
  have k2 := cell_of_row _ b0 2 _ _ _ N3
  have g0 := frozen_of_row _ b0 0 _ _ N3
  have g1 := frozen_of_row _ b0 1 _ _ N3
  have g2 := frozen_of_row _ b0 2 _ _ N3
  simp at k0 k1 k2
  have HO := Lib.hid (And.intro ro (X.out.trans (rb.mono X.out.size)))
  have HL := Lib.hid (lt_of_block XB.out)
  obtain ⟨ar, cr, hr⟩ := own_shape ro
  have HR := Lib.hid hr
  clear ro rb N3 c0 c1 c2 cp
  rw [hr]
  clear hr
  go_wp2
  refine bodyPost_ret (by simp [results, Try.results10, go_sem, k0, k1, k2]; try rfl) rfl ?_
  rw [← HR.out]
  have hn1 : r.ownBlock ≠ some b0 := fun e => by have := (HO.out.1.lt b0 e).1; have := HL.out; omega
  refine ⟨r, rfl, own_mono X.out.size (own_setCell (own_setCell (own_setCell HO.out.1 hn1) hn1) hn1), ?_⟩
  exact below_three HO.out.2 (by have := HB.out; omega) _ _ _
set_option maxRecDepth 100000 in
set_option maxHeartbeats 1600000 in
theorem look_out {B : Nat} (w : World) (p : Nat) (fv : Value) (fl : List Fl) (lost : Int) (h : NetAt B w p fv fl lost) (k : Int) (hk : ¬ (0 ≤ k ∧ k < (fl.length : Int))) :
    Calls Try.prog 10 #[.pointer (some ⟨p, 0, none⟩), .int .i64 k] w fun e w' => e = .returned (.tuple #[flz, .int .i64 8]) ∧ Below w.heap.size w w' := by
  have X := Lib.hid (vstep w (.cells #[.int .i64 0, .slice none 0 0, .bool false] 39))
  have XB := Lib.hid (heap_alloc_new w (.cells #[.int .i64 0, .slice none 0 0, .bool false] 39))
  obtain ⟨W, hW⟩ : ∃ y, w.alloc (.cells #[.int .i64 0, .slice none 0 0, .bool false] 39) = y := ⟨_, rfl⟩
  rw [hW] at X XB
  have HW := Lib.hid hW
  have FI := Lib.hid (find_any W p fv fl lost (h.step X.out) k)
  rw [find_out hk] at FI
  obtain ⟨b0, hb0⟩ : ∃ b, w.heap.size = b := ⟨_, rfl⟩
  rw [hb0] at XB
  have HB := Lib.hid hb0
  have k0 := cell_of_row _ b0 0 _ _ _ XB.out
  have k1 := cell_of_row _ b0 1 _ _ _ XB.out
  have k2 := cell_of_row _ b0 2 _ _ _ XB.out
  have g0 := frozen_of_row _ b0 0 _ _ XB.out
  have g1 := frozen_of_row _ b0 1 _ _ XB.out
  have g2 := frozen_of_row _ b0 2 _ _ XB.out
  simp at k0 k1 k2
  unfold flz
  clear hW h hk
  go_enter Try.func10, Try.ntmps10
  go_upto_region 1 with (fail)
  rw [HW.out]
  go_wp2_with fail
  refine FI.out.mono ?_
  rintro e w1 ⟨rfl, rfl⟩
  go_wp2
  refine bodyPost_ret (by simp [results, Try.results10, go_sem, k0, k1, k2]; try rfl) rfl ?_
  first
  | exact ⟨rfl, below_three X.out (by have := HB.out; omega) _ _ _⟩
  | exact below_three X.out (by have := HB.out; omega) _ _ _
set_option maxRecDepth 100000 in
set_option maxHeartbeats 1600000 in
theorem twice_k {w0 : World} (w : World) (p : Nat) (fv : Value) (fl : List Fl) (lost : Int) (h : NetAt w0.heap.size w p fv fl lost) (h0 : Below w0.heap.size w0 w) (hn : fl.length < 256) (i : Nat) (f : Fl) (hf : fl[i]? = some f) :
    Calls Try.prog 15 #[.pointer (some ⟨p, 0, none⟩), .int .i64 (i : Int)] w fun e w' => ∃ v' r, e = .returned (.int .i64 0) ∧ NetAt w0.heap.size w' p v' (fl ++ [⟨f.dst, r, f.bs, f.hurt⟩]) lost ∧ Below w0.heap.size w0 w' ∧ Kp w w' p fv fl v' (fl ++ [⟨f.dst, r, f.bs, f.hurt⟩]) := by
  have LK := Lib.hid (look_in w p fv fl lost h i f hf)
  have hby := h.byt f (List.mem_iff_getElem?.2 ⟨i, hf⟩)
  have HBY := Lib.hid (And.intro hby.2.1 hby.2.2)
  have H := Lib.hid h
  have H0 := Lib.hid h0
  have HN := Lib.hid hn
  unfold flv at LK
  clear h h0 hby hf hn
  go_enter Try.func15, Try.ntmps15
  go_wp2_with fail
  refine LK.out.mono ?_
  rintro e w1 ⟨r, rfl, ro, rb⟩
  have X := vstep w1 (.cells #[.int .i64 f.dst, r, .bool f.hurt] 39)
  have H2 := Lib.hid ((H.out.step rb).step X)
  have B2 := Lib.hid (H0.out.trans ((rb.trans (X.mono rb.size)).mono H0.out.size))
  have BX := Lib.hid (rb.trans (X.mono rb.size))
  have SN := Lib.hid (send_k (w1.alloc (.cells #[.int .i64 f.dst, r, .bool f.hurt] 39)) p fv fl lost H2.out B2.out HN.out f.dst r f.bs f.hurt ((own_lies ro).later X) HBY.out.1 HBY.out.2)
  obtain ⟨ar, cr, hr⟩ := own_shape ro
  clear ro rb X
  rw [hr] at SN BX ⊢
  go_wp2_with fail
  refine SN.out.mono ?_
  rintro e w3 ⟨v', r', rfl, hN, hB, hK⟩
  have HF := Lib.hid (And.intro hN (And.intro hB (Kp.front BX.out hK)))
  clear hN hB hK
  go_wp2
  go_returns
  exact ⟨v', r', rfl, HF.out.1, HF.out.2.1, HF.out.2.2⟩
theorem twice_in {w0 : World} (w : World) (p : Nat) (fv : Value) (fl : List Fl) (lost : Int) (h : NetAt w0.heap.size w p fv fl lost) (h0 : Below w0.heap.size w0 w) (hn : fl.length < 256) (i : Nat) (f : Fl) (hf : fl[i]? = some f) :
    Calls Try.prog 15 #[.pointer (some ⟨p, 0, none⟩), .int .i64 (i : Int)] w fun e w' => ∃ v' r, e = .returned (.int .i64 0) ∧ NetAt w0.heap.size w' p v' (fl ++ [⟨f.dst, r, f.bs, f.hurt⟩]) lost ∧ Below w0.heap.size w0 w' :=
  (twice_k w p fv fl lost h h0 hn i f hf).mono fun _ _ ⟨v', r, h1, h2, h3, _⟩ => ⟨v', r, h1, h2, h3⟩
set_option maxRecDepth 100000 in
set_option maxHeartbeats 1600000 in
theorem twice_out {w0 : World} (w : World) (p : Nat) (fv : Value) (fl : List Fl) (lost : Int) (h : NetAt w0.heap.size w p fv fl lost) (h0 : Below w0.heap.size w0 w) (k : Int) (hk : ¬ (0 ≤ k ∧ k < (fl.length : Int))) :
    Calls Try.prog 15 #[.pointer (some ⟨p, 0, none⟩), .int .i64 k] w fun e w' => e = .returned (.int .i64 8) ∧ Below w.heap.size w w' := by
  have LK := Lib.hid (look_out w p fv fl lost h k hk)
  unfold flz at LK
  clear h h0 hk
  go_enter Try.func15, Try.ntmps15
  go_wp2_with fail
  refine LK.out.mono ?_
  rintro e w1 ⟨rfl, hb⟩
  have X := Lib.hid (hb.trans ((vstep w1 (.cells #[.int .i64 0, .slice none 0 0, .bool false] 39)).mono hb.size))
  clear hb
  go_wp2
  go_returns
  exact ⟨rfl, X.out⟩
end Go.Proofs.Ytdocfoienbadhaa
