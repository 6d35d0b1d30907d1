/- Take. -/
import Derived.Test.YtdocfoienbadhaaNF
set_option linter.unusedVariables false
namespace Go.Proofs.Ytdocfoienbadhaa
open Go.RowKit

theorem net_without {B : Nat} {W W1 : World} {p : Nat} {fv v' : Value} {fl fl' : List Fl} {lost : Int} (h : NetAt B W p fv fl lost) (hb : Below W.heap.size W W1) (ho : W1.ownsRow W.heap.size 39 3 v' fl'.length (flat fl')) (hs : fl'.Sublist fl) :
    NetAt B (W1.setCell ⟨p, 0, none⟩ v') p v' fl' lost := by
  have hp := lt_of_block h.row0
  have hpB := h.pB
  have hn : v'.ownBlock ≠ some p := fun e => by have := (ho.lt p e).1; omega
  have h1 := (hb.block _ hp).trans h.row0
  refine ⟨?_, own_mono (by omega) (own_setCell ho hn), fun f hf => ?_, h.pB, hn, fun f hf => ?_, h.ap3.sublist hs, Nat.le_trans hs.length_le h.len, h.lo⟩
  · have := row_setC (j := 0) (u := v') h1
    simpa using this
  · have hm := hs.subset hf
    exact ⟨own_setCell (own_kept (h.byt f hm).1 hb) (h.ap2 f hm).1, (h.byt f hm).2⟩
  · have hm := hs.subset hf
    refine ⟨(h.ap2 f hm).1, ?_⟩
    cases hk : f.bv.ownBlock with
    | none => exact .inl rfl
    | some k =>
      right
      intro e
      have h2 := ((h.byt f hm).1.lt k hk).2
      have h3 := (ho.lt k e.symm).1
      omega
theorem net_set {B : Nat} {W : World} {p : Nat} {fv : Value} {fl : List Fl} {lost : Int} (h : NetAt B W p fv fl lost) (b o : Nat) (u : Value) (hp : p ≠ b) (hv : fv.ownBlock ≠ some b) (hf : ∀ f ∈ fl, f.bv.ownBlock ≠ some b) : NetAt B (W.setCell ⟨b, o, none⟩ u) p fv fl lost :=
  ⟨(Below.heap_setCell (a := ⟨b, o, none⟩) _ _ _ hp).trans h.row0, own_setCell h.row hv, fun f hm => ⟨own_setCell (h.byt f hm).1 (hf f hm), (h.byt f hm).2⟩, h.pB, h.ap1, h.ap2, h.ap3, h.len, h.lo⟩
def goesK (k : Int) : Nat → Fl → Bool := fun j _ => decide ((j : Int) = k)
def takeL (fl : List Fl) (k : Int) : List Fl := leftN (goesK k) fl fl.length
theorem takeL_sub (fl : List Fl) (k : Int) : (takeL fl k).Sublist fl := by
  have := leftN_sub (goesK k) fl fl.length
  rwa [List.take_length] at this
set_option maxRecDepth 100000 in
set_option maxHeartbeats 3200000 in
theorem take_k {w0 : World} (w : World) (p : Nat) (fv : Value) (fl : List Fl) (lost : Int) (h : NetAt w0.heap.size w p fv fl lost) (h0 : Below w0.heap.size w0 w) (i : Nat) (f : Fl) (hf : fl[i]? = some f) :
    Calls Try.prog 14 #[.pointer (some ⟨p, 0, none⟩), .int .i64 (i : Int)] w fun e w' => ∃ v' r, e = .returned (.tuple #[flv f r, .int .i64 0]) ∧ NetAt w0.heap.size w' p v' (takeL fl (i : Int)) lost ∧ Below w0.heap.size w0 w' ∧ w'.ownsRow w.heap.size 5 1 r f.bs.length (u8s f.bs) ∧ Kp w w' p fv fl v' (takeL fl (i : Int)) := by
  have X1 := vstep w (.cells #[.int .i64 (i : Int)] 3)
  have XB1 := heap_alloc_new w (.cells #[.int .i64 (i : Int)] 3)
  obtain ⟨W1, hW1⟩ : ∃ y, w.alloc (.cells #[.int .i64 (i : Int)] 3) = y := ⟨_, rfl⟩
  rw [hW1] at X1 XB1
  have X2 := vstep W1 (.cells #[.int .i64 0, .slice none 0 0, .bool false] 39)
  have XB2 := Lib.hid (heap_alloc_new W1 (.cells #[.int .i64 0, .slice none 0 0, .bool false] 39))
  obtain ⟨W2, hW2⟩ : ∃ y, W1.alloc (.cells #[.int .i64 0, .slice none 0 0, .bool false] 39) = y := ⟨_, rfl⟩
  rw [hW2] at X2 XB2
  have XK := Lib.hid ((X2.block _ (lt_of_block XB1)).trans XB1)
  have X := Lib.hid (X1.trans (X2.mono X1.size))
  have HW1 := Lib.hid hW1
  have HW2 := Lib.hid hW2
  have H2 := Lib.hid (h.step X.out)
  have LK := Lib.hid (look_in W2 p fv fl lost H2.out i f hf)
  have HP := Lib.hid (lt_of_block h.row0)
  have HF := Lib.hid hf
  have FB := Lib.hid (fun g (hg : g ∈ fl) k (hk : g.bv.ownBlock = some k) => ((h.byt g hg).1.lt k hk).2)
  have Z0 := Lib.hid h0.size
  have B2 := Lib.hid (h0.trans (X.out.mono h0.size))
  have S1 := Lib.hid X1.size
  obtain ⟨bk, hbk⟩ : ∃ b, w.heap.size = b := ⟨_, rfl⟩
  have hbr : W1.heap.size = bk + 1 := (by rw [← hW1, ← hbk]; exact Array.size_push _)
  rw [hbk] at XK
  rw [hbr] at XB2
  have HBK := Lib.hid hbk
  have HBR := Lib.hid hbr
  have ck := cell_of_row W2 bk 0 _ _ _ XK.out
  simp at ck
  unfold flv at LK
  unfold flv
  clear hW1 hW2 h h0 hf X1 X2 XB1 hbk hbr
  have hsz := HBK.out
  go_enter Try.func14, Try.ntmps14
  go_upto_region 1 with (fail)
  rw [HW1.out, HW2.out]
  go_wp2_with fail
  refine LK.out.mono ?_
  rintro e w3 ⟨r, rfl, ro, rb⟩
  obtain ⟨ar, cr, hr⟩ := own_shape ro
  have Y := vstep w3 (.cells #[.int .i64 f.dst, r, .bool f.hurt] 39)
  have S3 := Lib.hid rb.size
  have YB := Lib.hid (heap_alloc_new w3 (.cells #[.int .i64 f.dst, r, .bool f.hurt] 39))
  have HR := Lib.hid hr
  obtain ⟨W4, hW4⟩ : ∃ y, w3.alloc (.cells #[.int .i64 f.dst, r, .bool f.hurt] 39) = y := ⟨_, rfl⟩
  rw [hW4] at Y YB
  obtain ⟨bf, hbf⟩ : ∃ b, w3.heap.size = b := ⟨_, rfl⟩
  rw [hbf] at YB
  have HBF := Lib.hid hbf
  have BY := Lib.hid (rb.trans (Y.mono rb.size))
  have RO4 := Lib.hid (own_kept ro Y)
  have H4 := Lib.hid (H2.out.step BY.out)
  have B4 := Lib.hid (B2.out.trans (BY.out.mono B2.out.size))
  have K4 := (BY.out.block _ (lt_of_block XK.out)).trans XK.out
  have hc4 := Lib.hid (fun W (hW : Below W4.heap.size W4 W) => cell_of_row W bk 0 _ _ _ ((hW.block _ (lt_of_block K4)).trans K4))
  have WO := Lib.hid (without_take W4 fv fl H4.out.row (fun f hf => ⟨_, _, _, (own_shape (H4.out.byt f hf).1).choose_spec.choose_spec⟩) H4.out.len bk (goesK (i : Int)) (fun W hW j g a n c hg hgb => take1_any W bk (i : Int) (j : Int) (by have := hc4.out W hW; simpa using this) g.dst a n c g.hurt _ rfl))
  have cp := cell_of_row _ p 0 _ _ _ H4.out.row0
  simp at cp
  have HW4 := Lib.hid hW4
  rw [hr] at HW4 ⊢
  clear ro rb Y hW4 hr K4
  go_upto_region 2 with (fail)
  rw [HW4.out]
  go_wp2_with fail
  refine WO.out.mono ?_
  rintro e w5 ⟨v', rfl, wo, wb⟩
  have NW := Lib.hid (net_without (fl' := takeL fl (i : Int)) H4.out wb wo (takeL_sub fl _))
  obtain ⟨av, cv, hv⟩ := own_shape wo
  have P5 := (wb.block _ (lt_of_block H4.out.row0)).trans H4.out.row0
  have c5 := cell_of_row _ p 0 _ _ _ P5
  have f5 := frozen_of_row _ p 0 _ _ P5
  simp at c5
  obtain ⟨W6, hW6⟩ : ∃ y, w5.setCell ⟨p, 0, none⟩ v' = y := ⟨_, rfl⟩
  have HW6 := Lib.hid hW6
  have HV := Lib.hid hv
  have hpl := HP.out
  have s1 := X.out.size
  have s2 := BY.out.size
  have s0 := S1.out
  have hlf := lt_of_block YB.out
  have B6 := Lib.hid (show Below w0.heap.size w0 W6 by rw [← hW6]; exact (B4.out.trans (wb.mono B4.out.size)).setCell (p := ⟨p, 0, none⟩) H4.out.pB _)
  have kept : ∀ k, k ≠ p → k < W4.heap.size → W6.heap[k]? = W4.heap[k]? := fun k hk hl => by
    rw [← hW6]
    exact (Below.heap_setCell (a := ⟨p, 0, none⟩) _ _ _ hk).trans (wb.block k hl)
  have b1 := lt_of_block XK.out
  have b2 := lt_of_block XB2.out
  have b3 : W2.heap.size ≤ bf := by have := S3.out; have := HBF.out; omega
  have b4 := HBK.out
  have F6 := (kept bf (by omega) hlf).trans YB.out
  have R6 := Lib.hid ((kept (bk + 1) (by omega) (by omega)).trans ((BY.out.block _ b2).trans XB2.out))
  have O6 := Lib.hid (show W6.ownsRow w.heap.size 5 1 r f.bs.length (u8s f.bs) from own_mono (by omega) (own_block RO4.out fun k hk => kept k (by have := (RO4.out.lt k hk).1; omega) (RO4.out.lt k hk).2))
  have K6 := Lib.hid (show Kp w W6 p fv fl v' (takeL fl (i : Int)) from by
    rw [← hW6]
    have q := (Kp.of_below (p := p) (fv := fv) (fl := fl) (X.out.trans ((BY.out.trans (wb.mono BY.out.size)).mono X.out.size))).setOwn (b := p) (o := 0) (v := v') (.inl rfl)
    refine q.newOwn fun j hj => ?_
    rcases hj with h1 | h1 | ⟨y, hy, h1⟩
    · exact .inl (.inl h1)
    · have := (wo.lt j h1).1
      exact .inr (.inr (by omega))
    · exact .inl (.inr (.inr ⟨y, (takeL_sub fl _).subset hy, h1⟩)))
  rw [hW6] at NW
  rw [hv] at hW6 HW6 ⊢
  have k0 := cell_of_row _ bf 0 _ _ _ F6
  have k1 := cell_of_row _ bf 1 _ _ _ F6
  have k2 := cell_of_row _ bf 2 _ _ _ F6
  have r0 := cell_of_row _ (bk + 1) 0 _ _ _ R6.out
  have r1 := cell_of_row _ (bk + 1) 1 _ _ _ R6.out
  have r2 := cell_of_row _ (bk + 1) 2 _ _ _ R6.out
  have g0 := frozen_of_row _ (bk + 1) 0 _ _ R6.out
  have g1 := frozen_of_row _ (bk + 1) 1 _ _ R6.out
  have g2 := frozen_of_row _ (bk + 1) 2 _ _ R6.out
  simp at k0 k1 k2 r0 r1 r2
  rw [HR.out] at k1
  have n1 := Lib.hid (show p ≠ bk + 1 ∧ w0.heap.size ≤ bk + 1 from ⟨by omega, by have := Z0.out; omega⟩)
  have n5 := Lib.hid (show w.heap.size ≤ bk + 1 by omega)
  have n2 := Lib.hid (show (Value.slice av (leftN (goesK (i : Int)) fl fl.length).length cv).ownBlock ≠ some (bk + 1) from fun e => by rw [← hv] at e; have := (wo.lt _ e).1; omega)
  have n3 := Lib.hid (show r.ownBlock ≠ some (bk + 1) from fun e => by have := (RO4.out.lt _ e).1; omega)
  have n4 := Lib.hid (show ∀ g ∈ takeL fl (i : Int), g.bv.ownBlock ≠ some (bk + 1) from fun g hg e => by have := FB.out g ((takeL_sub fl _).subset hg) _ e; omega)
  rw [hv] at NW K6
  clear hv hW6 wo wb P5 F6 kept b1 b2 b3 b4 s0 s1 s2 hpl hlf cp hbf
  go_upto_region 5 with (fail)
  rw [HW6.out]
  go_wp2
  refine bodyPost_ret (by simp [results, Try.results14, go_sem, r0, r1, r2]; try rfl) rfl ?_
  rw [← HR.out]
  refine ⟨_, r, rfl, net_set (net_set (net_set NW.out _ _ _ n1.out.1 n2.out n4.out) _ _ _ n1.out.1 n2.out n4.out) _ _ _ n1.out.1 n2.out n4.out, ?_, own_setCell (own_setCell (own_setCell O6.out n3.out) n3.out) n3.out, ((K6.out.setNew n5.out).setNew n5.out).setNew n5.out⟩
  exact ((B6.out.setCell (p := ⟨bk + 1, 0, none⟩) n1.out.2 _).setCell (p := ⟨bk + 1, 1, none⟩) n1.out.2 _).setCell (p := ⟨bk + 1, 2, none⟩) n1.out.2 _
theorem take_in {w0 : World} (w : World) (p : Nat) (fv : Value) (fl : List Fl) (lost : Int) (h : NetAt w0.heap.size w p fv fl lost) (h0 : Below w0.heap.size w0 w) (i : Nat) (f : Fl) (hf : fl[i]? = some f) :
    Calls Try.prog 14 #[.pointer (some ⟨p, 0, none⟩), .int .i64 (i : Int)] w fun e w' => ∃ v' r, e = .returned (.tuple #[flv f r, .int .i64 0]) ∧ NetAt w0.heap.size w' p v' (takeL fl (i : Int)) lost ∧ Below w0.heap.size w0 w' ∧ w'.ownsRow w.heap.size 5 1 r f.bs.length (u8s f.bs) :=
  (take_k w p fv fl lost h h0 i f hf).mono fun _ _ ⟨v', r, h1, h2, h3, h4, _⟩ => ⟨v', r, h1, h2, h3, h4⟩
set_option maxRecDepth 100000 in
set_option maxHeartbeats 3200000 in
theorem take_out {B : Nat} (w : World) (p : Nat) (fv : Value) (fl : List Fl) (lost : Int) (h : NetAt B w p fv fl lost) (k : Int) (hk : ¬ (0 ≤ k ∧ k < (fl.length : Int))) :
    Calls Try.prog 14 #[.pointer (some ⟨p, 0, none⟩), .int .i64 k] w fun e w' => e = .returned (.tuple #[flz, .int .i64 8]) ∧ Below w.heap.size w w' := by
  have X1 := vstep w (.cells #[.int .i64 k] 3)
  have XB1 := heap_alloc_new w (.cells #[.int .i64 k] 3)
  obtain ⟨W1, hW1⟩ : ∃ y, w.alloc (.cells #[.int .i64 k] 3) = y := ⟨_, rfl⟩
  rw [hW1] at X1 XB1
  have X2 := vstep W1 (.cells #[.int .i64 0, .slice none 0 0, .bool false] 39)
  have XB2 := Lib.hid (heap_alloc_new W1 (.cells #[.int .i64 0, .slice none 0 0, .bool false] 39))
  obtain ⟨W2, hW2⟩ : ∃ y, W1.alloc (.cells #[.int .i64 0, .slice none 0 0, .bool false] 39) = y := ⟨_, rfl⟩
  rw [hW2] at X2 XB2
  have XK := Lib.hid ((X2.block _ (lt_of_block XB1)).trans XB1)
  have X := Lib.hid (X1.trans (X2.mono X1.size))
  have HW1 := Lib.hid hW1
  have HW2 := Lib.hid hW2
  have LK := Lib.hid (look_out W2 p fv fl lost (h.step X.out) k hk)
  obtain ⟨bk, hbk⟩ : ∃ b, w.heap.size = b := ⟨_, rfl⟩
  have hbr : W1.heap.size = bk + 1 := (by rw [← hW1, ← hbk]; exact Array.size_push _)
  rw [hbk] at XK
  rw [hbr] at XB2
  have HBK := Lib.hid hbk
  have ck := cell_of_row W2 bk 0 _ _ _ XK.out
  simp at ck
  unfold flz at LK
  unfold flz
  clear hW1 hW2 h X1 X2 XB1 hbk hbr hk
  have hsz := HBK.out
  go_enter Try.func14, Try.ntmps14
  go_upto_region 1 with (fail)
  rw [HW1.out, HW2.out]
  go_wp2_with fail
  refine LK.out.mono ?_
  rintro e w3 ⟨rfl, rb⟩
  have Y := vstep w3 (.cells #[.int .i64 0, .slice none 0 0, .bool false] 39)
  obtain ⟨W4, hW4⟩ : ∃ y, w3.alloc (.cells #[.int .i64 0, .slice none 0 0, .bool false] 39) = y := ⟨_, rfl⟩
  rw [hW4] at Y
  have BY := Lib.hid (rb.trans (Y.mono rb.size))
  have HW4 := Lib.hid hW4
  have R4 := (BY.out.block _ (lt_of_block XB2.out)).trans XB2.out
  have r0 := cell_of_row _ (bk + 1) 0 _ _ _ R4
  have r1 := cell_of_row _ (bk + 1) 1 _ _ _ R4
  have r2 := cell_of_row _ (bk + 1) 2 _ _ _ R4
  have g0 := frozen_of_row _ (bk + 1) 0 _ _ R4
  have g1 := frozen_of_row _ (bk + 1) 1 _ _ R4
  have g2 := frozen_of_row _ (bk + 1) 2 _ _ R4
  simp at r0 r1 r2
  clear hW4 Y rb R4
  go_upto_region 2 with (fail)
  rw [HW4.out]
  go_wp2
  refine bodyPost_ret (by simp [results, Try.results14, go_sem, r0, r1, r2]; try rfl) rfl ?_
  have b := X.out.trans (BY.out.mono X.out.size)
  first
  | exact ⟨rfl, below_three b (by omega) _ _ _⟩
  | exact below_three b (by omega) _ _ _
end Go.Proofs.Ytdocfoienbadhaa
