/- Clear; a net that is full; a net that is none. Made by gennk.py. -/
import Derived.Test.YtdocfoienbadhaaNI
set_option linter.unusedVariables false
namespace Go.Proofs.Ytdocfoienbadhaa
open Go.RowKit

set_option maxRecDepth 100000 in
set_option maxHeartbeats 800000 in
theorem clear1_any (w : World) (b : Nat) (k : Int) (hc : w.cell? ⟨b, 0, none⟩ = some (.int .i64 k)) (i d : Int) (a : Option Addr) (n c : Nat) (h : Bool) (q : Bool) (hq : q = decide (d = k)) :
    Calls Try.prog 30 #[.int .i64 i, .agg #[.int .i64 d, .slice a n c, .bool h], .pointer (some ⟨b, 0, none⟩)] w fun e w' => e = .returned (.bool q) ∧ Below w.heap.size w w' := by
  have X := Lib.hid (vstep w (.cells #[.int .i64 d, .slice a n c, .bool h] 39))
  have XB := heap_alloc_new w (.cells #[.int .i64 d, .slice a n c, .bool h] 39)
  have hb : b < w.heap.size := World.block_lt_of_cell? w _ hc
  have hc2 := (X.out.cell (p := ⟨b, 0, none⟩) hb).trans hc
  obtain ⟨W, hW⟩ : ∃ y, w.alloc (.cells #[.int .i64 d, .slice a n c, .bool h] 39) = y := ⟨_, rfl⟩
  rw [hW] at X hc2 XB
  have HW := Lib.hid hW
  have k0 := cell_of_row _ w.heap.size 0 _ _ _ XB
  simp at k0
  clear hW hc hb XB
  by_cases h1 : d = k
  · have hQ := Lib.hid (show q = true by rw [hq]; exact decide_eq_true h1)
    subst h1
    clear hq
    go_enter Try.func30, Try.ntmps30
    go_upto_region 1 with (fail)
    rw [HW.out]
    go_wp2
    go_returns
    exact ⟨by rw [hQ.out]; simp, X.out⟩
  · have hQ := Lib.hid (show q = false by rw [hq]; exact decide_eq_false h1)
    have e1 : (d == k) = false := by simpa using h1
    clear hq h1
    go_enter Try.func30, Try.ntmps30
    go_upto_region 1 with (fail)
    rw [HW.out]
    go_wp2
    go_returns
    exact ⟨by rw [hQ.out]; rfl, X.out⟩

set_option maxRecDepth 100000 in
set_option maxHeartbeats 3200000 in
theorem without_clear {B : Nat} (w : World) (fv : Value) (fl : List Fl) (h : w.ownsRow B 39 3 fv fl.length (flat fl)) (hs : ∀ f ∈ fl, ∃ a n c, f.bv = .slice a n c) (hl : fl.length ≤ 256) (b : Nat) (goes : Nat → Fl → Bool)
    (hc : ∀ W, Below w.heap.size w W → ∀ (i : Nat) f a n c, fl[i]? = some f → f.bv = .slice a n c → Calls Try.prog 30 #[.int .i64 (i : Int), .agg #[.int .i64 f.dst, .slice a n c, .bool f.hurt], .pointer (some ⟨b, 0, none⟩)] W fun e w' => e = .returned (.bool (goes i f)) ∧ Below W.heap.size W w') :
    Calls Try.prog 28 #[fv, .func (.func 30) #[] #[.pointer (some ⟨b, 0, none⟩)]] w fun e w' => ∃ v', e = .returned v' ∧ w'.ownsRow w.heap.size 39 3 v' (leftN goes fl fl.length).length (flat (leftN goes fl fl.length)) ∧ Below w.heap.size w w' := by
  obtain ⟨i0, hi39, hz0, hz1, hz2⟩ := info_parts i39
  obtain ⟨af, cf, hfv⟩ := own_shape h
  have HC := Lib.hid hc
  have HS := Lib.hid hs
  have HR := Lib.hid (fun W (hW : Below w.heap.size w W) i f (hf : fl[i]? = some f) => row_at (own_kept h hW) hf)
  have HFV := Lib.hid hfv
  rw [hfv]
  clear h hs hc hfv
  go_enter Try.func28, Try.ntmps28
  go_wp2_with fail
  go_loopw [5, 10] (fun lv iv wr => ∃ (i : Nat) (al : Option Addr) (cl : Nat), iv = .int .i64 i ∧ lv = .slice al (leftN goes fl i).length cl ∧ i ≤ fl.length ∧ Hid (wr.ownsRow w.heap.size 39 3 (.slice al (leftN goes fl i).length cl) (leftN goes fl i).length (flat (leftN goes fl i)) ∧ Below w.heap.size w wr)) (fun _ iv _ => fl.length - (intOf iv).toNat)
  case atStart => exact ⟨0, none, 0, rfl, rfl, Nat.zero_le _, Lib.hid ⟨World.ownsRow_nil _ _ _ _, Below.refl _ _⟩⟩
  case round =>
    obtain ⟨i, al, cl, rfl, rfl, hi, hI⟩ := hrel
    by_cases hlt : i < fl.length
    · obtain ⟨f, hf⟩ : ∃ f, fl[i]? = some f := ⟨_, List.getElem?_eq_getElem hlt⟩
      obtain ⟨g, cap, hfv2, _, _, c0, c1, c2⟩ := HR.out wr hI.out.2 i f hf
      obtain ⟨ab, nb, cb, hbv⟩ := HS.out f (List.mem_iff_getElem?.2 ⟨i, hf⟩)
      rw [HFV.out] at hfv2
      injection hfv2 with hg _ hcap
      subst hg
      subst hcap
      rw [hbv] at c1
      have X := Lib.hid (vstep wr (.cells #[.int .i64 f.dst, .slice ab nb cb, .bool f.hurt] 39))
      have XB := Lib.hid (heap_alloc_new wr (.cells #[.int .i64 f.dst, .slice ab nb cb, .bool f.hurt] 39))
      have BX := Lib.hid (hI.out.2.trans (X.out.mono hI.out.2.size))
      have CC := Lib.hid (HC.out _ BX.out i f ab nb cb hf hbv)
      have HN := Lib.hid (show leftN goes fl (i + 1) = leftN goes fl i ++ (if goes i f then [] else [f]) by
        show leftN goes fl i ++ (match fl[i]? with | some f => if goes i f then [] else [f] | none => []) = _
        rw [hf])
      have HO := Lib.hid (own_kept hI.out.1 X.out)
      have HLL := Lib.hid (leftN_len goes fl i)
      have SRC := Lib.hid (fun W => src39 W f ab nb cb hbv)
      have HBV := Lib.hid hbv
      obtain ⟨wx, hwx⟩ : ∃ y, wr.alloc (.cells #[.int .i64 f.dst, .slice ab nb cb, .bool f.hurt] 39) = y := ⟨_, rfl⟩
      rw [hwx] at X XB BX CC HO
      have HWX := Lib.hid hwx
      obtain ⟨bb, hbb⟩ : ∃ b, wr.heap.size = b := ⟨_, rfl⟩
      rw [hbb] at XB
      generalize hgo : goes i f = gb at *
      clear hf hbv hwx hI hgo
      obtain ⟨fd, fb, fs, fh⟩ := f
      simp only at *
      go_upto_region 5 with (fail)
      rw [HWX.out]
      have k0 := cell_of_row _ bb 0 _ _ _ XB.out
      have k1 := cell_of_row _ bb 1 _ _ _ XB.out
      have k2 := cell_of_row _ bb 2 _ _ _ XB.out
      simp at k0 k1 k2
      clear c0 c1 c2
      go_wp2_with fail
      refine CC.out.mono ?_
      rintro e w5 ⟨rfl, b5⟩
      have HO5 := Lib.hid (own_kept HO.out b5)
      have B5 := Lib.hid (BX.out.trans (b5.mono BX.out.size))
      have N5 := (b5.block _ (lt_of_block XB.out)).trans XB.out
      have k0 := cell_of_row _ bb 0 _ _ _ N5
      have k1 := cell_of_row _ bb 1 _ _ _ N5
      have k2 := cell_of_row _ bb 2 _ _ _ N5
      simp at k0 k1 k2
      clear b5 N5
      cases gb with
      | true =>
        have HNE := Lib.hid (show leftN goes fl (i + 1) = leftN goes fl i by rw [HN.out, if_pos rfl, List.append_nil])
        go_wp2_with fail
        go_roundw
        case rel => exact ⟨i + 1, al, cl, by go_num, by rw [HNE.out], by omega, Lib.hid ⟨by rw [HNE.out]; exact HO5.out, B5.out⟩⟩
        case measure => simp [intOf]; omega
      | false =>
        have HNE := Lib.hid (show leftN goes fl (i + 1) = leftN goes fl i ++ [⟨fd, fb, fs, fh⟩] by rw [HN.out, if_neg Bool.false_ne_true])
        have HV6 := Lib.hid (vstep w5 (.cells #[.int .i64 fd, .slice ab nb cb, .bool fh] 39))
        have HO6 := Lib.hid (own_kept HO5.out HV6.out)
        have B6 := Lib.hid (B5.out.trans (HV6.out.mono B5.out.size))
        have hmx := Lib.hid (show (leftN goes fl i).length + 1 ≤ maxLen by unfold maxLen; have := HLL.out; omega)
        have hby := Lib.hid (show ((leftN goes fl i).length + 1) * 40 ≤ 140737488355328 by have := HLL.out; omega)
        go_upto_region 7 with (refine wpList_append_src_own rfl (.tmp 20) (.tmp 22) 24 24 rfl w.heap.size 39 i0 _ 3 40 ut24 hi39 hz0 hz1 hz2 rfl (Nat.succ_pos _) (.slice al (leftN goes fl i).length cl) (leftN goes fl i).length (flat (leftN goes fl i)) rfl HO6.out (.slice (some ⟨w5.heap.size, 0, none⟩) 1 1) 1 (fc ⟨fd, fb, fs, fh⟩) rfl (SRC.out w5) hmx.out hby.out B6.out.size ?_; intro v' w7 ho hg hs; obtain ⟨al', cl', rfl⟩ := own_shape ho)
        have HF := Lib.hid (show w7.ownsRow w.heap.size 39 3 (.slice al' (leftN goes fl (i + 1)).length cl') (leftN goes fl (i + 1)).length (flat (leftN goes fl (i + 1))) ∧ Below w.heap.size w w7 from by
          rw [HNE.out, flat_snoc, List.length_append, List.length_singleton]
          exact ⟨ho, hg.os.trans B6.out.os, hg.tape.trans B6.out.tape, hg.output.trans B6.out.output, Nat.le_trans B6.out.size hg.size, fun k hk => (hg.block k (Nat.lt_of_lt_of_le hk B6.out.size) (fun e => by have := (HO6.out.lt k e.symm).1; omega)).trans (B6.out.block k hk)⟩)
        clear ho hg hs
        have HLE := Lib.hid (show (leftN goes fl i).length + 1 = (leftN goes fl (i + 1)).length by rw [HNE.out, List.length_append]; rfl)
        go_wp2_with fail
        go_roundw
        case rel => exact ⟨i + 1, al', cl', by go_num, by rw [HLE.out], by omega, HF⟩
        case measure => simp [intOf]; omega
    · have hie : i = fl.length := by omega
      have HF := Lib.hid (show wr.ownsRow w.heap.size 39 3 (.slice al (leftN goes fl fl.length).length cl) (leftN goes fl fl.length).length (flat (leftN goes fl fl.length)) ∧ Below w.heap.size w wr by rw [← hie]; exact hI.out)
      have HIE := Lib.hid hie
      clear hI hie
      go_wp2
      go_returns
      exact ⟨_, by rw [← HIE.out]; rfl, HF.out.1, HF.out.2⟩

def goesT (k : Int) : Nat → Fl → Bool := fun _ f => decide (f.dst = k)
def clearL (fl : List Fl) (k : Int) : List Fl := leftN (goesT k) fl fl.length
theorem clearL_sub (fl : List Fl) (k : Int) : (clearL fl k).Sublist fl := by
  have := leftN_sub (goesT k) fl fl.length
  rwa [List.take_length] at this
set_option maxRecDepth 100000 in
set_option maxHeartbeats 3200000 in
theorem clear_none {B : Nat} (w : World) (p : Nat) (fv : Value) (lost : Int) (h : NetAt B w p fv [] lost) (k : Int) :
    Calls Try.prog 18 #[.pointer (some ⟨p, 0, none⟩), .int .i64 k] w fun e w' => e = .returned (.int .i64 0) ∧ Below w.heap.size w w' := by
  have X := vstep w (.cells #[.int .i64 k] 3)
  obtain ⟨W1, hW1⟩ : ∃ y, w.alloc (.cells #[.int .i64 k] 3) = y := ⟨_, rfl⟩
  rw [hW1] at X
  have LN := Lib.hid (len_any W1 p fv [] lost (h.step X))
  have HX := Lib.hid X
  have HW1 := Lib.hid hW1
  clear h hW1 X
  go_enter Try.func18, Try.ntmps18
  go_upto_region 1 with (fail)
  rw [HW1.out]
  go_wp2_with fail
  refine LN.out.mono ?_
  rintro e w3 ⟨rfl, rfl⟩
  go_wp2
  go_returns
  exact ⟨rfl, HX.out⟩
set_option maxRecDepth 100000 in
set_option maxHeartbeats 3200000 in
theorem clear_k {w0 : World} (w : World) (p : Nat) (fv : Value) (fl : List Fl) (lost : Int) (h : NetAt w0.heap.size w p fv fl lost) (h0 : Below w0.heap.size w0 w) (hpos : 0 < fl.length) (k : Int) :
    Calls Try.prog 18 #[.pointer (some ⟨p, 0, none⟩), .int .i64 k] w fun e w' => ∃ v', e = .returned (.int .i64 ((fl.length - (clearL fl k).length : Nat) : Int)) ∧ NetAt w0.heap.size w' p v' (clearL fl k) lost ∧ Below w0.heap.size w0 w' ∧ Kp w w' p fv fl v' (clearL fl k) := by
  have X := vstep w (.cells #[.int .i64 k] 3)
  have XB := Lib.hid (heap_alloc_new w (.cells #[.int .i64 k] 3))
  obtain ⟨W1, hW1⟩ : ∃ y, w.alloc (.cells #[.int .i64 k] 3) = y := ⟨_, rfl⟩
  rw [hW1] at X XB
  have H1 := Lib.hid (h.step X)
  have HX := Lib.hid X
  have LN := Lib.hid (len_any W1 p fv fl lost H1.out)
  have B1 := Lib.hid (h0.trans (X.mono h0.size))
  have HW1 := Lib.hid hW1
  obtain ⟨bk, hbk⟩ : ∃ b, w.heap.size = b := ⟨_, rfl⟩
  rw [hbk] at XB
  have hsz := hbk
  have hc4 := Lib.hid (fun W (hW : Below W1.heap.size W1 W) => cell_of_row W bk 0 _ _ _ ((hW.block _ (lt_of_block XB.out)).trans XB.out))
  have WO := Lib.hid (without_clear W1 fv fl H1.out.row (fun f hf => ⟨_, _, _, (own_shape (H1.out.byt f hf).1).choose_spec.choose_spec⟩) H1.out.len bk (goesT k) (fun W hW j g a n c hg hgb => clear1_any W bk k (by have := hc4.out W hW; simpa using this) (j : Int) g.dst a n c g.hurt _ rfl))
  have cp := cell_of_row _ p 0 _ _ _ H1.out.row0
  simp at cp
  obtain ⟨af, cf, hfv⟩ := own_shape h.row
  have hne : ((fl.length : Int) == 0) = false := by simp; intro e; rw [e] at hpos; simp at hpos
  have hlen := h.len
  have hcl := (clearL_sub fl k).length_le
  have HFV := Lib.hid hfv
  rw [hfv] at cp
  clear h h0 hW1 X hbk hpos hfv
  go_enter Try.func18, Try.ntmps18
  go_upto_region 1 with (fail)
  rw [HW1.out]
  go_wp2_with fail
  refine LN.out.mono ?_
  rintro e w3 ⟨rfl, rfl⟩
  go_wp2_with fail
  rw [← HFV.out]
  refine WO.out.mono ?_
  rintro e w5 ⟨v', rfl, wo, wb⟩
  have NW := net_without (fl' := clearL fl k) H1.out wb wo (clearL_sub fl _)
  obtain ⟨av, cv, hv⟩ := own_shape wo
  have P5 := (wb.block _ (lt_of_block H1.out.row0)).trans H1.out.row0
  have c5 := cell_of_row _ p 0 _ _ _ P5
  have f5 := frozen_of_row _ p 0 _ _ P5
  simp at c5
  have B6 := Lib.hid (show Below w0.heap.size w0 (w5.setCell ⟨p, 0, none⟩ v') from (B1.out.trans (wb.mono B1.out.size)).setCell (p := ⟨p, 0, none⟩) H1.out.pB _)
  obtain ⟨W6, hW6⟩ : ∃ y, w5.setCell ⟨p, 0, none⟩ v' = y := ⟨_, rfl⟩
  rw [hW6] at NW B6
  have hW60 := hW6
  have hlc : (leftN (goesT k) fl fl.length).length = (clearL fl k).length := rfl
  rw [hlc] at hv
  have HV := Lib.hid hv
  rw [hv] at hW6 ⊢
  have c6 := cell_of_row _ p 0 _ _ _ NW.row0
  simp at c6
  rw [hv] at c6
  have HNW := Lib.hid NW
  have KK := Lib.hid (show Kp w W6 p fv fl v' (clearL fl k) from by
    rw [← hW60]
    have q := (Kp.of_below (p := p) (fv := fv) (fl := fl) (HX.out.trans (wb.mono HX.out.size))).setOwn (b := p) (o := 0) (v := v') (.inl rfl)
    refine q.newOwn fun j hj => ?_
    rcases hj with h1 | h1 | ⟨y, hy, h1⟩
    · exact .inl (.inl h1)
    · have h2 := (wo.lt j h1).1
      have h3 := HX.out.size
      exact .inr (.inr (by omega))
    · exact .inl (.inr (.inr ⟨y, (clearL_sub fl _).subset hy, h1⟩)))
  have HW6 := Lib.hid hW6
  obtain ⟨m, hm⟩ : ∃ m, (clearL fl k).length = m := ⟨_, rfl⟩
  have HM := Lib.hid hm
  rw [hm] at hcl HW6 c6 ⊢
  clear hv hW6 hW60 wo wb P5 cp NW hlc hm LN WO
  go_upto_region 5 with (fail)
  rw [HW6.out]
  go_wp2
  go_returns
  refine ⟨v', ?_, HNW.out, B6.out, KK.out⟩
  rw [HM.out]
  go_num
theorem clear_some {w0 : World} (w : World) (p : Nat) (fv : Value) (fl : List Fl) (lost : Int) (h : NetAt w0.heap.size w p fv fl lost) (h0 : Below w0.heap.size w0 w) (hpos : 0 < fl.length) (k : Int) :
    Calls Try.prog 18 #[.pointer (some ⟨p, 0, none⟩), .int .i64 k] w fun e w' => ∃ v', e = .returned (.int .i64 ((fl.length - (clearL fl k).length : Nat) : Int)) ∧ NetAt w0.heap.size w' p v' (clearL fl k) lost ∧ Below w0.heap.size w0 w' :=
  (clear_k w p fv fl lost h h0 hpos k).mono fun _ _ ⟨v', h1, h2, h3, _⟩ => ⟨v', h1, h2, h3⟩
set_option maxRecDepth 100000 in
set_option maxHeartbeats 1600000 in
theorem sendfull_k {w0 : World} (w : World) (p : Nat) (fv : Value) (fl : List Fl) (lost : Int) (h : NetAt w0.heap.size w p fv fl lost) (h0 : Below w0.heap.size w0 w) (hn : fl.length = 256) (hlo : lost < 100000) (d : Int) (a : Option Addr) (n c : Nat) (hu : Bool) :
    Calls Try.prog 13 #[.pointer (some ⟨p, 0, none⟩), .agg #[.int .i64 d, .slice a n c, .bool hu]] w fun e w' => e = .returned (.int .i64 7) ∧ NetAt w0.heap.size w' p fv fl (lost + 1) ∧ Below w0.heap.size w0 w' ∧ Kp w w' p fv fl fv fl := by
  have X := vstep w (.cells #[.int .i64 d, .slice a n c, .bool hu] 39)
  obtain ⟨W, hW⟩ : ∃ y, w.alloc (.cells #[.int .i64 d, .slice a n c, .bool hu] 39) = y := ⟨_, rfl⟩
  rw [hW] at X
  have HW := Lib.hid hW
  have H1 := h.step X
  have HB := Lib.hid (h0.trans (X.mono h0.size))
  have c0 := cell_of_row _ p 0 _ _ _ H1.row0
  have c1 := cell_of_row _ p 1 _ _ _ H1.row0
  have f1 := frozen_of_row _ p 1 _ _ H1.row0
  simp at c0 c1
  obtain ⟨af, cf, hfv⟩ := own_shape h.row
  rw [hfv] at c0
  have hl2 := h.lo
  have HF := Lib.hid (show NetAt w0.heap.size (W.setCell ⟨p, 1, none⟩ (.int .i64 (lost + 1))) p fv fl (lost + 1) from
    ⟨by have := row_setC (j := 1) (u := .int .i64 (lost + 1)) H1.row0; simpa using this, own_setCell H1.row H1.ap1, fun f hf => ⟨own_setCell (H1.byt f hf).1 (H1.ap2 f hf).1, (H1.byt f hf).2⟩, H1.pB, H1.ap1, H1.ap2, H1.ap3, H1.len, by omega⟩)
  have HP := Lib.hid H1.pB
  have KK := Lib.hid (show Kp w (W.setCell ⟨p, 1, none⟩ (.int .i64 (lost + 1))) p fv fl fv fl from (Kp.of_below X).setOwn (.inl rfl))
  have hge : (256 : Int) ≤ (fl.length : Int) := by omega
  have hwr : wrap64 (lost + 1) = lost + 1 := by unfold wrap64; omega
  clear h h0 hW X H1 hfv hn
  go_enter Try.func13, Try.ntmps13
  go_upto_region 1 with (fail)
  rw [HW.out]
  go_wp2
  go_returns
  first
  | exact ⟨rfl, HF.out, HB.out.setCell (p := ⟨p, 1, none⟩) HP.out _, KK.out⟩
  | exact ⟨HF.out, HB.out.setCell (p := ⟨p, 1, none⟩) HP.out _, KK.out⟩
theorem send_full {w0 : World} (w : World) (p : Nat) (fv : Value) (fl : List Fl) (lost : Int) (h : NetAt w0.heap.size w p fv fl lost) (h0 : Below w0.heap.size w0 w) (hn : fl.length = 256) (hlo : lost < 100000) (d : Int) (a : Option Addr) (n c : Nat) (hu : Bool) :
    Calls Try.prog 13 #[.pointer (some ⟨p, 0, none⟩), .agg #[.int .i64 d, .slice a n c, .bool hu]] w fun e w' => e = .returned (.int .i64 7) ∧ NetAt w0.heap.size w' p fv fl (lost + 1) ∧ Below w0.heap.size w0 w' :=
  (sendfull_k w p fv fl lost h h0 hn hlo d a n c hu).mono fun _ _ ⟨h1, h2, h3, _⟩ => ⟨h1, h2, h3⟩
set_option maxRecDepth 100000 in
set_option maxHeartbeats 1600000 in
theorem twicefull_k {w0 : World} (w : World) (p : Nat) (fv : Value) (fl : List Fl) (lost : Int) (h : NetAt w0.heap.size w p fv fl lost) (h0 : Below w0.heap.size w0 w) (hn : fl.length = 256) (hlo : lost < 100000) (i : Nat) (f : Fl) (hf : fl[i]? = some f) :
    Calls Try.prog 15 #[.pointer (some ⟨p, 0, none⟩), .int .i64 (i : Int)] w fun e w' => e = .returned (.int .i64 7) ∧ NetAt w0.heap.size w' p fv fl (lost + 1) ∧ Below w0.heap.size w0 w' ∧ Kp w w' p fv fl fv fl := by
  have LK := Lib.hid (look_in w p fv fl lost h i f hf)
  have H := Lib.hid h
  have H0 := Lib.hid h0
  have HN := Lib.hid hn
  have HL := Lib.hid hlo
  unfold flv at LK
  clear h h0 hf hn hlo
  go_enter Try.func15, Try.ntmps15
  go_wp2_with fail
  refine LK.out.mono ?_
  rintro e w1 ⟨r, rfl, ro, rb⟩
  obtain ⟨ar, cr, rfl⟩ := own_shape ro
  have X := vstep w1 (.cells #[.int .i64 f.dst, .slice ar f.bs.length cr, .bool f.hurt] 39)
  have H2 := Lib.hid ((H.out.step rb).step X)
  have B2 := Lib.hid (H0.out.trans ((rb.trans (X.mono rb.size)).mono H0.out.size))
  have BX := Lib.hid (rb.trans (X.mono rb.size))
  have SN := Lib.hid (sendfull_k (w1.alloc (.cells #[.int .i64 f.dst, .slice ar f.bs.length cr, .bool f.hurt] 39)) p fv fl lost H2.out B2.out HN.out HL.out f.dst ar f.bs.length cr f.hurt)
  clear ro rb X
  go_wp2_with fail
  refine SN.out.mono ?_
  rintro e w3 ⟨rfl, hN, hB, hK⟩
  have HF := Lib.hid (And.intro hN (And.intro hB (Kp.front BX.out hK)))
  clear hN hB hK
  go_wp2
  go_returns
  exact ⟨rfl, HF.out.1, HF.out.2.1, HF.out.2.2⟩
theorem twice_full {w0 : World} (w : World) (p : Nat) (fv : Value) (fl : List Fl) (lost : Int) (h : NetAt w0.heap.size w p fv fl lost) (h0 : Below w0.heap.size w0 w) (hn : fl.length = 256) (hlo : lost < 100000) (i : Nat) (f : Fl) (hf : fl[i]? = some f) :
    Calls Try.prog 15 #[.pointer (some ⟨p, 0, none⟩), .int .i64 (i : Int)] w fun e w' => e = .returned (.int .i64 7) ∧ NetAt w0.heap.size w' p fv fl (lost + 1) ∧ Below w0.heap.size w0 w' :=
  (twicefull_k w p fv fl lost h h0 hn hlo i f hf).mono fun _ _ ⟨h1, h2, h3, _⟩ => ⟨h1, h2, h3⟩
set_option maxRecDepth 100000 in
set_option maxHeartbeats 1600000 in
theorem find_nil (w : World) (k : Int) :
    Calls Try.prog 25 #[.pointer none, .int .i64 k] w fun e w' => e = .returned (.int .i64 1) ∧ Below w.heap.size w w' := by
  go_enter Try.func25, Try.ntmps25
  go_wp2
  go_returns
  exact ⟨rfl, Below.refl _ _⟩
set_option maxRecDepth 100000 in
set_option maxHeartbeats 1600000 in
theorem len_nil (w : World)  :
    Calls Try.prog 8 #[.pointer none] w fun e w' => e = .returned (.int .i64 0) ∧ Below w.heap.size w w' := by
  go_enter Try.func8, Try.ntmps8
  go_wp2
  go_returns
  exact ⟨rfl, Below.refl _ _⟩
set_option maxRecDepth 100000 in
set_option maxHeartbeats 1600000 in
theorem lost_nil (w : World)  :
    Calls Try.prog 9 #[.pointer none] w fun e w' => e = .returned (.int .i64 0) ∧ Below w.heap.size w w' := by
  go_enter Try.func9, Try.ntmps9
  go_wp2
  go_returns
  exact ⟨rfl, Below.refl _ _⟩
set_option maxRecDepth 100000 in
set_option maxHeartbeats 1600000 in
theorem swap_nil (w : World) (k m : Int) :
    Calls Try.prog 16 #[.pointer none, .int .i64 k, .int .i64 m] w fun e w' => e = .returned (.int .i64 1) ∧ Below w.heap.size w w' := by
  have FI := Lib.hid (find_nil w k)
  go_enter Try.func16, Try.ntmps16
  go_wp2_with fail
  refine FI.out.mono ?_
  rintro e w1 ⟨rfl, hb⟩
  have HB := Lib.hid hb
  clear hb
  go_wp2
  go_returns
  exact ⟨rfl, HB.out⟩
set_option maxRecDepth 100000 in
set_option maxHeartbeats 1600000 in
theorem hurt_nil (w : World) (k a b : Int) :
    Calls Try.prog 17 #[.pointer none, .int .i64 k, .int .i64 a, .int .i64 b] w fun e w' => e = .returned (.int .i64 1) ∧ Below w.heap.size w w' := by
  have FI := Lib.hid (find_nil w k)
  go_enter Try.func17, Try.ntmps17
  go_wp2_with fail
  refine FI.out.mono ?_
  rintro e w1 ⟨rfl, hb⟩
  have HB := Lib.hid hb
  clear hb
  go_wp2
  go_returns
  exact ⟨rfl, HB.out⟩
set_option maxRecDepth 100000 in
set_option maxHeartbeats 1600000 in
theorem send_nil (w : World) (d : Int) (a : Option Addr) (n c : Nat) (hu : Bool) :
    Calls Try.prog 13 #[.pointer none, .agg #[.int .i64 d, .slice a n c, .bool hu]] w fun e w' => e = .returned (.int .i64 1) ∧ Below w.heap.size w w' := by
  have X := Lib.hid (vstep w (.cells #[.int .i64 d, .slice a n c, .bool hu] 39))
  go_enter Try.func13, Try.ntmps13
  go_wp2
  go_returns
  exact ⟨rfl, X.out⟩
set_option maxRecDepth 100000 in
set_option maxHeartbeats 1600000 in
theorem clear_nil (w : World) (k : Int) :
    Calls Try.prog 18 #[.pointer none, .int .i64 k] w fun e w' => e = .returned (.int .i64 0) ∧ Below w.heap.size w w' := by
  have X := Lib.hid (vstep w (.cells #[.int .i64 k] 3))
  have FI := Lib.hid (len_nil (w.alloc (.cells #[.int .i64 k] 3)))
  go_enter Try.func18, Try.ntmps18
  go_wp2_with fail
  refine FI.out.mono ?_
  rintro e w1 ⟨rfl, hb⟩
  have HB := Lib.hid (X.out.trans (hb.mono X.out.size))
  clear hb
  go_wp2
  go_returns
  exact ⟨rfl, HB.out⟩
set_option maxRecDepth 100000 in
set_option maxHeartbeats 1600000 in
theorem look_nil (w : World) (k : Int) :
    Calls Try.prog 10 #[.pointer none, .int .i64 k] w fun e w' => e = .returned (.tuple #[flz, .int .i64 1]) ∧ Below w.heap.size w w' := by
  have X := Lib.hid (vstep w (.cells #[.int .i64 0, .slice none 0 0, .bool false] 39))
  have XB := Lib.hid (heap_alloc_new w (.cells #[.int .i64 0, .slice none 0 0, .bool false] 39))
  obtain ⟨W, hW⟩ : ∃ y, w.alloc (.cells #[.int .i64 0, .slice none 0 0, .bool false] 39) = y := ⟨_, rfl⟩
  rw [hW] at X XB
  have HW := Lib.hid hW
  have FI := Lib.hid (find_nil W k)
  obtain ⟨b0, hb0⟩ : ∃ b, w.heap.size = b := ⟨_, rfl⟩
  rw [hb0] at XB
  have HB := Lib.hid hb0
  unfold flz
  clear hW
  go_enter Try.func10, Try.ntmps10
  go_upto_region 1 with (fail)
  rw [HW.out]
  go_wp2_with fail
  refine FI.out.mono ?_
  rintro e w1 ⟨rfl, hb⟩
  have N1 := (hb.block _ (lt_of_block XB.out)).trans XB.out
  have HN := Lib.hid (X.out.trans (hb.mono X.out.size))
  have k0 := cell_of_row _ b0 0 _ _ _ N1
  have k1 := cell_of_row _ b0 1 _ _ _ N1
  have k2 := cell_of_row _ b0 2 _ _ _ N1
  have g0 := frozen_of_row _ b0 0 _ _ N1
  have g1 := frozen_of_row _ b0 1 _ _ N1
  have g2 := frozen_of_row _ b0 2 _ _ N1
  simp at k0 k1 k2
  clear hb N1
  go_wp2
  refine bodyPost_ret (by simp [results, Try.results10, go_sem, k0, k1, k2]; try rfl) rfl ?_
  first
  | exact ⟨rfl, below_three HN.out (by have := HB.out; omega) _ _ _⟩
  | exact below_three HN.out (by have := HB.out; omega) _ _ _
set_option maxRecDepth 100000 in
set_option maxHeartbeats 1600000 in
theorem twice_nil (w : World) (k : Int) :
    Calls Try.prog 15 #[.pointer none, .int .i64 k] w fun e w' => e = .returned (.int .i64 1) ∧ Below w.heap.size w w' := by
  have LK := Lib.hid (look_nil w k)
  unfold flz at LK
  go_enter Try.func15, Try.ntmps15
  go_wp2_with fail
  refine LK.out.mono ?_
  rintro e w1 ⟨rfl, hb⟩
  have X := Lib.hid (hb.trans ((vstep w1 (.cells #[.int .i64 0, .slice none 0 0, .bool false] 39)).mono hb.size))
  clear hb
  go_wp2
  go_returns
  exact ⟨rfl, X.out⟩
set_option maxRecDepth 100000 in
set_option maxHeartbeats 3200000 in
theorem take_nil (w : World) (k : Int) :
    Calls Try.prog 14 #[.pointer none, .int .i64 k] w fun e w' => e = .returned (.tuple #[flz, .int .i64 1]) ∧ Below w.heap.size w w' := by
  have X1 := vstep w (.cells #[.int .i64 k] 3)
  have XB1 := heap_alloc_new w (.cells #[.int .i64 k] 3)
  obtain ⟨W1, hW1⟩ : ∃ y, w.alloc (.cells #[.int .i64 k] 3) = y := ⟨_, rfl⟩
  rw [hW1] at X1 XB1
  have X2 := vstep W1 (.cells #[.int .i64 0, .slice none 0 0, .bool false] 39)
  have XB2 := Lib.hid (heap_alloc_new W1 (.cells #[.int .i64 0, .slice none 0 0, .bool false] 39))
  obtain ⟨W2, hW2⟩ : ∃ y, W1.alloc (.cells #[.int .i64 0, .slice none 0 0, .bool false] 39) = y := ⟨_, rfl⟩
  rw [hW2] at X2 XB2
  have XK := Lib.hid ((X2.block _ (lt_of_block XB1)).trans XB1)
  have X := Lib.hid (X1.trans (X2.mono X1.size))
  have HW1 := Lib.hid hW1
  have HW2 := Lib.hid hW2
  have LK := Lib.hid (look_nil W2 k)
  obtain ⟨bk, hbk⟩ : ∃ b, w.heap.size = b := ⟨_, rfl⟩
  have hbr : W1.heap.size = bk + 1 := (by rw [← hW1, ← hbk]; exact Array.size_push _)
  rw [hbk] at XK
  rw [hbr] at XB2
  have HBK := Lib.hid hbk
  have ck := cell_of_row W2 bk 0 _ _ _ XK.out
  simp at ck
  unfold flz at LK
  unfold flz
  clear hW1 hW2 X1 X2 XB1 hbk hbr
  have hsz := HBK.out
  go_enter Try.func14, Try.ntmps14
  go_upto_region 1 with (fail)
  rw [HW1.out, HW2.out]
  go_wp2_with fail
  refine LK.out.mono ?_
  rintro e w3 ⟨rfl, rb⟩
  have Y := vstep w3 (.cells #[.int .i64 0, .slice none 0 0, .bool false] 39)
  obtain ⟨W4, hW4⟩ : ∃ y, w3.alloc (.cells #[.int .i64 0, .slice none 0 0, .bool false] 39) = y := ⟨_, rfl⟩
  rw [hW4] at Y
  have BY := Lib.hid (rb.trans (Y.mono rb.size))
  have HW4 := Lib.hid hW4
  have R4 := (BY.out.block _ (lt_of_block XB2.out)).trans XB2.out
  have r0 := cell_of_row _ (bk + 1) 0 _ _ _ R4
  have r1 := cell_of_row _ (bk + 1) 1 _ _ _ R4
  have r2 := cell_of_row _ (bk + 1) 2 _ _ _ R4
  have g0 := frozen_of_row _ (bk + 1) 0 _ _ R4
  have g1 := frozen_of_row _ (bk + 1) 1 _ _ R4
  have g2 := frozen_of_row _ (bk + 1) 2 _ _ R4
  simp at r0 r1 r2
  clear hW4 Y rb R4
  go_upto_region 2 with (fail)
  rw [HW4.out]
  go_wp2
  refine bodyPost_ret (by simp [results, Try.results14, go_sem, r0, r1, r2]; try rfl) rfl ?_
  have b := X.out.trans (BY.out.mono X.out.size)
  first
  | exact ⟨rfl, below_three b (by omega) _ _ _⟩
  | exact below_three b (by omega) _ _ _
end Go.Proofs.Ytdocfoienbadhaa
