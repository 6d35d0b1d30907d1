/- What goes, what is left: without, Take. Made by gennf.py. -/
import Derived.Test.YtdocfoienbadhaaNE
set_option linter.unusedVariables false
namespace Go.Proofs.Ytdocfoienbadhaa
open Go.RowKit

def leftN (goes : Nat → Fl → Bool) (fl : List Fl) : Nat → List Fl
  | 0 => []
  | i + 1 => leftN goes fl i ++ (match fl[i]? with | some f => if goes i f then [] else [f] | none => [])
theorem leftN_sub (goes : Nat → Fl → Bool) (fl : List Fl) : ∀ i, (leftN goes fl i).Sublist (fl.take i)
  | 0 => List.nil_sublist _
  | i + 1 => by
    have ih := leftN_sub goes fl i
    unfold leftN
    cases hf : fl[i]? with
    | none => simp only [List.append_nil]; exact ih.trans (List.take_sublist_take_left (by omega))
    | some f =>
      rw [take_snoc' fl i f hf]
      simp only
      refine ih.append ?_
      split
      · exact List.nil_sublist _
      · exact List.Sublist.refl _
theorem leftN_len (goes : Nat → Fl → Bool) (fl : List Fl) (i : Nat) : (leftN goes fl i).length ≤ i := by
  have := (leftN_sub goes fl i).length_le
  rw [List.length_take] at this
  omega
theorem flat_snoc (l : List Fl) (f : Fl) : flat (l ++ [f]) = flat l ++ fc f := by unfold flat; rw [List.flatMap_append]; simp
set_option maxRecDepth 100000 in
set_option maxHeartbeats 800000 in
theorem take1_any (w : World) (b : Nat) (k i : Int) (hc : w.cell? ⟨b, 0, none⟩ = some (.int .i64 k)) (d : Int) (a : Option Addr) (n c : Nat) (h : Bool) (q : Bool) (hq : q = decide (i = k)) :
    Calls Try.prog 29 #[.int .i64 i, .agg #[.int .i64 d, .slice a n c, .bool h], .pointer (some ⟨b, 0, none⟩)] w fun e w' => e = .returned (.bool q) ∧ Below w.heap.size w w' := by
  have X := Lib.hid (vstep w (.cells #[.int .i64 d, .slice a n c, .bool h] 39))
  have hb : b < w.heap.size := World.block_lt_of_cell? w _ hc
  have hc2 := (X.out.cell (p := ⟨b, 0, none⟩) hb).trans hc
  obtain ⟨W, hW⟩ : ∃ y, w.alloc (.cells #[.int .i64 d, .slice a n c, .bool h] 39) = y := ⟨_, rfl⟩
  rw [hW] at X hc2
  have HW := Lib.hid hW
  clear hW hc hb
  by_cases h1 : i = k
  · have hQ := Lib.hid (show q = true by rw [hq]; exact decide_eq_true h1)
    have e1 : (i == k) = true := by rw [h1]; simp
    clear hq h1
    go_enter Try.func29, Try.ntmps29
    go_upto_region 1 with (fail)
    rw [HW.out]
    go_wp2
    go_returns
    exact ⟨by rw [hQ.out]; rfl, X.out⟩
  · have hQ := Lib.hid (show q = false by rw [hq]; exact decide_eq_false h1)
    have e1 : (i == k) = false := by simpa using h1
    clear hq h1
    go_enter Try.func29, Try.ntmps29
    go_upto_region 1 with (fail)
    rw [HW.out]
    go_wp2
    go_returns
    exact ⟨by rw [hQ.out]; rfl, X.out⟩
theorem src39 (W : World) (f : Fl) (a : Option Addr) (n c : Nat) (hb : f.bv = .slice a n c) : Src Try.prog 3 24 (.slice (some ⟨W.heap.size, 0, none⟩) 1 1) 1 (fc f) (W.alloc (.cells #[.int .i64 f.dst, .slice a n c, .bool f.hurt] 39)) := by
  refine Src.ofSlice _ ut24 _ 1 1 _ rfl (fun k u hk => ?_) (fun u hu => ?_)
  · rw [add_addr, Nat.zero_add, cell_of_row _ _ _ _ _ _ (heap_alloc_new W _)]
    unfold fc at hk
    rw [hb] at hk
    match k, hk with
    | 0, hk => exact hk
    | 1, hk => exact hk
    | 2, hk => exact hk
    | k + 3, hk => simp at hk
  · unfold fc at hu
    rw [hb] at hu
    simp at hu
    rcases hu with rfl | rfl | rfl <;> rfl

set_option maxRecDepth 100000 in
set_option maxHeartbeats 3200000 in
theorem without_take {B : Nat} (w : World) (fv : Value) (fl : List Fl) (h : w.ownsRow B 39 3 fv fl.length (flat fl)) (hs : ∀ f ∈ fl, ∃ a n c, f.bv = .slice a n c) (hl : fl.length ≤ 256) (b : Nat) (goes : Nat → Fl → Bool)
    (hc : ∀ W, Below w.heap.size w W → ∀ (i : Nat) f a n c, fl[i]? = some f → f.bv = .slice a n c → Calls Try.prog 29 #[.int .i64 (i : Int), .agg #[.int .i64 f.dst, .slice a n c, .bool f.hurt], .pointer (some ⟨b, 0, none⟩)] W fun e w' => e = .returned (.bool (goes i f)) ∧ Below W.heap.size W w') :
    Calls Try.prog 28 #[fv, .func (.func 29) #[] #[.pointer (some ⟨b, 0, none⟩)]] w fun e w' => ∃ v', e = .returned v' ∧ w'.ownsRow w.heap.size 39 3 v' (leftN goes fl fl.length).length (flat (leftN goes fl fl.length)) ∧ Below w.heap.size w w' := by
  obtain ⟨i0, hi39, hz0, hz1, hz2⟩ := info_parts i39
  obtain ⟨af, cf, hfv⟩ := own_shape h
  have HC := Lib.hid hc
  have HS := Lib.hid hs
  have HR := Lib.hid (fun W (hW : Below w.heap.size w W) i f (hf : fl[i]? = some f) => row_at (own_kept h hW) hf)
  have HFV := Lib.hid hfv
  rw [hfv]
  clear h hs hc hfv
  go_enter Try.func28, Try.ntmps28
  go_wp2_with fail
  go_loopw [5, 10] (fun lv iv wr => ∃ (i : Nat) (al : Option Addr) (cl : Nat), iv = .int .i64 i ∧ lv = .slice al (leftN goes fl i).length cl ∧ i ≤ fl.length ∧ Hid (wr.ownsRow w.heap.size 39 3 (.slice al (leftN goes fl i).length cl) (leftN goes fl i).length (flat (leftN goes fl i)) ∧ Below w.heap.size w wr)) (fun _ iv _ => fl.length - (intOf iv).toNat)
  case atStart => exact ⟨0, none, 0, rfl, rfl, Nat.zero_le _, Lib.hid ⟨World.ownsRow_nil _ _ _ _, Below.refl _ _⟩⟩
  case round =>
    obtain ⟨i, al, cl, rfl, rfl, hi, hI⟩ := hrel
    by_cases hlt : i < fl.length
    · obtain ⟨f, hf⟩ : ∃ f, fl[i]? = some f := ⟨_, List.getElem?_eq_getElem hlt⟩
      obtain ⟨g, cap, hfv2, _, _, c0, c1, c2⟩ := HR.out wr hI.out.2 i f hf
      obtain ⟨ab, nb, cb, hbv⟩ := HS.out f (List.mem_iff_getElem?.2 ⟨i, hf⟩)
      rw [HFV.out] at hfv2
      injection hfv2 with hg _ hcap
      subst hg
      subst hcap
      rw [hbv] at c1
      have X := Lib.hid (vstep wr (.cells #[.int .i64 f.dst, .slice ab nb cb, .bool f.hurt] 39))
      have XB := Lib.hid (heap_alloc_new wr (.cells #[.int .i64 f.dst, .slice ab nb cb, .bool f.hurt] 39))
      have BX := Lib.hid (hI.out.2.trans (X.out.mono hI.out.2.size))
      have CC := Lib.hid (HC.out _ BX.out i f ab nb cb hf hbv)
      have HN := Lib.hid (show leftN goes fl (i + 1) = leftN goes fl i ++ (if goes i f then [] else [f]) by
        show leftN goes fl i ++ (match fl[i]? with | some f => if goes i f then [] else [f] | none => []) = _
        rw [hf])
      have HO := Lib.hid (own_kept hI.out.1 X.out)
      have HLL := Lib.hid (leftN_len goes fl i)
      have SRC := Lib.hid (fun W => src39 W f ab nb cb hbv)
      have HBV := Lib.hid hbv
      obtain ⟨wx, hwx⟩ : ∃ y, wr.alloc (.cells #[.int .i64 f.dst, .slice ab nb cb, .bool f.hurt] 39) = y := ⟨_, rfl⟩
      rw [hwx] at X XB BX CC HO
      have HWX := Lib.hid hwx
      obtain ⟨bb, hbb⟩ : ∃ b, wr.heap.size = b := ⟨_, rfl⟩
      rw [hbb] at XB
      generalize hgo : goes i f = gb at *
      clear hf hbv hwx hI hgo
      obtain ⟨fd, fb, fs, fh⟩ := f
      simp only at *
      go_upto_region 5 with (fail)
      rw [HWX.out]
      have k0 := cell_of_row _ bb 0 _ _ _ XB.out
      have k1 := cell_of_row _ bb 1 _ _ _ XB.out
      have k2 := cell_of_row _ bb 2 _ _ _ XB.out
      simp at k0 k1 k2
      clear c0 c1 c2
      go_wp2_with fail
      refine CC.out.mono ?_
      rintro e w5 ⟨rfl, b5⟩
      have HO5 := Lib.hid (own_kept HO.out b5)
      have B5 := Lib.hid (BX.out.trans (b5.mono BX.out.size))
      have N5 := (b5.block _ (lt_of_block XB.out)).trans XB.out
      have k0 := cell_of_row _ bb 0 _ _ _ N5
      have k1 := cell_of_row _ bb 1 _ _ _ N5
      have k2 := cell_of_row _ bb 2 _ _ _ N5
      simp at k0 k1 k2
      clear b5 N5
      cases gb with
      | true =>
        have HNE := Lib.hid (show leftN goes fl (i + 1) = leftN goes fl i by rw [HN.out, if_pos rfl, List.append_nil])
        go_wp2_with fail
        go_roundw
        case rel => exact ⟨i + 1, al, cl, by go_num, by rw [HNE.out], by omega, Lib.hid ⟨by rw [HNE.out]; exact HO5.out, B5.out⟩⟩
        case measure => simp [intOf]; omega
      | false =>
        have HNE := Lib.hid (show leftN goes fl (i + 1) = leftN goes fl i ++ [⟨fd, fb, fs, fh⟩] by rw [HN.out, if_neg Bool.false_ne_true])
        have HV6 := Lib.hid (vstep w5 (.cells #[.int .i64 fd, .slice ab nb cb, .bool fh] 39))
        have HO6 := Lib.hid (own_kept HO5.out HV6.out)
        have B6 := Lib.hid (B5.out.trans (HV6.out.mono B5.out.size))
        have hmx := Lib.hid (show (leftN goes fl i).length + 1 ≤ maxLen by unfold maxLen; have := HLL.out; omega)
        have hby := Lib.hid (show ((leftN goes fl i).length + 1) * 40 ≤ 140737488355328 by have := HLL.out; omega)
        go_upto_region 7 with (refine wpList_append_src_own rfl (.tmp 20) (.tmp 22) 24 24 rfl w.heap.size 39 i0 _ 3 40 ut24 hi39 hz0 hz1 hz2 rfl (Nat.succ_pos _) (.slice al (leftN goes fl i).length cl) (leftN goes fl i).length (flat (leftN goes fl i)) rfl HO6.out (.slice (some ⟨w5.heap.size, 0, none⟩) 1 1) 1 (fc ⟨fd, fb, fs, fh⟩) rfl (SRC.out w5) hmx.out hby.out B6.out.size ?_; intro v' w7 ho hg hs; obtain ⟨al', cl', rfl⟩ := own_shape ho)
        have HF := Lib.hid (show w7.ownsRow w.heap.size 39 3 (.slice al' (leftN goes fl (i + 1)).length cl') (leftN goes fl (i + 1)).length (flat (leftN goes fl (i + 1))) ∧ Below w.heap.size w w7 from by
          rw [HNE.out, flat_snoc, List.length_append, List.length_singleton]
          exact ⟨ho, hg.os.trans B6.out.os, hg.tape.trans B6.out.tape, hg.output.trans B6.out.output, Nat.le_trans B6.out.size hg.size, fun k hk => (hg.block k (Nat.lt_of_lt_of_le hk B6.out.size) (fun e => by have := (HO6.out.lt k e.symm).1; omega)).trans (B6.out.block k hk)⟩)
        clear ho hg hs
        have HLE := Lib.hid (show (leftN goes fl i).length + 1 = (leftN goes fl (i + 1)).length by rw [HNE.out, List.length_append]; rfl)
        go_wp2_with fail
        go_roundw
        case rel => exact ⟨i + 1, al', cl', by go_num, by rw [HLE.out], by omega, HF⟩
        case measure => simp [intOf]; omega
    · have hie : i = fl.length := by omega
      have HF := Lib.hid (show wr.ownsRow w.heap.size 39 3 (.slice al (leftN goes fl fl.length).length cl) (leftN goes fl fl.length).length (flat (leftN goes fl fl.length)) ∧ Below w.heap.size w wr by rw [← hie]; exact hI.out)
      have HIE := Lib.hid hie
      clear hI hie
      go_wp2
      go_returns
      exact ⟨_, by rw [← HIE.out]; rfl, HF.out.1, HF.out.2⟩
end Go.Proofs.Ytdocfoienbadhaa
