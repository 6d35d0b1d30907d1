/- NetFull: the law. Made by gennl.py. -/
import Derived.Test.YtdocfoienbadhaaNK
set_option linter.unusedVariables false
namespace Go.Proofs.Ytdocfoienbadhaa
open Go.RowKit

def Fu (fl : List Fl) : Prop := ∀ (j : Nat) f, fl[j]? = some f → f.dst = (j : Int)
theorem Fu.snoc {fl : List Fl} (h : Fu fl) (r : Value) (bs : List Nat) (hu : Bool) : Fu (fl ++ [⟨(fl.length : Int), r, bs, hu⟩]) := fun j f hf => by
  rcases Nat.lt_or_ge j fl.length with h1 | h1
  · rw [List.getElem?_append_left h1] at hf
    exact h j f hf
  · rw [List.getElem?_append_right h1] at hf
    have h2 : j - fl.length = 0 := by
      rcases Nat.eq_zero_or_pos (j - fl.length) with h2 | h2
      · exact h2
      · rw [List.getElem?_eq_none (by simp; omega)] at hf; cases hf
    rw [h2] at hf
    injection hf with hf
    subst hf
    have : fl.length = j := by omega
    show (fl.length : Int) = _
    rw [this]
theorem seven_gone {fl : List Fl} (h : Fu fl) : ∀ n, n ≤ fl.length → (leftN (goesT 7) fl n).length + (if 7 < n then 1 else 0) = n
  | 0, _ => rfl
  | n + 1, hn => by
    have ih := seven_gone h n (by omega)
    obtain ⟨f, hf⟩ : ∃ f, fl[n]? = some f := ⟨_, List.getElem?_eq_getElem (by omega)⟩
    have hd := h n f hf
    show (leftN (goesT 7) fl n ++ (match fl[n]? with | some f => if goesT 7 n f then [] else [f] | none => [])).length + _ = _
    rw [hf]
    simp only
    by_cases e : n = 7
    · have hg : goesT 7 n f = true := by unfold goesT; rw [hd, e]; rfl
      rw [hg, if_pos rfl, List.append_nil, if_pos (by omega)]
      rw [if_neg (by omega)] at ih
      omega
    · have hg : goesT 7 n f = false := by unfold goesT; rw [hd]; exact decide_eq_false (by omega)
      rw [hg, if_neg Bool.false_ne_true, List.length_append, List.length_singleton]
      by_cases h7 : 7 < n
      · rw [if_pos h7] at ih; rw [if_pos (by omega)]; omega
      · rw [if_neg h7] at ih; rw [if_neg (by omega)]; omega
theorem clear7 {fl : List Fl} (h : Fu fl) (hl : fl.length = 256) : (clearL fl 7).length = 255 := by
  have := seven_gone h fl.length (Nat.le_refl _)
  rw [if_pos (by omega)] at this
  show (leftN (goesT 7) fl fl.length).length = 255
  omega
set_option maxRecDepth 100000 in
set_option maxHeartbeats 1600000 in
theorem full_big (w : World) (d0 : Int) (bv : Value) (bs : List Nat) (hu : Bool) (hv : Lies w bv bs) (hlen : 100 < bs.length) (k : Int) :
    Calls Try.prog 5 #[.agg #[.int .i64 d0, bv, .bool hu], .int .i64 k] w fun e w' => e = .returned (.bool true) ∧ Below w.heap.size w w' := by
  obtain ⟨a0, c0, rfl, _⟩ := hv
  have X := vstep w (.cells #[.int .i64 d0, .slice a0 bs.length c0, .bool hu] 32)
  have XB := heap_alloc_new w (.cells #[.int .i64 d0, .slice a0 bs.length c0, .bool hu] 32)
  obtain ⟨W, hW⟩ : ∃ y, w.alloc (.cells #[.int .i64 d0, .slice a0 bs.length c0, .bool hu] 32) = y := ⟨_, rfl⟩
  rw [hW] at X XB
  have HW := Lib.hid hW
  have BB := Lib.hid X
  have k1 := cell_of_row _ w.heap.size 1 _ _ _ XB
  simp at k1
  have AW := Lib.hid (awake_any W)
  have h100 : (100 : Int) < (bs.length : Int) := by omega
  clear hW X XB
  go_enter Try.func5, Try.ntmps5
  go_upto_region 1 with (fail)
  rw [HW.out]
  go_wp2_with fail
  refine (AW.out).mono ?_
  rintro e w1 ⟨rfl, hb⟩
  have BB := Lib.hid (BB.out.trans (hb.mono BB.out.size))
  clear hb
  go_wp2
  go_returns
  exact ⟨rfl, BB.out⟩
set_option maxRecDepth 100000 in
set_option maxHeartbeats 6400000 in
theorem full_law (w : World) (d0 : Int) (bv : Value) (bs : List Nat) (hu : Bool) (hv : Lies w bv bs) (hby : Byt bs) (hlen : bs.length ≤ 100) (k : Int) :
    Calls Try.prog 5 #[.agg #[.int .i64 d0, bv, .bool hu], .int .i64 k] w fun e w' => e = .returned (.bool true) ∧ Below w.heap.size w w' := by
  have HV0 := Lib.hid hv
  obtain ⟨a0, c0, rfl, _⟩ := hv
  have X := vstep w (.cells #[.int .i64 d0, .slice a0 bs.length c0, .bool hu] 32)
  have XB := Lib.hid (heap_alloc_new w (.cells #[.int .i64 d0, .slice a0 bs.length c0, .bool hu] 32))
  obtain ⟨W, hW⟩ : ∃ y, w.alloc (.cells #[.int .i64 d0, .slice a0 bs.length c0, .bool hu] 32) = y := ⟨_, rfl⟩
  rw [hW] at X XB
  have HW := Lib.hid hW
  have X1 := Lib.hid X
  have HV := Lib.hid (HV0.out.later X)
  have Y := Lib.hid (vstep W (.cells #[.slice none 0 0, .int .i64 0] 26))
  have N0 := Lib.hid (net_new W)
  obtain ⟨W2, hW2⟩ : ∃ y, W.alloc (.cells #[.slice none 0 0, .int .i64 0] 26) = y := ⟨_, rfl⟩
  rw [hW2] at Y N0
  have HW2 := Lib.hid hW2
  obtain ⟨bq, hbq⟩ : ∃ b, w.heap.size = b := ⟨_, rfl⟩
  rw [hbq] at XB
  have hsz := hbq
  have KB := Lib.hid (fun U (hu : Below W.heap.size W U) => (hu.block _ (lt_of_block XB.out)).trans XB.out)
  have k1 := cell_of_row _ bq 1 _ _ _ XB.out
  simp at k1
  have h100 : ¬ (100 : Int) < (bs.length : Int) := by omega
  have HBY := Lib.hid hby
  have HSZ := Lib.hid hbq
  clear hW hW2 X hbq hby
  go_enter Try.func5, Try.ntmps5
  go_upto_region 1 with (fail)
  rw [HW.out]
  go_upto_region 4 with (fail)
  rw [HW2.out]
  clear k1
  go_wp2_with fail
  go_loopw [6] (fun iv wr => ∃ (i : Nat) (fv : Value) (fl : List Fl), iv = .int .i64 i ∧ i ≤ 256 ∧ Hid (NetAt W.heap.size wr W.heap.size fv fl 0 ∧ fl.length = i ∧ Fu fl ∧ Below W.heap.size W wr)) (fun iv _ => 256 - (intOf iv).toNat)
  case atStart => exact ⟨0, _, [], rfl, by omega, Lib.hid ⟨N0.out, rfl, fun j f hf => by simp at hf, Y.out⟩⟩
  case round =>
    obtain ⟨i, fv, fl, rfl, hi, hI⟩ := hrel
    by_cases hlt : i < 256
    · have SN := Lib.hid (send_any (w0 := W) wr W.heap.size fv fl 0 hI.out.1 hI.out.2.2.2 (by have := hI.out.2.1; omega) (i : Int) (.slice a0 bs.length c0) bs false (HV.out.later hI.out.2.2.2) HBY.out (by omega))
      have kk := KB.out wr hI.out.2.2.2
      have k1 := cell_of_row _ bq 1 _ _ _ kk
      simp at k1
      have HI := Lib.hid (And.intro hI.out.2.1 hI.out.2.2.1)
      clear hI kk
      go_wp2_with fail
      refine SN.out.mono ?_
      rintro e w5 ⟨v', r, rfl, hN, hB⟩
      have HF := Lib.hid (And.intro hN hB)
      clear hN hB
      go_wp2_with fail
      go_roundw
      case rel =>
        obtain ⟨hl, hx⟩ := HI.out
        subst hl
        exact ⟨fl.length + 1, v', _, by go_num, by omega, Lib.hid ⟨HF.out.1, by rw [List.length_append]; rfl, hx.snoc r bs false, HF.out.2⟩⟩
      case measure => simp [intOf]; omega
    · have h256 : i = 256 := by omega
      subst h256
      obtain ⟨hN, hl, hx, hB⟩ := hI.out
      have S1 := Lib.hid (send_full (w0 := W) wr W.heap.size fv fl 0 hN hB hl (by omega) 0 none 0 0 false)
      have FL := Lib.hid hl
      have FX := Lib.hid hx
      have BB := Lib.hid (X1.out)
      clear hN hl hx hB hI
      go_wp2_with fail
      refine S1.out.mono ?_
      rintro e w1 ⟨rfl, hN, hB⟩
      have F1 := Lib.hid (And.intro (show NetAt W.heap.size w1 W.heap.size fv fl 1 from hN) hB)
      obtain ⟨f3, hf3⟩ : ∃ f, fl[3]? = some f := ⟨_, List.getElem?_eq_getElem (by have := FL.out; omega)⟩
      have S2 := Lib.hid (twice_full (w0 := W) w1 W.heap.size fv fl 1 hN hB FL.out (by omega) 3 f3 hf3)
      clear hN hB hf3 S1
      go_wp2_with fail
      refine S2.out.mono ?_
      rintro e w2 ⟨rfl, hN, hB⟩
      have F2 := Lib.hid (And.intro (show NetAt W.heap.size w2 W.heap.size fv fl 2 from hN) hB)
      have S3 := Lib.hid (lost_any w2 W.heap.size fv fl 2 hN)
      have S4 := Lib.hid (show Calls Try.prog 8 #[.pointer (some ⟨W.heap.size, 0, none⟩)] w2 fun e w' => e = .returned (.int .i64 256) ∧ w2 = w' from by
        have := len_any w2 W.heap.size fv fl 2 hN
        rw [FL.out] at this
        exact this)
      have S5 := Lib.hid (show Calls Try.prog 18 #[.pointer (some ⟨W.heap.size, 0, none⟩), .int .i64 7] w2 fun e w' => ∃ v', e = .returned (.int .i64 1) ∧ NetAt W.heap.size w' W.heap.size v' (clearL fl 7) 2 ∧ Below W.heap.size W w' from by
        have := clear_some (w0 := W) w2 W.heap.size fv fl 2 hN hB (by have := FL.out; omega) 7
        rw [clear7 FX.out FL.out, FL.out] at this
        exact this)
      clear hN hB S2
      go_wp2_with fail
      refine S3.out.mono ?_
      rintro e w3 ⟨rfl, rfl⟩
      go_wp2_with fail
      refine S4.out.mono ?_
      rintro e w3 ⟨rfl, rfl⟩
      go_wp2_with fail
      refine S5.out.mono ?_
      rintro e w4 ⟨v', rfl, hN, hB⟩
      have S6 := Lib.hid (send_any (w0 := W) w4 W.heap.size v' (clearL fl 7) 2 hN hB (by rw [clear7 FX.out FL.out]; decide) 0 (.slice none 0 0) [] false (Lies.nil _) (fun x hx => by cases hx) (by decide))
      clear hN hB S5 S4 S3
      go_wp2_with fail
      refine S6.out.mono ?_
      rintro e w5 ⟨v2, r2, rfl, hN, hB⟩
      have BB := Lib.hid (X1.out.trans (hB.mono X1.out.size))
      have LK := Lib.hid (fun U => look_nil U k)
      have TK := Lib.hid (fun U => take_nil U k)
      unfold flz at LK TK
      clear hN hB S6 F1 F2
      go_wp2_with fail
      refine (LK.out _).mono ?_
      rintro e w6 ⟨rfl, hb⟩
      have BB := Lib.hid (BB.out.trans (hb.mono BB.out.size))
      clear hb
      have BB := Lib.hid (BB.out.trans ((vstep w6 (.cells #[.int .i64 0, .slice none 0 0, .bool false] 39)).mono BB.out.size))
      obtain ⟨W6, hW6⟩ : ∃ y, w6.alloc (.cells #[.int .i64 0, .slice none 0 0, .bool false] 39) = y := ⟨_, rfl⟩
      rw [hW6] at BB
      have HW6 := Lib.hid hW6
      clear hW6
      go_upto_region 13 with (fail)
      rw [HW6.out]
      go_wp2_with fail
      refine (TK.out _).mono ?_
      rintro e w7 ⟨rfl, hb⟩
      have BB := Lib.hid (BB.out.trans (hb.mono BB.out.size))
      clear hb
      have BB := Lib.hid (BB.out.trans ((vstep w7 (.cells #[.int .i64 0, .slice none 0 0, .bool false] 39)).mono BB.out.size))
      obtain ⟨W7, hW7⟩ : ∃ y, w7.alloc (.cells #[.int .i64 0, .slice none 0 0, .bool false] 39) = y := ⟨_, rfl⟩
      rw [hW7] at BB
      have HW7 := Lib.hid hW7
      clear hW7 LK TK
      go_upto_region 14 with (fail)
      rw [HW7.out]
      go_wp2_with fail
      refine (send_nil _ 0 none 0 0 false).mono ?_
      rintro e x0 ⟨rfl, hb⟩
      have BB := Lib.hid (BB.out.trans (hb.mono BB.out.size))
      clear hb
      go_wp2_with fail
      refine (twice_nil _ k).mono ?_
      rintro e x1 ⟨rfl, hb⟩
      have BB := Lib.hid (BB.out.trans (hb.mono BB.out.size))
      clear hb
      go_wp2_with fail
      refine (swap_nil _ k k).mono ?_
      rintro e x2 ⟨rfl, hb⟩
      have BB := Lib.hid (BB.out.trans (hb.mono BB.out.size))
      clear hb
      go_wp2_with fail
      refine (hurt_nil _ k 0 1).mono ?_
      rintro e x3 ⟨rfl, hb⟩
      have BB := Lib.hid (BB.out.trans (hb.mono BB.out.size))
      clear hb
      go_wp2_with fail
      refine (clear_nil _ k).mono ?_
      rintro e x4 ⟨rfl, hb⟩
      have BB := Lib.hid (BB.out.trans (hb.mono BB.out.size))
      clear hb
      go_wp2_with fail
      refine (len_nil _).mono ?_
      rintro e x5 ⟨rfl, hb⟩
      have BB := Lib.hid (BB.out.trans (hb.mono BB.out.size))
      clear hb
      go_wp2_with fail
      refine (lost_nil _).mono ?_
      rintro e x6 ⟨rfl, hb⟩
      have BB := Lib.hid (BB.out.trans (hb.mono BB.out.size))
      clear hb
      go_wp2_with fail
      refine (awake_any _).mono ?_
      rintro e x7 ⟨rfl, hb⟩
      have BB := Lib.hid (BB.out.trans (hb.mono BB.out.size))
      clear hb
      go_wp2
      go_returns
      exact ⟨rfl, BB.out⟩
end Go.Proofs.Ytdocfoienbadhaa
