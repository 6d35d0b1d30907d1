/- The reference's Mine, Heard. Made by genqc.py. -/
import Derived.Test.YtgemlkccdcbpdaaQB
set_option linter.unusedVariables false
namespace Go.Proofs.Ytgemlkccdcbpdaa
open Go.RowKit

theorem note_told (m : Mb) (l : List Int) (t : Int) : noteM m l t true = told m l t := by
  unfold noteM told
  rw [Bool.true_and]
  congr 1
  by_cases h : m.2 < t
  · rw [decide_eq_true h]; show t = max m.2 t; omega
  · rw [decide_eq_false h]; show m.2 = max m.2 t; omega
theorem note_zero (m : Mb) (l : List Int) (t : Int) (h : 0 ≤ m.2) : noteM m l t false = told m l 0 := by
  unfold noteM told
  rw [Bool.false_and]
  congr 1
  show m.2 = max m.2 0
  omega

set_option maxRecDepth 100000 in
set_option maxHeartbeats 6400000 in
theorem rmine_any (w : World) (q cap j : Nat) (ms : List Mb) (h : RAt w q ms) (hj : j < ms.length) (l : List Int) (hl : l.length = 64) (c : Bool) (hc : c = true ↔ RightP l) (t : Int) :
    Calls Try.prog 11 #[rv (j : Int) q ms.length cap, vw l, .int .i64 t] w fun e w' => ∃ q' cap', e = .returned (.tuple #[rv (j : Int) q' ms.length cap', .bool (rightM c t)]) ∧ RAt w' q' (if rightM c t then toldAt ms j l t else ms) ∧ Below w.heap.size w w' ∧ (q' = q ∨ w.heap.size ≤ q') := by
  obtain ⟨m, hm⟩ : ∃ m, ms[j]? = some m := ⟨_, List.getElem?_eq_getElem hj⟩
  obtain ⟨W3, e3, b3, n0, n1, n2, z3⟩ := three_in w #[.int .i64 (j : Int), .slice (some ⟨q, 0, none⟩) ms.length cap] (va l) #[.int .i64 0, .slice none 0 0] 29 33 29
  have E3 := Lib.hid e3
  have B3 := Lib.hid b3
  have R3 := Lib.hid (h.step b3)
  have N0 := Lib.hid n0
  have N1 := Lib.hid (show VAt 33 W3 (w.heap.size + 1) l from n1)
  have N2 := Lib.hid (show W3.heap[w.heap.size + 1 + 1]? = some (.cells #[.int .i64 0, .slice none 0 0] 29 (0, 0)) from n2)
  have LW := Lib.hid (fun (W : World) (g : Nat) (h : VAt 33 W g l) => load_va v33 W g l hl h)
  have RM := Lib.hid (fun W => rrightm_any W l hl c hc t)
  have NT := Lib.hid (fun W (h : RAt W q ms) => note_any W (j : Int) q cap j ms h m hm l hl t true)
  have HG := Lib.hid (show ms.set j (noteM m l t true) = toldAt ms j l t by unfold toldAt; rw [note_told, List.getD_eq_getElem?_getD, hm]; rfl)
  obtain ⟨b0, hb0⟩ : ∃ b, w.heap.size = b := ⟨_, rfl⟩
  obtain ⟨b1, hb1⟩ : ∃ b, b0 + 1 = b := ⟨_, rfl⟩
  obtain ⟨b2, hb2⟩ : ∃ b, b1 + 1 = b := ⟨_, rfl⟩
  rw [hb0] at N0 N1 N2
  rw [hb1] at N1 N2
  rw [hb2] at N2
  have HB := Lib.hid (show w.heap.size ≤ b2 ∧ w.heap.size = b0 from ⟨by omega, hb0⟩)
  have HQ := Lib.hid (show q ≠ b2 from by have := h.qlt; omega)
  unfold vw rv at *
  clear h e3 b3 n0 n1 n2 z3 hl hc hm
  cases hr : rightM c t with
  | false =>
    rw [hr] at RM
    clear hr
    go_enter Try.func11, Try.ntmps11
    go_upto_region 1 with (fail)
    rw [E3.out]
    go_wp2_with (refine wpList_load_arrG rfl (.tmp 4) 33 rfl (.pointer (some ⟨b1, 0, none⟩)) (.agg (va l)) rfl (LW.out _ _ N1.out) ?_)
    refine (RM.out _).mono ?_
    rintro e w4 ⟨rfl, b4⟩
    have M0 := (b4.block _ (lt_of_block N0.out)).trans N0.out
    have M2 := (b4.block _ (lt_of_block N2.out)).trans N2.out
    have c00 := cell_of_row _ b0 0 _ _ _ M0
    have c01 := cell_of_row _ b0 1 _ _ _ M0
    have c20 := cell_of_row _ b2 0 _ _ _ M2
    have c21 := cell_of_row _ b2 1 _ _ _ M2
    have f20 := frozen_of_row _ b2 0 _ _ M2
    have f21 := frozen_of_row _ b2 1 _ _ M2
    have R4 := Lib.hid (R3.out.step b4)
    have B4 := Lib.hid (B3.out.trans (b4.mono B3.out.size))
    clear b4 M0 M2
    go_wp2
    refine bodyPost_ret (by simp [results, Try.results11, go_sem, c20, c21]; try rfl) rfl ?_
    first
    | exact ⟨q, cap, rfl, (R4.out.setCell HQ.out _).setCell HQ.out _, (by rw [← HB.out.2]; exact (B4.out.setCell (p := ⟨b2, 0, none⟩) HB.out.1 _).setCell (p := ⟨b2, 1, none⟩) HB.out.1 _), .inl rfl⟩
    | exact ⟨q, ⟨cap, rfl⟩, (R4.out.setCell HQ.out _).setCell HQ.out _, (by rw [← HB.out.2]; exact (B4.out.setCell (p := ⟨b2, 0, none⟩) HB.out.1 _).setCell (p := ⟨b2, 1, none⟩) HB.out.1 _), .inl rfl⟩
  | true =>
    rw [hr] at RM
    clear hr
    go_enter Try.func11, Try.ntmps11
    go_upto_region 1 with (fail)
    rw [E3.out]
    go_wp2_with (refine wpList_load_arrG rfl (.tmp 4) 33 rfl (.pointer (some ⟨b1, 0, none⟩)) (.agg (va l)) rfl (LW.out _ _ N1.out) ?_)
    refine (RM.out _).mono ?_
    rintro e w4 ⟨rfl, b4⟩
    have M0 := (b4.block _ (lt_of_block N0.out)).trans N0.out
    have M1 := Lib.hid (N1.out.step b4)
    have M2 := Lib.hid ((b4.block _ (lt_of_block N2.out)).trans N2.out)
    have c00 := cell_of_row _ b0 0 _ _ _ M0
    have c01 := cell_of_row _ b0 1 _ _ _ M0
    have R4 := Lib.hid (R3.out.step b4)
    have B4 := Lib.hid (B3.out.trans (b4.mono B3.out.size))
    clear b4 M0
    go_wp2_with (refine wpList_load_arrG rfl (.tmp 4) 33 rfl (.pointer (some ⟨b1, 0, none⟩)) (.agg (va l)) rfl (LW.out _ _ M1.out) ?_)
    refine (NT.out _ R4.out).mono ?_
    rintro e w5 ⟨q', cap', rfl, r5, b5, hq5⟩
    have P2 := (b5.block _ (lt_of_block M2.out)).trans M2.out
    have HQ' := Lib.hid (show q' ≠ b2 from by have := lt_of_block M2.out; omega)
    have c20 := cell_of_row _ b2 0 _ _ _ P2
    have c21 := cell_of_row _ b2 1 _ _ _ P2
    have f20 := frozen_of_row _ b2 0 _ _ P2
    have f21 := frozen_of_row _ b2 1 _ _ P2
    rw [HG.out] at r5
    have R5 := Lib.hid r5
    have HFR := Lib.hid (show w.heap.size ≤ q' from Nat.le_trans B4.out.size hq5)
    have B5 := Lib.hid (B4.out.trans (b5.mono B4.out.size))
    clear b5 P2 r5 hq5 c00 c01
    go_wp2
    refine bodyPost_ret (by simp [results, Try.results11, go_sem, c20, c21]; try rfl) rfl ?_
    first
    | exact ⟨q', cap', rfl, (R5.out.setCell HQ'.out _).setCell HQ'.out _, (by rw [← HB.out.2]; exact (B5.out.setCell (p := ⟨b2, 0, none⟩) HB.out.1 _).setCell (p := ⟨b2, 1, none⟩) HB.out.1 _), .inr (by have := HB.out.2; have := HFR.out; omega)⟩
    | exact ⟨q', ⟨cap', rfl⟩, (R5.out.setCell HQ'.out _).setCell HQ'.out _, (by rw [← HB.out.2]; exact (B5.out.setCell (p := ⟨b2, 0, none⟩) HB.out.1 _).setCell (p := ⟨b2, 1, none⟩) HB.out.1 _), .inr (by have := HB.out.2; have := HFR.out; omega)⟩
end Go.Proofs.Ytgemlkccdcbpdaa
