/- The reference's Heard. Made by genqd.py. -/
import Derived.Test.YtgemlkccdcbpdaaQC
set_option linter.unusedVariables false
namespace Go.Proofs.Ytgemlkccdcbpdaa
open Go.RowKit

theorem getD_ofq {l : List Int} {i : Nat} {x : Int} (h : l[i]? = some x) : l.getD i 0 = x := by rw [List.getD_eq_getElem?_getD, h]; rfl
theorem load29 (W : World) (b : Nat) (x : Int) (v : Value) (h : W.heap[b]? = some (.cells #[.int .i64 x, v] 29 (0, 0))) : (Instr.loadAt 29 (.pointer (some ⟨b, 0, none⟩))).run Try.prog W = .ok (.agg #[.int .i64 x, v]) W := by
  have c0 := cell_of_row _ b 0 _ _ _ h
  have c1 := cell_of_row _ b 1 _ _ _ h
  simp at c0 c1
  go_simp
theorem store29 (W : World) (b : Nat) (x : Int) (a : Option Addr) (n c : Nat) (u v : Value) (h : W.heap[b]? = some (.cells #[u, v] 29 (0, 0))) : (Instr.storeAt 29 (.pointer (some ⟨b, 0, none⟩)) (.agg #[.int .i64 x, .slice a n c])).run Try.prog W = .ok () ((W.setCell ⟨b, 0, none⟩ (.int .i64 x)).setCell ⟨b, 1, none⟩ (.slice a n c)) := by
  have c0 := cell_of_row _ b 0 _ _ _ h
  have c1 := cell_of_row _ b 1 _ _ _ h
  have f0 := frozen_of_row _ b 0 _ _ h
  have f1 := frozen_of_row _ b 1 _ _ h
  simp at c0 c1
  go_simp
theorem index_arr (W : World) (g o i : Nat) (hi : i < 64) : (Instr.indexAt 33 (.pointer (some ⟨g, o, none⟩)) (.int .i64 (i : Int))).run Try.prog W = .ok (.pointer (some ⟨g, o + i, none⟩)) W := by
  have h1 : (0 : Int) ≤ (i : Int) := by omega
  have h2 : (i : Int) < 64 := by omega
  have hu : Try.prog.underlying 33 = some (.array 64 3) := by kernel_rfl
  go_simp

set_option maxRecDepth 100000 in
set_option maxHeartbeats 6400000 in
theorem rheard_neg (w : World) (q cap j : Nat) (ms : List Mb) (h : RAt w q ms) (hj : j < ms.length) (fr : Int) (l : List Int) (hl : l.length = 64) (c : Bool) (hc : c = true ↔ RightP l) (t : Int) (hx : fr < 0) :
    Calls Try.prog 13 #[rv (j : Int) q ms.length cap, .int .i64 fr, vw l, .int .i64 t] w fun e w' => ∃ q' cap', e = .returned (.tuple #[rv (j : Int) q' ms.length cap', .bool (heardB ms.length j fr c t)]) ∧ RAt w' q' (heardF ms j fr l c t) ∧ Below w.heap.size w w' ∧ (q' = q ∨ w.heap.size ≤ q') := by
  obtain ⟨W3, e3, b3, n0, n1, n2, z3⟩ := three_in w #[.int .i64 (j : Int), .slice (some ⟨q, 0, none⟩) ms.length cap] (va l) #[.int .i64 0, .slice none 0 0] 29 33 29
  have E3 := Lib.hid e3
  have B3 := Lib.hid b3
  have R3 := Lib.hid (h.step b3)
  have N0 := Lib.hid n0
  have N1 := Lib.hid (show VAt 33 W3 (w.heap.size + 1) l from n1)
  have N2 := Lib.hid (show W3.heap[w.heap.size + 1 + 1]? = some (.cells #[.int .i64 0, .slice none 0 0] 29 (0, 0)) from n2)
  have LW := Lib.hid (fun (W : World) (g : Nat) (h : VAt 33 W g l) => load_va v33 W g l hl h)
  have RM := Lib.hid (fun W => rrightm_any W l hl c hc t)
  have hlen := h.len
  have HE := Lib.hid (show heardB ms.length j fr c t = false from by unfold heardB; rw [show isM ms.length fr = false from decide_eq_false (by omega)]; rfl)
  have HF := Lib.hid (show heardF ms j fr l c t = ms by unfold heardF; rw [HE.out]; rfl)
  obtain ⟨b0, hb0⟩ : ∃ b, w.heap.size = b := ⟨_, rfl⟩
  obtain ⟨b1, hb1⟩ : ∃ b, b0 + 1 = b := ⟨_, rfl⟩
  obtain ⟨b2, hb2⟩ : ∃ b, b1 + 1 = b := ⟨_, rfl⟩
  rw [hb0] at N0 N1 N2
  rw [hb1] at N1 N2
  rw [hb2] at N2
  have HB := Lib.hid (show w.heap.size ≤ b2 ∧ w.heap.size = b0 ∧ b0 ≠ b2 ∧ b1 ≠ b2 from ⟨by omega, hb0, by omega, by omega⟩)
  have HQ := Lib.hid (show q ≠ b2 from by have := h.qlt; omega)
  unfold vw rv at *
  clear h e3 b3 n0 n1 n2 z3 hl hc hj
  go_enter Try.func13, Try.ntmps13
  go_upto_region 1 with (fail)
  rw [E3.out]
  have c00 := cell_of_row _ b0 0 _ _ _ N0.out
  have c01 := cell_of_row _ b0 1 _ _ _ N0.out
  have c20 := cell_of_row _ b2 0 _ _ _ N2.out
  have c21 := cell_of_row _ b2 1 _ _ _ N2.out
  have f20 := frozen_of_row _ b2 0 _ _ N2.out
  have f21 := frozen_of_row _ b2 1 _ _ N2.out
  go_wp2
  refine bodyPost_ret (by simp [results, Try.results13, go_sem, c20, c21]; try rfl) rfl ?_
  first
  | exact ⟨q, cap, by rw [HE.out], by rw [HF.out]; exact (R3.out.setCell HQ.out _).setCell HQ.out _, (by first | exact (B3.out.setCell (p := ⟨b2, 0, none⟩) HB.out.1 _).setCell (p := ⟨b2, 1, none⟩) HB.out.1 _ | (rw [← HB.out.2.1]; exact (B3.out.setCell (p := ⟨b2, 0, none⟩) HB.out.1 _).setCell (p := ⟨b2, 1, none⟩) HB.out.1 _)), .inl rfl⟩
  | exact ⟨q, ⟨cap, by rw [HE.out]⟩, by rw [HF.out]; exact (R3.out.setCell HQ.out _).setCell HQ.out _, (by first | exact (B3.out.setCell (p := ⟨b2, 0, none⟩) HB.out.1 _).setCell (p := ⟨b2, 1, none⟩) HB.out.1 _ | (rw [← HB.out.2.1]; exact (B3.out.setCell (p := ⟨b2, 0, none⟩) HB.out.1 _).setCell (p := ⟨b2, 1, none⟩) HB.out.1 _)), .inl rfl⟩
  | exact ⟨⟨q, cap, by rw [HE.out]⟩, by rw [HF.out]; exact (R3.out.setCell HQ.out _).setCell HQ.out _, (by first | exact (B3.out.setCell (p := ⟨b2, 0, none⟩) HB.out.1 _).setCell (p := ⟨b2, 1, none⟩) HB.out.1 _ | (rw [← HB.out.2.1]; exact (B3.out.setCell (p := ⟨b2, 0, none⟩) HB.out.1 _).setCell (p := ⟨b2, 1, none⟩) HB.out.1 _)), .inl rfl⟩

set_option maxRecDepth 100000 in
set_option maxHeartbeats 6400000 in
theorem rheard_big (w : World) (q cap j : Nat) (ms : List Mb) (h : RAt w q ms) (hj : j < ms.length) (fr : Int) (l : List Int) (hl : l.length = 64) (c : Bool) (hc : c = true ↔ RightP l) (t : Int) (hx : (ms.length : Int) ≤ fr) :
    Calls Try.prog 13 #[rv (j : Int) q ms.length cap, .int .i64 fr, vw l, .int .i64 t] w fun e w' => ∃ q' cap', e = .returned (.tuple #[rv (j : Int) q' ms.length cap', .bool (heardB ms.length j fr c t)]) ∧ RAt w' q' (heardF ms j fr l c t) ∧ Below w.heap.size w w' ∧ (q' = q ∨ w.heap.size ≤ q') := by
  obtain ⟨W3, e3, b3, n0, n1, n2, z3⟩ := three_in w #[.int .i64 (j : Int), .slice (some ⟨q, 0, none⟩) ms.length cap] (va l) #[.int .i64 0, .slice none 0 0] 29 33 29
  have E3 := Lib.hid e3
  have B3 := Lib.hid b3
  have R3 := Lib.hid (h.step b3)
  have N0 := Lib.hid n0
  have N1 := Lib.hid (show VAt 33 W3 (w.heap.size + 1) l from n1)
  have N2 := Lib.hid (show W3.heap[w.heap.size + 1 + 1]? = some (.cells #[.int .i64 0, .slice none 0 0] 29 (0, 0)) from n2)
  have LW := Lib.hid (fun (W : World) (g : Nat) (h : VAt 33 W g l) => load_va v33 W g l hl h)
  have RM := Lib.hid (fun W => rrightm_any W l hl c hc t)
  have hlen := h.len
  have HE := Lib.hid (show heardB ms.length j fr c t = false from by unfold heardB; rw [show isM ms.length fr = false from decide_eq_false (by omega)]; rfl)
  have HF := Lib.hid (show heardF ms j fr l c t = ms by unfold heardF; rw [HE.out]; rfl)
  obtain ⟨b0, hb0⟩ : ∃ b, w.heap.size = b := ⟨_, rfl⟩
  obtain ⟨b1, hb1⟩ : ∃ b, b0 + 1 = b := ⟨_, rfl⟩
  obtain ⟨b2, hb2⟩ : ∃ b, b1 + 1 = b := ⟨_, rfl⟩
  rw [hb0] at N0 N1 N2
  rw [hb1] at N1 N2
  rw [hb2] at N2
  have HB := Lib.hid (show w.heap.size ≤ b2 ∧ w.heap.size = b0 ∧ b0 ≠ b2 ∧ b1 ≠ b2 from ⟨by omega, hb0, by omega, by omega⟩)
  have HQ := Lib.hid (show q ≠ b2 from by have := h.qlt; omega)
  unfold vw rv at *
  have h0 : ¬ fr < 0 := by omega
  clear h e3 b3 n0 n1 n2 z3 hl hc hj
  go_enter Try.func13, Try.ntmps13
  go_upto_region 1 with (fail)
  rw [E3.out]
  have c00 := cell_of_row _ b0 0 _ _ _ N0.out
  have c01 := cell_of_row _ b0 1 _ _ _ N0.out
  have c20 := cell_of_row _ b2 0 _ _ _ N2.out
  have c21 := cell_of_row _ b2 1 _ _ _ N2.out
  have f20 := frozen_of_row _ b2 0 _ _ N2.out
  have f21 := frozen_of_row _ b2 1 _ _ N2.out
  go_wp2
  refine bodyPost_ret (by simp [results, Try.results13, go_sem, c20, c21]; try rfl) rfl ?_
  first
  | exact ⟨q, cap, by rw [HE.out], by rw [HF.out]; exact (R3.out.setCell HQ.out _).setCell HQ.out _, (by first | exact (B3.out.setCell (p := ⟨b2, 0, none⟩) HB.out.1 _).setCell (p := ⟨b2, 1, none⟩) HB.out.1 _ | (rw [← HB.out.2.1]; exact (B3.out.setCell (p := ⟨b2, 0, none⟩) HB.out.1 _).setCell (p := ⟨b2, 1, none⟩) HB.out.1 _)), .inl rfl⟩
  | exact ⟨q, ⟨cap, by rw [HE.out]⟩, by rw [HF.out]; exact (R3.out.setCell HQ.out _).setCell HQ.out _, (by first | exact (B3.out.setCell (p := ⟨b2, 0, none⟩) HB.out.1 _).setCell (p := ⟨b2, 1, none⟩) HB.out.1 _ | (rw [← HB.out.2.1]; exact (B3.out.setCell (p := ⟨b2, 0, none⟩) HB.out.1 _).setCell (p := ⟨b2, 1, none⟩) HB.out.1 _)), .inl rfl⟩
  | exact ⟨⟨q, cap, by rw [HE.out]⟩, by rw [HF.out]; exact (R3.out.setCell HQ.out _).setCell HQ.out _, (by first | exact (B3.out.setCell (p := ⟨b2, 0, none⟩) HB.out.1 _).setCell (p := ⟨b2, 1, none⟩) HB.out.1 _ | (rw [← HB.out.2.1]; exact (B3.out.setCell (p := ⟨b2, 0, none⟩) HB.out.1 _).setCell (p := ⟨b2, 1, none⟩) HB.out.1 _)), .inl rfl⟩

set_option maxRecDepth 100000 in
set_option maxHeartbeats 6400000 in
theorem rheard_own (w : World) (q cap j : Nat) (ms : List Mb) (h : RAt w q ms) (hj : j < ms.length) (fr : Int) (l : List Int) (hl : l.length = 64) (c : Bool) (hc : c = true ↔ RightP l) (t : Int) (hx : fr = (j : Int)) :
    Calls Try.prog 13 #[rv (j : Int) q ms.length cap, .int .i64 fr, vw l, .int .i64 t] w fun e w' => ∃ q' cap', e = .returned (.tuple #[rv (j : Int) q' ms.length cap', .bool (heardB ms.length j fr c t)]) ∧ RAt w' q' (heardF ms j fr l c t) ∧ Below w.heap.size w w' ∧ (q' = q ∨ w.heap.size ≤ q') := by
  obtain ⟨W3, e3, b3, n0, n1, n2, z3⟩ := three_in w #[.int .i64 (j : Int), .slice (some ⟨q, 0, none⟩) ms.length cap] (va l) #[.int .i64 0, .slice none 0 0] 29 33 29
  have E3 := Lib.hid e3
  have B3 := Lib.hid b3
  have R3 := Lib.hid (h.step b3)
  have N0 := Lib.hid n0
  have N1 := Lib.hid (show VAt 33 W3 (w.heap.size + 1) l from n1)
  have N2 := Lib.hid (show W3.heap[w.heap.size + 1 + 1]? = some (.cells #[.int .i64 0, .slice none 0 0] 29 (0, 0)) from n2)
  have LW := Lib.hid (fun (W : World) (g : Nat) (h : VAt 33 W g l) => load_va v33 W g l hl h)
  have RM := Lib.hid (fun W => rrightm_any W l hl c hc t)
  have hlen := h.len
  have HE := Lib.hid (show heardB ms.length j fr c t = false from by unfold heardB; rw [decide_eq_false (fun h => h hx), Bool.and_false, Bool.false_and])
  have HF := Lib.hid (show heardF ms j fr l c t = ms by unfold heardF; rw [HE.out]; rfl)
  obtain ⟨b0, hb0⟩ : ∃ b, w.heap.size = b := ⟨_, rfl⟩
  obtain ⟨b1, hb1⟩ : ∃ b, b0 + 1 = b := ⟨_, rfl⟩
  obtain ⟨b2, hb2⟩ : ∃ b, b1 + 1 = b := ⟨_, rfl⟩
  rw [hb0] at N0 N1 N2
  rw [hb1] at N1 N2
  rw [hb2] at N2
  have HB := Lib.hid (show w.heap.size ≤ b2 ∧ w.heap.size = b0 ∧ b0 ≠ b2 ∧ b1 ≠ b2 from ⟨by omega, hb0, by omega, by omega⟩)
  have HQ := Lib.hid (show q ≠ b2 from by have := h.qlt; omega)
  unfold vw rv at *
  have h0 : ¬ fr < 0 := by omega
  have h1 : ¬ (ms.length : Int) ≤ fr := by omega
  have hq : (fr == (j : Int)) = true := by rw [hx]; simp
  clear h e3 b3 n0 n1 n2 z3 hl hc hj hx
  go_enter Try.func13, Try.ntmps13
  go_upto_region 1 with (fail)
  rw [E3.out]
  have c00 := cell_of_row _ b0 0 _ _ _ N0.out
  have c01 := cell_of_row _ b0 1 _ _ _ N0.out
  have c20 := cell_of_row _ b2 0 _ _ _ N2.out
  have c21 := cell_of_row _ b2 1 _ _ _ N2.out
  have f20 := frozen_of_row _ b2 0 _ _ N2.out
  have f21 := frozen_of_row _ b2 1 _ _ N2.out
  go_wp2
  refine bodyPost_ret (by simp [results, Try.results13, go_sem, c20, c21]; try rfl) rfl ?_
  first
  | exact ⟨q, cap, by rw [HE.out], by rw [HF.out]; exact (R3.out.setCell HQ.out _).setCell HQ.out _, (by first | exact (B3.out.setCell (p := ⟨b2, 0, none⟩) HB.out.1 _).setCell (p := ⟨b2, 1, none⟩) HB.out.1 _ | (rw [← HB.out.2.1]; exact (B3.out.setCell (p := ⟨b2, 0, none⟩) HB.out.1 _).setCell (p := ⟨b2, 1, none⟩) HB.out.1 _)), .inl rfl⟩
  | exact ⟨q, ⟨cap, by rw [HE.out]⟩, by rw [HF.out]; exact (R3.out.setCell HQ.out _).setCell HQ.out _, (by first | exact (B3.out.setCell (p := ⟨b2, 0, none⟩) HB.out.1 _).setCell (p := ⟨b2, 1, none⟩) HB.out.1 _ | (rw [← HB.out.2.1]; exact (B3.out.setCell (p := ⟨b2, 0, none⟩) HB.out.1 _).setCell (p := ⟨b2, 1, none⟩) HB.out.1 _)), .inl rfl⟩
  | exact ⟨⟨q, cap, by rw [HE.out]⟩, by rw [HF.out]; exact (R3.out.setCell HQ.out _).setCell HQ.out _, (by first | exact (B3.out.setCell (p := ⟨b2, 0, none⟩) HB.out.1 _).setCell (p := ⟨b2, 1, none⟩) HB.out.1 _ | (rw [← HB.out.2.1]; exact (B3.out.setCell (p := ⟨b2, 0, none⟩) HB.out.1 _).setCell (p := ⟨b2, 1, none⟩) HB.out.1 _)), .inl rfl⟩

set_option maxRecDepth 100000 in
set_option maxHeartbeats 6400000 in
theorem rheard_wrong (w : World) (q cap j : Nat) (ms : List Mb) (h : RAt w q ms) (hj : j < ms.length) (fr : Int) (l : List Int) (hl : l.length = 64) (c : Bool) (hc : c = true ↔ RightP l) (t : Int) (hx : (0 ≤ fr ∧ fr < (ms.length : Int) ∧ fr ≠ (j : Int)) ∧ rightM c t = false) :
    Calls Try.prog 13 #[rv (j : Int) q ms.length cap, .int .i64 fr, vw l, .int .i64 t] w fun e w' => ∃ q' cap', e = .returned (.tuple #[rv (j : Int) q' ms.length cap', .bool (heardB ms.length j fr c t)]) ∧ RAt w' q' (heardF ms j fr l c t) ∧ Below w.heap.size w w' ∧ (q' = q ∨ w.heap.size ≤ q') := by
  obtain ⟨W3, e3, b3, n0, n1, n2, z3⟩ := three_in w #[.int .i64 (j : Int), .slice (some ⟨q, 0, none⟩) ms.length cap] (va l) #[.int .i64 0, .slice none 0 0] 29 33 29
  have E3 := Lib.hid e3
  have B3 := Lib.hid b3
  have R3 := Lib.hid (h.step b3)
  have N0 := Lib.hid n0
  have N1 := Lib.hid (show VAt 33 W3 (w.heap.size + 1) l from n1)
  have N2 := Lib.hid (show W3.heap[w.heap.size + 1 + 1]? = some (.cells #[.int .i64 0, .slice none 0 0] 29 (0, 0)) from n2)
  have LW := Lib.hid (fun (W : World) (g : Nat) (h : VAt 33 W g l) => load_va v33 W g l hl h)
  have RM := Lib.hid (fun W => rrightm_any W l hl c hc t)
  have hlen := h.len
  have HE := Lib.hid (show heardB ms.length j fr c t = false from by unfold heardB; rw [hx.2, Bool.and_false])
  have HF := Lib.hid (show heardF ms j fr l c t = ms by unfold heardF; rw [HE.out]; rfl)
  obtain ⟨b0, hb0⟩ : ∃ b, w.heap.size = b := ⟨_, rfl⟩
  obtain ⟨b1, hb1⟩ : ∃ b, b0 + 1 = b := ⟨_, rfl⟩
  obtain ⟨b2, hb2⟩ : ∃ b, b1 + 1 = b := ⟨_, rfl⟩
  rw [hb0] at N0 N1 N2
  rw [hb1] at N1 N2
  rw [hb2] at N2
  have HB := Lib.hid (show w.heap.size ≤ b2 ∧ w.heap.size = b0 ∧ b0 ≠ b2 ∧ b1 ≠ b2 from ⟨by omega, hb0, by omega, by omega⟩)
  have HQ := Lib.hid (show q ≠ b2 from by have := h.qlt; omega)
  unfold vw rv at *
  have h0 : ¬ fr < 0 := by omega
  have h1 : ¬ (ms.length : Int) ≤ fr := by omega
  have hq : (fr == (j : Int)) = false := by simpa using hx.1.2.2
  rw [hx.2] at RM
  clear h e3 b3 n0 n1 n2 z3 hl hc hj hx
  go_enter Try.func13, Try.ntmps13
  go_upto_region 1 with (fail)
  rw [E3.out]
  have c00 := cell_of_row _ b0 0 _ _ _ N0.out
  have c01 := cell_of_row _ b0 1 _ _ _ N0.out
  have c20 := cell_of_row _ b2 0 _ _ _ N2.out
  have c21 := cell_of_row _ b2 1 _ _ _ N2.out
  have f20 := frozen_of_row _ b2 0 _ _ N2.out
  have f21 := frozen_of_row _ b2 1 _ _ N2.out
  go_wp2_with (refine wpList_load_arrG rfl (.tmp 6) 33 rfl (.pointer (some ⟨b1, 0, none⟩)) (.agg (va l)) rfl (LW.out _ _ N1.out) ?_)
  refine (RM.out _).mono ?_
  rintro e w4 ⟨rfl, b4⟩
  have R4 := Lib.hid (R3.out.step b4)
  have B4 := Lib.hid (B3.out.trans (b4.mono B3.out.size))
  have M0 := Lib.hid ((b4.block _ (lt_of_block N0.out)).trans N0.out)
  have M2 := Lib.hid ((b4.block _ (lt_of_block N2.out)).trans N2.out)
  clear b4 c00 c01 c20 c21 f20 f21
  have c00 := cell_of_row _ b0 0 _ _ _ M0.out
  have c01 := cell_of_row _ b0 1 _ _ _ M0.out
  have c20 := cell_of_row _ b2 0 _ _ _ M2.out
  have c21 := cell_of_row _ b2 1 _ _ _ M2.out
  have f20 := frozen_of_row _ b2 0 _ _ M2.out
  have f21 := frozen_of_row _ b2 1 _ _ M2.out
  go_wp2
  refine bodyPost_ret (by simp [results, Try.results13, go_sem, c20, c21]; try rfl) rfl ?_
  first
  | exact ⟨q, cap, by rw [HE.out], by rw [HF.out]; exact (R4.out.setCell HQ.out _).setCell HQ.out _, (by first | exact (B4.out.setCell (p := ⟨b2, 0, none⟩) HB.out.1 _).setCell (p := ⟨b2, 1, none⟩) HB.out.1 _ | (rw [← HB.out.2.1]; exact (B4.out.setCell (p := ⟨b2, 0, none⟩) HB.out.1 _).setCell (p := ⟨b2, 1, none⟩) HB.out.1 _)), .inl rfl⟩
  | exact ⟨q, ⟨cap, by rw [HE.out]⟩, by rw [HF.out]; exact (R4.out.setCell HQ.out _).setCell HQ.out _, (by first | exact (B4.out.setCell (p := ⟨b2, 0, none⟩) HB.out.1 _).setCell (p := ⟨b2, 1, none⟩) HB.out.1 _ | (rw [← HB.out.2.1]; exact (B4.out.setCell (p := ⟨b2, 0, none⟩) HB.out.1 _).setCell (p := ⟨b2, 1, none⟩) HB.out.1 _)), .inl rfl⟩
  | exact ⟨⟨q, cap, by rw [HE.out]⟩, by rw [HF.out]; exact (R4.out.setCell HQ.out _).setCell HQ.out _, (by first | exact (B4.out.setCell (p := ⟨b2, 0, none⟩) HB.out.1 _).setCell (p := ⟨b2, 1, none⟩) HB.out.1 _ | (rw [← HB.out.2.1]; exact (B4.out.setCell (p := ⟨b2, 0, none⟩) HB.out.1 _).setCell (p := ⟨b2, 1, none⟩) HB.out.1 _)), .inl rfl⟩

set_option maxRecDepth 100000 in
set_option maxHeartbeats 6400000 in
theorem rheard_sure (w : World) (q cap j : Nat) (ms : List Mb) (h : RAt w q ms) (hj : j < ms.length) (f : Nat) (l : List Int) (hl : l.length = 64) (c : Bool) (hc : c = true ↔ RightP l) (t : Int) (hx : (f < ms.length ∧ f ≠ j ∧ (∀ x ∈ ms, 0 ≤ x.2)) ∧ rightM c t = true ∧ ¬ getF (ms.getD j mz).1 (f : Int) < getF l (f : Int)) :
    Calls Try.prog 13 #[rv (j : Int) q ms.length cap, .int .i64 (f : Int), vw l, .int .i64 t] w fun e w' => ∃ q' cap', e = .returned (.tuple #[rv (j : Int) q' ms.length cap', .bool (heardB ms.length j (f : Int) c t)]) ∧ RAt w' q' (heardF ms j (f : Int) l c t) ∧ Below w.heap.size w w' ∧ (q' = q ∨ w.heap.size ≤ q') := by
  obtain ⟨W3, e3, b3, n0, n1, n2, z3⟩ := three_in w #[.int .i64 (j : Int), .slice (some ⟨q, 0, none⟩) ms.length cap] (va l) #[.int .i64 0, .slice none 0 0] 29 33 29
  have E3 := Lib.hid e3
  have B3 := Lib.hid b3
  have R3 := Lib.hid (h.step b3)
  have N0 := Lib.hid n0
  have N1 := Lib.hid (show VAt 33 W3 (w.heap.size + 1) l from n1)
  have N2 := Lib.hid (show W3.heap[w.heap.size + 1 + 1]? = some (.cells #[.int .i64 0, .slice none 0 0] 29 (0, 0)) from n2)
  have LW := Lib.hid (fun (W : World) (g : Nat) (h : VAt 33 W g l) => load_va v33 W g l hl h)
  have RM := Lib.hid (fun W => rrightm_any W l hl c hc t)
  have hlen := h.len
  obtain ⟨m, hm⟩ : ∃ m, ms[f]? = some m := ⟨_, List.getElem?_eq_getElem hx.1.1⟩
  obtain ⟨mj, hmj⟩ : ∃ m, ms[j]? = some m := ⟨_, List.getElem?_eq_getElem hj⟩
  have hf64 : f < 64 := by have := hx.1.1; omega
  obtain ⟨x1, hx1⟩ := va_len mj.1 (h.m64 j mj hmj) f hf64
  obtain ⟨x2, hx2⟩ := va_len l hl f hf64
  have hB64 : isB (f : Int) = true := decide_eq_true (by omega)
  have hft : ((f : Nat) : Int).toNat = f := by omega
  have e1 : getF (ms.getD j mz).1 (f : Int) = x1 := by rw [List.getD_eq_getElem?_getD, hmj]; show getF mj.1 (f : Int) = x1; unfold getF; rw [hB64, if_pos rfl, hft]; exact getD_ofq hx1
  have e2 : getF l (f : Int) = x2 := by unfold getF; rw [hB64, if_pos rfl, hft]; exact getD_ofq hx2
  have hlt : ¬ x1 < x2 := by rw [← e1, ← e2]; exact hx.2.2
  have HE := Lib.hid (show heardB ms.length j (f : Int) c t = true by unfold heardB; rw [hx.2.1, show isM ms.length (f : Int) = true from decide_eq_true (by omega), decide_eq_true (by omega)]; rfl)
  have HF := Lib.hid (show heardF ms j (f : Int) l c t = ms.set f (noteM m l t true) by
    unfold heardF
    rw [HE.out, if_pos rfl, hft]
    unfold toldAt heardT
    rw [e1, e2, if_neg hlt, List.getD_eq_getElem?_getD, hm]
    rw [note_told]; rfl)
  have NT := Lib.hid (fun W (h : RAt W q ms) => note_any W (j : Int) q cap f ms h m hm l hl t true)
  obtain ⟨b0, hb0⟩ : ∃ b, w.heap.size = b := ⟨_, rfl⟩
  obtain ⟨b1, hb1⟩ : ∃ b, b0 + 1 = b := ⟨_, rfl⟩
  obtain ⟨b2, hb2⟩ : ∃ b, b1 + 1 = b := ⟨_, rfl⟩
  rw [hb0] at N0 N1 N2
  rw [hb1] at N1 N2
  rw [hb2] at N2
  have HB := Lib.hid (show w.heap.size ≤ b2 ∧ w.heap.size = b0 ∧ b0 ≠ b2 ∧ b1 ≠ b2 from ⟨by omega, hb0, by omega, by omega⟩)
  have HQ := Lib.hid (show q ≠ b2 from by have := h.qlt; omega)
  unfold vw rv at *
  have h0 : ¬ (f : Int) < 0 := by omega
  have h1 : ¬ (ms.length : Int) ≤ (f : Int) := by have := hx.1.1; omega
  have h1' : ¬ ms.length ≤ f := by have := hx.1.1; omega
  have hne : ¬ f = j := hx.1.2.1
  have hq : ((f : Int) == (j : Int)) = false := by simp; omega
  have hfn := hx.1.1
  rw [hx.2.1] at RM
  have HJ := Lib.hid (And.intro hj hlen)
  have H64 := Lib.hid hf64
  have HMJ := Lib.hid hmj
  have HX1 := Lib.hid hx1
  have HX2 := Lib.hid hx2
  have HM64 := Lib.hid (h.m64 j mj hmj)
  have HFN := Lib.hid hfn
  clear h e3 b3 n0 n1 n2 z3 hl hc hx hm hmj hx1 hx2 e1 e2 hB64 hft hf64 hj
  go_enter Try.func13, Try.ntmps13
  go_upto_region 1 with (fail)
  rw [E3.out]
  have c00 := cell_of_row _ b0 0 _ _ _ N0.out
  have c01 := cell_of_row _ b0 1 _ _ _ N0.out
  have c20 := cell_of_row _ b2 0 _ _ _ N2.out
  have c21 := cell_of_row _ b2 1 _ _ _ N2.out
  have f20 := frozen_of_row _ b2 0 _ _ N2.out
  have f21 := frozen_of_row _ b2 1 _ _ N2.out
  go_wp2_with (refine wpList_load_arrG rfl (.tmp 6) 33 rfl (.pointer (some ⟨b1, 0, none⟩)) (.agg (va l)) rfl (LW.out _ _ N1.out) ?_)
  refine (RM.out _).mono ?_
  rintro e w4 ⟨rfl, b4⟩
  have R4 := Lib.hid (R3.out.step b4)
  have B4 := Lib.hid (B3.out.trans (b4.mono B3.out.size))
  have M0 := Lib.hid ((b4.block _ (lt_of_block N0.out)).trans N0.out)
  have M1 := Lib.hid (N1.out.step b4)
  have M2 := Lib.hid ((b4.block _ (lt_of_block N2.out)).trans N2.out)
  clear b4 c00 c01 c20 c21 f20 f21 N0 N1 N2 R3 B3 E3 RM
  go_upto_region 3 with (fail)
  refine wp_region_held_drew (S := fun w' => w'.heap[b0]? = some (.cells #[.int .i64 (j : Int), .slice (some ⟨q, 0, none⟩) ms.length cap] 29 (0, 0)) ∧ VAt 33 w' b1 l ∧ w'.cell? ⟨q, j * 65 + f, none⟩ = some (.int .i64 x1)) (by kernel_rfl) ⟨M0.out, M1.out, R4.out.row j mj HMJ.out f _ (by unfold mc; rw [List.getElem?_append_left (by rw [List.length_map, HM64.out]; exact H64.out), List.getElem?_map, HX1.out]; rfl)⟩ (fun hHeld => ?_)
  have LA := Lib.hid (fun (W : World) (h : W.heap[b0]? = some (.cells #[.int .i64 (j : Int), .slice (some ⟨q, 0, none⟩) ms.length cap] 29 (0, 0)) ∧ VAt 33 W b1 l ∧ W.cell? ⟨q, j * 65 + f, none⟩ = some (.int .i64 x1)) => load29 W b0 _ _ h.1)
  have LB := Lib.hid (fun (W : World) (h : W.heap[b0]? = some (.cells #[.int .i64 (j : Int), .slice (some ⟨q, 0, none⟩) ms.length cap] 29 (0, 0)) ∧ VAt 33 W b1 l ∧ W.cell? ⟨q, j * 65 + f, none⟩ = some (.int .i64 x1)) => LW.out W b1 h.2.1)
  have LC := Lib.hid (fun (W : World) (h : W.heap[b0]? = some (.cells #[.int .i64 (j : Int), .slice (some ⟨q, 0, none⟩) ms.length cap] 29 (0, 0)) ∧ VAt 33 W b1 l ∧ W.cell? ⟨q, j * 65 + f, none⟩ = some (.int .i64 x1)) => load27 W ⟨b0, 1, none⟩ _ (show W.cell? ⟨b0, 1, none⟩ = some (.slice (some ⟨q, 0, none⟩) ms.length cap) by rw [cell_of_row _ _ _ _ _ _ h.1]; rfl))
  have LD := Lib.hid (fun (W : World) (h : W.heap[b0]? = some (.cells #[.int .i64 (j : Int), .slice (some ⟨q, 0, none⟩) ms.length cap] 29 (0, 0)) ∧ VAt 33 W b1 l ∧ W.cell? ⟨q, j * 65 + f, none⟩ = some (.int .i64 x1)) => load3 W ⟨b0, 0, none⟩ _ (show W.cell? ⟨b0, 0, none⟩ = some (.int .i64 (j : Int)) by rw [cell_of_row _ _ _ _ _ _ h.1]; rfl))
  have LE := Lib.hid (fun (W : World) (h : W.heap[b0]? = some (.cells #[.int .i64 (j : Int), .slice (some ⟨q, 0, none⟩) ms.length cap] 29 (0, 0)) ∧ VAt 33 W b1 l ∧ W.cell? ⟨q, j * 65 + f, none⟩ = some (.int .i64 x1)) => load3 W ⟨q, j * 65 + f, none⟩ _ h.2.2)
  have LF := Lib.hid (fun (W : World) (h : W.heap[b0]? = some (.cells #[.int .i64 (j : Int), .slice (some ⟨q, 0, none⟩) ms.length cap] 29 (0, 0)) ∧ VAt 33 W b1 l ∧ W.cell? ⟨q, j * 65 + f, none⟩ = some (.int .i64 x1)) => load3 W ⟨b1, 0 + f, none⟩ _ (show W.cell? ⟨b1, 0 + f, none⟩ = some (.int .i64 x2) by rw [Nat.zero_add]; exact cell_va h.2.1 HX2.out))
  have IX := Lib.hid (fun W => index_row W q ms.length cap j HJ.out.1 HJ.out.2)
  have IA := Lib.hid (fun W => index_arr W q (j * 65) f H64.out)
  have IB := Lib.hid (fun W => index_arr W b1 0 f H64.out)
  refine take_at (i := 0) 32 (.agg #[.int .i64 (j : Int), .slice (some ⟨q, 0, none⟩) ms.length cap]) rfl rfl (by kernel_rfl) (by kernel_rfl) (by kernel_rfl) (fun _ _ _ h => h) (yields_ld (.tmp 4) 29 (.pointer (some ⟨b0, 0, none⟩)) _ LA.out rfl rfl rfl) hHeld ?_
  simp only [Act.put, List.setIfInBounds_toArray, List.set_cons_zero, List.set_cons_succ]
  refine take_at (i := 1) 33 ?_ rfl rfl (by kernel_rfl) (by kernel_rfl) (by kernel_rfl) (fun _ _ _ h => h) (.inl ⟨rfl, ?_⟩) hHeld ?_
  rotate_left 1
  · intro w hSw; go_simp; try with_reducible rfl
  simp only [Act.put, List.setIfInBounds_toArray, List.set_cons_zero, List.set_cons_succ]
  refine take_at (i := 2) 34 (.agg (va l)) rfl rfl (by kernel_rfl) (by kernel_rfl) (by kernel_rfl) (fun _ _ _ h => h) (yields_ld (.tmp 6) 33 (.pointer (some ⟨b1, 0, none⟩)) _ LB.out rfl rfl rfl) hHeld ?_
  simp only [Act.put, List.setIfInBounds_toArray, List.set_cons_zero, List.set_cons_succ]
  refine take_at (i := 3) 35 ?_ rfl rfl (by kernel_rfl) (by kernel_rfl) (by kernel_rfl) (fun _ _ _ h => h) (.inl ⟨rfl, ?_⟩) hHeld ?_
  rotate_left 1
  · intro w hSw; go_simp; try with_reducible rfl
  simp only [Act.put, List.setIfInBounds_toArray, List.set_cons_zero, List.set_cons_succ]
  refine take_at (i := 4) 36 ?_ rfl rfl (by kernel_rfl) (by kernel_rfl) (by kernel_rfl) (fun _ _ _ h => h) (.inl ⟨rfl, ?_⟩) hHeld ?_
  rotate_left 1
  · intro w hSw; go_simp; try with_reducible rfl
  simp only [Act.put, List.setIfInBounds_toArray, List.set_cons_zero, List.set_cons_succ]
  refine take_at (i := 5) 37 (.slice (some ⟨q, 0, none⟩) ms.length cap) rfl rfl (by kernel_rfl) (by kernel_rfl) (by kernel_rfl) (fun _ _ _ h => h) (yields_ld (.tmp 36) 27 (.pointer (some ⟨b0, 1, none⟩)) _ LC.out rfl rfl rfl) hHeld ?_
  simp only [Act.put, List.setIfInBounds_toArray, List.set_cons_zero, List.set_cons_succ]
  refine take_at (i := 6) 38 ?_ rfl rfl (by kernel_rfl) (by kernel_rfl) (by kernel_rfl) (fun _ _ _ h => h) (.inl ⟨rfl, ?_⟩) hHeld ?_
  rotate_left 1
  · intro w hSw; go_simp; try with_reducible rfl
  simp only [Act.put, List.setIfInBounds_toArray, List.set_cons_zero, List.set_cons_succ]
  refine take_at (i := 7) 39 (.int .i64 (j : Int)) rfl rfl (by kernel_rfl) (by kernel_rfl) (by kernel_rfl) (fun _ _ _ h => h) (yields_ld (.tmp 38) 3 (.pointer (some ⟨b0, 0, none⟩)) _ LD.out rfl rfl rfl) hHeld ?_
  simp only [Act.put, List.setIfInBounds_toArray, List.set_cons_zero, List.set_cons_succ]
  refine take_at (i := 8) 40 ?_ rfl rfl (by kernel_rfl) (by kernel_rfl) (by kernel_rfl) (fun _ _ _ h => h) (.inl ⟨rfl, ?_⟩) hHeld ?_
  rotate_left 1
  · intro w hSw; go_simp; try with_reducible rfl
  simp only [Act.put, List.setIfInBounds_toArray, List.set_cons_zero, List.set_cons_succ]
  refine take_at (i := 9) 41 (.pointer (some ⟨q, j * 65, none⟩)) rfl rfl (by kernel_rfl) (by kernel_rfl) (by kernel_rfl) (fun _ _ _ h => h) (yields_ix (.tmp 37) (.tmp 39) 27 (.slice (some ⟨q, 0, none⟩) ms.length cap) (.int .i64 (j : Int)) _ IX.out rfl rfl rfl rfl) hHeld ?_
  simp only [Act.put, List.setIfInBounds_toArray, List.set_cons_zero, List.set_cons_succ]
  refine take_at (i := 10) 42 ?_ rfl rfl (by kernel_rfl) (by kernel_rfl) (by kernel_rfl) (fun _ _ _ h => h) (.inl ⟨rfl, ?_⟩) hHeld ?_
  rotate_left 1
  · intro w hSw; go_simp; try with_reducible rfl
  simp only [Act.put, List.setIfInBounds_toArray, List.set_cons_zero, List.set_cons_succ]
  refine take_at (i := 11) 43 (.pointer (some ⟨q, j * 65 + f, none⟩)) rfl rfl (by kernel_rfl) (by kernel_rfl) (by kernel_rfl) (fun _ _ _ h => h) (yields_ix (.tmp 42) (.tmp 40) 33 (.pointer (some ⟨q, j * 65, none⟩)) (.int .i64 (f : Int)) _ IA.out rfl rfl rfl rfl) hHeld ?_
  simp only [Act.put, List.setIfInBounds_toArray, List.set_cons_zero, List.set_cons_succ]
  refine take_at (i := 12) 44 (.int .i64 x1) rfl rfl (by kernel_rfl) (by kernel_rfl) (by kernel_rfl) (fun _ _ _ h => h) (yields_ld (.tmp 43) 3 (.pointer (some ⟨q, j * 65 + f, none⟩)) _ LE.out rfl rfl rfl) hHeld ?_
  simp only [Act.put, List.setIfInBounds_toArray, List.set_cons_zero, List.set_cons_succ]
  refine take_at (i := 13) 45 ?_ rfl rfl (by kernel_rfl) (by kernel_rfl) (by kernel_rfl) (fun _ _ _ h => h) (.inl ⟨rfl, ?_⟩) hHeld ?_
  rotate_left 1
  · intro w hSw; go_simp; try with_reducible rfl
  simp only [Act.put, List.setIfInBounds_toArray, List.set_cons_zero, List.set_cons_succ]
  refine take_at (i := 14) 46 (.pointer (some ⟨b1, 0 + f, none⟩)) rfl rfl (by kernel_rfl) (by kernel_rfl) (by kernel_rfl) (fun _ _ _ h => h) (yields_ix (.tmp 6) (.tmp 45) 33 (.pointer (some ⟨b1, 0, none⟩)) (.int .i64 (f : Int)) _ IB.out rfl rfl rfl rfl) hHeld ?_
  simp only [Act.put, List.setIfInBounds_toArray, List.set_cons_zero, List.set_cons_succ]
  refine take_at (i := 15) 47 (.int .i64 x2) rfl rfl (by kernel_rfl) (by kernel_rfl) (by kernel_rfl) (fun _ _ _ h => h) (yields_ld (.tmp 46) 3 (.pointer (some ⟨b1, 0 + f, none⟩)) _ LF.out rfl rfl rfl) hHeld ?_
  simp only [Act.put, List.setIfInBounds_toArray, List.set_cons_zero, List.set_cons_succ]
  refine take_at (i := 16) 48 ?_ rfl rfl (by kernel_rfl) (by kernel_rfl) (by kernel_rfl) (fun _ _ _ h => h) (.inl ⟨rfl, ?_⟩) hHeld ?_
  rotate_left 1
  · intro w hSw; go_simp; try with_reducible rfl
  simp only [Act.put, List.setIfInBounds_toArray, List.set_cons_zero, List.set_cons_succ]
  refine one_call (i := 17) 49 25 #[.agg #[.int .i64 (j : Int), .slice (some ⟨q, 0, none⟩) ms.length cap], .int .i64 (f : Int), .agg (va l), .int .i64 t, .bool true] rfl rfl (by kernel_rfl) rfl (by go_simp) ?_
  refine (NT.out w4.drew (R4.out.blocks rfl (Nat.le_refl _))).mono ?_
  rintro e w5 ⟨q', cap', rfl, r5, b5, hq5⟩
  refine ⟨_, rfl, ⟨(b5.block _ (lt_of_block hHeld.1)).trans hHeld.1, hHeld.2.1.step b5, (b5.cell (p := ⟨q, j * 65 + f, none⟩) R4.out.qlt).trans hHeld.2.2⟩, fun hH => ?_⟩
  have R5 := Lib.hid r5
  have P2 := Lib.hid ((b5.block _ (lt_of_block M2.out)).trans M2.out)
  have HQ' := Lib.hid (show q' ≠ b2 from by have h1 := lt_of_block M2.out; have h2 : w4.heap.size ≤ q' := hq5; omega)
  have B5 := Lib.hid (B4.out.trans ((show Below w4.heap.size w4 w5 from (Below.refl w4.heap.size w4).drew.trans b5).mono B4.out.size))
  have HFR := Lib.hid (show w.heap.size ≤ q' from Nat.le_trans B4.out.size hq5)
  clear b5 hHeld r5 hq5
  have hHeld := hH
  simp only [Act.put, List.setIfInBounds_toArray, List.set_cons_zero, List.set_cons_succ]
  have S5 := Lib.hid (store29 w5 b2 (j : Int) (some ⟨q', 0, none⟩) ms.length cap' _ _ P2.out)
  obtain ⟨w6, hw6⟩ : ∃ y, (w5.setCell ⟨b2, 0, none⟩ (.int .i64 (j : Int))).setCell ⟨b2, 1, none⟩ (.slice (some ⟨q', 0, none⟩) ms.length cap') = y := ⟨_, rfl⟩
  rw [hw6] at S5
  have HS6 := Lib.hid (show w6.heap[b0]? = some (.cells #[.int .i64 (j : Int), .slice (some ⟨q, 0, none⟩) ms.length cap] 29 (0, 0)) ∧ VAt 33 w6 b1 l ∧ w6.cell? ⟨q, j * 65 + f, none⟩ = some (.int .i64 x1) from by
    have k : ∀ b, b ≠ b2 → w6.heap[b]? = w5.heap[b]? := fun b hb => by rw [← hw6]; exact (Below.heap_setCell _ _ _ _ hb).trans (Below.heap_setCell _ _ _ _ hb)
    exact ⟨(k _ HB.out.2.2.1).trans hHeld.1, (k _ HB.out.2.2.2).trans hHeld.2.1, (World.cell?_of_block (a := ⟨q, j * 65 + f, none⟩) (k q HQ.out)).trans hHeld.2.2⟩)
  have R6 := Lib.hid (show RAt w6 q' (heardF ms j (f : Int) l c t) by rw [← hw6, HF.out]; exact (R5.out.setCell HQ'.out _).setCell HQ'.out _)
  have B6 := Lib.hid (show Below w.heap.size w w6 by rw [← hw6]; exact (B5.out.setCell (p := ⟨b2, 0, none⟩) HB.out.1 _).setCell (p := ⟨b2, 1, none⟩) HB.out.1 _)
  have Q2 := (show w6.heap[b2]? = some (.cells #[.int .i64 (j : Int), .slice (some ⟨q', 0, none⟩) ms.length cap'] 29 (0, 0)) by rw [← hw6]; exact row_setC (row_setC P2.out))
  have c20 := cell_of_row _ b2 0 _ _ _ Q2
  have c21 := cell_of_row _ b2 1 _ _ _ Q2
  clear hw6 Q2
  refine wpAnyH_ready (rs := [18]) (by kernel_rfl) (by simp) (br_store 29 (.tmp 8) (.tmp 49) (.pointer (some ⟨b2, 0, none⟩)) (.agg #[.int .i64 (j : Int), .slice (some ⟨q', 0, none⟩) ms.length cap']) w6 rfl rfl rfl rfl rfl rfl S5.out HS6.out (fun _ => ?_) AllReadyH.nil)
  simp only [Act.put]
  refine take_at (i := 19) 9 ?_ rfl rfl (by kernel_rfl) (by kernel_rfl) (by kernel_rfl) (fun _ _ _ h => h) (.inl ⟨rfl, ?_⟩) HS6.out ?_
  rotate_left 1
  · intro w hSw; go_simp; try with_reducible rfl
  simp only [Act.put, List.setIfInBounds_toArray, List.set_cons_zero, List.set_cons_succ]
  refine wpAnyH_done (by kernel_rfl) ?_ _
  go_wp2
  refine bodyPost_ret (by simp [results, Try.results13, go_sem, c20, c21]; try rfl) rfl ?_
  have BF := B6.out
  first
  | exact ⟨q', cap', by rw [HE.out], R6.out, BF, .inr HFR.out⟩
  | exact ⟨q', ⟨cap', by rw [HE.out]⟩, R6.out, BF, .inr HFR.out⟩

set_option maxRecDepth 100000 in
set_option maxHeartbeats 6400000 in
theorem rheard_zero (w : World) (q cap j : Nat) (ms : List Mb) (h : RAt w q ms) (hj : j < ms.length) (f : Nat) (l : List Int) (hl : l.length = 64) (c : Bool) (hc : c = true ↔ RightP l) (t : Int) (hx : (f < ms.length ∧ f ≠ j ∧ (∀ x ∈ ms, 0 ≤ x.2)) ∧ rightM c t = true ∧ getF (ms.getD j mz).1 (f : Int) < getF l (f : Int)) :
    Calls Try.prog 13 #[rv (j : Int) q ms.length cap, .int .i64 (f : Int), vw l, .int .i64 t] w fun e w' => ∃ q' cap', e = .returned (.tuple #[rv (j : Int) q' ms.length cap', .bool (heardB ms.length j (f : Int) c t)]) ∧ RAt w' q' (heardF ms j (f : Int) l c t) ∧ Below w.heap.size w w' ∧ (q' = q ∨ w.heap.size ≤ q') := by
  obtain ⟨W3, e3, b3, n0, n1, n2, z3⟩ := three_in w #[.int .i64 (j : Int), .slice (some ⟨q, 0, none⟩) ms.length cap] (va l) #[.int .i64 0, .slice none 0 0] 29 33 29
  have E3 := Lib.hid e3
  have B3 := Lib.hid b3
  have R3 := Lib.hid (h.step b3)
  have N0 := Lib.hid n0
  have N1 := Lib.hid (show VAt 33 W3 (w.heap.size + 1) l from n1)
  have N2 := Lib.hid (show W3.heap[w.heap.size + 1 + 1]? = some (.cells #[.int .i64 0, .slice none 0 0] 29 (0, 0)) from n2)
  have LW := Lib.hid (fun (W : World) (g : Nat) (h : VAt 33 W g l) => load_va v33 W g l hl h)
  have RM := Lib.hid (fun W => rrightm_any W l hl c hc t)
  have hlen := h.len
  obtain ⟨m, hm⟩ : ∃ m, ms[f]? = some m := ⟨_, List.getElem?_eq_getElem hx.1.1⟩
  obtain ⟨mj, hmj⟩ : ∃ m, ms[j]? = some m := ⟨_, List.getElem?_eq_getElem hj⟩
  have hf64 : f < 64 := by have := hx.1.1; omega
  obtain ⟨x1, hx1⟩ := va_len mj.1 (h.m64 j mj hmj) f hf64
  obtain ⟨x2, hx2⟩ := va_len l hl f hf64
  have hB64 : isB (f : Int) = true := decide_eq_true (by omega)
  have hft : ((f : Nat) : Int).toNat = f := by omega
  have e1 : getF (ms.getD j mz).1 (f : Int) = x1 := by rw [List.getD_eq_getElem?_getD, hmj]; show getF mj.1 (f : Int) = x1; unfold getF; rw [hB64, if_pos rfl, hft]; exact getD_ofq hx1
  have e2 : getF l (f : Int) = x2 := by unfold getF; rw [hB64, if_pos rfl, hft]; exact getD_ofq hx2
  have hlt : x1 < x2 := by rw [← e1, ← e2]; exact hx.2.2
  have HE := Lib.hid (show heardB ms.length j (f : Int) c t = true by unfold heardB; rw [hx.2.1, show isM ms.length (f : Int) = true from decide_eq_true (by omega), decide_eq_true (by omega)]; rfl)
  have HF := Lib.hid (show heardF ms j (f : Int) l c t = ms.set f (noteM m l t false) by
    unfold heardF
    rw [HE.out, if_pos rfl, hft]
    unfold toldAt heardT
    rw [e1, e2, if_pos hlt, List.getD_eq_getElem?_getD, hm]
    rw [note_zero m l t (hx.1.2.2 m (List.mem_iff_getElem?.2 ⟨_, hm⟩))]; rfl)
  have NT := Lib.hid (fun W (h : RAt W q ms) => note_any W (j : Int) q cap f ms h m hm l hl t false)
  obtain ⟨b0, hb0⟩ : ∃ b, w.heap.size = b := ⟨_, rfl⟩
  obtain ⟨b1, hb1⟩ : ∃ b, b0 + 1 = b := ⟨_, rfl⟩
  obtain ⟨b2, hb2⟩ : ∃ b, b1 + 1 = b := ⟨_, rfl⟩
  rw [hb0] at N0 N1 N2
  rw [hb1] at N1 N2
  rw [hb2] at N2
  have HB := Lib.hid (show w.heap.size ≤ b2 ∧ w.heap.size = b0 ∧ b0 ≠ b2 ∧ b1 ≠ b2 from ⟨by omega, hb0, by omega, by omega⟩)
  have HQ := Lib.hid (show q ≠ b2 from by have := h.qlt; omega)
  unfold vw rv at *
  have h0 : ¬ (f : Int) < 0 := by omega
  have h1 : ¬ (ms.length : Int) ≤ (f : Int) := by have := hx.1.1; omega
  have h1' : ¬ ms.length ≤ f := by have := hx.1.1; omega
  have hne : ¬ f = j := hx.1.2.1
  have hq : ((f : Int) == (j : Int)) = false := by simp; omega
  have hfn := hx.1.1
  rw [hx.2.1] at RM
  have HJ := Lib.hid (And.intro hj hlen)
  have H64 := Lib.hid hf64
  have HMJ := Lib.hid hmj
  have HX1 := Lib.hid hx1
  have HX2 := Lib.hid hx2
  have HM64 := Lib.hid (h.m64 j mj hmj)
  have HFN := Lib.hid hfn
  clear h e3 b3 n0 n1 n2 z3 hl hc hx hm hmj hx1 hx2 e1 e2 hB64 hft hf64 hj
  go_enter Try.func13, Try.ntmps13
  go_upto_region 1 with (fail)
  rw [E3.out]
  have c00 := cell_of_row _ b0 0 _ _ _ N0.out
  have c01 := cell_of_row _ b0 1 _ _ _ N0.out
  have c20 := cell_of_row _ b2 0 _ _ _ N2.out
  have c21 := cell_of_row _ b2 1 _ _ _ N2.out
  have f20 := frozen_of_row _ b2 0 _ _ N2.out
  have f21 := frozen_of_row _ b2 1 _ _ N2.out
  go_wp2_with (refine wpList_load_arrG rfl (.tmp 6) 33 rfl (.pointer (some ⟨b1, 0, none⟩)) (.agg (va l)) rfl (LW.out _ _ N1.out) ?_)
  refine (RM.out _).mono ?_
  rintro e w4 ⟨rfl, b4⟩
  have R4 := Lib.hid (R3.out.step b4)
  have B4 := Lib.hid (B3.out.trans (b4.mono B3.out.size))
  have M0 := Lib.hid ((b4.block _ (lt_of_block N0.out)).trans N0.out)
  have M1 := Lib.hid (N1.out.step b4)
  have M2 := Lib.hid ((b4.block _ (lt_of_block N2.out)).trans N2.out)
  clear b4 c00 c01 c20 c21 f20 f21 N0 N1 N2 R3 B3 E3 RM
  go_upto_region 3 with (fail)
  refine wp_region_held_drew (S := fun w' => w'.heap[b0]? = some (.cells #[.int .i64 (j : Int), .slice (some ⟨q, 0, none⟩) ms.length cap] 29 (0, 0)) ∧ VAt 33 w' b1 l ∧ w'.cell? ⟨q, j * 65 + f, none⟩ = some (.int .i64 x1)) (by kernel_rfl) ⟨M0.out, M1.out, R4.out.row j mj HMJ.out f _ (by unfold mc; rw [List.getElem?_append_left (by rw [List.length_map, HM64.out]; exact H64.out), List.getElem?_map, HX1.out]; rfl)⟩ (fun hHeld => ?_)
  have LA := Lib.hid (fun (W : World) (h : W.heap[b0]? = some (.cells #[.int .i64 (j : Int), .slice (some ⟨q, 0, none⟩) ms.length cap] 29 (0, 0)) ∧ VAt 33 W b1 l ∧ W.cell? ⟨q, j * 65 + f, none⟩ = some (.int .i64 x1)) => load29 W b0 _ _ h.1)
  have LB := Lib.hid (fun (W : World) (h : W.heap[b0]? = some (.cells #[.int .i64 (j : Int), .slice (some ⟨q, 0, none⟩) ms.length cap] 29 (0, 0)) ∧ VAt 33 W b1 l ∧ W.cell? ⟨q, j * 65 + f, none⟩ = some (.int .i64 x1)) => LW.out W b1 h.2.1)
  have LC := Lib.hid (fun (W : World) (h : W.heap[b0]? = some (.cells #[.int .i64 (j : Int), .slice (some ⟨q, 0, none⟩) ms.length cap] 29 (0, 0)) ∧ VAt 33 W b1 l ∧ W.cell? ⟨q, j * 65 + f, none⟩ = some (.int .i64 x1)) => load27 W ⟨b0, 1, none⟩ _ (show W.cell? ⟨b0, 1, none⟩ = some (.slice (some ⟨q, 0, none⟩) ms.length cap) by rw [cell_of_row _ _ _ _ _ _ h.1]; rfl))
  have LD := Lib.hid (fun (W : World) (h : W.heap[b0]? = some (.cells #[.int .i64 (j : Int), .slice (some ⟨q, 0, none⟩) ms.length cap] 29 (0, 0)) ∧ VAt 33 W b1 l ∧ W.cell? ⟨q, j * 65 + f, none⟩ = some (.int .i64 x1)) => load3 W ⟨b0, 0, none⟩ _ (show W.cell? ⟨b0, 0, none⟩ = some (.int .i64 (j : Int)) by rw [cell_of_row _ _ _ _ _ _ h.1]; rfl))
  have LE := Lib.hid (fun (W : World) (h : W.heap[b0]? = some (.cells #[.int .i64 (j : Int), .slice (some ⟨q, 0, none⟩) ms.length cap] 29 (0, 0)) ∧ VAt 33 W b1 l ∧ W.cell? ⟨q, j * 65 + f, none⟩ = some (.int .i64 x1)) => load3 W ⟨q, j * 65 + f, none⟩ _ h.2.2)
  have LF := Lib.hid (fun (W : World) (h : W.heap[b0]? = some (.cells #[.int .i64 (j : Int), .slice (some ⟨q, 0, none⟩) ms.length cap] 29 (0, 0)) ∧ VAt 33 W b1 l ∧ W.cell? ⟨q, j * 65 + f, none⟩ = some (.int .i64 x1)) => load3 W ⟨b1, 0 + f, none⟩ _ (show W.cell? ⟨b1, 0 + f, none⟩ = some (.int .i64 x2) by rw [Nat.zero_add]; exact cell_va h.2.1 HX2.out))
  have IX := Lib.hid (fun W => index_row W q ms.length cap j HJ.out.1 HJ.out.2)
  have IA := Lib.hid (fun W => index_arr W q (j * 65) f H64.out)
  have IB := Lib.hid (fun W => index_arr W b1 0 f H64.out)
  refine take_at (i := 0) 32 (.agg #[.int .i64 (j : Int), .slice (some ⟨q, 0, none⟩) ms.length cap]) rfl rfl (by kernel_rfl) (by kernel_rfl) (by kernel_rfl) (fun _ _ _ h => h) (yields_ld (.tmp 4) 29 (.pointer (some ⟨b0, 0, none⟩)) _ LA.out rfl rfl rfl) hHeld ?_
  simp only [Act.put, List.setIfInBounds_toArray, List.set_cons_zero, List.set_cons_succ]
  refine take_at (i := 1) 33 ?_ rfl rfl (by kernel_rfl) (by kernel_rfl) (by kernel_rfl) (fun _ _ _ h => h) (.inl ⟨rfl, ?_⟩) hHeld ?_
  rotate_left 1
  · intro w hSw; go_simp; try with_reducible rfl
  simp only [Act.put, List.setIfInBounds_toArray, List.set_cons_zero, List.set_cons_succ]
  refine take_at (i := 2) 34 (.agg (va l)) rfl rfl (by kernel_rfl) (by kernel_rfl) (by kernel_rfl) (fun _ _ _ h => h) (yields_ld (.tmp 6) 33 (.pointer (some ⟨b1, 0, none⟩)) _ LB.out rfl rfl rfl) hHeld ?_
  simp only [Act.put, List.setIfInBounds_toArray, List.set_cons_zero, List.set_cons_succ]
  refine take_at (i := 3) 35 ?_ rfl rfl (by kernel_rfl) (by kernel_rfl) (by kernel_rfl) (fun _ _ _ h => h) (.inl ⟨rfl, ?_⟩) hHeld ?_
  rotate_left 1
  · intro w hSw; go_simp; try with_reducible rfl
  simp only [Act.put, List.setIfInBounds_toArray, List.set_cons_zero, List.set_cons_succ]
  refine take_at (i := 4) 36 ?_ rfl rfl (by kernel_rfl) (by kernel_rfl) (by kernel_rfl) (fun _ _ _ h => h) (.inl ⟨rfl, ?_⟩) hHeld ?_
  rotate_left 1
  · intro w hSw; go_simp; try with_reducible rfl
  simp only [Act.put, List.setIfInBounds_toArray, List.set_cons_zero, List.set_cons_succ]
  refine take_at (i := 5) 37 (.slice (some ⟨q, 0, none⟩) ms.length cap) rfl rfl (by kernel_rfl) (by kernel_rfl) (by kernel_rfl) (fun _ _ _ h => h) (yields_ld (.tmp 36) 27 (.pointer (some ⟨b0, 1, none⟩)) _ LC.out rfl rfl rfl) hHeld ?_
  simp only [Act.put, List.setIfInBounds_toArray, List.set_cons_zero, List.set_cons_succ]
  refine take_at (i := 6) 38 ?_ rfl rfl (by kernel_rfl) (by kernel_rfl) (by kernel_rfl) (fun _ _ _ h => h) (.inl ⟨rfl, ?_⟩) hHeld ?_
  rotate_left 1
  · intro w hSw; go_simp; try with_reducible rfl
  simp only [Act.put, List.setIfInBounds_toArray, List.set_cons_zero, List.set_cons_succ]
  refine take_at (i := 7) 39 (.int .i64 (j : Int)) rfl rfl (by kernel_rfl) (by kernel_rfl) (by kernel_rfl) (fun _ _ _ h => h) (yields_ld (.tmp 38) 3 (.pointer (some ⟨b0, 0, none⟩)) _ LD.out rfl rfl rfl) hHeld ?_
  simp only [Act.put, List.setIfInBounds_toArray, List.set_cons_zero, List.set_cons_succ]
  refine take_at (i := 8) 40 ?_ rfl rfl (by kernel_rfl) (by kernel_rfl) (by kernel_rfl) (fun _ _ _ h => h) (.inl ⟨rfl, ?_⟩) hHeld ?_
  rotate_left 1
  · intro w hSw; go_simp; try with_reducible rfl
  simp only [Act.put, List.setIfInBounds_toArray, List.set_cons_zero, List.set_cons_succ]
  refine take_at (i := 9) 41 (.pointer (some ⟨q, j * 65, none⟩)) rfl rfl (by kernel_rfl) (by kernel_rfl) (by kernel_rfl) (fun _ _ _ h => h) (yields_ix (.tmp 37) (.tmp 39) 27 (.slice (some ⟨q, 0, none⟩) ms.length cap) (.int .i64 (j : Int)) _ IX.out rfl rfl rfl rfl) hHeld ?_
  simp only [Act.put, List.setIfInBounds_toArray, List.set_cons_zero, List.set_cons_succ]
  refine take_at (i := 10) 42 ?_ rfl rfl (by kernel_rfl) (by kernel_rfl) (by kernel_rfl) (fun _ _ _ h => h) (.inl ⟨rfl, ?_⟩) hHeld ?_
  rotate_left 1
  · intro w hSw; go_simp; try with_reducible rfl
  simp only [Act.put, List.setIfInBounds_toArray, List.set_cons_zero, List.set_cons_succ]
  refine take_at (i := 11) 43 (.pointer (some ⟨q, j * 65 + f, none⟩)) rfl rfl (by kernel_rfl) (by kernel_rfl) (by kernel_rfl) (fun _ _ _ h => h) (yields_ix (.tmp 42) (.tmp 40) 33 (.pointer (some ⟨q, j * 65, none⟩)) (.int .i64 (f : Int)) _ IA.out rfl rfl rfl rfl) hHeld ?_
  simp only [Act.put, List.setIfInBounds_toArray, List.set_cons_zero, List.set_cons_succ]
  refine take_at (i := 12) 44 (.int .i64 x1) rfl rfl (by kernel_rfl) (by kernel_rfl) (by kernel_rfl) (fun _ _ _ h => h) (yields_ld (.tmp 43) 3 (.pointer (some ⟨q, j * 65 + f, none⟩)) _ LE.out rfl rfl rfl) hHeld ?_
  simp only [Act.put, List.setIfInBounds_toArray, List.set_cons_zero, List.set_cons_succ]
  refine take_at (i := 13) 45 ?_ rfl rfl (by kernel_rfl) (by kernel_rfl) (by kernel_rfl) (fun _ _ _ h => h) (.inl ⟨rfl, ?_⟩) hHeld ?_
  rotate_left 1
  · intro w hSw; go_simp; try with_reducible rfl
  simp only [Act.put, List.setIfInBounds_toArray, List.set_cons_zero, List.set_cons_succ]
  refine take_at (i := 14) 46 (.pointer (some ⟨b1, 0 + f, none⟩)) rfl rfl (by kernel_rfl) (by kernel_rfl) (by kernel_rfl) (fun _ _ _ h => h) (yields_ix (.tmp 6) (.tmp 45) 33 (.pointer (some ⟨b1, 0, none⟩)) (.int .i64 (f : Int)) _ IB.out rfl rfl rfl rfl) hHeld ?_
  simp only [Act.put, List.setIfInBounds_toArray, List.set_cons_zero, List.set_cons_succ]
  refine take_at (i := 15) 47 (.int .i64 x2) rfl rfl (by kernel_rfl) (by kernel_rfl) (by kernel_rfl) (fun _ _ _ h => h) (yields_ld (.tmp 46) 3 (.pointer (some ⟨b1, 0 + f, none⟩)) _ LF.out rfl rfl rfl) hHeld ?_
  simp only [Act.put, List.setIfInBounds_toArray, List.set_cons_zero, List.set_cons_succ]
  refine take_at (i := 16) 48 ?_ rfl rfl (by kernel_rfl) (by kernel_rfl) (by kernel_rfl) (fun _ _ _ h => h) (.inl ⟨rfl, ?_⟩) hHeld ?_
  rotate_left 1
  · intro w hSw; go_simp; try with_reducible rfl
  simp only [Act.put, List.setIfInBounds_toArray, List.set_cons_zero, List.set_cons_succ]
  refine one_call (i := 17) 49 25 #[.agg #[.int .i64 (j : Int), .slice (some ⟨q, 0, none⟩) ms.length cap], .int .i64 (f : Int), .agg (va l), .int .i64 t, .bool false] rfl rfl (by kernel_rfl) rfl (by go_simp) ?_
  refine (NT.out w4.drew (R4.out.blocks rfl (Nat.le_refl _))).mono ?_
  rintro e w5 ⟨q', cap', rfl, r5, b5, hq5⟩
  refine ⟨_, rfl, ⟨(b5.block _ (lt_of_block hHeld.1)).trans hHeld.1, hHeld.2.1.step b5, (b5.cell (p := ⟨q, j * 65 + f, none⟩) R4.out.qlt).trans hHeld.2.2⟩, fun hH => ?_⟩
  have R5 := Lib.hid r5
  have P2 := Lib.hid ((b5.block _ (lt_of_block M2.out)).trans M2.out)
  have HQ' := Lib.hid (show q' ≠ b2 from by have h1 := lt_of_block M2.out; have h2 : w4.heap.size ≤ q' := hq5; omega)
  have B5 := Lib.hid (B4.out.trans ((show Below w4.heap.size w4 w5 from (Below.refl w4.heap.size w4).drew.trans b5).mono B4.out.size))
  have HFR := Lib.hid (show w.heap.size ≤ q' from Nat.le_trans B4.out.size hq5)
  clear b5 hHeld r5 hq5
  have hHeld := hH
  simp only [Act.put, List.setIfInBounds_toArray, List.set_cons_zero, List.set_cons_succ]
  have S5 := Lib.hid (store29 w5 b2 (j : Int) (some ⟨q', 0, none⟩) ms.length cap' _ _ P2.out)
  obtain ⟨w6, hw6⟩ : ∃ y, (w5.setCell ⟨b2, 0, none⟩ (.int .i64 (j : Int))).setCell ⟨b2, 1, none⟩ (.slice (some ⟨q', 0, none⟩) ms.length cap') = y := ⟨_, rfl⟩
  rw [hw6] at S5
  have HS6 := Lib.hid (show w6.heap[b0]? = some (.cells #[.int .i64 (j : Int), .slice (some ⟨q, 0, none⟩) ms.length cap] 29 (0, 0)) ∧ VAt 33 w6 b1 l ∧ w6.cell? ⟨q, j * 65 + f, none⟩ = some (.int .i64 x1) from by
    have k : ∀ b, b ≠ b2 → w6.heap[b]? = w5.heap[b]? := fun b hb => by rw [← hw6]; exact (Below.heap_setCell _ _ _ _ hb).trans (Below.heap_setCell _ _ _ _ hb)
    exact ⟨(k _ HB.out.2.2.1).trans hHeld.1, (k _ HB.out.2.2.2).trans hHeld.2.1, (World.cell?_of_block (a := ⟨q, j * 65 + f, none⟩) (k q HQ.out)).trans hHeld.2.2⟩)
  have R6 := Lib.hid (show RAt w6 q' (heardF ms j (f : Int) l c t) by rw [← hw6, HF.out]; exact (R5.out.setCell HQ'.out _).setCell HQ'.out _)
  have B6 := Lib.hid (show Below w.heap.size w w6 by rw [← hw6]; exact (B5.out.setCell (p := ⟨b2, 0, none⟩) HB.out.1 _).setCell (p := ⟨b2, 1, none⟩) HB.out.1 _)
  have Q2 := (show w6.heap[b2]? = some (.cells #[.int .i64 (j : Int), .slice (some ⟨q', 0, none⟩) ms.length cap'] 29 (0, 0)) by rw [← hw6]; exact row_setC (row_setC P2.out))
  have c20 := cell_of_row _ b2 0 _ _ _ Q2
  have c21 := cell_of_row _ b2 1 _ _ _ Q2
  clear hw6 Q2
  refine wpAnyH_ready (rs := [18]) (by kernel_rfl) (by simp) (br_store 29 (.tmp 8) (.tmp 49) (.pointer (some ⟨b2, 0, none⟩)) (.agg #[.int .i64 (j : Int), .slice (some ⟨q', 0, none⟩) ms.length cap']) w6 rfl rfl rfl rfl rfl rfl S5.out HS6.out (fun _ => ?_) AllReadyH.nil)
  simp only [Act.put]
  refine take_at (i := 19) 9 ?_ rfl rfl (by kernel_rfl) (by kernel_rfl) (by kernel_rfl) (fun _ _ _ h => h) (.inl ⟨rfl, ?_⟩) HS6.out ?_
  rotate_left 1
  · intro w hSw; go_simp; try with_reducible rfl
  simp only [Act.put, List.setIfInBounds_toArray, List.set_cons_zero, List.set_cons_succ]
  refine wpAnyH_done (by kernel_rfl) ?_ _
  go_wp2
  refine bodyPost_ret (by simp [results, Try.results13, go_sem, c20, c21]; try rfl) rfl ?_
  have BF := B6.out
  first
  | exact ⟨q', cap', by rw [HE.out], R6.out, BF, .inr HFR.out⟩
  | exact ⟨q', ⟨cap', by rw [HE.out]⟩, R6.out, BF, .inr HFR.out⟩

theorem rheard_any (w : World) (q cap j : Nat) (ms : List Mb) (h : RAt w q ms) (hj : j < ms.length) (hz : ∀ x ∈ ms, 0 ≤ x.2) (fr : Int) (l : List Int) (hl : l.length = 64) (c : Bool) (hc : c = true ↔ RightP l) (t : Int) :
    Calls Try.prog 13 #[rv (j : Int) q ms.length cap, .int .i64 fr, vw l, .int .i64 t] w fun e w' => ∃ q' cap', e = .returned (.tuple #[rv (j : Int) q' ms.length cap', .bool (heardB ms.length j fr c t)]) ∧ RAt w' q' (heardF ms j fr l c t) ∧ Below w.heap.size w w' ∧ (q' = q ∨ w.heap.size ≤ q') := by
  by_cases h1 : fr < 0
  · exact rheard_neg w q cap j ms h hj fr l hl c hc t h1
  · by_cases h2 : (ms.length : Int) ≤ fr
    · exact rheard_big w q cap j ms h hj fr l hl c hc t h2
    · by_cases h3 : fr = (j : Int)
      · exact rheard_own w q cap j ms h hj fr l hl c hc t h3
      · cases h4 : rightM c t with
        | false => exact rheard_wrong w q cap j ms h hj fr l hl c hc t ⟨⟨by omega, by omega, h3⟩, h4⟩
        | true =>
          obtain ⟨f, rfl⟩ : ∃ f : Nat, fr = (f : Int) := ⟨fr.toNat, by omega⟩
          by_cases h5 : getF (ms.getD j mz).1 (f : Int) < getF l (f : Int)
          · exact rheard_zero w q cap j ms h hj f l hl c hc t ⟨⟨by omega, by omega, hz⟩, h4, h5⟩
          · exact rheard_sure w q cap j ms h hj f l hl c hc t ⟨⟨by omega, by omega, hz⟩, h4, h5⟩
end Go.Proofs.Ytgemlkccdcbpdaa
