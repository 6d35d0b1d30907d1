/- awake(), SumTells and SumGoes, walked. -/
import Derived.Test.YtbigkkpbffmdbaaSumE
import Derived.Test.YtbigkkpbffmdbaaSumF
import Derived.Lib.SlBytesConst
set_option linter.unusedVariables false
namespace Go.Proofs.Ytbigkkpbffmdbaa
open Go.RowKit

theorem dec_sealed (bs : List Nat) : ∃ ok : Bool, ok = true ↔ Sealed bs := by
  by_cases h : Sealed bs
  · exact ⟨true, by simp [h]⟩
  · exact ⟨false, by simp [h]⟩
theorem nine : more 0 [49, 50, 51, 52, 53, 54, 55, 56, 57] = 3808858755 := by decide +kernel
theorem txt_ab : strOfNums (ints [97, 98]) = ⟨#[97, 98]⟩ := by kernel_rfl
theorem byt_ab : Byt [97, 98] := by intro x hx; simp at hx; omega
theorem byt_nine : Byt [49, 50, 51, 52, 53, 54, 55, 56, 57] := by intro x hx; simp at hx; omega

theorem lies_const (w : World) (l : List Nat) (hl : l.length ≤ maxLen) (fr : Nat × Nat) : Lies (w.alloc (.cells (u8s l).toArray 5 fr)) (.slice (some ⟨w.heap.size, 0, none⟩) l.length l.length) l := by
  have hg : (w.alloc (.cells (u8s l).toArray 5 fr)).heap[w.heap.size]? = some (.cells (u8s l).toArray 5 fr) := heap_alloc_new w _
  refine ⟨_, l.length, rfl, Nat.le_refl _, hl, (fun e => by cases e), fun b hb _ => ?_⟩
  cases hb
  refine ⟨w.heap.size, 0, rfl, (Array.getElem?_eq_some_iff.1 hg).1, fun j x hj => ?_⟩
  rw [cell_of_row _ _ _ _ _ _ hg, Nat.zero_add, List.getElem?_toArray, u8s_get, hj]
  rfl

set_option maxRecDepth 100000 in
set_option maxHeartbeats 1600000 in
theorem awake_any (w : World) : Calls Try.prog 6 #[] w fun e w' => e = .returned (.bool true) ∧ Below w.heap.size w w' := by
  have X0 := Lib.hid (show Below w.heap.size w (w.alloc (.cells #[.int .u8 97, .int .u8 98] 5 (2, 3))) from (Below.refl _ _).alloc (Nat.le_refl _) _)
  have S := Lib.hid (seal_any (w.alloc (.cells #[.int .u8 97, .int .u8 98] 5 (2, 3))) (.slice (some ⟨w.heap.size, 0, none⟩) 2 2) [97, 98] (lies_const w [97, 98] (by unfold maxLen; simp) (2, 3)) byt_ab (by simp))
  have kc := fun (w : World) (C : Array Value) (n c : Nat) => Lib.run_convert_bytes_const (P := Try.prog) w 22 5 C n c Try.underlying22 Try.underlying5
  go_enter Try.func6, Try.ntmps6
  go_wp2_with fail
  refine S.out.mono ?_
  rintro e w1 ⟨r, rfl, ho⟩
  have B1 := Lib.hid (X0.out.trans (ho.2.mono X0.out.size))
  have O := Lib.hid (open_any w1 r (seal' [97, 98]) (own_lies ho.1) (seal_byt byt_ab) (by rw [seal_length]; simp) true (by simp [sealed_seal]))
  have hlen : (seal' [97, 98]).length = 6 := by rw [seal_length]; rfl
  obtain ⟨ra, rc, rfl⟩ := own_shape ho.1
  rw [hlen] at O ⊢
  have E2 : (if true = true then (seal' [97, 98]).take (6 - 4) else []) = [97, 98] := by
    rw [if_pos rfl]; unfold seal'; rfl
  rw [E2] at O
  clear ho hlen E2
  go_wp2_with fail
  refine O.out.mono ?_
  rintro e w2 ⟨r2, rfl, ho⟩
  have B2 := Lib.hid (B1.out.trans (ho.2.mono B1.out.size))
  have HL := Lib.hid (own_lies ho.1)
  obtain ⟨r2a, r2c, rfl⟩ := own_shape ho.1
  have X9 := Lib.hid (show Below w2.heap.size w2 (w2.alloc (.cells #[.int .u8 49, .int .u8 50, .int .u8 51, .int .u8 52, .int .u8 53, .int .u8 54, .int .u8 55, .int .u8 56, .int .u8 57] 5 (9, 10))) from (Below.refl _ _).alloc (Nat.le_refl _) _)
  have O9 := of_any (w2.alloc (.cells #[.int .u8 49, .int .u8 50, .int .u8 51, .int .u8 52, .int .u8 53, .int .u8 54, .int .u8 55, .int .u8 56, .int .u8 57] 5 (9, 10))) (.slice (some ⟨w2.heap.size, 0, none⟩) 9 9) [49, 50, 51, 52, 53, 54, 55, 56, 57] (lies_const w2 [49, 50, 51, 52, 53, 54, 55, 56, 57] (by unfold maxLen; simp) (9, 10)) byt_nine
  rw [nine] at O9
  have H9 := Lib.hid O9
  have h00 : more 0 [] = 0 := more_nil 0 (by omega)
  have N := Lib.hid (fun W => of_any W (.slice none 0 0) [] (Lies.nil W) (fun x hx => by cases hx))
  rw [h00] at N
  clear ho O9 h00
  go_wp2_with fail
  refine H9.out.mono ?_
  rintro e w3 ⟨rfl, hb3⟩
  have B3 := Lib.hid (B2.out.trans ((X9.out.trans (hb3.mono X9.out.size)).mono B2.out.size))
  have L3 := Lib.hid (HL.out.later (X9.out.trans (hb3.mono X9.out.size)))
  clear hb3
  go_wp2_with fail
  refine (N.out _).mono ?_
  rintro e w4 ⟨rfl, hb4⟩
  have B4 := Lib.hid (B3.out.trans (hb4.mono B3.out.size))
  have cv := conv_lies (L3.out.later hb4) (by simp)
  rw [txt_ab] at cv
  have cv2 : (convert 22 9 (.slice r2a 2 r2c)).run Try.prog w4 = .ok (.string ⟨#[97, 98]⟩) w4 := cv
  clear hb4 cv
  go_wp2
  go_returns
  exact ⟨rfl, B4.out⟩

set_option maxRecDepth 100000 in
set_option maxHeartbeats 3200000 in
theorem tells_all (w : World) (v : Value) (bs : List Nat) (c : Nat) (hc : c < 4294967296) (h : Lies w v bs) (hb : Byt bs) :
    Calls Try.prog 3 #[v, .int .u32 c] w fun e w' => e = .returned (.bool true) ∧ Below w.heap.size w w' := by
  have hlm : bs.length ≤ maxLen := by obtain ⟨_, _, _, g1, g2, _⟩ := h; omega
  unfold maxLen at hlm
  by_cases hl : 1000 < bs.length
  · obtain ⟨ao, cap, rfl, _⟩ := h
    go_enter Try.func3, Try.ntmps3
    go_wp2_with fail
    refine (awake_any _).mono ?_
    rintro e w1 ⟨rfl, hb1⟩
    have B1 := Lib.hid hb1
    clear hb1
    go_wp2
    go_returns
    exact ⟨rfl, B1.out⟩
  · have H := Lib.hid h
    have HB := Lib.hid hb
    obtain ⟨ok, hok⟩ := dec_sealed bs
    have P := Lib.hid (fun W (hW : Below w.heap.size w W) => open_any W v bs (H.out.later hW) HB.out (by omega) ok hok)
    have Q := Lib.hid (fun W (hW : Below w.heap.size w W) => ropen_any W v bs (H.out.later hW) HB.out (by omega) ok hok)
    generalize hT : (if ok = true then bs.take (bs.length - 4) else []) = T at *
    have O := Lib.hid (fun W (hW : Below w.heap.size w W) => of_any W v bs (H.out.later hW) HB.out)
    have R0 := Lib.hid (fun W (hW : Below w.heap.size w W) => rmore_any W 0 v bs (by omega) (H.out.later hW) HB.out)
    have M := Lib.hid (fun W (hW : Below w.heap.size w W) => more_any W c v bs hc (H.out.later hW) HB.out)
    have R1 := Lib.hid (fun W (hW : Below w.heap.size w W) => rmore_any W c v bs hc (H.out.later hW) HB.out)
    have S := Lib.hid (fun W (hW : Below w.heap.size w W) => seal_any W v bs (H.out.later hW) HB.out (by omega))
    have U := Lib.hid (fun W (hW : Below w.heap.size w W) => rseal_any W v bs (H.out.later hW) HB.out (by omega))
    generalize more 0 bs = m0 at *
    generalize more c bs = m1 at *
    generalize seal' bs = ss at *
    have t1 := beqb_ (m0 : Int) (m0 : Int) rfl
    have t2 := beqb_ (m1 : Int) (m1 : Int) rfl
    have t3 : (ok == ok) = true := by cases ok <;> rfl
    obtain ⟨ao, cap, rfl, _⟩ := h
    clear hT hok hb
    go_enter Try.func3, Try.ntmps3
    go_wp2_with fail
    refine (P.out _ (Below.refl _ _)).mono ?_
    rintro e w1 ⟨x, rfl, ho⟩
    have B1 := Lib.hid ho.2
    have X := Lib.hid (own_lies ho.1)
    obtain ⟨xa, xc, rfl⟩ := own_shape ho.1
    clear ho
    go_wp2_with fail
    refine (Q.out _ B1.out).mono ?_
    rintro e w2 ⟨y, rfl, hy, hb2⟩
    have B2 := Lib.hid (B1.out.trans (hb2.mono B1.out.size))
    have X2 := Lib.hid (X.out.later hb2)
    have Y2 := Lib.hid hy
    obtain ⟨ya, yc, rfl, _⟩ := hy
    clear hb2
    go_wp2_with fail
    refine (O.out _ B2.out).mono ?_
    rintro e w3 ⟨rfl, hb3⟩
    have B3 := Lib.hid (B2.out.trans (hb3.mono B2.out.size))
    have X3 := Lib.hid (X2.out.later hb3)
    have Y3 := Lib.hid (Y2.out.later hb3)
    clear hb3
    go_wp2_with fail
    refine (R0.out _ B3.out).mono ?_
    rintro e w4 ⟨rfl, rfl⟩
    go_wp2_with fail
    refine (M.out _ B3.out).mono ?_
    rintro e w5 ⟨rfl, hb5⟩
    have B5 := Lib.hid (B3.out.trans (hb5.mono B3.out.size))
    have X5 := Lib.hid (X3.out.later hb5)
    have Y5 := Lib.hid (Y3.out.later hb5)
    clear hb5
    go_wp2_with fail
    refine (R1.out _ B5.out).mono ?_
    rintro e w6 ⟨rfl, rfl⟩
    go_wp2_with fail
    refine (S.out _ B5.out).mono ?_
    rintro e w7 ⟨p, rfl, ho⟩
    have B7 := Lib.hid (B5.out.trans (ho.2.mono B5.out.size))
    have X7 := Lib.hid (X5.out.later ho.2)
    have Y7 := Lib.hid (Y5.out.later ho.2)
    have P7 := Lib.hid (own_lies ho.1)
    obtain ⟨pa, pc, rfl⟩ := own_shape ho.1
    clear ho
    go_wp2_with fail
    refine (U.out _ B7.out).mono ?_
    rintro e w8 ⟨q, rfl, ho⟩
    have B8 := Lib.hid (B7.out.trans (ho.2.mono B7.out.size))
    have X8 := Lib.hid (X7.out.later ho.2)
    have Y8 := Lib.hid (Y7.out.later ho.2)
    have D1 := Lib.hid (same_any _ _ _ ss (P7.out.later ho.2) (own_lies ho.1))
    obtain ⟨qa, qc, rfl⟩ := own_shape ho.1
    clear ho
    go_wp2_with fail
    refine D1.out.mono ?_
    rintro e w9 ⟨rfl, hb9⟩
    have B9 := Lib.hid (B8.out.trans (hb9.mono B8.out.size))
    have D2 := Lib.hid (same_any _ _ _ T (X8.out.later hb9) (Y8.out.later hb9))
    clear hb9
    go_wp2_with fail
    refine D2.out.mono ?_
    rintro e wa ⟨rfl, hba⟩
    have Ba := Lib.hid (B9.out.trans (hba.mono B9.out.size))
    clear hba
    go_wp2_with fail
    refine (awake_any _).mono ?_
    rintro e wb ⟨rfl, hbb⟩
    have Bb := Lib.hid (Ba.out.trans (hbb.mono Ba.out.size))
    clear hbb
    go_wp2
    go_returns
    exact ⟨rfl, Bb.out⟩
end Go.Proofs.Ytbigkkpbffmdbaa
