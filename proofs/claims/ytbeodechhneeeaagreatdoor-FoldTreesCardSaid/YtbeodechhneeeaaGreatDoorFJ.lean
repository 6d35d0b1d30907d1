/- The law's awake, and FoldTables. Made by genfj15.py. -/
import Derived.Test.YtbeodechhneeeaaGreatDoorFI
import Derived.Test.YtbeodechhneeeaaGreatDoorRZ
set_option linter.unusedVariables false
set_option linter.unusedSimpArgs false
set_option maxRecDepth 100000
namespace Go.Proofs.YtbeodechhneeeaaGreatDoor
open Go.RowKit Go.Shelf
open Tb (Rw setF getF aboveF Rise TabI TM LiesK LiesR ltS encS Sp)
open Vx (va vw)

def aw : Nat → List O
  | 0 => []
  | 1 => []
  | 2 => [fx 1]
  | 3 => [fx 1, fx 2]
  | 4 => [fx 1, fx 2]
  | _ => fx3
theorem aw_push {i : Nat} (h1 : 1 ≤ i) (h2 : i < 5) (h3 : i ≠ 3) : aw (i + 1) = aw i ++ [fx (i : Int)] := by
  match i, h1, h2, h3 with
  | 1, _, _, _ => rfl
  | 2, _, _, _ => rfl
  | 4, _, _, _ => rfl
theorem aw_len {i : Nat} (h2 : i < 5) : (aw i).length ≤ 3 := by
  match i, h2 with
  | 0, _ => decide
  | 1, _ => decide
  | 2, _ => decide
  | 3, _ => decide
  | 4, _ => decide
set_option maxHeartbeats 6400000 in
theorem awake_any (w : World) : Calls Tryz.prog 7 #[] w fun e w' => e = .returned (.bool true) ∧ Below w.heap.size w w' := by
  obtain ⟨i0, hi9, hz0, hz1, hz2⟩ := info_parts info25
  have J0 := Lib.hid (show w.ownsRow w.heap.size 33 9 (.slice none 0 0) (aw 1).length (cs9 (aw 1)) ∧ Below w.heap.size w w from ⟨World.ownsRow_nil w w.heap.size 33 9, Below.refl _ _⟩)
  go_enter Tryz.func7, Tryz.ntmps7
  go_wp2
  go_loopw [1, 2] (fun sv iv wr => ∃ i : Nat, iv = .int .i64 i ∧ 1 ≤ i ∧ i ≤ 5 ∧ Hid (wr.ownsRow w.heap.size 33 9 sv (aw i).length (cs9 (aw i)) ∧ Below w.heap.size w wr)) (fun _ iv _ => 5 - (intOf iv).toNat)
  case atStart => exact ⟨1, rfl, Nat.le_refl _, by omega, J0⟩
  case round =>
    clear J0
    obtain ⟨i, rfl, h1, hi, K⟩ := hrel
    obtain ⟨sa, sc, hsv⟩ := Ve.own_shape K.out.1
    subst hsv
    by_cases hlt : i < 5
    · have hi5 : (i : Int) < 5 := by omega
      have HW9 := Lib.hid (wrap_nat hlt (by omega))
      have HMS := Lib.hid (meas_nat hlt)
      have HL1 := Lib.hid (show i + 1 ≤ 5 from hlt)
      have HL0 := Lib.hid (show 1 ≤ i + 1 from by omega)
      by_cases h3 : i = 3
      · subst h3
        have KF := Lib.hid (show wr.ownsRow w.heap.size 33 9 (.slice sa (aw 3).length sc) (aw 4).length (cs9 (aw 4)) ∧ Below w.heap.size w wr from K.out)
        clear K
        go_wp2
        go_roundw
        case rel => exact ⟨4, by first | (rw [HW9.out]; rfl) | go_num, HL0.out, HL1.out, KF⟩
        case measure => first | (rw [HW9.out]; exact HMS.out) | exact HMS.out
      · have h3i : ¬ (i : Int) = 3 := by omega
        have hne := bneb_ (i : Int) 3 h3i
        have EQ := Lib.hid (aw_push h1 hlt h3)
        have LN := Lib.hid (aw_len hlt)
        have OW6 := Lib.hid K.out.1
        have BW6 := Lib.hid K.out.2
        clear K
        have OX7 := Lib.hid (own_below OW6.out (pl_vstep wr (.cells #[.int .i64 (i : Int), .int .i64 0, .int .i64 (i : Int), .int .i64 (i : Int), .int .i64 0, .int .i64 0, .int .i64 0, .string ⟨#[97]⟩, .bool false] 33)))
        have bso7 : (Instr.buildSlice 22 1 #[(0, .agg #[.int .i64 (i : Int), .int .i64 0, .int .i64 (i : Int), .int .i64 (i : Int), .int .i64 0, .int .i64 0, .int .i64 0, .string ⟨#[97]⟩, .bool false])]).run Tryz.prog wr = .ok (.slice (some ⟨wr.heap.size, 0, none⟩) 1 1) (wr.alloc (.cells #[.int .i64 (i : Int), .int .i64 0, .int .i64 (i : Int), .int .i64 (i : Int), .int .i64 0, .int .i64 0, .int .i64 0, .string ⟨#[97]⟩, .bool false] 33)) := bs_op wr (fx (i : Int))
        have SR7 := Lib.hid (show Src Tryz.prog 9 22 (.slice (some ⟨wr.heap.size, 0, none⟩) 1 1) 1 (cs9 [fx (i : Int)]) (wr.alloc (.cells #[.int .i64 (i : Int), .int .i64 0, .int .i64 (i : Int), .int .i64 (i : Int), .int .i64 0, .int .i64 0, .int .i64 0, .string ⟨#[97]⟩, .bool false] 33)) from (one_op wr (fx (i : Int))).src)
        have Q7 := Lib.hid (And.intro (show (aw i).length + 1 ≤ maxLen from by have := LN.out; unfold maxLen; omega) (And.intro (show ((aw i).length + 1) * 80 ≤ 140737488355328 from by have := LN.out; omega) (show w.heap.size ≤ (wr.alloc (.cells #[.int .i64 (i : Int), .int .i64 0, .int .i64 (i : Int), .int .i64 (i : Int), .int .i64 0, .int .i64 0, .int .i64 0, .string ⟨#[97]⟩, .bool false] 33)).heap.size from Nat.le_trans BW6.out.size (pl_vstep wr (.cells #[.int .i64 (i : Int), .int .i64 0, .int .i64 (i : Int), .int .i64 (i : Int), .int .i64 0, .int .i64 0, .int .i64 0, .string ⟨#[97]⟩, .bool false] 33)).size)))
        obtain ⟨A, hA⟩ : ∃ z, aw i = z := ⟨_, rfl⟩
        rw [hA] at EQ OW6 OX7 Q7
        try rw [hA]
        clear hA h3 LN
        go_wp2_with (first
          | (at_builtin; refine Wi.wpList_append_src_own rfl (.tmp 9) (.tmp 16) 22 22 rfl w.heap.size 33 i0 (oV O0) 9 80 Tryz.u27 hi9 hz0 hz1 hz2 rfl (by decide) _ _ _ rfl OX7.out _ 1 (cs9 [fx (i : Int)]) rfl SR7.out Q7.out.1 Q7.out.2.1 Q7.out.2.2 ?_; intro v8 w8 hown hgr hsp; obtain ⟨va8, vc8, rfl⟩ := Ve.own_shape hown; have P8 := Lib.hid (push_own OW6.out BW6.out.size hown hgr); clear hown hgr hsp))
        have KF := Lib.hid (show w8.ownsRow w.heap.size 33 9 (.slice va8 (A.length + 1) vc8) (aw (i + 1)).length (cs9 (aw (i + 1))) ∧ Below w.heap.size w w8 from by
          rw [EQ.out]
          exact ⟨P8.out.1, BW6.out.trans P8.out.2⟩)
        go_roundw
        case rel => exact ⟨i + 1, by first | (rw [HW9.out]; rfl) | go_num, HL0.out, HL1.out, KF⟩
        case measure => first | (rw [HW9.out]; exact HMS.out) | exact HMS.out
    · have ei : i = 5 := by omega
      subst ei
      have OL := Lib.hid (show OLies wr (.slice sa 3 sc) fx3 from own_olies K.out.1)
      have HB := Lib.hid K.out.2
      have hv0 : (Value.slice sa (aw 5).length sc) = .slice sa 3 sc := rfl
      rw [hv0]
      have UL : (uniqF fx3).length ≤ 79 := by rw [fx_uniq]; decide
      have C1 := Lib.hid (fvec_any wr _ fx3 OL.out fx_ok fx_sz (by decide) UL)
      rw [fx_vec] at C1
      have C2 := Lib.hid (fun W => text_ex W)
      have C3 := Lib.hid (fun W (hW : Below wr.heap.size wr W) => ftime_any W _ fx3 (OL.out.step hW) fx_ok fx_sz (by decide) UL)
      have C4 := Lib.hid (fun W (hW : Below wr.heap.size wr W) => fof_any W _ fx3 (OL.out.step hW) fx_ok fx_sz (by decide) UL)
      have C6 := Lib.hid (fun W (hW : Below wr.heap.size wr W) => fhonest_any W _ fx3 (OL.out.step hW) fx_ok fx_sz (by decide) UL)
      simp only [fx_time, fx_honest] at C3 C6
      clear K hv0 UL
      go_wp2_with fail
      refine C1.out.mono ?_
      rintro e w1 ⟨rfl, hb⟩
      have B1 := Lib.hid hb
      clear hb C1
      unfold vw
      unfold vw p02 at C2
      go_wp2_with fail
      refine (C2.out w1).mono ?_
      rintro e w2 ⟨rfl, hb⟩
      have B2 := Lib.hid (B1.out.trans (hb.mono B1.out.size))
      clear hb C2
      go_wp2_with fail
      refine (C3.out w2 B2.out).mono ?_
      rintro e w3 ⟨rfl, hb⟩
      have B3 := Lib.hid (B2.out.trans (hb.mono B2.out.size))
      clear hb C3
      go_wp2_with fail
      refine (C4.out w3 B3.out).mono ?_
      rintro e w4 ⟨q, mb, rfl, ht, _, _, hb⟩
      have B4 := Lib.hid (B3.out.trans (hb.mono B3.out.size))
      have C5 := Lib.hid (Tb.len_any w4 q mb _ ht)
      rw [fx_len] at C5
      clear hb C4 ht
      go_wp2_with fail
      refine C5.out.mono ?_
      rintro e w5 ⟨rfl, hw5⟩
      subst hw5
      clear C5
      go_wp2_with fail
      refine (C6.out w4 B4.out).mono ?_
      rintro e w6 ⟨rfl, hb⟩
      have B6 := Lib.hid (HB.out.trans ((B4.out.trans (hb.mono B4.out.size)).mono HB.out.size))
      clear hb C6
      go_wp2
      go_returns
      exact ⟨rfl, B6.out⟩
/-! ### FoldTables -/
theorem do_okT {T : List Rw} (h : OkT T) {o : O} (ho : OkO o) : OkT (doF T o) := by
  unfold doF
  split
  · exact h
  · intro x hx
    rcases Tb.mem_set.1 hx with rfl | hx
    · exact ⟨ho.nt, ho.nr, ho.pt, ho.pr⟩
    · exact h x hx.1
theorem play_okT : ∀ (L : List O) {T : List Rw}, OkT T → (∀ o ∈ L, OkO o) → OkT (playF T L)
  | [], _, h, _ => h
  | o :: L, T, h, hL => play_okT L (do_okT h (hL o (List.mem_cons_self ..))) (fun x hx => hL x (List.mem_cons_of_mem _ hx))
end Go.Proofs.YtbeodechhneeeaaGreatDoor

