/- StableNobody: a watch that is none, walked. -/
import Derived.Test.YtgemlkccdcbpdaaSJ
set_option linter.unusedVariables false
namespace Go.Proofs.Ytgemlkccdcbpdaa
open Go.RowKit

set_option maxRecDepth 100000 in
set_option maxHeartbeats 1600000 in
theorem mine_none (w : World) (v : Value) (sf : Int) (h : Rec w v sf []) (l : List Int) (t : Int) :
    Calls Try.prog 12 #[v, vw l, .int .i64 t] w fun e w' => e = .returned (.bool false) ∧ Below w.heap.size w w' := by
  have X := Lib.hid (vstep w (.cells (va l) 34))
  have IS := Lib.hid (ism_any _ v sf [] (h.step X.out) sf)
  rw [show isM ([] : List Mb).length sf = false from decide_eq_false (by show ¬ (0 ≤ sf ∧ sf < ((0 : Nat) : Int)); omega)] at IS
  rcases h with ⟨rfl, _⟩ | ⟨p, ao, rfl, h⟩
  · unfold vw at *
    generalize va l = A at *
    go_enter Try.func12, Try.ntmps12
    go_wp2
    go_returns
    exact ⟨rfl, X.out⟩
  · have d0 := (h.step X.out).c0
    unfold vw at *
    generalize va l = A at *
    generalize hW : w.alloc (.cells A 34) = W at *
    have HW := Lib.hid hW
    clear h hW
    go_enter Try.func12, Try.ntmps12
    go_upto_region 1 with (fail)
    rw [HW.out]
    go_wp2_with fail
    refine IS.out.mono ?_
    rintro e w1 ⟨rfl, rfl⟩
    go_wp2
    go_returns
    exact ⟨rfl, X.out⟩
set_option maxRecDepth 100000 in
set_option maxHeartbeats 1600000 in
theorem heard_none (w : World) (v : Value) (sf : Int) (h : Rec w v sf []) (fr : Int) (l : List Int) (t : Int) :
    Calls Try.prog 14 #[v, .int .i64 fr, vw l, .int .i64 t] w fun e w' => e = .returned (.bool false) ∧ Below w.heap.size w w' := by
  have X := Lib.hid (vstep w (.cells (va l) 34))
  have IS := Lib.hid (ism_any _ v sf [] (h.step X.out) fr)
  rw [show isM ([] : List Mb).length fr = false from decide_eq_false (by show ¬ (0 ≤ fr ∧ fr < ((0 : Nat) : Int)); omega)] at IS
  unfold vw at *
  generalize va l = A at *
  generalize hW : w.alloc (.cells A 34) = W at *
  have HW := Lib.hid hW
  clear h hW
  go_enter Try.func14, Try.ntmps14
  go_upto_region 1 with (fail)
  rw [HW.out]
  go_wp2_with fail
  refine IS.out.mono ?_
  rintro e w1 ⟨rfl, rfl⟩
  go_wp2
  go_returns
  exact ⟨rfl, X.out⟩
theorem mem_nil (rep : Int) : memF [] rep = mz := by
  unfold memF
  rw [show isM ([] : List Mb).length rep = false from decide_eq_false (by show ¬ (0 ≤ rep ∧ rep < ((0 : Nat) : Int)); omega)]
  rfl
theorem cut_nil : cutT 0 = 0 ∧ cutR 0 = 0 := by decide
theorem floor_nil : floorF [] = 0 := by show (memF [] 0).2 = 0; rw [mem_nil]; rfl
theorem meet_nil : meetAll [] = zs := by show (memF [] 0).1 = zs; rw [mem_nil]; rfl
theorem m64_nil : ∀ (i : Nat) m, ([] : List Mb)[i]? = some m → m.1.length = 64 := fun i m h => by simp at h
theorem rd_zero (w : World) (b : Nat) (h : w.heap[b]? = some (.cells #[.int .i64 0, .slice none 0 0] 61 (0, 0))) : RdAt w b 0 none [] :=
  ⟨by rw [cell_of_row _ _ _ _ _ _ h]; rfl, by rw [cell_of_row _ _ _ _ _ _ h]; rfl, fun i m h => by simp at h, m64_nil, by simp⟩
set_option maxRecDepth 100000 in
set_option maxHeartbeats 3200000 in
theorem nobody_law (w : World) (n : Int) : Calls Try.prog 6 #[.int .i64 n] w fun e w' => e = .returned (.bool true) ∧ Below w.heap.size w w' := by
  have MI := Lib.hid (fun W v (h : Rec W v 0 []) => mine_none W v 0 h zs n)
  have HE := Lib.hid (fun W v (h : Rec W v 0 []) => heard_none W v 0 h n zs n)
  have KN := Lib.hid (fun W v (h : Rec W v 0 []) => knows_any W v 0 [] h m64_nil n)
  have TM := Lib.hid (fun W v (h : Rec W v 0 []) => time_any W v 0 [] h m64_nil n)
  have FL := Lib.hid (fun W v (h : Rec W v 0 []) => floor_any W v 0 [] h m64_nil)
  have CT := Lib.hid (fun W v (h : Rec W v 0 []) => cut_any W v 0 [] h m64_nil)
  have ME := Lib.hid (fun W v (h : Rec W v 0 []) => meetm_any W v 0 [] h m64_nil)
  have AW := Lib.hid (fun W => awake_any W)
  rw [floor_nil] at FL CT
  rw [cut_nil.1, cut_nil.2] at CT
  rw [meet_nil] at ME
  rw [mem_nil] at KN TM
  rw [show mz.1 = zs from rfl] at KN
  rw [show mz.2 = 0 from rfl] at TM
  have BZ := Lib.hid build_zs
  have EZ := Lib.hid (eqin_self zs zs_len)
  unfold vw at *
  generalize zs = z at *
  have X := Lib.hid (vstep w (.cells #[.int .i64 0, .slice none 0 0] 61))
  have Y := Lib.hid (vstep (w.alloc (.cells #[.int .i64 0, .slice none 0 0] 61)) (.cells #[.pointer none, .pointer (some ⟨w.heap.size, 0, none⟩)] 23))
  have N1 := Lib.hid ((Y.out.block _ (lt_of_block (heap_alloc_new w (.cells #[.int .i64 0, .slice none 0 0] 61)))).trans (heap_alloc_new w (.cells #[.int .i64 0, .slice none 0 0] 61)))
  have N2 := Lib.hid (heap_alloc_new (w.alloc (.cells #[.int .i64 0, .slice none 0 0] 61)) (.cells #[.pointer none, .pointer (some ⟨w.heap.size, 0, none⟩)] 23))
  rw [World.size_alloc] at N2
  have B2 := Lib.hid (X.out.trans (Y.out.mono X.out.size))
  go_enter Try.func6, Try.ntmps6
  go_upto_region 4 with (fail)
  obtain ⟨w2, hw2⟩ : ∃ y, (w.alloc (.cells #[.int .i64 0, .slice none 0 0] 61)).alloc (.cells #[.pointer none, .pointer (some ⟨w.heap.size, 0, none⟩)] 23) = y := ⟨_, rfl⟩
  rw [hw2] at N1 N2 B2 ⊢
  clear hw2 X Y
  obtain ⟨g1, hg1⟩ : ∃ g, w.heap.size = g := ⟨_, rfl⟩
  obtain ⟨g2, hg2⟩ : ∃ g, g1 + 1 = g := ⟨_, rfl⟩
  have hb0 := Lib.hid hg1
  rw [hg1] at N1 N2 ⊢
  rw [hg2] at N2 ⊢
  clear hg1 hg2
  go_loopw [5] (fun iv wr => ∃ i : Nat, iv = .int .i64 i ∧ i ≤ 2 ∧ Below w2.heap.size w2 wr) (fun iv _ => 2 - (intOf iv).toNat)
  case atStart => exact ⟨0, rfl, by omega, Below.refl _ _⟩
  case round =>
    obtain ⟨i, rfl, hi, hI⟩ := hrel
    have BB := Lib.hid hI
    clear hI
    by_cases hlt : i < 2
    · obtain ⟨v, hv, hr⟩ : ∃ v, wr.cell? ⟨g2, i, none⟩ = some v ∧ Rec wr v 0 [] := by
        have c := fun j => (BB.out.cell (p := ⟨g2, j, none⟩) (lt_of_block N2.out)).trans (cell_of_row _ _ j _ _ _ N2.out)
        rcases (show i = 0 ∨ i = 1 by omega) with rfl | rfl
        · exact ⟨_, c 0, .inl ⟨rfl, rfl⟩⟩
        · exact ⟨_, c 1, .inr ⟨g1, none, rfl, (rd_zero _ _ N1.out).step BB.out⟩⟩
      have HR := Lib.hid hr
      have ez := EZ.out
      clear hr
      go_wp2_with (refine wpList_build_arr rfl 34 rfl _ (BZ.out _) ?_)
      refine (MI.out _ _ HR.out).mono ?_
      rintro e w3 ⟨rfl, b3⟩
      have HR := Lib.hid (HR.out.step b3)
      have BB := Lib.hid (BB.out.trans (b3.mono BB.out.size))
      clear b3
      go_wp2_with (refine wpList_build_arr rfl 34 rfl _ (BZ.out _) ?_)
      refine (HE.out _ _ HR.out).mono ?_
      rintro e w4 ⟨rfl, b4⟩
      have HR := Lib.hid (HR.out.step b4)
      have BB := Lib.hid (BB.out.trans (b4.mono BB.out.size))
      clear b4
      go_wp2_with (refine wpList_build_arr rfl 34 rfl _ (BZ.out _) ?_)
      refine (KN.out _ _ HR.out).mono ?_
      rintro e w5 ⟨rfl, b5⟩
      have HR := Lib.hid (HR.out.step b5)
      have BB := Lib.hid (BB.out.trans (b5.mono BB.out.size))
      clear b5
      go_wp2_with (refine wpList_build_arr rfl 34 rfl _ (BZ.out _) ?_)
      refine (TM.out _ _ HR.out).mono ?_
      rintro e w6 ⟨rfl, b6⟩
      have HR := Lib.hid (HR.out.step b6)
      have BB := Lib.hid (BB.out.trans (b6.mono BB.out.size))
      clear b6
      go_wp2_with (refine wpList_build_arr rfl 34 rfl _ (BZ.out _) ?_)
      refine (FL.out _ _ HR.out).mono ?_
      rintro e w7 ⟨rfl, b7⟩
      have HR := Lib.hid (HR.out.step b7)
      have BB := Lib.hid (BB.out.trans (b7.mono BB.out.size))
      clear b7
      go_wp2_with (refine wpList_build_arr rfl 34 rfl _ (BZ.out _) ?_)
      refine (CT.out _ _ HR.out).mono ?_
      rintro e w8 ⟨rfl, b8⟩
      have HR := Lib.hid (HR.out.step b8)
      have BB := Lib.hid (BB.out.trans (b8.mono BB.out.size))
      clear b8
      go_wp2_with (refine wpList_build_arr rfl 34 rfl _ (BZ.out _) ?_)
      refine (ME.out _ _ HR.out).mono ?_
      rintro e w9 ⟨rfl, b9⟩
      have HR := Lib.hid (HR.out.step b9)
      have BB := Lib.hid (BB.out.trans (b9.mono BB.out.size))
      clear b9
      go_wp2_with (refine wpList_build_arr rfl 34 rfl _ (BZ.out _) ?_)
      go_roundw
      case rel => exact ⟨i + 1, by go_num, by omega, BB.out⟩
      case measure => simp [intOf]; omega
    · have hi2 : i = 2 := by omega
      subst hi2
      go_wp2_with fail
      refine (AW.out _).mono ?_
      rintro e w9 ⟨rfl, b9⟩
      have B9 := Lib.hid (B2.out.trans ((BB.out.trans (b9.mono BB.out.size)).mono B2.out.size))
      clear b9
      go_wp2
      go_returns
      exact ⟨rfl, B9.out⟩
end Go.Proofs.Ytgemlkccdcbpdaa
