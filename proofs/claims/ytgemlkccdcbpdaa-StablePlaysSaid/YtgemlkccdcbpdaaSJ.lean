/- The chapter's example. -/
import Derived.Test.YtgemlkccdcbpdaaSI
set_option linter.unusedVariables false
namespace Go.Proofs.Ytgemlkccdcbpdaa
open Go.RowKit

theorem build_zs (W : World) : (Instr.build 34 #[]).run Try.prog W = .ok (.agg (va zs)) W := run_build W 34 #[] _ (by kernel_rfl)
theorem right_zs : RightP zs := fun j x h => by
  have := zs_lt h
  subst this
  omega
def ex0 : List Mb := List.replicate 2 mz
def ex1 : List Mb := toldAt ex0 0 zs 5
def ex2 : List Mb := heardF ex1 0 1 zs true 3
theorem ex_a : rightM true 5 = true := by decide
theorem ex_b : heardB 2 0 1 true 3 = true := by decide
theorem ex_c : heardB 2 0 0 true 1 = false := by decide
theorem ex_f : floorF ex2 = 3 := by decide +kernel
theorem ex_l0 : ex0.length = 2 := rfl
theorem ex_l1 : ex1.length = 2 := by decide +kernel
theorem ex_l2 : ex2.length = 2 := by decide +kernel
theorem ex_t : cutT 3 = 3 ∧ cutR 3 = 63 := by decide
theorem below_own {w W W' : World} {q : Nat} (hb : Below w.heap.size w W) (hq : w.heap.size ≤ q) (h : W.grownBy W' (some q)) : Below w.heap.size w W' :=
  ⟨h.os.trans hb.os, h.tape.trans hb.tape, h.output.trans hb.output, Nat.le_trans hb.size h.size, fun k hk => (h.block k (Nat.lt_of_lt_of_le hk hb.size) (fun e => by injection e; omega)).trans (hb.block k hk)⟩
set_option maxRecDepth 100000 in
set_option maxHeartbeats 3200000 in
theorem awake_any (w : World) : Calls Try.prog 9 #[] w fun e w' => e = .returned (.bool true) ∧ Below w.heap.size w w' := by
  have NW := Lib.hid (new_any w 0 2 (by omega) (by omega))
  have MI := Lib.hid (fun W p q (h : WAt W p ((0 : Nat) : Int) q ex0) => mine_any W p q 0 ex0 h (by rw [ex_l0]; omega) zs zs_len true ⟨fun _ => right_zs, fun _ => rfl⟩ 5)
  have HE1 := Lib.hid (fun W p q (h : WAt W p ((0 : Nat) : Int) q ex1) => heard_any W p q 0 ex1 h (by rw [ex_l1]; omega) 1 zs zs_len true ⟨fun _ => right_zs, fun _ => rfl⟩ 3)
  have HE2 := Lib.hid (fun W p q (h : WAt W p ((0 : Nat) : Int) q ex2) => heard_any W p q 0 ex2 h (by rw [ex_l2]; omega) 0 zs zs_len true ⟨fun _ => right_zs, fun _ => rfl⟩ 1)
  rw [ex_a, if_pos rfl] at MI
  rw [ex_l1, ex_b] at HE1
  rw [ex_l2, ex_c] at HE2
  have FL := Lib.hid (fun W p q (h : WAt W p ((0 : Nat) : Int) q ex2) => floor_any W (.pointer (some ⟨p, 0, none⟩)) _ ex2 (.inr ⟨p, _, rfl, h.rd⟩) h.rd.m64)
  have CT := Lib.hid (fun W p q (h : WAt W p ((0 : Nat) : Int) q ex2) => cut_any W (.pointer (some ⟨p, 0, none⟩)) _ ex2 (.inr ⟨p, _, rfl, h.rd⟩) h.rd.m64)
  rw [ex_f] at FL CT
  rw [ex_t.1, ex_t.2] at CT
  rw [show List.replicate 2 mz = ex0 from rfl] at NW
  rw [show toldAt ex0 0 zs 5 = ex1 from rfl] at MI
  rw [show heardF ex1 0 1 zs true 3 = ex2 from rfl] at HE1
  have BZ := Lib.hid build_zs
  unfold vw at *
  generalize ex0 = m0 at *
  generalize ex1 = m1 at *
  generalize ex2 = m2 at *
  generalize zs = z at *
  go_enter Try.func9, Try.ntmps9
  go_wp2_with fail
  refine NW.out.mono ?_
  rintro e w1 ⟨p, q, rfl, h1, b1, hp, hq⟩
  have H1 := Lib.hid h1
  have B1 := Lib.hid b1
  have HQ := Lib.hid hq
  clear h1 b1 hp hq
  go_wp2_with (refine wpList_build_arr rfl 34 rfl _ (BZ.out _) ?_)
  refine (MI.out _ _ _ H1.out).mono ?_
  rintro e w2 ⟨rfl, h2, g2⟩
  have H2 := Lib.hid h2
  have B2 := Lib.hid (below_own B1.out HQ.out g2)
  clear h2 g2
  go_wp2_with (refine wpList_build_arr rfl 34 rfl _ (BZ.out _) ?_)
  refine (HE1.out _ _ _ H2.out).mono ?_
  rintro e w3 ⟨rfl, h3, g3⟩
  have H3 := Lib.hid h3
  have B3 := Lib.hid (below_own B2.out HQ.out g3)
  clear h3 g3
  go_wp2_with fail
  refine (FL.out _ _ _ H3.out).mono ?_
  rintro e w4 ⟨rfl, b4⟩
  have H4 := Lib.hid (H3.out.step b4)
  have B4 := Lib.hid (B3.out.trans (b4.mono B3.out.size))
  clear b4
  go_wp2_with fail
  refine (CT.out _ _ _ H4.out).mono ?_
  rintro e w5 ⟨rfl, b5⟩
  have H5 := Lib.hid (H4.out.step b5)
  have B5 := Lib.hid (B4.out.trans (b5.mono B4.out.size))
  clear b5
  go_wp2_with (refine wpList_build_arr rfl 34 rfl _ (BZ.out _) ?_)
  refine (HE2.out _ _ _ H5.out).mono ?_
  rintro e w6 ⟨rfl, h6, g6⟩
  have B6 := Lib.hid (below_own B5.out HQ.out g6)
  clear h6 g6
  go_wp2
  go_returns
  exact ⟨rfl, B6.out⟩
end Go.Proofs.Ytgemlkccdcbpdaa
