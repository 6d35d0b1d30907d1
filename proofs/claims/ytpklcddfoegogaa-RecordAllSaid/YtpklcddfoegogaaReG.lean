/- The chapter's example. -/
import Derived.Test.YtpklcddfoegogaaReF
import Derived.Laws.MakeOwn
import Derived.Lib.SlBytesConst
set_option linter.unusedVariables false
namespace Go.Proofs.Ytpklcddfoegogaa
open Go.RowKit

theorem byt_ab : Byt [97, 98] := by intro x hx; simp at hx; omega
theorem lies_const (w : World) (l : List Nat) (hl : l.length ≤ maxLen) (fr : Nat × Nat) : Lies (w.alloc (.cells (u8s l).toArray 5 fr)) (.slice (some ⟨w.heap.size, 0, none⟩) l.length l.length) l := by
  have hg : (w.alloc (.cells (u8s l).toArray 5 fr)).heap[w.heap.size]? = some (.cells (u8s l).toArray 5 fr) := heap_alloc_new w _
  refine ⟨_, l.length, rfl, Nat.le_refl _, hl, (fun e => by cases e), fun b hb _ => ?_⟩
  cases hb
  refine ⟨w.heap.size, 0, rfl, (Array.getElem?_eq_some_iff.1 hg).1, fun j x hj => ?_⟩
  rw [cell_of_row _ _ _ _ _ _ hg, Nat.zero_add, List.getElem?_toArray, u8s_get, hj]
  rfl

theorem recs_nil : ∀ at_, recsAt at_ [] = [] := fun at_ => recsAt_no (by decide)
theorem recs_one (b c : List Nat) (hb : b.length ≤ 65536) (at_ : Nat) : recsAt at_ (rec b ++ c) = (at_, b) :: recsAt (at_ + (b.length + 8)) c := by
  have h := fst_rec b c hb
  rw [recsAt_ok (by rw [h]), h]
  dsimp only
  rw [List.drop_left' (rec_length b)]
/-- A beginning of a record that is not whole is none. -/
theorem recs_torn (b : List Nat) (k at_ : Nat) (hb : b.length ≤ 65536) (hk : k < b.length + 8) : recsAt at_ ((rec b).take k) = [] := by
  refine recsAt_no ?_
  have hl : ((rec b).take k).length = k := by rw [List.length_take, rec_length]; omega
  unfold fst
  by_cases h4 : k < 4
  · rw [if_pos (by rw [hl]; exact h4)]; simp
  · have e : n4 ((rec b).take k) = b.length := by
      unfold rec seal'
      rw [List.append_assoc]
      match k, h4 with
      | k + 4, _ =>
        show n4 (le4 b.length ++ (b ++ le4 (more 0 (le4 b.length ++ b))).take k) = b.length
        exact n4_le4 _ _ (by omega)
    rw [if_neg (by rw [hl]; exact h4), e, if_neg (by omega), if_pos (by rw [hl]; omega)]
    simp

theorem mk_any (W : World) : ∃ Z : Array Value, (Instr.makeSlice 22 (.int .i64 65537) (.int .i64 65537)).run Try.prog W = .ok (.slice (some ⟨W.heap.size, 0, none⟩) 65537 65537) (W.alloc (.cells Z 5)) := by
  obtain ⟨i0, hi, hz0, hz1, hz2⟩ := info_parts Try.info5
  obtain ⟨N, hN⟩ : ∃ N : Nat, N = 65537 := ⟨_, rfl⟩
  have hmk := run_make (P := Try.prog) W 22 5 i0 (.int .u8 0) Try.underlying22 hi hz0 .i64 .i64 (N : Int) (N : Int) (by omega) (by omega) (by rw [hz2]; omega) (by omega)
  rw [show ((65537 : Int)) = (N : Int) by omega]
  have e : ((N : Int)).toNat = 65537 := by omega
  rw [e] at hmk
  exact ⟨_, hmk⟩

set_option maxRecDepth 100000 in
set_option maxHeartbeats 1600000 in
theorem awake_any (w : World) : Calls Try.prog 6 #[] w fun e w' => e = .returned (.bool true) ∧ Below w.heap.size w w' := by
  have X0 := Lib.hid (show Below w.heap.size w (w.alloc (.cells #[.int .u8 97, .int .u8 98] 5 (2, 3))) from (Below.refl _ _).alloc (Nat.le_refl _) _)
  have P := Lib.hid (put_any (w.alloc (.cells #[.int .u8 97, .int .u8 98] 5 (2, 3))) (.slice (some ⟨w.heap.size, 0, none⟩) 2 2) [97, 98] (lies_const w [97, 98] (by unfold maxLen; simp) (2, 3)) byt_ab (by simp))
  have kc := fun (w : World) (C : Array Value) (n c : Nat) => Lib.run_convert_bytes_const (P := Try.prog) w 22 5 C n c Try.underlying22 Try.underlying5
  have hrb : Byt (rec [97, 98]) := rec_byt byt_ab
  have hrl : (rec [97, 98]).length = 10 := rec_length _
  have e9 : recs ((rec [97, 98]).take 9) = [] := recs_torn _ 9 0 (by simp) (by simp)
  have e10 : recs (rec [97, 98]) = [(0, [97, 98])] := by
    have := recs_one [97, 98] [] (by simp) 0
    rw [List.append_nil, recs_nil] at this
    exact this
  have W9 := fun W v (h : Lies W v ((rec [97, 98]).take 9)) => whole_any W v _ h (hrb.take 9) (by rw [List.length_take, hrl]; omega)
  have W10 := fun W v (h : Lies W v (rec [97, 98])) => whole_any W v _ h hrb (by rw [hrl]; omega)
  rw [e9] at W9
  rw [e10] at W10
  have W9 : ∀ W v, Lies W v ((rec [97, 98]).take 9) → Calls Try.prog 15 #[v] W fun e w' => e = .returned (.tuple #[.int .i64 0, .int .i64 0]) ∧ Below W.heap.size W w' := W9
  have W10 : ∀ W v, Lies W v (rec [97, 98]) → Calls Try.prog 15 #[v] W fun e w' => e = .returned (.tuple #[.int .i64 1, .int .i64 10]) ∧ Below W.heap.size W w' := W10
  generalize rec [97, 98] = rr at *
  have W9 := Lib.hid W9
  have W10 := Lib.hid W10
  have HRL := Lib.hid hrl
  clear e9 e10 hrb hrl
  go_enter Try.func6, Try.ntmps6
  go_wp2_with fail
  refine P.out.mono ?_
  rintro e w1 ⟨r, rfl, ho⟩
  have B1 := Lib.hid (X0.out.trans (ho.2.mono X0.out.size))
  have L1 := Lib.hid (own_lies ho.1)
  obtain ⟨ra, rc, rfl⟩ := own_shape ho.1
  rw [HRL.out] at L1 ⊢
  have hrc : 10 ≤ rc := by obtain ⟨_, _, e, h1, _⟩ := L1.out; injection e with _ e2 e3; subst e3; omega
  have L9 := Lib.hid (L1.out.take 9 (by omega))
  have hr9 : (9 : Int) ≤ (rc : Int) := by omega
  clear ho
  go_wp2_with fail
  refine (W9.out _ _ L9.out).mono ?_
  rintro e w2 ⟨rfl, hb⟩
  have B2 := Lib.hid (B1.out.trans (hb.mono B1.out.size))
  have L2 := Lib.hid (L1.out.later hb)
  clear hb
  go_wp2_with fail
  refine (W10.out _ _ L2.out).mono ?_
  rintro e w3 ⟨rfl, hb⟩
  have B3 := Lib.hid (B2.out.trans (hb.mono B2.out.size))
  clear hb
  obtain ⟨Z, hZ⟩ := mk_any w3
  have B4 := Lib.hid (B3.out.alloc B3.out.size (.cells Z 5))
  go_wp2_with fail
  refine (put_big _ _ _ _ (by omega)).mono ?_
  rintro e w4 ⟨rfl, rfl⟩
  clear hZ
  go_wp2
  go_returns
  exact ⟨rfl, B4.out⟩
end Go.Proofs.Ytpklcddfoegogaa
