/- The example. -/
import Derived.Test.YtdocfoienbadhaaNH
set_option linter.unusedVariables false
namespace Go.Proofs.Ytdocfoienbadhaa
open Go.RowKit

theorem lies_one (w : World) (x : Nat) (T : TypeId) : Lies (w.alloc (.cells #[.int .u8 (x : Int)] T)) (.slice (some ⟨w.heap.size, 0, none⟩) 1 1) [x] := by
  refine ⟨some ⟨w.heap.size, 0, none⟩, 1, rfl, Nat.le_refl _, by unfold maxLen; omega, (fun e => by cases e), fun b hb _ => ?_⟩
  cases hb
  have h := heap_alloc_new w (.cells #[.int .u8 (x : Int)] T)
  refine ⟨_, 0, rfl, lt_of_block h, fun j y hj => ?_⟩
  match j, hj with
  | 0, hj =>
    have e : y = x := by simpa using hj.symm
    rw [e, cell_of_row _ _ _ _ _ _ h]
    rfl
  | j + 1, hj => simp at hj
theorem net_new (w : World) : NetAt w.heap.size (w.alloc (.cells #[.slice none 0 0, .int .i64 0] 26)) w.heap.size (.slice none 0 0) [] 0 :=
  ⟨heap_alloc_new w _, World.ownsRow_nil _ _ _ _, (fun f hf => by cases hf), Nat.le_refl _, (fun e => by cases e), (fun f hf => by cases hf), List.Pairwise.nil, Nat.zero_le _, by omega⟩
def Ex (fl : List Fl) : Prop := ∀ (j : Nat) f, fl[j]? = some f → f.dst = (j : Int) ∧ f.bs = [j] ∧ f.hurt = false
theorem Ex.snoc {fl : List Fl} (h : Ex fl) (r : Value) : Ex (fl ++ [⟨(fl.length : Int), r, [fl.length], false⟩]) := fun j f hf => by
  rcases Nat.lt_or_ge j fl.length with h1 | h1
  · rw [List.getElem?_append_left h1] at hf
    exact h j f hf
  · rw [List.getElem?_append_right h1] at hf
    have h2 : j - fl.length = 0 := by
      rcases Nat.eq_zero_or_pos (j - fl.length) with h2 | h2
      · exact h2
      · rw [List.getElem?_eq_none (by simp; omega)] at hf; cases hf
    rw [h2] at hf
    injection hf with hf
    subst hf
    have : fl.length = j := by omega
    exact ⟨by rw [this], by rw [this], rfl⟩
set_option maxRecDepth 100000 in
set_option maxHeartbeats 3200000 in
theorem awake_any (w : World) : Calls Try.prog 6 #[] w fun e w' => e = .returned (.bool true) ∧ Below w.heap.size w w' := by
  have X := Lib.hid (vstep w (.cells #[.slice none 0 0, .int .i64 0] 26))
  have N0 := Lib.hid (net_new w)
  obtain ⟨W, hW⟩ : ∃ y, w.alloc (.cells #[.slice none 0 0, .int .i64 0] 26) = y := ⟨_, rfl⟩
  rw [hW] at X N0
  have HW := Lib.hid hW
  clear hW
  go_enter Try.func6, Try.ntmps6
  go_upto_region 2 with (fail)
  rw [HW.out]
  go_wp2_with fail
  go_loopw [2] (fun iv wr => ∃ (i : Nat) (fv : Value) (fl : List Fl), iv = .int .i64 i ∧ i ≤ 3 ∧ Hid (NetAt w.heap.size wr w.heap.size fv fl 0 ∧ fl.length = i ∧ Ex fl ∧ Below w.heap.size w wr)) (fun iv _ => 3 - (intOf iv).toNat)
  case atStart => exact ⟨0, _, [], rfl, by omega, Lib.hid ⟨N0.out, rfl, fun j f hf => by simp at hf, X.out⟩⟩
  case round =>
    obtain ⟨i, fv, fl, rfl, hi, hI⟩ := hrel
    by_cases hlt : i < 3
    · have hwr : IntKind.u8.wrap (i : Int) = (i : Int) := by rw [IntKind.wrap_u8']; omega
      have Y := Lib.hid (vstep wr (.cells #[.int .u8 (i : Int)] 5))
      have LO := Lib.hid (lies_one wr i 5)
      have SN := Lib.hid (fun W1 (hW1 : wr.alloc (.cells #[.int .u8 (i : Int)] 5) = W1) => send_any (w0 := w) W1 w.heap.size fv fl 0 (by rw [← hW1]; exact hI.out.1.step Y.out) (by rw [← hW1]; exact hI.out.2.2.2.trans (Y.out.mono hI.out.2.2.2.size)) (by have := hI.out.2.1; omega) (i : Int) (.slice (some ⟨wr.heap.size, 0, none⟩) 1 1) [i] false (by rw [← hW1]; exact LO.out) (fun x hx => by rw [List.mem_singleton.1 hx]; omega) (by show 1 ≤ 1000; omega))
      have HI := Lib.hid (And.intro hI.out.2.1 hI.out.2.2.1)
      clear hI
      go_wp2_with fail
      refine (SN.out _ rfl).mono ?_
      rintro e w5 ⟨v', r, rfl, hN, hB⟩
      have HF := Lib.hid (And.intro hN hB)
      clear hN hB
      go_wp2_with fail
      go_roundw
      case rel =>
        obtain ⟨hl, hx⟩ := HI.out
        subst hl
        exact ⟨fl.length + 1, v', _, by go_num, by omega, Lib.hid ⟨HF.out.1, by rw [List.length_append]; rfl, hx.snoc r, HF.out.2⟩⟩
      case measure => simp [intOf]; omega
    · have h3 : i = 3 := by omega
      subst h3
      obtain ⟨hN, hl, hx, hB⟩ := hI.out
      match fl, hl with
      | [f0, f1, f2], _ =>
      have e0 := hx 0 f0 rfl
      have e1 := hx 1 f1 rfl
      obtain ⟨d0, v0, s0, t0⟩ := f0
      obtain ⟨d1, v1, s1, t1⟩ := f1
      simp only at e0 e1
      obtain ⟨rfl, rfl, rfl⟩ := e0
      obtain ⟨rfl, rfl, rfl⟩ := e1
      have TK := Lib.hid (take_in (w0 := w) wr w.heap.size fv _ 0 hN hB 1 _ rfl)
      unfold flv at TK
      clear hI hN hB hx hlt hi
      go_wp2_with fail
      refine TK.out.mono ?_
      rintro e w5 ⟨v', r, rfl, hN, hB, hr⟩
      rw [show takeL [⟨((0 : Nat) : Int), v0, [0], false⟩, ⟨((1 : Nat) : Int), v1, [1], false⟩, f2] ((1 : Nat) : Int) = [⟨((0 : Nat) : Int), v0, [0], false⟩, f2] from rfl] at hN
      obtain ⟨ar, cr, rfl⟩ := own_shape hr
      have Y := vstep w5 (.cells #[.int .i64 1, .slice ar 1 cr, .bool false] 39)
      have YB := heap_alloc_new w5 (.cells #[.int .i64 1, .slice ar 1 cr, .bool false] 39)
      obtain ⟨W6, hW6⟩ : ∃ y, w5.alloc (.cells #[.int .i64 1, .slice ar 1 cr, .bool false] 39) = y := ⟨_, rfl⟩
      rw [hW6] at Y YB
      have N6 := hN.step Y
      have B6 := Lib.hid (hB.trans (Y.mono hB.size))
      have LN := Lib.hid (len_any W6 w.heap.size v' _ 0 N6)
      have HU := Lib.hid (hurt_in (w0 := w) W6 w.heap.size v' _ 0 N6 B6.out 0 _ rfl rfl 0 3 0 rfl (by omega) (by omega))
      have k0 := cell_of_row _ w5.heap.size 0 _ _ _ YB
      simp at k0
      have HW6 := Lib.hid hW6
      clear hN hB hr Y YB hW6 N6 TK
      go_upto_region 8 with (fail)
      rw [HW6.out]
      go_wp2_with fail
      refine LN.out.mono ?_
      rintro e w7 ⟨rfl, rfl⟩
      go_wp2_with fail
      refine HU.out.mono ?_
      rintro e w8 ⟨rfl, hN, hB⟩
      have HV := Lib.hid (hurt_bad w8 w.heap.size v' _ 0 hN 0 _ rfl 0 3 (.inl rfl))
      have HB := Lib.hid hB
      clear hN hB HU LN k0
      go_wp2_with fail
      refine HV.out.mono ?_
      rintro e w9 ⟨rfl, rfl⟩
      go_wp2
      go_returns
      exact ⟨rfl, HB.out⟩
end Go.Proofs.Ytdocfoienbadhaa
