/- What the example asks of the small functions: Fit of a short text, plain, Base, Suffixed, quoted. -/
import Derived.Test.YtiolkopmoailmaaDoorRNumW
set_option linter.unusedVariables false
namespace Go.Proofs.YtiolkopmoailmaaDoor
open Go.RowKit

set_option maxRecDepth 100000 in
set_option maxHeartbeats 400000 in
theorem fit_short (w : World) (s : ByteArray) (m : Int) (h : (s.size : Int) ≤ m) : Calls Tryd.prog 30 #[.string s, .int .i64 m] w fun e w' => e = .returned (.string s) ∧ w = w' := by
  go_enter Tryd.func30, Tryd.ntmps30
  go_wp2
  go_returns
  exact ⟨rfl, rfl⟩

def plainB (c : Nat) : Bool := decide (33 ≤ c ∧ c ≤ 126 ∧ c ≠ 37)
set_option maxRecDepth 100000 in
set_option maxHeartbeats 400000 in
theorem plain_any (w : World) (c : Nat) : Calls Tryd.prog 32 #[.int .u8 c] w fun e w' => e = .returned (.bool (plainB c)) ∧ w = w' := by
  have hcase : (c < 33 ∧ plainB c = false) ∨ (33 ≤ c ∧ 126 < c ∧ plainB c = false) ∨ (33 ≤ c ∧ c ≤ 126 ∧ c = 37 ∧ plainB c = false) ∨ (33 ≤ c ∧ c ≤ 126 ∧ c ≠ 37 ∧ plainB c = true) := by
    unfold plainB
    by_cases h1 : 33 ≤ c <;> by_cases h2 : c ≤ 126 <;> by_cases h3 : c = 37 <;> simp <;> omega
  rcases hcase with ⟨h1, h⟩ | ⟨h1, h2, h⟩ | ⟨h1, h2, h3, h⟩ | ⟨h1, h2, h3, h⟩
  · have E := Lib.hid h
    clear h
    go_enter Tryd.func32, Tryd.ntmps32
    go_wp2
    go_returns
    exact ⟨ret_b (by first | exact E.out.symm | (rw [E.out]; simp; omega)), rfl⟩
  · have E := Lib.hid h
    clear h
    go_enter Tryd.func32, Tryd.ntmps32
    go_wp2
    go_returns
    exact ⟨ret_b (by first | exact E.out.symm | (rw [E.out]; simp; omega)), rfl⟩
  · have E := Lib.hid h
    subst h3
    clear h
    go_enter Tryd.func32, Tryd.ntmps32
    go_wp2
    go_returns
    exact ⟨ret_b (by first | exact E.out.symm | (rw [E.out]; simp; done) | (rw [E.out]; simp; omega)), rfl⟩
  · have E := Lib.hid h
    have t1 := neb_ (c : Int) 37 (by omega)
    clear h h3
    go_enter Tryd.func32, Tryd.ntmps32
    go_wp2
    go_returns
    exact ⟨ret_b (by first | exact E.out.symm | (rw [E.out]; simp; omega)), rfl⟩

theorem nv2 : numV [50] = .tuple #[.int .i64 2, .bool true] := by kernel_rfl
set_option maxRecDepth 100000 in
set_option maxHeartbeats 400000 in
theorem base_awake (w : World) : Calls Tryd.prog 15 #[.string ⟨#[97, 126, 50]⟩] w fun e w' => e = .returned (.tuple #[.string ⟨#[97]⟩, .int .i64 2]) ∧ Below w.heap.size w w' := by
  have L := Lib.hid (fun W => Tryd.strings_LastIndex ⟨#[97, 126, 50]⟩ ⟨#[126]⟩ (by decide) W)
  have hl : Lib.lastIndex (ByteArray.mk #[97, 126, 50]).data.toList (ByteArray.mk #[126]).data.toList = 1 := by kernel_rfl
  rw [hl] at L
  have N := Lib.hid (fun W => number_any W ⟨#[50]⟩ (by decide))
  have hn : numV (ByteArray.mk #[50]).data.toList = .tuple #[.int .i64 2, .bool true] := nv2
  rw [hn] at N
  clear hl hn
  go_enter Tryd.func15, Tryd.ntmps15
  go_wp2_with fail
  refine (L.out _).mono ?_
  rintro e w1 ⟨rfl, rfl⟩
  go_wp2_with fail
  refine (N.out _).mono ?_
  rintro e w2 ⟨rfl, hb⟩
  have HB := Lib.hid hb
  clear hb
  go_wp2
  go_returns
  exact ⟨rfl, HB.out⟩

theorem dec2 : decS 2 = ⟨#[50]⟩ := by unfold decS; rw [show (2 : Int).toNat = 2 from rfl, dd_small (by decide)]; rfl
set_option maxRecDepth 100000 in
set_option maxHeartbeats 400000 in
theorem suffixed_awake (w : World) : Calls Tryd.prog 17 #[.string ⟨#[97]⟩, .int .i64 2] w fun e w' => e = .returned (.string ⟨#[97, 126, 50]⟩) ∧ Below w.heap.size w w' := by
  have D := Lib.hid (fun W => digits_small W 2 (by decide) (by decide))
  rw [dec2] at D
  have F := Lib.hid (fun W => fit_short W ⟨#[97]⟩ 253 (by decide))
  go_enter Tryd.func17, Tryd.ntmps17
  go_wp2_with fail
  refine (D.out _).mono ?_
  rintro e w1 ⟨rfl, hb⟩
  have HB := Lib.hid hb
  clear hb
  go_wp2_with fail
  refine (F.out _).mono ?_
  rintro e w2 ⟨rfl, rfl⟩
  go_wp2
  go_returns
  exact ⟨rfl, HB.out⟩

set_option maxRecDepth 100000 in
set_option maxHeartbeats 400000 in
theorem quoted_awake (w : World) : Calls Tryd.prog 33 #[.string ⟨#[37, 50, 48]⟩] w fun e w' => e = .returned (.tuple #[.int .u8 32, .bool true]) ∧ Below w.heap.size w w' := by
  have I1 := Lib.hid (fun x : Later w => Tryd.strings_IndexByte ⟨#[48, 49, 50, 51, 52, 53, 54, 55, 56, 57, 65, 66, 67, 68, 69, 70]⟩ (((ByteArray.mk #[37, 50, 48])[1]'(by decide)).toNat : Int) x.w)
  have I2 := Lib.hid (fun x : Later w => Tryd.strings_IndexByte ⟨#[48, 49, 50, 51, 52, 53, 54, 55, 56, 57, 65, 66, 67, 68, 69, 70]⟩ (((ByteArray.mk #[37, 50, 48])[2]'(by decide)).toNat : Int) x.w)
  have e1 : Lib.indexByte (ByteArray.mk #[48, 49, 50, 51, 52, 53, 54, 55, 56, 57, 65, 66, 67, 68, 69, 70]).data.toList (((ByteArray.mk #[37, 50, 48])[1]'(by decide)).toNat : Int).toNat.toUInt8 = 2 := by kernel_rfl
  have e2 : Lib.indexByte (ByteArray.mk #[48, 49, 50, 51, 52, 53, 54, 55, 56, 57, 65, 66, 67, 68, 69, 70]).data.toList (((ByteArray.mk #[37, 50, 48])[2]'(by decide)).toNat : Int).toNat.toUInt8 = 0 := by kernel_rfl
  rw [e1] at I1
  rw [e2] at I2
  have J1 := Lib.hid (fun x : Later w => (I1.out x).mono (fun e w' (h : e = .returned (.int .i64 2) ∧ w' = x.w) => show e = .returned (.int .i64 2) ∧ Below x.w.heap.size x.w w' from ⟨h.1, by rw [h.2]; exact Below.refl _ _⟩))
  have J2 := Lib.hid (fun x : Later w => (I2.out x).mono (fun e w' (h : e = .returned (.int .i64 0) ∧ w' = x.w) => show e = .returned (.int .i64 0) ∧ Below x.w.heap.size x.w w' from ⟨h.1, by rw [h.2]; exact Below.refl _ _⟩))
  have P := Lib.hid (fun W => plain_any W 32)
  have hp : plainB 32 = false := rfl
  rw [hp] at P
  clear e1 e2 hp I1 I2
  go_enter Tryd.func33, Tryd.ntmps33
  go_wp2
  refine wp_region_later (by kernel_rfl) (by kernel_rfl) ?_
  repeat (go_big_quiet_step (first
    | (go_at_call 40; with_reducible exact later_call (J1.out _))
    | (go_at_call 40; with_reducible exact later_call (J2.out _))))
  refine wpQuiet_nil ?_
  intro _ hw'
  obtain ⟨xl, hw''⟩ := hw'
  subst hw''
  go_wp2_with fail
  refine (P.out _).mono ?_
  rintro e w2 ⟨rfl, rfl⟩
  go_wp2
  go_returns
  exact ⟨rfl, xl.below⟩
end Go.Proofs.YtiolkopmoailmaaDoor
