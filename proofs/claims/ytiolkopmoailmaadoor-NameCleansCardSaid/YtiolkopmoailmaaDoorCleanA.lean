/- Clean("a/b"): a byte of a slice that was made of a text is turned. -/
import Derived.Test.YtiolkopmoailmaaDoorBytes
import Derived.Lib.ConvBytes
set_option linter.unusedVariables false
namespace Go.Proofs.YtiolkopmoailmaaDoor
open Go.RowKit

structure CI (w wr : World) (x : Int) : Prop where
  b : Below w.heap.size w wr
  c0 : wr.cell? ⟨w.heap.size, 0, none⟩ = some (.int .u8 97)
  c1 : wr.cell? ⟨w.heap.size, 1, none⟩ = some (.int .u8 x)
  c2 : wr.cell? ⟨w.heap.size, 2, none⟩ = some (.int .u8 98)
  f1 : wr.frozen? ⟨w.heap.size, 1, none⟩ = false
theorem CI.start (w : World) : CI w (Lib.bytesWorld w 5 ⟨#[97, 47, 98]⟩) 47 := by
  refine ⟨⟨rfl, rfl, rfl, by rw [Lib.bytesWorld_size]; omega, fun k hk => Lib.bytesWorld_at_old w 5 _ k hk⟩, Lib.bytesWorld_cell w 5 _ 0 (by decide), Lib.bytesWorld_cell w 5 _ 1 (by decide), Lib.bytesWorld_cell w 5 _ 2 (by decide), ?_⟩
  have hsz : 3 ≤ (Lib.bytesCells w 5 ⟨#[97, 47, 98]⟩).size := by
    unfold Lib.bytesCells
    simp
  simp [World.frozen?, Lib.bytesWorld_at_new]
  omega
theorem CI.set {w wr : World} {x : Int} (h : CI w wr x) : CI w (wr.setCell ⟨w.heap.size, 1, none⟩ (.int .u8 95)) 95 := by
  refine ⟨h.b.setCell (Nat.le_refl _) _, ?_, ?_, ?_, ?_⟩
  · rw [World.cell?_setCell_other]
    · exact h.c0
    · intro e; injection e with e1 e2; cases e2
  · exact World.cell?_setCell_same _ _ _ (by rw [h.c1])
  · rw [World.cell?_setCell_other]
    · exact h.c2
    · intro e; injection e with e1 e2; cases e2
  · rw [World.frozen?_setCell]; exact h.f1

theorem soc : strOfNums [97, 95, 98] = ⟨#[97, 95, 98]⟩ := by kernel_rfl
theorem CI.text {w wr : World} (h : CI w wr 95) (cap : Nat) : (convert 42 9 (.slice (some ⟨w.heap.size, 0, none⟩) 3 cap)).run Tryd.prog wr = .ok (.string ⟨#[97, 95, 98]⟩) wr := by
  rw [← soc]
  refine run_convert_bytes_arg wr 42 5 Tryd.underlying42 Tryd.underlying5 w.heap.size 0 3 cap [97, 95, 98] rfl (fun i hi => ?_) 9 Tryd.underlying9
  match i, hi with
  | 0, _ => exact h.c0
  | 1, _ => exact h.c1
  | 2, _ => exact h.c2

set_option maxRecDepth 100000 in
set_option maxHeartbeats 1600000 in
theorem clean_awake (w : World) : Calls Tryd.prog 23 #[.string ⟨#[97, 47, 98]⟩] w fun e w' => e = .returned (.string ⟨#[97, 95, 98]⟩) ∧ Below w.heap.size w w' := by
  obtain ⟨w1, cap, hconv, hI⟩ : ∃ w1 cap, (convert 9 42 (.string ⟨#[97, 47, 98]⟩)).run Tryd.prog w = .ok (.slice (some ⟨w.heap.size, 0, none⟩) 3 cap) w1 ∧ CI w w1 47 :=
    ⟨_, _, Lib.run_convert_string_bytes w 9 42 5 _ Tryd.underlying9 Tryd.underlying42 Tryd.underlying5, CI.start w⟩
  have HI := Lib.hid hI
  have F := Lib.hid (fun W => fit_short W ⟨#[97, 95, 98]⟩ 255 (by decide))
  clear hI
  go_enter Tryd.func23, Tryd.ntmps23
  go_wp2
  go_loopw [10] (fun av wr => ∃ (k : Nat) (x : Int), av = .int .i64 k ∧ k ≤ 3 ∧ (k ≤ 1 ∧ x = 47 ∨ 2 ≤ k ∧ x = 95) ∧ Hid (CI w wr x)) (fun av _ => 3 - (intOf av).toNat)
  case atStart => exact ⟨0, 47, rfl, by omega, .inl ⟨by omega, rfl⟩, HI.out⟩
  case round =>
    obtain ⟨k, x, rfl, hk, hx, hJ⟩ := hrel
    obtain ⟨hb, c0, c1, c2, f1⟩ := hJ.out
    clear hconv hb
    rcases (show k = 0 ∨ k = 1 ∨ k = 2 ∨ k = 3 by omega) with rfl | rfl | rfl | rfl
    · obtain rfl : x = 47 := by omega
      go_wp2
      go_roundw
      case rel => exact ⟨1, 47, rfl, by omega, .inl ⟨by omega, rfl⟩, hJ.out⟩
      case measure => simp [intOf]
    · obtain rfl : x = 47 := by omega
      have hS := Lib.hid hJ.out.set
      go_wp2
      go_roundw
      case rel => exact ⟨2, 95, rfl, by omega, .inr ⟨by omega, rfl⟩, hS.out⟩
      case measure => simp [intOf]
    · obtain rfl : x = 95 := by omega
      go_wp2
      go_roundw
      case rel => exact ⟨3, 95, rfl, by omega, .inr ⟨by omega, rfl⟩, hJ.out⟩
      case measure => simp [intOf]
    · obtain rfl : x = 95 := by omega
      have cv := hJ.out.text cap
      go_wp2_with fail
      refine (F.out _).mono ?_
      rintro e w2 ⟨rfl, rfl⟩
      go_wp2
      go_returns
      exact ⟨rfl, hJ.out.b⟩
end Go.Proofs.YtiolkopmoailmaaDoor
