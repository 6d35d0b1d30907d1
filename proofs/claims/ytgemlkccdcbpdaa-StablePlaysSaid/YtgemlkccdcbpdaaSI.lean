/- New. -/
import Derived.Test.YtgemlkccdcbpdaaSH
import Derived.Laws.MakeOwn
set_option linter.unusedVariables false
namespace Go.Proofs.Ytgemlkccdcbpdaa
open Go.RowKit

theorem u59 : Try.prog.underlying 59 = some (.slice 69) := by kernel_rfl
theorem i69 : (Try.prog.info? 69).map (fun i => (i.zero, i.size, i.bytes)) = some (some (.agg (mc mz).toArray), 65, 520) := by kernel_rfl
theorem i69_parts : ∃ i, Try.prog.info? 69 = some i ∧ i.zero = some (.agg (mc mz).toArray) ∧ i.size = 65 ∧ i.bytes = 520 := by
  have h := i69
  cases hq : Try.prog.info? 69 with
  | none => rw [hq] at h; cases h
  | some i => rw [hq] at h; injection h with h; injection h with h1 h; injection h with h2 h3; exact ⟨i, rfl, h1, h2, h3⟩
theorem fresh_watch (w : World) (C : Array Value) (i n : Nat) (hn : n ≤ 64) (hC : ∀ (j k : Nat) v, j < n → (mc mz)[k]? = some v → C[j * 65 + k]? = some v) :
    WAt ((w.alloc (.cells C 69)).alloc (.cells #[.int .i64 (i : Int), .slice (some ⟨w.heap.size, 0, none⟩) n n] 61)) (w.heap.size + 1) (i : Int) w.heap.size (List.replicate n mz) := by
  have h1 : ((w.alloc (.cells C 69)).alloc (.cells #[.int .i64 (i : Int), .slice (some ⟨w.heap.size, 0, none⟩) n n] 61)).heap[w.heap.size]? = some (.cells C 69 (0, 0)) :=
    ((vstep (w.alloc (.cells C 69)) _).block _ (by simp)).trans (heap_alloc_new w _)
  have h2 : ((w.alloc (.cells C 69)).alloc (.cells #[.int .i64 (i : Int), .slice (some ⟨w.heap.size, 0, none⟩) n n] 61)).heap[w.heap.size + 1]? = some (.cells #[.int .i64 (i : Int), .slice (some ⟨w.heap.size, 0, none⟩) n n] 61 (0, 0)) := by
    have := heap_alloc_new (w.alloc (.cells C 69)) (.cells #[.int .i64 (i : Int), .slice (some ⟨w.heap.size, 0, none⟩) n n] 61)
    rwa [World.size_alloc] at this
  refine ⟨⟨?_, ?_, ?_, ?_, ?_⟩, ?_, by omega, by simp; omega⟩
  · rw [cell_of_row _ _ _ _ _ _ h2]; rfl
  · rw [cell_of_row _ _ _ _ _ _ h2, List.length_replicate]; rfl
  · intro j m hj
    rw [List.getElem?_replicate] at hj
    split at hj
    · rename_i hjn
      injection hj with hj
      subst hj
      refine ⟨_, rfl, by simp; omega, fun k v hk => ?_⟩
      rw [cell_of_row _ _ _ _ _ _ h1]
      exact hC j k v hjn hk
    · cases hj
  · intro j m hj
    rw [List.getElem?_replicate] at hj
    split at hj
    · injection hj with hj; subst hj; exact mz_len
    · cases hj
  · rw [List.length_replicate]; exact hn
  · intro j hj k hk
    rw [List.length_replicate] at hj
    refine ⟨?_, frozen_of_row _ _ _ _ _ h1⟩
    rw [cell_of_row _ _ _ _ _ _ h1, hC j k _ hj (List.getElem?_eq_getElem (by rw [mc_len mz mz_len]; exact hk))]
    rfl
theorem made_at (n : Nat) : ∀ (j k : Nat) v, j < n → (mc mz)[k]? = some v → (madeCells (Value.agg (mc mz).toArray).cells (n * 65))[j * 65 + k]? = some v := by
  intro j k v hj hk
  have hk65 : k < 65 := by rw [← mc_len mz mz_len]; exact (List.getElem?_eq_some_iff.1 hk).1
  have hs : (Value.agg (mc mz).toArray).cells.size = 65 := by show (mc mz).toArray.size = 65; rw [List.size_toArray, mc_len mz mz_len]
  have hm : (j * 65 + k) % 65 = k := by omega
  have hb : j * 65 + k < n * 65 := by
    have : (j + 1) * 65 ≤ n * 65 := Nat.mul_le_mul_right _ hj
    omega
  have e : (Value.agg (mc mz).toArray).cells = (mc mz).toArray := rfl
  rw [e] at hs ⊢
  unfold madeCells
  rw [Array.getElem?_map, hs, show (Array.range (n * 65))[j * 65 + k]? = some (j * 65 + k) from by rw [Array.getElem?_range, if_pos hb]]
  show some ((mc mz).toArray[(j * 65 + k) % 65]!) = some v
  rw [hm]
  congr 1
  rw [getElem!_def, List.getElem?_toArray, hk]
set_option maxRecDepth 100000 in
set_option maxHeartbeats 800000 in
theorem new_any (w : World) (i n : Nat) (hi : i < n) (hn : n ≤ 64) :
    Calls Try.prog 7 #[.int .i64 (i : Int), .int .i64 (n : Int)] w fun e w' => ∃ p q, e = .returned (.tuple #[.pointer (some ⟨p, 0, none⟩), .int .i64 0]) ∧ WAt w' p (i : Int) q (List.replicate n mz) ∧ Below w.heap.size w w' ∧ w.heap.size ≤ p ∧ w.heap.size ≤ q := by
  obtain ⟨i0, hq, hz0, hz1, hz2⟩ := i69_parts
  have hmk := run_make (P := Try.prog) w 59 69 i0 _ u59 hq hz0 .i64 .i64 (n : Int) (n : Int) (by omega) (by omega) (by rw [hz2]; omega) (by omega)
  rw [hz1, show ((n : Int)).toNat = n from by omega] at hmk
  have FW := Lib.hid (fresh_watch w (madeCells (Value.agg (mc mz).toArray).cells (n * 65)) i n hn (made_at n))
  generalize madeCells (Value.agg (mc mz).toArray).cells (n * 65) = C at *
  have B := Lib.hid ((vstep w (.cells C 69)).trans ((vstep (w.alloc (.cells C 69)) (.cells #[.int .i64 (i : Int), .slice (some ⟨w.heap.size, 0, none⟩) n n] 61)).mono (by simp)))
  clear hq hz0 hz1 hz2
  go_enter Try.func7, Try.ntmps7
  go_wp2
  go_returns
  exact ⟨_, _, rfl, FW.out, B.out, by omega, Nat.le_refl _⟩
end Go.Proofs.Ytgemlkccdcbpdaa
