/- Right, Sum, Covers, Get. -/
import Derived.Test.YtgnnpfainoppeaaDoorVA
set_option linter.unusedVariables false
namespace Go.Proofs.YtgnnpfainoppeaaDoor.Ve
open Go.RowKit

def sumW (l : List Int) : Int := l.foldl (fun a x => wrap64 (a + x)) 0
theorem take_snoc' {α : Type} (l : List α) (i : Nat) (p : α) (h : l[i]? = some p) : l.take (i + 1) = l.take i ++ [p] := by
  obtain ⟨hl, he⟩ := List.getElem?_eq_some_iff.1 h
  rw [List.take_succ_eq_append_getElem hl, he]
theorem sumW_snoc (l : List Int) (x : Int) : sumW (l ++ [x]) = wrap64 (sumW l + x) := by unfold sumW; rw [List.foldl_append]; rfl

set_option maxRecDepth 100000 in
set_option maxHeartbeats 800000 in
theorem sum_any (w : World) (l : List Int) (hl : l.length = 64) :
    Calls Tryd.prog 44 #[vw l] w fun e w' => e = .returned (.int .i64 (sumW l)) ∧ Below w.heap.size w w' := by
  have X := Lib.hid ((Below.refl w.heap.size w).alloc (Nat.le_refl _) (.cells (va l) 27))
  have LD := Lib.hid (load_va v24 (w.alloc (.cells (va l) 27)) w.heap.size l hl (heap_alloc_new w (.cells (va l) 27)))
  have G := Lib.hid (va_get l)
  have hsz := va_size l
  rw [hl] at hsz
  have HL := Lib.hid hl
  clear hl
  unfold vw
  generalize va l = A at *
  go_enter Tryd.func44, Tryd.ntmps44
  go_wp2_with (refine wpList_load_arr rfl (.tmp 1) 27 rfl _ _ rfl LD.out ?_)
  go_loopw [3, 7] (fun sv iv wr => ∃ (i : Nat) (s : Int), iv = .int .i64 i ∧ i ≤ 64 ∧ sv = .int .i64 s ∧ Hid (s = sumW (l.take i)) ∧ wr = w.alloc (.cells A 27)) (fun _ iv _ => 64 - (intOf iv).toNat)
  case atStart => exact ⟨0, 0, rfl, Nat.zero_le _, rfl, Lib.hid rfl, rfl⟩
  case round =>
    obtain ⟨i, s, rfl, hi, rfl, hS, rfl⟩ := hrel
    by_cases hlt : i < 64
    · obtain ⟨x, hx⟩ := va_len l HL.out i hlt
      have IX := fun W => index_va W A hsz i hlt x (G.out i x hx)
      have HN : Hid (wrap64 (s + x) = sumW (l.take (i + 1))) := Lib.hid (by rw [take_snoc' l i x hx, sumW_snoc, ← hS.out])
      clear hx hS
      go_wp2
      go_roundw
      case rel => exact ⟨i + 1, wrap64 (s + x), by go_num, by omega, rfl, HN, trivial⟩
      case measure => simp [intOf]; omega
    · have HZ : Hid (s = sumW l) := Lib.hid (by rw [hS.out, List.take_of_length_le (by have := HL.out; omega)])
      go_wp2
      go_returns
      exact ⟨by rw [← HZ.out]; rfl, X.out⟩

end Go.Proofs.YtgnnpfainoppeaaDoor.Ve

