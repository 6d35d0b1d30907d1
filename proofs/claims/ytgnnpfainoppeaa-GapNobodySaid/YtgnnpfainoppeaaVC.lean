/- Right, Covers; a replica; Get. -/
import Derived.Test.YtgnnpfainoppeaaVB
set_option linter.unusedVariables false
namespace Go.Proofs.Ytgnnpfainoppeaa.Ve
open Go.RowKit

def RightP (l : List Int) : Prop := ∀ (j : Nat) x, l[j]? = some x → 0 ≤ x ∧ x ≤ 4294967296
theorem some_lt {l : List Int} (hl : l.length = 64) {j : Nat} {x : Int} (h : l[j]? = some x) : j < 64 := by rw [← hl]; exact (List.getElem?_eq_some_iff.1 h).1

set_option maxRecDepth 100000 in
set_option maxHeartbeats 800000 in
theorem rright_any (w : World) (l : List Int) (hl : l.length = 64) (c : Bool) (hc : c = true ↔ RightP l) :
    Calls Try.prog 22 #[vw l] w fun e w' => e = .returned (.bool c) ∧ Below w.heap.size w w' := by
  have X := Lib.hid ((Below.refl w.heap.size w).alloc (Nat.le_refl _) (.cells (va l) 28))
  have CV := Lib.hid (fun i x (hx : l[i]? = some x) => cell_va (heap_alloc_new w (.cells (va l) 28)) hx)
  have HL := Lib.hid hl
  have HC := Lib.hid hc
  clear hl hc
  unfold vw
  generalize va l = A at *
  go_enter Try.func22, Try.ntmps22
  go_wp2
  go_loopw [3] (fun iv wr => ∃ (i : Nat), iv = .int .i64 i ∧ i ≤ 64 ∧ Hid (∀ (j : Nat) x, j < i → l[j]? = some x → 0 ≤ x ∧ x ≤ 4294967296) ∧ wr = w.alloc (.cells A 28)) (fun iv _ => 64 - (intOf iv).toNat)
  case atStart => exact ⟨0, rfl, Nat.zero_le _, Lib.hid (fun j x h => absurd h (Nat.not_lt_zero _)), rfl⟩
  case round =>
    obtain ⟨i, rfl, hi, hS, rfl⟩ := hrel
    by_cases hlt : i < 64
    · obtain ⟨x, hx⟩ := va_len l HL.out i hlt
      have g := CV.out i x hx
      by_cases h1 : x < 0
      · have HZ : Hid (c = false) := Lib.hid (by
          cases c with
          | false => rfl
          | true => have := (HC.out.1 rfl i x hx).1; omega)
        clear hx
        go_wp2
        go_returns
        exact ⟨by rw [HZ.out]; rfl, X.out⟩
      · by_cases h2 : 4294967296 < x
        · have HZ : Hid (c = false) := Lib.hid (by
            cases c with
            | false => rfl
            | true => have := (HC.out.1 rfl i x hx).2; omega)
          clear hx
          go_wp2
          go_returns
          exact ⟨by rw [HZ.out]; rfl, X.out⟩
        · have HN : Hid (∀ (j : Nat) x, j < i + 1 → l[j]? = some x → 0 ≤ x ∧ x ≤ 4294967296) := Lib.hid (fun j y hj hy => by
            by_cases e : j = i
            · subst e; rw [hx] at hy; injection hy with hy; omega
            · exact hS.out j y (by omega) hy)
          clear hx hS
          go_wp2
          go_roundw
          case rel => exact ⟨i + 1, by go_num, by omega, HN, trivial⟩
          case measure => simp [intOf]; omega
    · have HZ : Hid (c = true) := Lib.hid (HC.out.2 (fun j x hj => hS.out j x (by have := some_lt HL.out hj; omega) hj))
      clear hS
      go_wp2
      go_returns
      exact ⟨by rw [HZ.out]; rfl, X.out⟩

/-- Two boxes. -/
theorem boxes (w : World) (A B : Array Value) (ty : TypeId) :
    Below w.heap.size w ((w.alloc (.cells A ty)).alloc (.cells B ty)) ∧ ((w.alloc (.cells A ty)).alloc (.cells B ty)).heap[w.heap.size]? = some (.cells A ty (0, 0)) ∧ ((w.alloc (.cells A ty)).alloc (.cells B ty)).heap[w.heap.size + 1]? = some (.cells B ty (0, 0)) := by
  have h1 := (Below.refl w.heap.size w).alloc (Nat.le_refl _) (.cells A ty)
  refine ⟨h1.alloc (by simp) _, ?_, ?_⟩
  · exact (((Below.refl _ (w.alloc (.cells A ty))).alloc (Nat.le_refl _) (.cells B ty)).block w.heap.size (by simp)).trans (heap_alloc_new w (.cells A ty))
  · have := heap_alloc_new (w.alloc (.cells A ty)) (.cells B ty)
    rw [World.size_alloc] at this
    exact this

end Go.Proofs.Ytgnnpfainoppeaa.Ve


