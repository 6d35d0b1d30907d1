/- Right, Covers; a replica; Get. -/
import Derived.Test.YtiljmkglmanddaaDoorVB
set_option linter.unusedVariables false
namespace Go.Proofs.YtiljmkglmanddaaDoor
open Go.RowKit

def RightP (l : List Int) : Prop := ∀ (j : Nat) x, l[j]? = some x → 0 ≤ x ∧ x ≤ 4294967296
def CovP (a b : List Int) : Prop := ∀ (j : Nat) x y, a[j]? = some x → b[j]? = some y → y ≤ x
theorem some_lt {l : List Int} (hl : l.length = 64) {j : Nat} {x : Int} (h : l[j]? = some x) : j < 64 := by rw [← hl]; exact (List.getElem?_eq_some_iff.1 h).1

set_option maxRecDepth 100000 in
set_option maxHeartbeats 800000 in
theorem right_any (w : World) (l : List Int) (hl : l.length = 64) (c : Bool) (hc : c = true ↔ RightP l) :
    Calls Tryd.prog 16 #[vw l] w fun e w' => e = .returned (.bool c) ∧ Below w.heap.size w w' := by
  have X := Lib.hid ((Below.refl w.heap.size w).alloc (Nat.le_refl _) (.cells (va l) 24))
  have LD := Lib.hid (load_va v24 (w.alloc (.cells (va l) 24)) w.heap.size l hl (heap_alloc_new w (.cells (va l) 24)))
  have G := Lib.hid (va_get l)
  have hsz := va_size l
  rw [hl] at hsz
  have HL := Lib.hid hl
  have HC := Lib.hid hc
  clear hl hc
  unfold vw
  generalize va l = A at *
  go_enter Tryd.func16, Tryd.ntmps16
  go_wp2_with (refine wpList_load_arr rfl (.tmp 1) 24 rfl _ _ rfl LD.out ?_)
  go_loopw [6] (fun iv wr => ∃ (i : Nat), iv = .int .i64 i ∧ i ≤ 64 ∧ Hid (∀ (j : Nat) x, j < i → l[j]? = some x → 0 ≤ x ∧ x ≤ 4294967296) ∧ wr = w.alloc (.cells A 24)) (fun iv _ => 64 - (intOf iv).toNat)
  case atStart => exact ⟨0, rfl, Nat.zero_le _, Lib.hid (fun j x h => absurd h (Nat.not_lt_zero _)), rfl⟩
  case round =>
    obtain ⟨i, rfl, hi, hS, rfl⟩ := hrel
    by_cases hlt : i < 64
    · obtain ⟨x, hx⟩ := va_len l HL.out i hlt
      have IX := fun W => index_va W A hsz i hlt x (G.out i x hx)
      by_cases h1 : x < 0
      · have HZ : Hid (c = false) := Lib.hid (by
          cases c with
          | false => rfl
          | true => have := (HC.out.1 rfl i x hx).1; omega)
        clear hx
        go_wp2
        go_returns
        exact ⟨by rw [HZ.out]; rfl, X.out⟩
      · by_cases h2 : 4294967296 < x
        · have HZ : Hid (c = false) := Lib.hid (by
            cases c with
            | false => rfl
            | true => have := (HC.out.1 rfl i x hx).2; omega)
          clear hx
          go_wp2
          go_returns
          exact ⟨by rw [HZ.out]; rfl, X.out⟩
        · have HN : Hid (∀ (j : Nat) x, j < i + 1 → l[j]? = some x → 0 ≤ x ∧ x ≤ 4294967296) := Lib.hid (fun j y hj hy => by
            by_cases e : j = i
            · subst e; rw [hx] at hy; injection hy with hy; omega
            · exact hS.out j y (by omega) hy)
          clear hx hS
          go_wp2
          go_roundw
          case rel => exact ⟨i + 1, by go_num, by omega, HN, trivial⟩
          case measure => simp [intOf]; omega
    · have HZ : Hid (c = true) := Lib.hid (HC.out.2 (fun j x hj => hS.out j x (by have := some_lt HL.out hj; omega) hj))
      clear hS
      go_wp2
      go_returns
      exact ⟨by rw [HZ.out]; rfl, X.out⟩

set_option maxRecDepth 100000 in
set_option maxHeartbeats 800000 in
theorem rright_any (w : World) (l : List Int) (hl : l.length = 64) (c : Bool) (hc : c = true ↔ RightP l) :
    Calls Tryd.prog 17 #[vw l] w fun e w' => e = .returned (.bool c) ∧ Below w.heap.size w w' := by
  have X := Lib.hid ((Below.refl w.heap.size w).alloc (Nat.le_refl _) (.cells (va l) 23))
  have CV := Lib.hid (fun i x (hx : l[i]? = some x) => cell_va (heap_alloc_new w (.cells (va l) 23)) hx)
  have HL := Lib.hid hl
  have HC := Lib.hid hc
  clear hl hc
  unfold vw
  generalize va l = A at *
  go_enter Tryd.func17, Tryd.ntmps17
  go_wp2
  go_loopw [3] (fun iv wr => ∃ (i : Nat), iv = .int .i64 i ∧ i ≤ 64 ∧ Hid (∀ (j : Nat) x, j < i → l[j]? = some x → 0 ≤ x ∧ x ≤ 4294967296) ∧ wr = w.alloc (.cells A 23)) (fun iv _ => 64 - (intOf iv).toNat)
  case atStart => exact ⟨0, rfl, Nat.zero_le _, Lib.hid (fun j x h => absurd h (Nat.not_lt_zero _)), rfl⟩
  case round =>
    obtain ⟨i, rfl, hi, hS, rfl⟩ := hrel
    by_cases hlt : i < 64
    · obtain ⟨x, hx⟩ := va_len l HL.out i hlt
      have g := CV.out i x hx
      by_cases h1 : x < 0
      · have HZ : Hid (c = false) := Lib.hid (by
          cases c with
          | false => rfl
          | true => have := (HC.out.1 rfl i x hx).1; omega)
        clear hx
        go_wp2
        go_returns
        exact ⟨by rw [HZ.out]; rfl, X.out⟩
      · by_cases h2 : 4294967296 < x
        · have HZ : Hid (c = false) := Lib.hid (by
            cases c with
            | false => rfl
            | true => have := (HC.out.1 rfl i x hx).2; omega)
          clear hx
          go_wp2
          go_returns
          exact ⟨by rw [HZ.out]; rfl, X.out⟩
        · have HN : Hid (∀ (j : Nat) x, j < i + 1 → l[j]? = some x → 0 ≤ x ∧ x ≤ 4294967296) := Lib.hid (fun j y hj hy => by
            by_cases e : j = i
            · subst e; rw [hx] at hy; injection hy with hy; omega
            · exact hS.out j y (by omega) hy)
          clear hx hS
          go_wp2
          go_roundw
          case rel => exact ⟨i + 1, by go_num, by omega, HN, trivial⟩
          case measure => simp [intOf]; omega
    · have HZ : Hid (c = true) := Lib.hid (HC.out.2 (fun j x hj => hS.out j x (by have := some_lt HL.out hj; omega) hj))
      clear hS
      go_wp2
      go_returns
      exact ⟨by rw [HZ.out]; rfl, X.out⟩

/-- Two boxes. -/
theorem boxes (w : World) (A B : Array Value) (ty : TypeId) :
    Below w.heap.size w ((w.alloc (.cells A ty)).alloc (.cells B ty)) ∧ ((w.alloc (.cells A ty)).alloc (.cells B ty)).heap[w.heap.size]? = some (.cells A ty (0, 0)) ∧ ((w.alloc (.cells A ty)).alloc (.cells B ty)).heap[w.heap.size + 1]? = some (.cells B ty (0, 0)) := by
  have h1 := (Below.refl w.heap.size w).alloc (Nat.le_refl _) (.cells A ty)
  refine ⟨h1.alloc (by simp) _, ?_, ?_⟩
  · exact (((Below.refl _ (w.alloc (.cells A ty))).alloc (Nat.le_refl _) (.cells B ty)).block w.heap.size (by simp)).trans (heap_alloc_new w (.cells A ty))
  · have := heap_alloc_new (w.alloc (.cells A ty)) (.cells B ty)
    rw [World.size_alloc] at this
    exact this

set_option maxRecDepth 100000 in
set_option maxHeartbeats 800000 in
theorem covers_any (w : World) (a b : List Int) (ha : a.length = 64) (hb : b.length = 64) (c : Bool) (hc : c = true ↔ CovP a b) :
    Calls Tryd.prog 14 #[vw a, vw b] w fun e w' => e = .returned (.bool c) ∧ Below w.heap.size w w' := by
  have X := Lib.hid (boxes w (va a) (va b) 24)
  have LD := Lib.hid (load_va v24 ((w.alloc (.cells (va a) 24)).alloc (.cells (va b) 24)) (w.heap.size + 1) b hb X.out.2.2)
  have CV := Lib.hid (fun i x (hx : a[i]? = some x) => cell_va X.out.2.1 hx)
  have G := Lib.hid (va_get b)
  have hsz := va_size b
  rw [hb] at hsz
  have HA := Lib.hid ha
  have HB := Lib.hid hb
  have HC := Lib.hid hc
  clear ha hb hc
  unfold vw
  generalize va b = B at *
  generalize va a = A at *
  go_enter Tryd.func14, Tryd.ntmps14
  go_wp2_with (refine wpList_load_arr rfl (.tmp 3) 24 rfl _ _ rfl LD.out ?_)
  go_loopw [8] (fun iv wr => ∃ (i : Nat), iv = .int .i64 i ∧ i ≤ 64 ∧ Hid (∀ (j : Nat) x y, j < i → a[j]? = some x → b[j]? = some y → y ≤ x) ∧ wr = (w.alloc (.cells A 24)).alloc (.cells B 24)) (fun iv _ => 64 - (intOf iv).toNat)
  case atStart => exact ⟨0, rfl, Nat.zero_le _, Lib.hid (fun j x y h => absurd h (Nat.not_lt_zero _)), rfl⟩
  case round =>
    obtain ⟨i, rfl, hi, hS, rfl⟩ := hrel
    by_cases hlt : i < 64
    · obtain ⟨y, hy⟩ := va_len b HB.out i hlt
      obtain ⟨x, hx⟩ := va_len a HA.out i hlt
      have IX := fun W => index_va W B hsz i hlt y (G.out i y hy)
      have g := CV.out i x hx
      by_cases h1 : x < y
      · have HZ : Hid (c = false) := Lib.hid (by
          cases c with
          | false => rfl
          | true => have := HC.out.1 rfl i x y hx hy; omega)
        clear hx hy
        go_wp2
        go_returns
        exact ⟨by rw [HZ.out]; rfl, X.out.1⟩
      · have HN : Hid (∀ (j : Nat) x y, j < i + 1 → a[j]? = some x → b[j]? = some y → y ≤ x) := Lib.hid (fun j x' y' hj hx' hy' => by
          by_cases e : j = i
          · subst e; rw [hx] at hx'; rw [hy] at hy'; injection hx' with hx'; injection hy' with hy'; omega
          · exact hS.out j x' y' (by omega) hx' hy')
        clear hx hy hS
        go_wp2
        go_roundw
        case rel => exact ⟨i + 1, by go_num, by omega, HN, trivial⟩
        case measure => simp [intOf]; omega
    · have HZ : Hid (c = true) := Lib.hid (HC.out.2 (fun j x y hx hy => hS.out j x y (by have := some_lt HA.out hx; omega) hx hy))
      clear hS
      go_wp2
      go_returns
      exact ⟨by rw [HZ.out]; rfl, X.out.1⟩

set_option maxRecDepth 100000 in
set_option maxHeartbeats 800000 in
theorem rcovers_any (w : World) (a b : List Int) (ha : a.length = 64) (hb : b.length = 64) (c : Bool) (hc : c = true ↔ CovP a b) :
    Calls Tryd.prog 15 #[vw a, vw b] w fun e w' => e = .returned (.bool c) ∧ Below w.heap.size w w' := by
  have X := Lib.hid (boxes w (va a) (va b) 23)
  have CV := Lib.hid (fun i x (hx : a[i]? = some x) => cell_va X.out.2.1 hx)
  have CW := Lib.hid (fun i x (hx : b[i]? = some x) => cell_va X.out.2.2 hx)
  have HA := Lib.hid ha
  have HB := Lib.hid hb
  have HC := Lib.hid hc
  clear ha hb hc
  unfold vw
  generalize va b = B at *
  generalize va a = A at *
  go_enter Tryd.func15, Tryd.ntmps15
  go_wp2
  go_loopw [5] (fun iv wr => ∃ (i : Nat), iv = .int .i64 i ∧ i ≤ 64 ∧ Hid (∀ (j : Nat) x y, j < i → a[j]? = some x → b[j]? = some y → y ≤ x) ∧ ∃ n, wr = ((w.alloc (.cells A 23)).alloc (.cells B 23)).drewN n) (fun iv _ => 64 - (intOf iv).toNat)
  case atStart => exact ⟨0, rfl, Nat.zero_le _, Lib.hid (fun j x y h => absurd h (Nat.not_lt_zero _)), 0, rfl⟩
  case round =>
    obtain ⟨i, rfl, hi, hS, n, rfl⟩ := hrel
    by_cases hlt : i < 64
    · obtain ⟨y, hy⟩ := va_len b HB.out i hlt
      obtain ⟨x, hx⟩ := va_len a HA.out i hlt
      have g := CV.out i x hx
      have BD := Lib.hid (X.out.1.trans ((below_drewN _ n).mono X.out.1.size))
      have g2 := CW.out i y hy
      by_cases h1 : x < y
      · have HZ : Hid (c = false) := Lib.hid (by
          cases c with
          | false => rfl
          | true => have := HC.out.1 rfl i x y hx hy; omega)
        clear hx hy
        go_wp2
        go_quiet (fail)
        go_wp2
        go_returns
        exact ⟨by rw [HZ.out]; rfl, BD.out.trans ((below_drewN _ nq).mono BD.out.size)⟩
      · have HN : Hid (∀ (j : Nat) x y, j < i + 1 → a[j]? = some x → b[j]? = some y → y ≤ x) := Lib.hid (fun j x' y' hj hx' hy' => by
          by_cases e : j = i
          · subst e; rw [hx] at hx'; rw [hy] at hy'; injection hx' with hx'; injection hy' with hy'; omega
          · exact hS.out j x' y' (by omega) hx' hy')
        clear hx hy hS
        go_wp2
        go_quiet (fail)
        go_wp2
        go_roundw
        case rel => exact ⟨i + 1, by go_num, by omega, HN, _, rfl⟩
        case measure => simp [intOf]; omega
    · have HZ : Hid (c = true) := Lib.hid (HC.out.2 (fun j x y hx hy => hS.out j x y (by have := some_lt HA.out hx; omega) hx hy))
      clear hS
      go_wp2
      go_returns
      exact ⟨by rw [HZ.out]; rfl, X.out.1.trans ((below_drewN _ _).mono X.out.1.size)⟩
end Go.Proofs.YtiljmkglmanddaaDoor
