/- The orders of stamps and groups, to the world. -/
import Derived.Test.YthbliaohaakbiaaGB
import Derived.Sort.Grow
import Derived.Lib.Small
import Derived.Laws.Cover1
set_option linter.unusedVariables false
set_option linter.unusedSimpArgs false
set_option maxRecDepth 100000
namespace Go.Proofs.Ythbliaohaakbiaa
open Go.RowKit Go.Sort

/-- A world with more draws, and more blocks, alone. -/
def Grew (w w' : World) : Prop := ∃ q os, w' = grow (w.drewN q) os
theorem Grew.refl (w : World) : Grew w w := ⟨0, #[], by rw [grow_empty]; rfl⟩
theorem Grew.alloc {w w' : World} (h : Grew w w') (o : Obj) : Grew w (w'.alloc o) := by
  obtain ⟨q, os, rfl⟩ := h
  exact ⟨q, os ++ #[o], by rw [alloc_eq_grow, grow_grow]⟩
theorem drewN_drewN' (w : World) (a b : Nat) : (w.drewN a).drewN b = w.drewN (a + b) := World.drewN_drewN w a b
theorem Grew.trans {a b c : World} (h : Grew a b) (k : Grew b c) : Grew a c := by
  obtain ⟨q, os, rfl⟩ := h
  obtain ⟨q', os', rfl⟩ := k
  refine ⟨q + q', os ++ os', ?_⟩
  show grow (grow ((a.drewN q).drewN q') os) os' = _
  rw [grow_grow, drewN_drewN']
theorem Grew.drewN {w w' : World} (h : Grew w w') (n : Nat) : Grew w (w'.drewN n) := h.trans ⟨n, #[], by rw [grow_empty]⟩
theorem Grew.drew {w w' : World} (h : Grew w w') : Grew w w'.drew := h.drewN 1
theorem Grew.below {w w' : World} (h : Grew w w') : Below w.heap.size w w' := by
  obtain ⟨q, os, rfl⟩ := h
  refine ⟨rfl, rfl, rfl, by show w.heap.size ≤ (w.heap ++ os).size; rw [Array.size_append]; omega, fun j hj => ?_⟩
  show (w.heap ++ os)[j]? = w.heap[j]?
  rw [Array.getElem?_append_left hj]
def LaterG (w : World) : Type := { w' : World // Grew w w' }
def LaterG.w {w : World} (x : LaterG w) : World := x.val
theorem LaterG.grew {w : World} (x : LaterG w) : Grew w x.w := x.property
instance (w : World) : Nonempty (LaterG w) := ⟨⟨w, Grew.refl _⟩⟩
theorem wp_region_laterG {P : Program} {id : Nat} {Q : Exit → Act → World → Prop} {a : Act} {w : World} {l : List Oper} (hm : P.follows .mixedOrders = true) (hB : Region.lexB .any l.toArray = true)
    (h : wpQuiet P l.toArray (fun w' => ∃ x : LaterG w, w' = x.w) (fun a' => ∀ w', (∃ x : LaterG w, w' = x.w) → Q .normal a' w') l a) : (Code.region id l.toArray true).wp P Q a w :=
  wp_region_quiet (C := fun w' => ∃ x : LaterG w, w' = x.w) hm hB ⟨⟨_, (Grew.refl _).drew⟩, rfl⟩ (by simpa using h)
theorem laterG_call {P : Program} {f : FuncId} {args : Array Value} {w : World} {x : LaterG w} {v : Value}
    (h : Calls P f args x.w fun e w' => e = .returned v ∧ Grew x.w w') : Calls P f args x.w fun e w'' => e = .returned v ∧ ∃ y : LaterG w, w'' = y.w :=
  h.mono fun _ w' ⟨he, hb⟩ => ⟨he, ⟨⟨w', x.grew.trans hb⟩, rfl⟩⟩
/-! ### numbers -/
def cmpI (x y : Int) : Int := if x < y then -1 else if y < x then 1 else 0
theorem nan_int (w : World) (x : Int) : Calls Try.prog 49 #[.int .i64 x] w fun e w' => e = .returned (.bool false) ∧ w = w' := by
  have t1 : (x != x) = false := by simp
  go_enter Try.func49, Try.ntmps49
  go_wp2
  go_returns
  exact ⟨rfl, rfl⟩
set_option maxHeartbeats 800000 in
theorem cmp_int (w : World) (x y : Int) : Calls Try.prog 33 #[.int .i64 x, .int .i64 y] w fun e w' => e = .returned (.int .i64 (cmpI x y)) ∧ w = w' := by
  have N := fun w x => nan_int w x
  unfold cmpI
  by_cases h : x < y
  · rw [if_pos h]
    go_enter Try.func33, Try.ntmps33
    go_wp2_with (go_at_call 49; refine (N _ _).mono ?_; rintro e w' ⟨rfl, rfl⟩)
    go_returns
    exact ⟨rfl, rfl⟩
  · by_cases h2 : y < x
    · rw [if_neg h, if_pos h2]
      go_enter Try.func33, Try.ntmps33
      go_wp2_with (go_at_call 49; refine (N _ _).mono ?_; rintro e w' ⟨rfl, rfl⟩)
      go_returns
      exact ⟨rfl, rfl⟩
    · rw [if_neg h, if_neg h2]
      go_enter Try.func33, Try.ntmps33
      go_wp2_with (go_at_call 49; refine (N _ _).mono ?_; rintro e w' ⟨rfl, rfl⟩)
      go_returns
      exact ⟨rfl, rfl⟩
/-! ### strings -/
def cmpT (x y : ByteArray) : Int := if ltB x y then -1 else if x = y then 0 else 1
theorem nan_str (w : World) (x : ByteArray) : Calls Try.prog 35 #[.string x] w fun e w' => e = .returned (.bool false) ∧ w = w' := by
  have t1 : (x.toList == x.toList) = true := by simp
  have t2 : (x.toList != x.toList) = false := by simp
  go_enter Try.func35, Try.ntmps35
  go_wp2
  go_returns
  exact ⟨rfl, rfl⟩
set_option maxHeartbeats 800000 in
theorem cmp_str (w : World) (x y : ByteArray) : Calls Try.prog 24 #[.string x, .string y] w fun e w' => e = .returned (.int .i64 (cmpT x y)) ∧ w = w' := by
  have N := fun w x => nan_str w x
  unfold cmpT
  by_cases h : ltB x y = true
  · rw [if_pos h]
    unfold ltB at h
    go_enter Try.func24, Try.ntmps24
    go_wp2_with (go_at_call 35; refine (N _ _).mono ?_; rintro e w' ⟨rfl, rfl⟩)
    go_returns
    exact ⟨rfl, rfl⟩
  · rw [if_neg h]
    have h : Op.bytesLess x.toList y.toList = false := by unfold ltB at h; simpa using h
    by_cases e : x = y
    · rw [if_pos e]
      have t1 : (x.toList == y.toList) = true := tl_eq e
      clear e
      go_enter Try.func24, Try.ntmps24
      go_wp2_with (go_at_call 35; refine (N _ _).mono ?_; rintro e w' ⟨rfl, rfl⟩)
      go_returns
      exact ⟨rfl, rfl⟩
    · rw [if_neg e]
      have t1 : (x.toList == y.toList) = false := tl_ne e
      clear e
      go_enter Try.func24, Try.ntmps24
      go_wp2_with (go_at_call 35; refine (N _ _).mono ?_; rintro e w' ⟨rfl, rfl⟩)
      go_returns
      exact ⟨rfl, rfl⟩
/-! ### stamps -/
def cmpS (x y : Sp) : Int := if x.1 = y.1 then cmpI x.2 y.2 else cmpI x.1 y.1
set_option maxHeartbeats 1000000 in
theorem cmp_st (w : World) (x y : Sp) : Calls Try.prog 22 #[.agg #[.int .i64 x.1, .int .i64 x.2], .agg #[.int .i64 y.1, .int .i64 y.2]] w fun e w' => e = .returned (.int .i64 (cmpS x y)) ∧ Grew w w' := by
  have hcon := fun w a b => cmp_int w a b
  obtain ⟨x1, x2⟩ := x
  obtain ⟨y1, y2⟩ := y
  unfold cmpS
  dsimp only
  have FIN := Lib.hid (((Grew.refl w).alloc (.cells #[.int .i64 x1, .int .i64 x2] 39)).alloc (.cells #[.int .i64 y1, .int .i64 y2] 39))
  by_cases h : x1 = y1
  · rw [if_pos h]
    have t1 : (x1 != y1) = false := by simp [h]
    clear h
    go_enter Try.func22, Try.ntmps22
    go_wp2_with (go_at_call 33; refine (hcon _ _ _).mono ?_; rintro e w' ⟨rfl, rfl⟩)
    go_returns
    exact ⟨rfl, FIN.out⟩
  · rw [if_neg h]
    have t1 : (x1 != y1) = true := by simp [h]
    clear h
    go_enter Try.func22, Try.ntmps22
    go_wp2_with (go_at_call 33; refine (hcon _ _ _).mono ?_; rintro e w' ⟨rfl, rfl⟩)
    go_returns
    exact ⟨rfl, FIN.out⟩
theorem cmpS_lt (x y : Sp) : decide (cmpS x y < 0) = ltP x y := by
  unfold cmpS cmpI ltP
  by_cases h : x.1 = y.1
  · simp only [h, if_true]
    by_cases a : x.2 < y.2
    · simp [a]
    · by_cases b : y.2 < x.2 <;> simp [a, b]
  · simp only [h, if_false]
    by_cases a : x.1 < y.1
    · simp [a]
    · by_cases b : y.1 < x.1 <;> simp [a, b]
/-! ### items -/
set_option maxHeartbeats 1000000 in
theorem cmp_it (w : World) (x y : It) : Calls Try.prog 21 #[ivl x, ivl y] w fun e w' => e = .returned (.int .i64 (cmpS (x.t, x.r) (y.t, y.r))) ∧ Grew w w' := by
  have B1 := vstep w (.cells (encI x).toArray 41)
  have hcon := fun w => cmp_st w (x.t, x.r) (y.t, y.r)
  have FIN := Lib.hid (((Grew.refl w).alloc (.cells #[.int .i64 x.t, .int .i64 x.r, .string x.n, .bool x.d] 41)).alloc (.cells #[.int .i64 y.t, .int .i64 y.r, .string y.n, .bool y.d] 41))
  go_enter Try.func21, Try.ntmps21
  go_wp2_with (go_at_call 22; refine (hcon _).mono ?_; rintro e w' ⟨rfl, hg⟩; have FIN := Lib.hid (FIN.out.trans hg); clear hg)
  go_returns
  exact ⟨rfl, FIN.out⟩
/-! ### groups: their first nodes -/
def h1 (l : List Sp) : Sp := l.headD (0, 0)
theorem LiesK.take {w : World} {α : Type} {enc : α → List Value} {k : Nat} {ao : Option Addr} {n cap : Nat} {l : List α} (h : LiesK enc k w (.slice ao n cap) l) (j : Nat) (hj : j ≤ n) : LiesK enc k w (.slice ao j cap) (l.take j) := by
  obtain ⟨ao', cap', e, hn, hm, h0, hc⟩ := h
  injection e with e1 e2 e3
  subst e1 e2 e3
  have hl : (l.take j).length = j := by rw [List.length_take]; omega
  refine ⟨ao, cap, by rw [hl], by rw [hl]; omega, hm, fun e => ?_, fun b hb hne => ?_⟩
  · obtain ⟨rfl, h2⟩ := h0 e
    exact ⟨by simp, h2⟩
  · obtain ⟨k', o, rfl, hk', hc⟩ := hc b hb (fun e => hne (by rw [e]; simp))
    refine ⟨k', o, rfl, hk', fun j x hj => hc j x ?_⟩
    rw [List.getElem?_take] at hj
    split at hj
    · exact hj
    · cases hj
theorem first_lies {w : World} {ao : Option Addr} {cap : Nat} {l : List Sp} (h : LiesK encS 2 w (.slice ao l.length cap) l) (hne : l ≠ []) : LiesK encS 2 w (.slice ao 1 cap) [h1 l] := by
  have hpos : 1 ≤ l.length := by cases l with | nil => exact absurd rfl hne | cons => simp
  rw [show [h1 l] = l.take 1 from by cases l with | nil => exact absurd rfl hne | cons => rfl]
  exact h.take 1 hpos
set_option maxHeartbeats 1000000 in
theorem first_any (w : World) (n : ByteArray) (d : Bool) (ao : Option Addr) (cap k : Nat) (hk : 1 ≤ k) (hc : k ≤ cap) (hcm : cap ≤ maxLen) :
    Calls Try.prog 26 #[.agg #[.string n, .bool d, .slice ao k cap]] w fun e w' => e = .returned (.slice ao 1 cap) ∧ Grew w w' := by
  have hkm : k ≤ 9223372036854775807 := by unfold maxLen at hcm; omega
  have t1 : min (1 : Int) (k : Int) = 1 := by omega
  have G := Lib.hid ((Grew.refl w).alloc (.cells #[.string n, .bool d, .slice ao k cap] 32))
  go_enter Try.func26, Try.ntmps26
  go_wp2
  go_returns
  exact ⟨rfl, G.out⟩
end Go.Proofs.Ythbliaohaakbiaa
