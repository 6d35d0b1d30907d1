/- Whether a place keeps its name: of both; Same; long. Made by genuk.py. -/
import Derived.Test.YtkkeemhbokpngaaDoorUS
set_option linter.unusedVariables false
namespace Go.Proofs.YtkkeemhbokpngaaDoor
open Go.RowKit

theorem addr0 (g o i : Nat) : (⟨g, o, none⟩ : Addr).add i = ⟨g, o + i, none⟩ := by unfold Addr.add; split <;> simp_all
set_option maxRecDepth 100000 in
set_option maxHeartbeats 1600000 in
theorem kept_out (w : World) (v t : Value) (l : List ByteArray) (n c : Nat) (a : Option Addr) (h : SLies w v l) (i : Int) (hi : ¬ (0 ≤ i ∧ i < (l.length : Int))) :
    Calls Tryd.prog 11 #[v, t, .int .i64 i] w fun e w' => e = .returned (.bool false) ∧ Below w.heap.size w w' := by
  have hl := h.len
  obtain ⟨ao, cap, rfl, -⟩ := h
  by_cases h1 : 0 ≤ i
  · have h2 : ¬ i < (l.length : Int) := by omega
    clear hi
    go_enter Tryd.func11, Tryd.ntmps11
    go_upto_region 1 with (fail)
    refine wp_region_later (by kernel_rfl) (by kernel_rfl) ?_
    repeat (go_big_quiet_step (fail))
    refine wpQuiet_nil ?_
    rintro _ ⟨xl, rfl⟩
    go_wp2
    go_returns
    exact ⟨rfl, xl.below⟩
  · clear hi
    go_enter Tryd.func11, Tryd.ntmps11
    go_upto_region 1 with (fail)
    refine wp_region_later (by kernel_rfl) (by kernel_rfl) ?_
    repeat (go_big_quiet_step (fail))
    refine wpQuiet_nil ?_
    rintro _ ⟨xl, rfl⟩
    go_wp2
    go_returns
    exact ⟨rfl, xl.below⟩
set_option maxRecDepth 100000 in
set_option maxHeartbeats 1600000 in
theorem kept_taken (w : World) (v t : Value) (l m : List ByteArray) (h : SLies w v l) (hm : SLies w t m) (i : Nat) (s : ByteArray) (hs : l[i]? = some s) (ht : s ∈ m) :
    Calls Tryd.prog 11 #[v, t, .int .i64 (i : Int)] w fun e w' => e = .returned (.bool (false)) ∧ Below w.heap.size w w' := by
  have hl := h.len
  have hi := (List.getElem?_eq_some_iff.1 hs).1
  have T0 := Lib.hid (fun x : Later w => (contains_any x.w t m s (hm.step x.below)).mono fun e w' ⟨h1, h2⟩ => (show e = Ending.returned (.bool true) ∧ Below x.w.heap.size x.w w' from ⟨by rw [h1, memB_true ht], h2 ▸ Below.refl _ _⟩))
  obtain ⟨ao, cap, rfl, hcap, hmax, -⟩ := id h
  obtain ⟨g, o, s', rfl, hs', hg, hc⟩ := h.at' hi
  rw [hs] at hs'
  injection hs' with hs'
  subst hs'
  have T1 := Lib.hid (fun x : Later w => (contains_any x.w _ (l.take i) s ((h.step x.below).take i (by omega))).mono fun e w' ⟨h1, h2⟩ => (show e = Ending.returned (.bool (memB (l.take i) s)) ∧ Below x.w.heap.size x.w w' from ⟨h1, h2 ▸ Below.refl _ _⟩))
  have hc' : ∀ x : Later w, x.w.cell? ⟨g, o + i, none⟩ = some (.string s) := fun x => (x.below.cell (p := ⟨g, o + i, none⟩) hg).trans hc
  obtain ⟨tc, tn, tk, rfl⟩ : ∃ a n c, t = .slice a n c := by obtain ⟨a, c, e, _⟩ := hm; exact ⟨a, _, c, e⟩
  have h1 : (0 : Int) ≤ (i : Int) := by omega
  have h2 : (i : Int) < (l.length : Int) := by omega
  have h3 : (i : Int) ≤ (cap : Int) := by omega
  unfold maxLen at hmax
  generalize memB (l.take i) s = b at *
  clear h hm hs hc ht
  go_enter Tryd.func11, Tryd.ntmps11
  go_upto_region 1 with (fail)
  refine wp_region_later (by kernel_rfl) (by kernel_rfl) ?_
  repeat (go_big_quiet_step (first
      | (go_at_call 18; with_reducible exact later_call (T0.out _))
      | (go_at_call 18; with_reducible exact later_call (T1.out _))))
  refine wpQuiet_nil ?_
  rintro _ ⟨xl, rfl⟩
  go_wp2
  go_returns
  exact ⟨rfl, xl.below⟩
set_option maxRecDepth 100000 in
set_option maxHeartbeats 1600000 in
theorem kept_in (w : World) (v t : Value) (l m : List ByteArray) (h : SLies w v l) (hm : SLies w t m) (i : Nat) (s : ByteArray) (hs : l[i]? = some s) (ht : s ∉ m) :
    Calls Tryd.prog 11 #[v, t, .int .i64 (i : Int)] w fun e w' => e = .returned (.bool (!(memB (l.take i) s))) ∧ Below w.heap.size w w' := by
  have hl := h.len
  have hi := (List.getElem?_eq_some_iff.1 hs).1
  have T0 := Lib.hid (fun x : Later w => (contains_any x.w t m s (hm.step x.below)).mono fun e w' ⟨h1, h2⟩ => (show e = Ending.returned (.bool false) ∧ Below x.w.heap.size x.w w' from ⟨by rw [h1, memB_false ht], h2 ▸ Below.refl _ _⟩))
  obtain ⟨ao, cap, rfl, hcap, hmax, -⟩ := id h
  obtain ⟨g, o, s', rfl, hs', hg, hc⟩ := h.at' hi
  rw [hs] at hs'
  injection hs' with hs'
  subst hs'
  have T1 := Lib.hid (fun x : Later w => (contains_any x.w _ (l.take i) s ((h.step x.below).take i (by omega))).mono fun e w' ⟨h1, h2⟩ => (show e = Ending.returned (.bool (memB (l.take i) s)) ∧ Below x.w.heap.size x.w w' from ⟨h1, h2 ▸ Below.refl _ _⟩))
  have hc' : ∀ x : Later w, x.w.cell? ⟨g, o + i, none⟩ = some (.string s) := fun x => (x.below.cell (p := ⟨g, o + i, none⟩) hg).trans hc
  obtain ⟨tc, tn, tk, rfl⟩ : ∃ a n c, t = .slice a n c := by obtain ⟨a, c, e, _⟩ := hm; exact ⟨a, _, c, e⟩
  have h1 : (0 : Int) ≤ (i : Int) := by omega
  have h2 : (i : Int) < (l.length : Int) := by omega
  have h3 : (i : Int) ≤ (cap : Int) := by omega
  unfold maxLen at hmax
  generalize memB (l.take i) s = b at *
  clear h hm hs hc ht
  go_enter Tryd.func11, Tryd.ntmps11
  go_upto_region 1 with (fail)
  refine wp_region_later (by kernel_rfl) (by kernel_rfl) ?_
  repeat (go_big_quiet_step (first
      | (go_at_call 18; with_reducible exact later_call (T0.out _))
      | (go_at_call 18; with_reducible exact later_call (T1.out _))))
  refine wpQuiet_nil ?_
  rintro _ ⟨xl, rfl⟩
  go_wp2
  go_returns
  exact ⟨rfl, xl.below⟩
set_option maxRecDepth 100000 in
set_option maxHeartbeats 1600000 in
theorem rkept_out (w : World) (v t : Value) (l : List ByteArray) (n c : Nat) (a : Option Addr) (h : SLies w v l) (i : Int) (hi : ¬ (0 ≤ i ∧ i < (l.length : Int))) :
    Calls Tryd.prog 12 #[v, t, .int .i64 i] w fun e w' => e = .returned (.bool false) ∧ Below w.heap.size w w' := by
  have hl := h.len
  obtain ⟨ao, cap, rfl, -⟩ := h
  by_cases h1 : 0 ≤ i
  · have h2 : ¬ i < (l.length : Int) := by omega
    clear hi
    go_enter Tryd.func12, Tryd.ntmps12
    go_upto_region 1 with (fail)
    refine wp_region_later (by kernel_rfl) (by kernel_rfl) ?_
    repeat (go_big_quiet_step (fail))
    refine wpQuiet_nil ?_
    rintro _ ⟨xl, rfl⟩
    go_wp2
    go_returns
    exact ⟨rfl, xl.below⟩
  · clear hi
    go_enter Tryd.func12, Tryd.ntmps12
    go_upto_region 1 with (fail)
    refine wp_region_later (by kernel_rfl) (by kernel_rfl) ?_
    repeat (go_big_quiet_step (fail))
    refine wpQuiet_nil ?_
    rintro _ ⟨xl, rfl⟩
    go_wp2
    go_returns
    exact ⟨rfl, xl.below⟩
set_option maxRecDepth 100000 in
set_option maxHeartbeats 1600000 in
theorem rkept_taken (w : World) (v t : Value) (l m : List ByteArray) (h : SLies w v l) (hm : SLies w t m) (i : Nat) (s : ByteArray) (hs : l[i]? = some s) (ht : s ∈ m) :
    Calls Tryd.prog 12 #[v, t, .int .i64 (i : Int)] w fun e w' => e = .returned (.bool (false)) ∧ Below w.heap.size w w' := by
  have hl := h.len
  have hi := (List.getElem?_eq_some_iff.1 hs).1
  have T0 := Lib.hid (fun x : Later w => (rhas_any x.w t m s (hm.step x.below)).mono fun e w' ⟨h1, h2⟩ => (show e = Ending.returned (.bool true) ∧ Below x.w.heap.size x.w w' from ⟨by rw [h1, memB_true ht], h2 ▸ Below.refl _ _⟩))
  obtain ⟨ao, cap, rfl, hcap, hmax, -⟩ := id h
  obtain ⟨g, o, s', rfl, hs', hg, hc⟩ := h.at' hi
  rw [hs] at hs'
  injection hs' with hs'
  subst hs'
  have T1 := Lib.hid (fun x : Later w => (rhas_any x.w _ (l.take i) s ((h.step x.below).take i (by omega))).mono fun e w' ⟨h1, h2⟩ => (show e = Ending.returned (.bool (memB (l.take i) s)) ∧ Below x.w.heap.size x.w w' from ⟨h1, h2 ▸ Below.refl _ _⟩))
  have hc' : ∀ x : Later w, x.w.cell? ⟨g, o + i, none⟩ = some (.string s) := fun x => (x.below.cell (p := ⟨g, o + i, none⟩) hg).trans hc
  obtain ⟨tc, tn, tk, rfl⟩ : ∃ a n c, t = .slice a n c := by obtain ⟨a, c, e, _⟩ := hm; exact ⟨a, _, c, e⟩
  have h1 : (0 : Int) ≤ (i : Int) := by omega
  have h2 : (i : Int) < (l.length : Int) := by omega
  have h3 : (i : Int) ≤ (cap : Int) := by omega
  unfold maxLen at hmax
  generalize memB (l.take i) s = b at *
  clear h hm hs hc ht
  go_enter Tryd.func12, Tryd.ntmps12
  go_upto_region 1 with (fail)
  refine wp_region_later (by kernel_rfl) (by kernel_rfl) ?_
  repeat (go_big_quiet_step (first
      | (go_at_call 14; with_reducible exact later_call (T0.out _))
      | (go_at_call 14; with_reducible exact later_call (T1.out _))))
  refine wpQuiet_nil ?_
  rintro _ ⟨xl, rfl⟩
  go_wp2
  go_returns
  exact ⟨rfl, xl.below⟩
set_option maxRecDepth 100000 in
set_option maxHeartbeats 1600000 in
theorem rkept_in (w : World) (v t : Value) (l m : List ByteArray) (h : SLies w v l) (hm : SLies w t m) (i : Nat) (s : ByteArray) (hs : l[i]? = some s) (ht : s ∉ m) :
    Calls Tryd.prog 12 #[v, t, .int .i64 (i : Int)] w fun e w' => e = .returned (.bool (!(memB (l.take i) s))) ∧ Below w.heap.size w w' := by
  have hl := h.len
  have hi := (List.getElem?_eq_some_iff.1 hs).1
  have T0 := Lib.hid (fun x : Later w => (rhas_any x.w t m s (hm.step x.below)).mono fun e w' ⟨h1, h2⟩ => (show e = Ending.returned (.bool false) ∧ Below x.w.heap.size x.w w' from ⟨by rw [h1, memB_false ht], h2 ▸ Below.refl _ _⟩))
  obtain ⟨ao, cap, rfl, hcap, hmax, -⟩ := id h
  obtain ⟨g, o, s', rfl, hs', hg, hc⟩ := h.at' hi
  rw [hs] at hs'
  injection hs' with hs'
  subst hs'
  have T1 := Lib.hid (fun x : Later w => (rhas_any x.w _ (l.take i) s ((h.step x.below).take i (by omega))).mono fun e w' ⟨h1, h2⟩ => (show e = Ending.returned (.bool (memB (l.take i) s)) ∧ Below x.w.heap.size x.w w' from ⟨h1, h2 ▸ Below.refl _ _⟩))
  have hc' : ∀ x : Later w, x.w.cell? ⟨g, o + i, none⟩ = some (.string s) := fun x => (x.below.cell (p := ⟨g, o + i, none⟩) hg).trans hc
  obtain ⟨tc, tn, tk, rfl⟩ : ∃ a n c, t = .slice a n c := by obtain ⟨a, c, e, _⟩ := hm; exact ⟨a, _, c, e⟩
  have h1 : (0 : Int) ≤ (i : Int) := by omega
  have h2 : (i : Int) < (l.length : Int) := by omega
  have h3 : (i : Int) ≤ (cap : Int) := by omega
  unfold maxLen at hmax
  generalize memB (l.take i) s = b at *
  clear h hm hs hc ht
  go_enter Tryd.func12, Tryd.ntmps12
  go_upto_region 1 with (fail)
  refine wp_region_later (by kernel_rfl) (by kernel_rfl) ?_
  repeat (go_big_quiet_step (first
      | (go_at_call 14; with_reducible exact later_call (T0.out _))
      | (go_at_call 14; with_reducible exact later_call (T1.out _))))
  refine wpQuiet_nil ?_
  rintro _ ⟨xl, rfl⟩
  go_wp2
  go_returns
  exact ⟨rfl, xl.below⟩
set_option maxRecDepth 100000 in
set_option maxHeartbeats 1600000 in
theorem rsame_any (w : World) (v1 v2 : Value) (l : List ByteArray) (h1 : SLies w v1 l) (h2 : SLies w v2 l) :
    Calls Tryd.prog 8 #[v1, v2] w fun e w' => e = .returned (.bool true) ∧ Below w.heap.size w w' := by
  have H1 := Lib.hid h1
  have H2 := Lib.hid h2
  have hl := h1.len
  obtain ⟨a1, p1, rfl, -⟩ := h1
  obtain ⟨a2, p2, rfl, -⟩ := h2
  go_enter Tryd.func8, Tryd.ntmps8
  go_wp2
  go_loopw [5] (fun kv wr => ∃ k : Nat, kv = .int .i64 k ∧ k ≤ l.length ∧ ∃ n, wr = w.drewN n) (fun kv _ => l.length - (intOf kv).toNat)
  case atStart => exact ⟨0, rfl, Nat.zero_le _, 0, rfl⟩
  case round =>
    obtain ⟨k, rfl, hk, n, rfl⟩ := hrel
    by_cases hlt : k < l.length
    · obtain ⟨g1, o1, x, rfl, hx, _, c1⟩ := H1.out.at' hlt
      obtain ⟨g2, o2, y, rfl, hy, _, c2⟩ := H2.out.at' hlt
      rw [hx] at hy
      injection hy with hy
      subst hy
      have t1 := tl_eq (a := x) rfl
      clear hx
      go_wp2
      go_quiet (fail)
      go_wp2
      go_roundw
      case rel => exact ⟨k + 1, by go_num, by omega, _, rfl⟩
      case measure => simp [intOf]; omega
    · go_wp2
      go_returns
      exact ⟨rfl, ⟨rfl, rfl, rfl, Nat.le_refl _, fun _ _ => rfl⟩⟩
def Long (l : List ByteArray) : Prop := 30 < l.length ∨ ∃ s ∈ l, 300 < s.size
noncomputable def longB (l : List ByteArray) : Bool := @decide (30 < l.length ∨ ∃ s ∈ l.take 40, 300 < s.size) (Classical.propDecidable _)
theorem longB_false {l : List ByteArray} (h : longB l = false) : l.length ≤ 30 ∧ ∀ s ∈ l, s.size ≤ 300 := by
  unfold longB at h
  have h' := @of_decide_eq_false _ (Classical.propDecidable _) h
  have h1 : l.length ≤ 30 := Nat.le_of_not_lt fun x => h' (.inl x)
  refine ⟨h1, fun s hs => Nat.le_of_not_lt fun x => h' (.inr ⟨s, ?_, x⟩)⟩
  rw [List.take_of_length_le (by omega)]
  exact hs
set_option maxRecDepth 100000 in
set_option maxHeartbeats 1600000 in
theorem long_any (w : World) (v : Value) (l : List ByteArray) (h : SLies w v l) :
    Calls Tryd.prog 6 #[v] w fun e w' => e = .returned (.bool (longB l)) ∧ w = w' := by
  have H := Lib.hid h
  have hl := h.len
  have YES := Lib.hid (show (30 < l.length ∨ ∃ s ∈ l.take 40, 300 < s.size) → longB l = true from fun h => by unfold longB; exact @decide_eq_true _ (Classical.propDecidable _) h)
  have NO := Lib.hid (show ¬ (30 < l.length ∨ ∃ s ∈ l.take 40, 300 < s.size) → longB l = false from fun h => by unfold longB; exact @decide_eq_false _ (Classical.propDecidable _) h)
  obtain ⟨ao, cap, rfl, -⟩ := h
  generalize longB l = q at *
  go_enter Tryd.func6, Tryd.ntmps6
  go_wp2
  go_loop [3] (fun kv => ∃ k : Nat, kv = .int .i64 k ∧ k ≤ l.length ∧ k ≤ 40 ∧ Hid (∀ s ∈ l.take k, s.size ≤ 300)) (fun kv => 40 - (intOf kv).toNat)
  case atStart => exact ⟨0, rfl, Nat.zero_le _, by omega, Lib.hid (by simp)⟩
  case round =>
    obtain ⟨k, rfl, hk, hk40, hN⟩ := hrel
    by_cases hlt : k < l.length ∧ k < 40
    · obtain ⟨hl1, hl2⟩ := hlt
      obtain ⟨g, o, x, rfl, hx, hg, hc⟩ := H.out.at' hl1
      have h40 : (k : Int) < 40 := by omega
      by_cases e : 300 < x.size
      · have e' : (300 : Int) < (x.size : Int) := by omega
        have HM := Lib.hid (YES.out (.inr ⟨x, idx_mem_take hl2 hx, e⟩))
        clear hx hg
        go_wp2
        go_returns
        exact ⟨ret_b HM.out.symm, rfl⟩
      · have e' : ¬ (300 : Int) < (x.size : Int) := by omega
        have HM := Lib.hid (show ∀ s ∈ l.take (k + 1), s.size ≤ 300 from fun s hs => by
          obtain ⟨he, hee⟩ := List.getElem?_eq_some_iff.1 hx
          rw [List.take_succ_eq_append_getElem he, hee] at hs
          rcases List.mem_append.1 hs with q | q
          · exact hN.out s q
          · rw [List.mem_singleton.1 q]; omega)
        clear hx hg
        go_wp2
        go_round
        case rel => exact ⟨k + 1, by go_num, by omega, by omega, HM⟩
        case measure => simp [intOf]; omega
    · have hcase : (¬ (k : Int) < (l.length : Int)) ∨ ((k : Int) < (l.length : Int) ∧ ¬ (k : Int) < 40) := by omega
      by_cases hb : 30 < l.length
      · have hb' : (30 : Int) < (l.length : Int) := by omega
        have HM := Lib.hid (YES.out (.inl hb))
        clear hlt
        rcases hcase with hc | ⟨hc, hc2⟩
        · go_wp2
          go_returns
          exact ⟨ret_b HM.out.symm, rfl⟩
        · go_wp2
          go_returns
          exact ⟨ret_b HM.out.symm, rfl⟩
      · have hb' : ¬ (30 : Int) < (l.length : Int) := by omega
        have HM := Lib.hid (NO.out (by
          rintro (x | ⟨s, hs, x⟩)
          · exact hb x
          · have := hN.out s (by
              rw [show k = l.length by omega, List.take_length]
              exact List.mem_of_mem_take hs)
            omega))
        clear hlt
        rcases hcase with hc | ⟨hc, hc2⟩
        · go_wp2
          go_returns
          exact ⟨ret_b HM.out.symm, rfl⟩
        · go_wp2
          go_returns
          exact ⟨ret_b HM.out.symm, rfl⟩
end Go.Proofs.YtkkeemhbokpngaaDoor
