/- A slice of strings of two parts of another one, with one between. -/
import Derived.Test.YtkkeemhbokpngaaDoorOwn
import Derived.Test.YtkkeemhbokpngaaDoorRH
import Derived.Test.YtkkeemhbokpngaaDoorUZM
set_option linter.unusedVariables false
namespace Go.Proofs.YtkkeemhbokpngaaDoor
open Go.RowKit

theorem SLies.src {w : World} {v : Value} {l : List ByteArray} (h : SLies w v l) : Src Tryd.prog 1 22 v l.length (strs l) w := by
  obtain ⟨ao, cap, rfl, h1, h2, h3, h4⟩ := h
  cases ao with
  | none =>
    have := h3 rfl
    have : l = [] := List.eq_nil_of_length_eq_zero (by omega)
    subst this
    subst cap
    exact Src.ofNil _ Tryd.underlying22 0
  | some b =>
    refine Src.ofSlice _ Tryd.underlying22 _ _ _ _ (by rw [strs_length, Nat.mul_one]) (fun j u hj => ?_) (fun u hu => ?_)
    · rw [strs_get] at hj
      cases hx : l[j]? with
      | none => rw [hx] at hj; simp at hj
      | some s =>
        obtain ⟨g, o, e, _, hc⟩ := h4 j s hx
        injection e with e
        rw [hx] at hj
        injection hj with hj
        rw [e, addr0, hc, ← hj]
    · obtain ⟨s, _, rfl⟩ := List.mem_map.1 hu
      rfl
theorem app_src {W : World} {B : Nat} {v x : Value} {xs l : List ByteArray} (hB : B ≤ W.heap.size) (ho : W.ownsRow B 9 1 v xs.length (strs xs)) (hs : SLies W x l) (hlen : xs.length + l.length ≤ 1000) :
    ∃ v' w', (Builtin.append_ #[22, 22] 22 #[v, x]).run Tryd.prog W = .ok v' w' ∧ w'.ownsRow B 9 1 v' (xs ++ l).length (strs (xs ++ l)) ∧ Below B W w' := by
  obtain ⟨i0, hi9, hz0, hz1, hz2⟩ := info_parts info9
  obtain ⟨v', w', hr, h2, h3, _⟩ := run_append_src_own (P := Tryd.prog) W B 22 22 22 9 i0 (.string ⟨#[]⟩) 1 16 Tryd.underlying22 hi9 hz0 hz1 hz2 rfl (by decide) v xs.length (strs xs) ho x l.length (strs l) hs.src (by unfold maxLen; omega) (by omega) hB
  exact ⟨v', w', hr, by rw [List.length_append, strs_append]; exact h2, (Below.refl B W).grown h3 hB (fun k hk => (ho.lt k hk).1)⟩
theorem bs9 (W : World) (s : ByteArray) : (Instr.buildSlice 22 1 #[(0, .string s)]).run Tryd.prog W = .ok (.slice (some ⟨W.heap.size, 0, none⟩) 1 1) (W.alloc (.cells #[.string s] 9)) := by go_simp
theorem one_lies (W : World) (s : ByteArray) : SLies (W.alloc (.cells #[.string s] 9)) (.slice (some ⟨W.heap.size, 0, none⟩) 1 1) [s] := slies_new W [s] (by simp)
/-- One order: the first part, then the one between. -/
theorem join_a (W : World) (pv tv : Value) (lp lt : List ByteArray) (s : ByteArray) (hp : SLies W pv lp) (ht : SLies W tv lt) (h1 : lp.length ≤ 300) (h2 : lt.length ≤ 300) :
    ∃ v1 w1 v2 w3 v3 w4, (Builtin.append_ #[22, 22] 22 #[.slice none 0 0, pv]).run Tryd.prog W = .ok v1 w1 ∧
      (Builtin.append_ #[22, 22] 22 #[v1, .slice (some ⟨w1.heap.size, 0, none⟩) 1 1]).run Tryd.prog (w1.alloc (.cells #[.string s] 9)) = .ok v2 w3 ∧
      (Builtin.append_ #[22, 22] 22 #[v2, tv]).run Tryd.prog w3 = .ok v3 w4 ∧ w4.ownsRow W.heap.size 9 1 v3 (lp ++ s :: lt).length (strs (lp ++ s :: lt)) ∧ Below W.heap.size W w4 := by
  obtain ⟨v1, w1, r1, o1, b1⟩ := app_src (xs := []) (Nat.le_refl W.heap.size) (World.ownsRow_nil _ _ _ _) hp (by simp; omega)
  have v := vstep w1 (.cells #[.string s] 9)
  rw [List.nil_append] at o1
  obtain ⟨v2, w3, r2, o2, b2⟩ := app_src (Nat.le_trans b1.size v.size) (own_kept o1 v) (one_lies w1 s) (by simp; omega)
  have b13 := b1.trans ((v.mono b1.size).trans b2)
  obtain ⟨v3, w4, r3, o3, b3⟩ := app_src b13.size o2 (ht.step b13) (by simp; omega)
  exact ⟨v1, w1, v2, w3, v3, w4, r1, r2, r3, by rw [show lp ++ s :: lt = lp ++ [s] ++ lt by simp]; exact o3, b13.trans b3⟩
/-- The other order. -/
theorem join_b (W : World) (pv tv : Value) (lp lt : List ByteArray) (s : ByteArray) (hp : SLies W pv lp) (ht : SLies W tv lt) (h1 : lp.length ≤ 300) (h2 : lt.length ≤ 300) :
    ∃ v1 w2 v2 w3 v3 w4, (Builtin.append_ #[22, 22] 22 #[.slice none 0 0, pv]).run Tryd.prog (W.alloc (.cells #[.string s] 9)) = .ok v1 w2 ∧
      (Builtin.append_ #[22, 22] 22 #[v1, .slice (some ⟨W.heap.size, 0, none⟩) 1 1]).run Tryd.prog w2 = .ok v2 w3 ∧
      (Builtin.append_ #[22, 22] 22 #[v2, tv]).run Tryd.prog w3 = .ok v3 w4 ∧ w4.ownsRow W.heap.size 9 1 v3 (lp ++ s :: lt).length (strs (lp ++ s :: lt)) ∧ Below W.heap.size W w4 := by
  have v := vstep W (.cells #[.string s] 9)
  obtain ⟨v1, w2, r1, o1, b1⟩ := app_src (xs := []) (Nat.le_refl (W.alloc (.cells #[.string s] 9)).heap.size) (World.ownsRow_nil _ _ _ _) (hp.step v) (by simp; omega)
  rw [List.nil_append] at o1
  have o1' : w2.ownsRow W.heap.size 9 1 v1 lp.length (strs lp) := ⟨o1.1, o1.2.imp id fun ⟨g, cap, cur, h1, h2, h3⟩ => ⟨g, cap, cur, h1, Nat.le_trans v.size h2, h3⟩⟩
  have bw := v.trans (b1.mono v.size)
  obtain ⟨v2, w3, r2, o2, b2⟩ := app_src bw.size o1' ((one_lies W s).step b1) (by simp; omega)
  have b13 := bw.trans b2
  obtain ⟨v3, w4, r3, o3, b3⟩ := app_src b13.size o2 (ht.step b13) (by simp; omega)
  exact ⟨v1, w2, v2, w3, v3, w4, r1, r2, r3, by rw [show lp ++ s :: lt = lp ++ [s] ++ lt by simp]; exact o3, b13.trans b3⟩
theorem slice_pre (ra : Option Addr) (n rc k : Nat) (hk : k ≤ rc) : ∀ W, (Instr.sliceAt 22 (.slice ra n rc) none (some (.int .i64 (k : Int))) none).run Tryd.prog W = .ok (.slice ra k rc) W := fun W => by
  have h0 : (0 : Int) ≤ (k : Int) := by omega
  have h1 : (k : Int) ≤ (rc : Int) := by omega
  go_simp
theorem slice_tail {w : World} {ra : Option Addr} {n rc k : Nat} {l : List ByteArray} (h : SLies w (.slice ra n rc) l) (hk : k ≤ n) :
    ∃ A, (∀ W, (Instr.sliceAt 22 (.slice ra n rc) (some (.int .i64 (k : Int))) none none).run Tryd.prog W = .ok (.slice A (n - k) (rc - k)) W) ∧ SLies w (.slice A (n - k) (rc - k)) (l.drop k) := by
  refine ⟨if rc = k then ra else ra.map (·.add (k * 1)), fun W => ?_, ?_⟩
  · rw [run_sliceAt_slice (h := Tryd.underlying22), run_slice_l (P := Tryd.prog) (ht := Tryd.underlying22) (h0 := by omega) (h1 := by omega)]
    show _ = Result.ok (Value.slice (if rc = k then ra else ra.map (·.add (k * 1))) (n - k) (rc - k)) W
    rfl
  · obtain ⟨ao, cap, e, h1, h2, h3, h4⟩ := h
    injection e with e1 e2 e3
    subst e1 e2 e3
    have hdl : (l.drop k).length = l.length - k := List.length_drop
    by_cases hrc : rc = k
    · rw [if_pos hrc]
      have e0 : l.drop k = [] := List.eq_nil_of_length_eq_zero (by omega)
      rw [e0]
      exact ⟨_, _, by rw [show l.length - k = 0 by omega]; rfl, Nat.zero_le _, by omega, fun _ => by omega, fun i s hs => by simp at hs⟩
    · rw [if_neg hrc]
      refine ⟨_, rc - k, by rw [hdl], by rw [hdl]; omega, by omega, fun e => ?_, fun i s hs => ?_⟩
      · cases ra with
        | none => have := h3 rfl; omega
        | some b => cases e
      · rw [List.getElem?_drop] at hs
        obtain ⟨g, o, e, hg, hc⟩ := h4 _ s hs
        subst e
        refine ⟨g, o + k * 1, ?_, hg, ?_⟩
        · show some ((⟨g, o, none⟩ : Addr).add (k * 1)) = _
          rw [addr0]
        · rw [show o + k * 1 + i = o + (k + i) by omega]
          exact hc
end Go.Proofs.YtkkeemhbokpngaaDoor
