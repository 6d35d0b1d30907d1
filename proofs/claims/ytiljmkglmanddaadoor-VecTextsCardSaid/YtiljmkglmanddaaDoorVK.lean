/- Order, of both. -/
import Derived.Test.YtiljmkglmanddaaDoorVJ
set_option linter.unusedVariables false
namespace Go.Proofs.YtiljmkglmanddaaDoor
open Go.RowKit

def ordB (c1 c2 : Bool) : Int := if c1 && c2 then 0 else if c1 then 1 else if c2 then -1 else 2
theorem cov_refl (a : List Int) : CovP a a := fun j x y hx hy => by rw [hx] at hy; injection hy with hy; omega
theorem cov_both {a b : List Int} (ha : a.length = 64) (hb : b.length = 64) (h1 : CovP a b) (h2 : CovP b a) : a = b := by
  apply List.ext_getElem?
  intro j
  by_cases hj : j < 64
  · obtain ⟨x, hx⟩ := va_len a ha j hj
    obtain ⟨y, hy⟩ := va_len b hb j hj
    have e1 := h1 j x y hx hy
    have e2 := h2 j y x hy hx
    rw [hx, hy]
    congr 1
    omega
  · rw [List.getElem?_eq_none (by omega), List.getElem?_eq_none (by omega)]
theorem beq_cov {a b : List Int} (ha : a.length = 64) (hb : b.length = 64) {c1 c2 : Bool} (h1 : c1 = true ↔ CovP a b) (h2 : c2 = true ↔ CovP b a) : (a == b) = (c1 && c2) := by
  rw [Bool.eq_iff_iff, Bool.and_eq_true, beq_iff_eq]
  constructor
  · rintro rfl
    exact ⟨h1.2 (cov_refl a), h2.2 (cov_refl a)⟩
  · rintro ⟨e1, e2⟩
    exact cov_both ha hb (h1.1 e1) (h2.1 e2)

set_option maxRecDepth 100000 in
set_option maxHeartbeats 1600000 in
theorem order_any (w : World) (a b : List Int) (ha : a.length = 64) (hb : b.length = 64) (c1 c2 : Bool) (h1 : c1 = true ↔ CovP a b) (h2 : c2 = true ↔ CovP b a) :
    Calls Tryd.prog 12 #[vw a, vw b] w fun e w' => e = .returned (.int .i64 (ordB c1 c2)) ∧ Below w.heap.size w w' := by
  have X := Lib.hid (boxes w (va a) (va b) 24)
  have LA := Lib.hid (fun W (h : W.heap[w.heap.size]? = some (.cells (va a) 24 (0, 0))) => load_va v24 W w.heap.size a ha h)
  have LB := Lib.hid (fun W (h : W.heap[w.heap.size + 1]? = some (.cells (va b) 24 (0, 0))) => load_va v24 W (w.heap.size + 1) b hb h)
  have EQ := fun W => eql_va W a b ha hb
  rw [beq_cov ha hb h1 h2] at EQ
  have C1 := Lib.hid (fun W => covers_any W a b ha hb c1 h1)
  have C2 := Lib.hid (fun W => covers_any W b a hb ha c2 h2)
  have HU := Lib.hid (show vw a = .agg (va a) from rfl)
  have HV := Lib.hid (show vw b = .agg (va b) from rfl)
  rw [HU.out, HV.out] at C1 C2 ⊢
  clear h1 h2 ha hb HU HV
  generalize va a = A at *
  generalize va b = B at *
  generalize hW : (w.alloc (.cells A 24)).alloc (.cells B 24) = W at *
  have HW := Lib.hid hW
  clear hW
  cases c1 with
  | true =>
    cases c2 with
    | true =>
      simp only [Bool.and_self] at EQ
      go_enter Tryd.func12, Tryd.ntmps12
      go_wp2_with (first | (rw [HW.out]; refine wpList_load_arr rfl (.tmp 2) 24 rfl _ _ rfl (LA.out _ X.out.2.1) ?_) | refine wpList_load_arr rfl (.tmp 2) 24 rfl _ _ rfl (LA.out _ X.out.2.1) ?_ | refine wpList_load_arr rfl (.tmp 3) 24 rfl _ _ rfl (LB.out _ X.out.2.2) ?_)
      go_returns
      exact ⟨rfl, X.out.1⟩
    | false =>
      simp only [Bool.and_false] at EQ
      go_enter Tryd.func12, Tryd.ntmps12
      go_wp2_with (first | (rw [HW.out]; refine wpList_load_arr rfl (.tmp 2) 24 rfl _ _ rfl (LA.out _ X.out.2.1) ?_) | refine wpList_load_arr rfl (.tmp 2) 24 rfl _ _ rfl (LA.out _ X.out.2.1) ?_ | refine wpList_load_arr rfl (.tmp 3) 24 rfl _ _ rfl (LB.out _ X.out.2.2) ?_)
      refine (C1.out _).mono ?_
      rintro e w1 ⟨rfl, hb1⟩
      have K := Lib.hid (And.intro (X.out.1.trans (hb1.mono X.out.1.size)) (And.intro ((hb1.block _ (Array.getElem?_eq_some_iff.1 X.out.2.1).1).trans X.out.2.1) ((hb1.block _ (Array.getElem?_eq_some_iff.1 X.out.2.2).1).trans X.out.2.2)))
      clear hb1
      go_wp2_with (first | refine wpList_load_arr rfl (.tmp 2) 24 rfl _ _ rfl (LA.out _ K.out.2.1) ?_ | refine wpList_load_arr rfl (.tmp 3) 24 rfl _ _ rfl (LB.out _ K.out.2.2) ?_)
      go_returns
      exact ⟨rfl, K.out.1⟩
  | false =>
    cases c2 with
    | true =>
      simp only [Bool.false_and] at EQ
      go_enter Tryd.func12, Tryd.ntmps12
      go_wp2_with (first | (rw [HW.out]; refine wpList_load_arr rfl (.tmp 2) 24 rfl _ _ rfl (LA.out _ X.out.2.1) ?_) | refine wpList_load_arr rfl (.tmp 2) 24 rfl _ _ rfl (LA.out _ X.out.2.1) ?_ | refine wpList_load_arr rfl (.tmp 3) 24 rfl _ _ rfl (LB.out _ X.out.2.2) ?_)
      refine (C1.out _).mono ?_
      rintro e w1 ⟨rfl, hb1⟩
      have K := Lib.hid (And.intro (X.out.1.trans (hb1.mono X.out.1.size)) (And.intro ((hb1.block _ (Array.getElem?_eq_some_iff.1 X.out.2.1).1).trans X.out.2.1) ((hb1.block _ (Array.getElem?_eq_some_iff.1 X.out.2.2).1).trans X.out.2.2)))
      clear hb1
      go_wp2_with (first | refine wpList_load_arr rfl (.tmp 2) 24 rfl _ _ rfl (LA.out _ K.out.2.1) ?_ | refine wpList_load_arr rfl (.tmp 3) 24 rfl _ _ rfl (LB.out _ K.out.2.2) ?_)
      refine (C2.out _).mono ?_
      rintro e w2 ⟨rfl, hb2⟩
      have K2 := Lib.hid (K.out.1.trans (hb2.mono K.out.1.size))
      clear hb2
      go_wp2
      go_returns
      exact ⟨rfl, K2.out⟩
    | false =>
      simp only [Bool.false_and] at EQ
      go_enter Tryd.func12, Tryd.ntmps12
      go_wp2_with (first | (rw [HW.out]; refine wpList_load_arr rfl (.tmp 2) 24 rfl _ _ rfl (LA.out _ X.out.2.1) ?_) | refine wpList_load_arr rfl (.tmp 2) 24 rfl _ _ rfl (LA.out _ X.out.2.1) ?_ | refine wpList_load_arr rfl (.tmp 3) 24 rfl _ _ rfl (LB.out _ X.out.2.2) ?_)
      refine (C1.out _).mono ?_
      rintro e w1 ⟨rfl, hb1⟩
      have K := Lib.hid (And.intro (X.out.1.trans (hb1.mono X.out.1.size)) (And.intro ((hb1.block _ (Array.getElem?_eq_some_iff.1 X.out.2.1).1).trans X.out.2.1) ((hb1.block _ (Array.getElem?_eq_some_iff.1 X.out.2.2).1).trans X.out.2.2)))
      clear hb1
      go_wp2_with (first | refine wpList_load_arr rfl (.tmp 2) 24 rfl _ _ rfl (LA.out _ K.out.2.1) ?_ | refine wpList_load_arr rfl (.tmp 3) 24 rfl _ _ rfl (LB.out _ K.out.2.2) ?_)
      refine (C2.out _).mono ?_
      rintro e w2 ⟨rfl, hb2⟩
      have K2 := Lib.hid (K.out.1.trans (hb2.mono K.out.1.size))
      clear hb2
      go_wp2
      go_returns
      exact ⟨rfl, K2.out⟩

set_option maxRecDepth 100000 in
set_option maxHeartbeats 1600000 in
theorem rorder_any (w : World) (a b : List Int) (ha : a.length = 64) (hb : b.length = 64) (c1 c2 : Bool) (h1 : c1 = true ↔ CovP a b) (h2 : c2 = true ↔ CovP b a) :
    Calls Tryd.prog 13 #[vw a, vw b] w fun e w' => e = .returned (.int .i64 (ordB c1 c2)) ∧ Below w.heap.size w w' := by
  have X := Lib.hid (boxes w (va a) (va b) 23)
  have LA := Lib.hid (fun W (h : W.heap[w.heap.size]? = some (.cells (va a) 23 (0, 0))) => load_va v23 W w.heap.size a ha h)
  have LB := Lib.hid (fun W (h : W.heap[w.heap.size + 1]? = some (.cells (va b) 23 (0, 0))) => load_va v23 W (w.heap.size + 1) b hb h)
  have C1 := Lib.hid (fun W => rcovers_any W a b ha hb c1 h1)
  have C2 := Lib.hid (fun W => rcovers_any W b a hb ha c2 h2)
  have HU := Lib.hid (show vw a = .agg (va a) from rfl)
  have HV := Lib.hid (show vw b = .agg (va b) from rfl)
  rw [HU.out, HV.out] at C1 C2 ⊢
  clear h1 h2 ha hb HU HV
  generalize va a = A at *
  generalize va b = B at *
  generalize hW : (w.alloc (.cells A 23)).alloc (.cells B 23) = W at *
  have HW := Lib.hid hW
  clear hW
  cases c1 <;> cases c2
  all_goals
    go_enter Tryd.func13, Tryd.ntmps13
    go_wp2_with (first | (rw [HW.out]; refine wpList_load_arr rfl (.tmp 2) 23 rfl _ _ rfl (LA.out _ X.out.2.1) ?_) | refine wpList_load_arr rfl (.tmp 2) 23 rfl _ _ rfl (LA.out _ X.out.2.1) ?_ | refine wpList_load_arr rfl (.tmp 3) 23 rfl _ _ rfl (LB.out _ X.out.2.2) ?_)
    refine (C1.out _).mono ?_
    rintro e w1 ⟨rfl, hb1⟩
    have K := Lib.hid (And.intro (X.out.1.trans (hb1.mono X.out.1.size)) (And.intro ((hb1.block _ (Array.getElem?_eq_some_iff.1 X.out.2.1).1).trans X.out.2.1) ((hb1.block _ (Array.getElem?_eq_some_iff.1 X.out.2.2).1).trans X.out.2.2)))
    clear hb1
    go_wp2_with (first | refine wpList_load_arr rfl (.tmp 2) 23 rfl _ _ rfl (LA.out _ K.out.2.1) ?_ | refine wpList_load_arr rfl (.tmp 3) 23 rfl _ _ rfl (LB.out _ K.out.2.2) ?_)
    refine (C2.out _).mono ?_
    rintro e w2 ⟨rfl, hb2⟩
    have K2 := Lib.hid (K.out.1.trans (hb2.mono K.out.1.size))
    clear hb2
    go_wp2
    go_returns
    exact ⟨rfl, K2.out⟩
end Go.Proofs.YtiljmkglmanddaaDoor
