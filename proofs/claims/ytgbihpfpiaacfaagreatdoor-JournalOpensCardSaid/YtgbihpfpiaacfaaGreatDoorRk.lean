/- Slices of elements of k cells: what one reads, what one owns, one more element appended. Of no program. -/
import Derived.Test.YtgbihpfpiaacfaaGreatDoorSrtF
import Derived.Test.YtgbihpfpiaacfaaGreatDoorOwn
import Derived.Carry
import Derived.Lib.Hide
import Derived.WalkKit
set_option linter.unusedVariables false
set_option maxRecDepth 100000
namespace Go.Proofs.YtgbihpfpiaacfaaGreatDoor
open Go.RowKit

theorem rk_addr (k o j : Nat) : (⟨k, o, none⟩ : Addr).add j = ⟨k, o + j, none⟩ := by
  unfold Addr.add
  repeat' split
  all_goals simp_all
section
variable {α : Type} {enc : α → List Value} {k : Nat}
def LiesK (enc : α → List Value) (k : Nat) (w : World) (v : Value) (l : List α) : Prop := ∃ ao cap, v = .slice ao l.length cap ∧ l.length ≤ cap ∧ cap ≤ maxLen ∧ (ao = none → l = [] ∧ cap = 0) ∧
  ∀ b, ao = some b → l ≠ [] → ∃ g o, b = ⟨g, o, none⟩ ∧ g < w.heap.size ∧ ∀ (j : Nat) p, l[j]? = some p → ∀ (i : Nat) u, (enc p)[i]? = some u → w.cell? ⟨g, o + j * k + i, none⟩ = some u
theorem LiesK.nil (w : World) : LiesK enc k w (.slice none 0 0) [] := ⟨none, 0, rfl, Nat.le_refl _, Nat.zero_le _, fun _ => ⟨rfl, rfl⟩, fun b hb => by cases hb⟩
theorem LiesK.step {w w' : World} {v : Value} {l : List α} (h : LiesK enc k w v l) (hb : Below w.heap.size w w') : LiesK enc k w' v l := by
  obtain ⟨ao, cap, rfl, hn, hm, h0, hc⟩ := h
  refine ⟨ao, cap, rfl, hn, hm, h0, fun b hbb hne => ?_⟩
  obtain ⟨g, o, rfl, hg, hc⟩ := hc b hbb hne
  exact ⟨g, o, rfl, Nat.lt_of_lt_of_le hg hb.size, fun j p hj i u hi => (hb.cell (p := ⟨g, o + j * k + i, none⟩) hg).trans (hc j p hj i u hi)⟩
theorem LiesK.keep {w w' : World} {E : Nat} {v : Value} {l : List α} (h : LiesK enc k w v l) (hb : Below E w w') (hE : w.heap.size ≤ E) : LiesK enc k w' v l := by
  obtain ⟨ao, cap, rfl, hn, hm, h0, hc⟩ := h
  refine ⟨ao, cap, rfl, hn, hm, h0, fun b hbb hne => ?_⟩
  obtain ⟨g, o, rfl, hg, hc⟩ := hc b hbb hne
  exact ⟨g, o, rfl, Nat.lt_of_lt_of_le hg hb.size, fun j p hj i u hi => (hb.cell (p := ⟨g, o + j * k + i, none⟩) (Nat.lt_of_lt_of_le hg hE)).trans (hc j p hj i u hi)⟩
theorem LiesK.shape {w : World} {v : Value} {l : List α} (h : LiesK enc k w v l) : ∃ ao cap, v = .slice ao l.length cap := by
  obtain ⟨ao, cap, e, _⟩ := h; exact ⟨ao, cap, e⟩
theorem LiesK.len {w : World} {v : Value} {l : List α} (h : LiesK enc k w v l) : l.length ≤ 9223372036854775807 := by
  obtain ⟨ao, cap, e, h1, h2, _⟩ := h
  unfold maxLen at h2
  omega
theorem rk_ne {l : List α} {i : Nat} (h : i < l.length) : l ≠ [] := by rintro rfl; simp at h
theorem LiesK.at' {w : World} {ao : Option Addr} {n cap : Nat} {l : List α} (h : LiesK enc k w (.slice ao n cap) l) {i : Nat} (hi : i < n) : ∃ g o p, ao = some ⟨g, o, none⟩ ∧ l[i]? = some p ∧ g < w.heap.size ∧ ∀ (r : Nat) u, (enc p)[r]? = some u → w.cell? ⟨g, o + i * k + r, none⟩ = some u := by
  obtain ⟨ao', cap', e, hn, hm, h0, hc⟩ := h
  injection e with e1 e2 e3
  subst e1 e2 e3
  cases ao with
  | none => obtain ⟨rfl, _⟩ := h0 rfl; simp at hi
  | some b =>
    obtain ⟨g, o, rfl, hg, hc⟩ := hc b rfl (rk_ne hi)
    exact ⟨g, o, _, rfl, List.getElem?_eq_getElem hi, hg, hc i _ (List.getElem?_eq_getElem hi)⟩
theorem flat_at (hk : ∀ x, (enc x).length = k) (hk0 : 0 < k) (l : List α) (i : Nat) (u : Value) (h : (l.flatMap enc)[i]? = some u) : ∃ j p r, l[j]? = some p ∧ r < k ∧ i = j * k + r ∧ (enc p)[r]? = some u := by
  have hlt := (List.getElem?_eq_some_iff.1 h).1
  rw [flat_len hk] at hlt
  have hd : i / k < l.length := Nat.div_lt_of_lt_mul (by rw [Nat.mul_comm]; exact hlt)
  have hm : i % k < k := Nat.mod_lt _ hk0
  have e : i / k * k + i % k = i := by rw [Nat.mul_comm]; exact Nat.div_add_mod i k
  refine ⟨i / k, l[i / k], i % k, List.getElem?_eq_getElem hd, hm, e.symm, ?_⟩
  have := flat_get hk l (i / k) (i % k) _ (List.getElem?_eq_getElem hd) hm
  rw [e, h] at this
  exact this.symm
theorem flat_one (h1 : ∀ x, ∀ v ∈ enc x, v.oneCell' = true) (l : List α) : ∀ u ∈ l.flatMap enc, u.oneCell' = true := by
  intro u hu
  obtain ⟨x, _, hx⟩ := List.mem_flatMap.1 hu
  exact h1 x u hx
theorem LiesK.src {P : Program} {t e : TypeId} (hu : P.underlying t = some (.slice e)) (hk : ∀ x, (enc x).length = k) (hk0 : 0 < k) (h1 : ∀ x, ∀ v ∈ enc x, v.oneCell' = true) {w : World} {v : Value} {l : List α} (h : LiesK enc k w v l) : Src P k t v l.length (l.flatMap enc) w := by
  obtain ⟨ao, cap, rfl, hn, _, h0, hc⟩ := h
  cases ao with
  | none =>
    obtain ⟨rfl, rfl⟩ := h0 rfl
    exact Src.ofNil _ hu 0
  | some b =>
    refine Src.ofSlice _ hu _ _ _ _ (flat_len hk l) (fun i u hi => ?_) (flat_one h1 l)
    obtain ⟨j, p, r, hj, hr, rfl, hu⟩ := flat_at hk hk0 l i u hi
    obtain ⟨g, o, rfl, _, hc⟩ := hc b rfl (rk_ne (List.getElem?_eq_some_iff.1 hj).1)
    rw [rk_addr, ← Nat.add_assoc]
    exact hc j p hj r u hu
theorem own_liesK (hk : ∀ x, (enc x).length = k) {w : World} {B : Nat} {e : TypeId} {v : Value} {l : List α} (h : w.ownsRow B e k v l.length (l.flatMap enc)) : LiesK enc k w v l := by
  rcases h.2 with ⟨rfl, hn⟩ | ⟨g, cap, cur, rfl, hB, hg, hn, hm, hs, ht⟩
  · have : l = [] := List.eq_nil_of_length_eq_zero hn
    subst this
    exact LiesK.nil w
  · refine ⟨_, cap, rfl, hn, hm, (fun h => by cases h), fun b hb _ => ?_⟩
    cases hb
    refine ⟨g, 0, rfl, (Array.getElem?_eq_some_iff.1 hg).1, fun j p hj i u hi => ?_⟩
    have hik : i < k := by have := (List.getElem?_eq_some_iff.1 hi).1; rwa [hk] at this
    have c := flat_get hk l j i p hj hik
    have h0 := h.cells (g := g) rfl _ _ (c.trans hi)
    rw [rk_addr] at h0
    rw [Nat.zero_add] at h0 ⊢
    exact h0
theorem own_shapeK {w : World} {B e size n : Nat} {v : Value} {xs : List Value} (h : w.ownsRow B e size v n xs) : ∃ ao cap, v = .slice ao n cap := by
  rcases h.2 with ⟨rfl, rfl⟩ | ⟨g, cap, cur, rfl, _⟩
  · exact ⟨none, 0, rfl⟩
  · exact ⟨_, _, rfl⟩
theorem own_belowK {w w' : World} {E e size n : Nat} {v : Value} {xs : List Value} (h : w.ownsRow E e size v n xs) (hb : Below w.heap.size w w') : w'.ownsRow E e size v n xs :=
  h.kept (row := none) ⟨hb.os, hb.tape, hb.output, hb.size, fun k hk _ => hb.block k hk⟩ (by
    cases h : v.ownBlock with
    | none => exact .inl rfl
    | some g => exact .inr (by simp))
theorem one_liesK (hk : ∀ x, (enc x).length = k) {w : World} {g : Nat} {e : TypeId} {p : α} (hb : w.heap[g]? = some (.cells (enc p).toArray e (0, 0))) : LiesK enc k w (.slice (some ⟨g, 0, none⟩) 1 1) [p] := by
  refine ⟨_, 1, rfl, Nat.le_refl _, by unfold maxLen; omega, (fun h => by cases h), fun b hbb _ => ?_⟩
  cases hbb
  refine ⟨g, 0, rfl, (Array.getElem?_eq_some_iff.1 hb).1, fun j q hj i u hi => ?_⟩
  have hj0 : j = 0 := by
    have := (List.getElem?_eq_some_iff.1 hj).1
    simp at this
    exact this
  subst hj0
  injection hj with hj
  subst hj
  rw [cell_of_row _ _ _ _ _ _ hb, show 0 + 0 * k + i = i by omega]
  simpa using hi
theorem wpList_pushK {P : Program} {w : World} {ops : Array Oper} {rest : List Oper} {o : Oper} {a : Act} {Q : Exit → Act → World → Prop} (hgd : o.guard = none) (s x : Operand) (t : TypeId)
    (ho : o.op = .call { callee := .builtin .append, args := #[s, x], argTypes := #[t, t] }) (hk : ∀ x, (enc x).length = k) (hk0 : 0 < k) (h1 : ∀ x, ∀ v ∈ enc x, v.oneCell' = true)
    (base : Nat) (e : TypeId) (i : TypeInfo) (z : Value) (bytes : Nat) (ht : P.underlying t = some (.slice e)) (hi : P.info? e = some i) (hz : i.zero = some z)
    (hsize : i.size = k) (hby : i.bytes = bytes) (hzs : z.cells.size = k)
    (v : Value) (l : List α) (p : α) (g : Nat) (hs : a.eval s = v) (hx : a.eval x = .slice (some ⟨g, 0, none⟩) 1 1) (hb : w.heap[g]? = some (.cells (enc p).toArray e (0, 0))) (hown : w.ownsRow base e k v l.length (l.flatMap enc))
    (h63 : l.length + 1 ≤ maxLen) (hbytes : (l.length + 1) * bytes ≤ 140737488355328) (hbase : base ≤ w.heap.size)
    (h : ∀ v' w', w'.ownsRow base e k v' (l ++ [p]).length ((l ++ [p]).flatMap enc) → w.grownBy w' v.ownBlock → wpList P ops Q rest (a.put o.dst v') w') : wpList P ops Q (o :: rest) a w := by
  have hsrc := (one_liesK hk hb).src ht hk hk0 h1
  refine wpList_append_src_own hgd s x t t ho base e i z k bytes ht hi hz hsize hby hzs hk0 v l.length _ hs hown _ 1 ([p].flatMap enc) hx hsrc h63 hbytes hbase ?_
  intro v' w' a1 a2 _
  exact h v' w' (by rw [List.length_append, List.flatMap_append]; exact a1) a2
end
end Go.Proofs.YtgbihpfpiaacfaaGreatDoor

