/- A map from strings to numbers that a call makes, by what it tells of each string; rows of a call's own, one element set. -/
import Derived.Test.YthbliaohaakbiaaGY
import Derived.Maps.OwnSet
import Derived.Maps.OwnOps
import Derived.OneCell
set_option linter.unusedVariables false
set_option linter.unusedSimpArgs false
set_option maxRecDepth 100000
namespace Go.Proofs.Ythbliaohaakbiaa
open Go.RowKit Go.WideMaps Go.Maps

theorem ba_ext' {s t : ByteArray} (h : s.data.toList = t.data.toList) : s = t := by
  cases s; cases t
  simp at h
  subst h
  rfl
theorem slaw : Keyed Try.prog 9 := string_keyed Try.underlying9
theorem zero3 (w : World) : (zeroValue 3).run Try.prog w = .ok (.int .i64 0) w := by kernel_rfl
def kl (s : ByteArray) : Lit := .string s.data.toList
theorem kl_inj {s t : ByteArray} (h : kl s = kl t) : s = t := by
  unfold kl at h
  injection h with h
  exact ba_ext' h
theorem kl_key {s : ByteArray} (hs : s.size ≤ maxLen) : keyOf Try.prog 9 (.string s) = some (kl s) := keyOf_string_mk Try.underlying9 hs
abbrev SF := ByteArray → Option Int
noncomputable def upd (f : SF) (s : ByteArray) (x : Int) : SF := fun t => @ite _ (t = s) (Classical.propDecidable _) (some x) (f t)
theorem upd_same (f : SF) (s : ByteArray) (x : Int) : upd f s x s = some x := by unfold upd; exact @if_pos _ (Classical.propDecidable _) rfl _ _ _
theorem upd_other {f : SF} {s t : ByteArray} {x : Int} (h : t ≠ s) : upd f s x t = f t := by unfold upd; exact @if_neg _ (Classical.propDecidable _) h _ _ _
def IMap (w : World) (b n : Nat) (f : SF) : Prop := ∃ D : DataW Unit, w.ownsMap Try.prog 9 (plainElem Try.prog 3) b n D ∧ ∀ s, Maps.has D (kl s) = (f s).isSome ∧ D.atKey (kl s) (.lit (.int .i64 0)) = .lit (.int .i64 ((f s).getD 0))
theorem imap_made (w : World) : IMap (w.alloc (.map #[] 0)) w.heap.size 0 (fun _ => none) := ⟨_, World.ownsMap_made _ _ _ _, fun s => ⟨rfl, rfl⟩⟩
theorem IMap.lt {w : World} {b n : Nat} {f : SF} (h : IMap w b n f) : b < w.heap.size := by obtain ⟨D, h, _⟩ := h; exact h.lt
theorem IMap.grown {w w' : World} {b n : Nat} {f : SF} {row : Option Nat} (h : IMap w b n f) (hg : w.grownBy w' row) (hne : some b ≠ row) : IMap w' b n f := by obtain ⟨D, h1, h2⟩ := h; exact ⟨D, h1.kept hg hne, h2⟩
theorem IMap.step {w w' : World} {b n : Nat} {f : SF} (h : IMap w b n f) (hb : Below w.heap.size w w') : IMap w' b n f :=
  h.grown (row := none) ⟨hb.os, hb.tape, hb.output, hb.size, fun k hk _ => hb.block k hk⟩ (by simp)
section
variable (w : World) {ops : Array Oper} {rest : List Oper} {o : Oper} {a : Act} {Q : Exit → Act → World → Prop}
theorem wpList_iput (hg : o.guard = none) (m x v : Operand) (hop : o.op = Op.mapUpdate 52 m x v) (b n : Nat) (f : SF) (hm : a.eval m = .map (some b)) (h : IMap w b n f) (hn : n < 100000) (s : ByteArray) (y : Int) (hx : a.eval x = .string s) (hv : a.eval v = .int .i64 y)
    (hs : s.size ≤ maxLen) (hy : -9223372036854775808 ≤ y ∧ y ≤ 9223372036854775807) (hK : ∀ w', IMap w' b (n + 1) (upd f s y) → w.grownBy w' (some b) → wpList Try.prog ops Q rest (a.put o.dst undef) w') : wpList Try.prog ops Q (o :: rest) a w := by
  obtain ⟨D, h1, h2⟩ := h
  refine wpList_mapUpdate_own w hg m x v 52 hop 9 3 slaw Try.underlying52 _ b n D hm h1 (by unfold maxLen; omega) (.string s) (.int .i64 y) (kl s) hx hv (kl_key hs) _ [] (plainElem_int Try.underlying3 (WalkArith.wf_i64 hy)) ?_
  intro w' o' g'
  refine hK w' ⟨_, o', fun t => ?_⟩ g'
  by_cases e : t = s
  · subst e
    rw [upd_same]
    exact ⟨has_put_same h1.isMap (show WideAt.IsKeyLit (kl t) from trivial) _, atKey_put_same h1.isMap (show WideAt.IsKeyLit (kl t) from trivial) _ _⟩
  · rw [upd_other e]
    have hne : kl t ≠ kl s := fun q => e (kl_inj q)
    exact ⟨(has_put_other hne _).trans (h2 t).1, (atKey_put_other hne _ _).trans (h2 t).2⟩
theorem wpList_ilook (hg : o.guard = none) (m x : Operand) (hop : o.op = Op.lookup 52 m x false) (b n : Nat) (f : SF) (hm : a.eval m = .map (some b)) (h : IMap w b n f) (s : ByteArray) (hx : a.eval x = .string s) (hs : s.size ≤ maxLen)
    (hK : wpList Try.prog ops Q rest (a.put o.dst (.int .i64 ((f s).getD 0))) w) : wpList Try.prog ops Q (o :: rest) a w := by
  obtain ⟨D, h1, h2⟩ := h
  refine wpList_lookup_own_int w hg m x 52 hop 9 3 .i64 slaw Try.underlying52 Try.underlying3 (zero3 _) b n D hm h1 (.string s) (kl s) hx (kl_key hs) ?_
  intro c hat _
  rw [(h2 s).2] at hat
  injection hat with hat
  injection hat with _ hat
  rw [← hat]
  exact hK
theorem wpList_ilookok (hg : o.guard = none) (m x : Operand) (hop : o.op = Op.lookup 52 m x true) (b n : Nat) (f : SF) (hm : a.eval m = .map (some b)) (h : IMap w b n f) (s : ByteArray) (hx : a.eval x = .string s) (hs : s.size ≤ maxLen)
    (hK : wpList Try.prog ops Q rest (a.put o.dst (.tuple #[.int .i64 ((f s).getD 0), .bool (f s).isSome])) w) : wpList Try.prog ops Q (o :: rest) a w := by
  obtain ⟨D, h1, h2⟩ := h
  refine wpList_lookup_own_ok_int w hg m x 52 hop 9 3 .i64 slaw Try.underlying52 Try.underlying3 (zero3 _) b n D hm h1 (.string s) (kl s) hx (kl_key hs) ?_
  intro c hat _
  rw [(h2 s).2] at hat
  injection hat with hat
  injection hat with _ hat
  rw [← hat, (h2 s).1]
  exact hK
end
theorem row_imap {w : World} {b n : Nat} {f : SF} {base : Nat} {e : TypeId} {size : Nat} {v : Value} {m : Nat} {xs : List Value} (h : w.ownsRow base e size v m xs) (hr : IMap w b n f) : some b ≠ v.ownBlock := by
  obtain ⟨D, h1, _⟩ := hr
  obtain ⟨es, c, hb', _⟩ := h1
  rcases h.2 with ⟨rfl, _⟩ | ⟨g, cap, cur, rfl, _, hb, _⟩
  · simp [Value.ownBlock]
  · intro e1
    have : b = g := by simpa [Value.ownBlock] using e1
    subst this
    rw [hb'] at hb
    cases hb
theorem flat_set {α : Type} {enc : α → List Value} {k : Nat} (hk : ∀ x, (enc x).length = k) {l : List α} {i r : Nat} {x y : α} {u : Value} (hx : l[i]? = some x) (hr : r < k) (hy : enc y = (enc x).set r u) : (l.set i y).flatMap enc = (l.flatMap enc).set (i * k + r) u := by
  have hi := (List.getElem?_eq_some_iff.1 hx).1
  apply List.ext_getElem?
  intro j
  by_cases hj : j < l.length * k
  · have hk0 : 0 < k := by omega
    have hd : j / k < l.length := Nat.div_lt_of_lt_mul (by rw [Nat.mul_comm]; exact hj)
    have hm : j % k < k := Nat.mod_lt _ hk0
    have ej : j / k * k + j % k = j := by rw [Nat.mul_comm]; exact Nat.div_add_mod j k
    have L := flat_get hk (l.set i y) (j / k) (j % k)
    have R := flat_get hk l (j / k) (j % k) l[j / k] (List.getElem?_eq_getElem hd) hm
    rw [ej] at L R
    rw [List.getElem?_set]
    by_cases e : j / k = i
    · have hz : (l.set i y)[j / k]? = some y := by rw [e, List.getElem?_set_self hi]
      rw [L y hz hm, hy, List.getElem?_set]
      have hxx : l[j / k] = x := by have := (List.getElem?_eq_some_iff.1 hx).2; subst e; exact this
      rw [hxx] at R
      by_cases e2 : r = j % k
      · have : i * k + r = j := by rw [← e, e2]; exact ej
        rw [if_pos e2, if_pos this, hk, if_pos hr, if_pos (by rw [flat_len hk, this]; exact hj)]
      · have : i * k + r ≠ j := fun q => e2 (by rw [← ej, e] at q; omega)
        rw [if_neg e2, if_neg this, R]
    · have hz : (l.set i y)[j / k]? = some l[j / k] := by rw [List.getElem?_set_ne (fun q => e q.symm)]; exact List.getElem?_eq_getElem hd
      rw [L _ hz hm, R]
      have : i * k + r ≠ j := fun q => e (by
        rw [← q]
        rw [Nat.mul_comm, Nat.mul_add_div hk0, Nat.div_eq_of_lt hr]
        omega)
      rw [if_neg this]
  · rw [List.getElem?_eq_none (by rw [flat_len hk, List.length_set]; omega), List.getElem?_eq_none (by rw [List.length_set, flat_len hk]; omega)]
/-- One cell of a row of one's own set. -/
theorem own_set {α : Type} {enc : α → List Value} {k : Nat} (hk : ∀ x, (enc x).length = k) {w : World} {B : Nat} {e : TypeId} {g cap : Nat} {l : List α} {i r : Nat} {x y : α} {u : Value} (h : w.ownsRow B e k (.slice (some ⟨g, 0, none⟩) l.length cap) l.length (l.flatMap enc)) (hx : l[i]? = some x) (hr : r < k) (hy : enc y = (enc x).set r u) :
    (w.setCell ⟨g, i * k + r, none⟩ u).ownsRow B e k (.slice (some ⟨g, 0, none⟩) (l.set i y).length cap) (l.set i y).length ((l.set i y).flatMap enc) := by
  have hi := (List.getElem?_eq_some_iff.1 hx).1
  have hlt : i * k + r < l.length * k := by
    have h1 : (i + 1) * k ≤ l.length * k := Nat.mul_le_mul_right k (by omega)
    rw [Nat.succ_mul] at h1
    omega
  rcases h.2 with ⟨e1, h0⟩ | ⟨g', cap', cur, e1, hB, hb, h1, h2, h3, h4⟩
  · cases e1
  · injection e1 with e1 e2 e3
    injection e1 with e1
    injection e1 with e1 e4
    subst e1 e3
    refine ⟨by rw [flat_len hk], .inr ⟨g, cap, cur.setIfInBounds (i * k + r) u, rfl, hB, ?_, by rw [List.length_set]; exact h1, h2, by simp [h3], ?_⟩⟩
    · exact heap_setCell_same w g (i * k + r) cur e u hb
    · rw [List.length_set, flat_set hk hx hr hy, Array.toList_setIfInBounds, ← h4, List.take_set]
theorem grown_setCell (w : World) (g o : Nat) (u : Value) : w.grownBy (w.setCell ⟨g, o, none⟩ u) (some g) :=
  ⟨rfl, rfl, rfl, by simp [World.setCell], fun k hk hne => heap_setCell_other w ⟨g, o, none⟩ k u (fun e => hne (by rw [e]))⟩
theorem run_storeV (W : World) (g o : Nat) (a : Option Addr) (n c : Nat) (u : Value) (h : W.cell? ⟨g, o, none⟩ = some u) (hf : W.frozen? ⟨g, o, none⟩ = false) : (Instr.storeAt 30 (.pointer (some ⟨g, o, none⟩)) (.slice a n c)).run Try.prog W = .ok () (W.setCell ⟨g, o, none⟩ (.slice a n c)) := by
  go_simp
end Go.Proofs.Ythbliaohaakbiaa
