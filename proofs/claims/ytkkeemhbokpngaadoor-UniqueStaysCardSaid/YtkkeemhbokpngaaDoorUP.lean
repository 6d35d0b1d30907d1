/- A map from strings to numbers that a call makes, by what it tells of each string; owners. -/
import Derived.Test.YtkkeemhbokpngaaDoorUR
import Derived.Maps.OwnSet
import Derived.Maps.OwnOps
set_option linter.unusedVariables false
namespace Go.Proofs.YtkkeemhbokpngaaDoor
open Go.RowKit Go.WideMaps Go.Maps

theorem slaw : Keyed Tryd.prog 9 := string_keyed Tryd.underlying9
theorem zero3 (w : World) : (zeroValue 3).run Tryd.prog w = .ok (.int .i64 0) w := by kernel_rfl
def kl (s : ByteArray) : Lit := .string s.data.toList
theorem kl_inj {s t : ByteArray} (h : kl s = kl t) : s = t := by
  unfold kl at h
  injection h with h
  exact ba_ext h
theorem kl_key {s : ByteArray} (hs : s.size ≤ maxLen) : keyOf Tryd.prog 9 (.string s) = some (kl s) := keyOf_string_mk Tryd.underlying9 hs
abbrev SF := ByteArray → Option Int
noncomputable def upd (f : SF) (s : ByteArray) (x : Int) : SF := fun t => @ite _ (t = s) (Classical.propDecidable _) (some x) (f t)
theorem upd_same (f : SF) (s : ByteArray) (x : Int) : upd f s x s = some x := by unfold upd; exact @if_pos _ (Classical.propDecidable _) rfl _ _ _
theorem upd_other {f : SF} {s t : ByteArray} {x : Int} (h : t ≠ s) : upd f s x t = f t := by unfold upd; exact @if_neg _ (Classical.propDecidable _) h _ _ _
def IMap (w : World) (b n : Nat) (f : SF) : Prop := ∃ D : DataW Unit, w.ownsMap Tryd.prog 9 (plainElem Tryd.prog 3) b n D ∧ ∀ s, Maps.has D (kl s) = (f s).isSome ∧ D.atKey (kl s) (.lit (.int .i64 0)) = .lit (.int .i64 ((f s).getD 0))
theorem imap_made (w : World) : IMap (w.alloc (.map #[] 0)) w.heap.size 0 (fun _ => none) := ⟨_, World.ownsMap_made _ _ _ _, fun s => ⟨rfl, rfl⟩⟩
theorem IMap.lt {w : World} {b n : Nat} {f : SF} (h : IMap w b n f) : b < w.heap.size := by obtain ⟨D, h, _⟩ := h; exact h.lt
theorem IMap.grown {w w' : World} {b n : Nat} {f : SF} {row : Option Nat} (h : IMap w b n f) (hg : w.grownBy w' row) (hne : some b ≠ row) : IMap w' b n f := by obtain ⟨D, h1, h2⟩ := h; exact ⟨D, h1.kept hg hne, h2⟩
theorem IMap.step {w w' : World} {b n : Nat} {f : SF} (h : IMap w b n f) (hb : Below w.heap.size w w') : IMap w' b n f :=
  h.grown (row := none) ⟨hb.os, hb.tape, hb.output, hb.size, fun k hk _ => hb.block k hk⟩ (by simp)
section
variable (w : World) {ops : Array Oper} {rest : List Oper} {o : Oper} {a : Act} {Q : Exit → Act → World → Prop}
theorem wpList_iput (hg : o.guard = none) (m x v : Operand) (hop : o.op = Op.mapUpdate 31 m x v) (b n : Nat) (f : SF) (hm : a.eval m = .map (some b)) (h : IMap w b n f) (hn : n < 1000) (s : ByteArray) (y : Int) (hx : a.eval x = .string s) (hv : a.eval v = .int .i64 y)
    (hs : s.size ≤ maxLen) (hy : -9223372036854775808 ≤ y ∧ y ≤ 9223372036854775807) (hK : ∀ w', IMap w' b (n + 1) (upd f s y) → w.grownBy w' (some b) → wpList Tryd.prog ops Q rest (a.put o.dst undef) w') : wpList Tryd.prog ops Q (o :: rest) a w := by
  obtain ⟨D, h1, h2⟩ := h
  refine wpList_mapUpdate_own w hg m x v 31 hop 9 3 slaw Tryd.underlying31 _ b n D hm h1 (by unfold maxLen; omega) (.string s) (.int .i64 y) (kl s) hx hv (kl_key hs) _ [] (plainElem_int Tryd.underlying3 (WalkArith.wf_i64 hy)) ?_
  intro w' o' g'
  refine hK w' ⟨_, o', fun t => ?_⟩ g'
  by_cases e : t = s
  · subst e
    rw [upd_same]
    exact ⟨has_put_same h1.isMap (show WideAt.IsKeyLit (kl t) from trivial) _, atKey_put_same h1.isMap (show WideAt.IsKeyLit (kl t) from trivial) _ _⟩
  · rw [upd_other e]
    have hne : kl t ≠ kl s := fun q => e (kl_inj q)
    exact ⟨(has_put_other hne _).trans (h2 t).1, (atKey_put_other hne _ _).trans (h2 t).2⟩
theorem wpList_ilook (hg : o.guard = none) (m x : Operand) (hop : o.op = Op.lookup 31 m x false) (b n : Nat) (f : SF) (hm : a.eval m = .map (some b)) (h : IMap w b n f) (s : ByteArray) (hx : a.eval x = .string s) (hs : s.size ≤ maxLen)
    (hK : wpList Tryd.prog ops Q rest (a.put o.dst (.int .i64 ((f s).getD 0))) w) : wpList Tryd.prog ops Q (o :: rest) a w := by
  obtain ⟨D, h1, h2⟩ := h
  refine wpList_lookup_own_int w hg m x 31 hop 9 3 .i64 slaw Tryd.underlying31 Tryd.underlying3 (zero3 _) b n D hm h1 (.string s) (kl s) hx (kl_key hs) ?_
  intro c hat _
  rw [(h2 s).2] at hat
  injection hat with hat
  injection hat with _ hat
  rw [← hat]
  exact hK
theorem wpList_ilookok (hg : o.guard = none) (m x : Operand) (hop : o.op = Op.lookup 31 m x true) (b n : Nat) (f : SF) (hm : a.eval m = .map (some b)) (h : IMap w b n f) (s : ByteArray) (hx : a.eval x = .string s) (hs : s.size ≤ maxLen)
    (hK : wpList Tryd.prog ops Q rest (a.put o.dst (.tuple #[.int .i64 ((f s).getD 0), .bool (f s).isSome])) w) : wpList Tryd.prog ops Q (o :: rest) a w := by
  obtain ⟨D, h1, h2⟩ := h
  refine wpList_lookup_own_ok_int w hg m x 31 hop 9 3 .i64 slaw Tryd.underlying31 Tryd.underlying3 (zero3 _) b n D hm h1 (.string s) (kl s) hx (kl_key hs) ?_
  intro c hat _
  rw [(h2 s).2] at hat
  injection hat with hat
  injection hat with _ hat
  rw [← hat, (h2 s).1]
  exact hK
end
/-- What the owners tell, k places of raw done. -/
structure Owns (raw taken : List ByteArray) (k : Nat) (f : SF) : Prop where
  tk : ∀ s, s ∈ taken → f s = some (-1)
  no : ∀ s, s ∉ taken → s ∉ raw.take k → f s = none
  fi : ∀ (i : Nat) s, i < k → raw[i]? = some s → s ∉ taken → s ∉ raw.take i → f s = some (i : Int)
theorem take_succ_mem {l : List ByteArray} {k : Nat} {x s : ByteArray} (hx : l[k]? = some x) : s ∈ l.take (k + 1) ↔ s ∈ l.take k ∨ s = x := by
  obtain ⟨hl, he⟩ := List.getElem?_eq_some_iff.1 hx
  rw [List.take_succ_eq_append_getElem hl, he, List.mem_append, List.mem_singleton]
theorem Owns.there {raw taken : List ByteArray} {k : Nat} {f : SF} (h : Owns raw taken k f) (s : ByteArray) : (f s).isSome = true ↔ s ∈ taken ∨ s ∈ raw.take k := by
  constructor
  · intro hs
    by_cases h1 : s ∈ taken
    · exact .inl h1
    · by_cases h2 : s ∈ raw.take k
      · exact .inr h2
      · rw [h.no s h1 h2] at hs; cases hs
  · intro hs
    by_cases h1 : s ∈ taken
    · rw [h.tk s h1]; rfl
    · rcases hs with hs | hs
      · exact absurd hs h1
      · obtain ⟨j, hj, hx⟩ := mem_take_idx hs
        obtain ⟨i, hi, hx, hn⟩ := first_at hx
        rw [h.fi i s (by omega) hx h1 hn]; rfl
theorem Owns.skip {raw taken : List ByteArray} {k : Nat} {f : SF} (h : Owns raw taken k f) {x : ByteArray} (hx : raw[k]? = some x) (hs : (f x).isSome = true) : Owns raw taken (k + 1) f := by
  refine ⟨h.tk, fun s h1 h2 => h.no s h1 (fun q => h2 ((take_succ_mem hx).2 (.inl q))), fun i s hi hs' h1 h2 => ?_⟩
  by_cases e : i = k
  · subst e
    rw [hx] at hs'
    injection hs' with e
    subst e
    rcases (h.there x).1 hs with q | q
    · exact absurd q h1
    · exact absurd q h2
  · exact h.fi i s (by omega) hs' h1 h2
theorem Owns.put {raw taken : List ByteArray} {k : Nat} {f : SF} (h : Owns raw taken k f) {x : ByteArray} (hx : raw[k]? = some x) (hs : ¬ (f x).isSome = true) : Owns raw taken (k + 1) (upd f x (k : Int)) := by
  have hn : x ∉ taken ∧ x ∉ raw.take k := ⟨fun q => hs ((h.there x).2 (.inl q)), fun q => hs ((h.there x).2 (.inr q))⟩
  refine ⟨fun s h1 => ?_, fun s h1 h2 => ?_, fun i s hi hs' h1 h2 => ?_⟩
  · rw [upd_other (fun e => hn.1 (by rw [← e]; exact h1))]; exact h.tk s h1
  · rw [upd_other (fun e => h2 ((take_succ_mem hx).2 (.inr e)))]
    exact h.no s h1 (fun q => h2 ((take_succ_mem hx).2 (.inl q)))
  · by_cases e : i = k
    · subst e
      rw [hx] at hs'
      injection hs' with e
      subst e
      exact upd_same _ _ _
    · rw [upd_other (fun q => hn.2 (by rw [← q]; exact idx_mem_take (by omega) hs'))]
      exact h.fi i s (by omega) hs' h1 h2
theorem Owns.kept {raw taken : List ByteArray} {f : SF} (h : Owns raw taken raw.length f) {j : Nat} {s : ByteArray} (hs : raw[j]? = some s) : f s = some (j : Int) ↔ KeptAt raw taken j s := by
  have hj := (List.getElem?_eq_some_iff.1 hs).1
  constructor
  · intro hf
    refine ⟨fun q => ?_, fun q => ?_⟩
    · rw [h.tk s q] at hf; injection hf with hf; omega
    · by_cases h1 : s ∈ taken
      · rw [h.tk s h1] at hf; injection hf with hf; omega
      · obtain ⟨m, hm, hx⟩ := mem_take_idx q
        obtain ⟨i, hi, hx, hn⟩ := first_at hx
        rw [h.fi i s (by omega) hx h1 hn] at hf
        injection hf with hf
        omega
  · exact fun q => h.fi j s hj hs q.1 q.2
set_option maxRecDepth 100000 in
set_option maxHeartbeats 3200000 in
theorem owners_any (w : World) (v t : Value) (raw taken : List ByteArray) (h : SLies w v raw) (hm : SLies w t taken) (hr : raw.length ≤ 31) (ht : taken.length ≤ 30) (hs : ∀ s ∈ raw, s.size ≤ 300) (hst : ∀ s ∈ taken, s.size ≤ 300) :
    Calls Tryd.prog 15 #[v, t] w fun e w' => e = .returned (.map (some w.heap.size)) ∧ ∃ f, IMap w' w.heap.size 100 f ∧ Owns raw taken raw.length f ∧ Below w.heap.size w w' := by
  have H := Lib.hid h
  have HM := Lib.hid hm
  have HS := Lib.hid (And.intro hs hst)
  obtain ⟨ao, cap, rfl, -⟩ := h
  obtain ⟨ta, tc, rfl, -⟩ := hm
  have hmm := @run_makeMap Tryd.prog
  have M0 := Lib.hid (imap_made w)
  have B0 := Lib.hid (show Below w.heap.size w (w.alloc (.map #[] 0)) from (Below.refl _ _).alloc (Nat.le_refl _) _)
  clear hs hst
  go_enter Tryd.func15, Tryd.ntmps15
  go_wp2
  go_loopw [15] (fun kv wr => ∃ k : Nat, kv = .int .i64 k ∧ k ≤ taken.length ∧ Hid (∃ f, IMap wr w.heap.size k f ∧ Below w.heap.size w wr ∧ (∀ s, (s ∈ taken.take k → f s = some (-1)) ∧ (s ∉ taken.take k → f s = none)))) (fun kv _ => taken.length - (intOf kv).toNat)
  case atStart => exact ⟨0, rfl, Nat.zero_le _, Lib.hid ⟨_, M0.out, B0.out, fun s => ⟨fun q => by simp at q, fun _ => rfl⟩⟩⟩
  case round =>
    obtain ⟨k, rfl, hk, hI⟩ := hrel
    obtain ⟨f, im, hb, hf⟩ := hI.out
    have IM := Lib.hid im
    have HB := Lib.hid hb
    have HF := Lib.hid hf
    clear hI hf
    by_cases hlt : k < taken.length
    · obtain ⟨g, o, x, rfl, hx, hg, hc⟩ := HM.out.at' hlt
      have hc1 := (hb.cell (p := ⟨g, o + k, none⟩) hg).trans hc
      have HXS := Lib.hid (HS.out.2 x (List.mem_iff_getElem?.2 ⟨k, hx⟩))
      have HX := Lib.hid hx
      clear hx hc hg hb im
      go_wp2_with (at_mapUpdate; refine wpList_iput _ rfl _ _ _ rfl _ k f rfl IM.out (by omega) x (-1) rfl rfl (by have := HXS.out; unfold maxLen; omega) (by omega) ?_; intro w1 im1 g1)
      have R1 := Lib.hid (show ∃ f, IMap w1 w.heap.size (k + 1) f ∧ Below w.heap.size w w1 ∧ (∀ s, (s ∈ taken.take (k + 1) → f s = some (-1)) ∧ (s ∉ taken.take (k + 1) → f s = none)) from
        ⟨_, im1, HB.out.grown g1 HB.out.size (fun j hj => by cases hj; exact Nat.le_refl _), fun s => by
          by_cases e : s = x
          · subst e
            exact ⟨fun _ => upd_same _ _ _, fun q => absurd ((take_succ_mem HX.out).2 (.inr rfl)) q⟩
          · rw [upd_other e]
            exact ⟨fun q => (HF.out s).1 (((take_succ_mem HX.out).1 q).resolve_right e), fun q => (HF.out s).2 (fun r => q ((take_succ_mem HX.out).2 (.inl r)))⟩⟩)
      clear im1 g1
      go_wp2
      go_roundw
      case rel => exact ⟨k + 1, by go_num, by omega, R1⟩
      case measure => simp [intOf]; omega
    · have O0 := Lib.hid (show Owns raw taken 0 f from by
        have e : taken.take k = taken := List.take_of_length_le (by omega)
        have hf := HF.out
        rw [e] at hf
        exact ⟨fun s q => (hf s).1 q, fun s q _ => (hf s).2 q, fun i s hi => by omega⟩)
      clear HF hb im
      generalize wr = w1 at *
      go_wp2
      go_loopw [24] (fun kv wr => ∃ j : Nat, kv = .int .i64 j ∧ j ≤ raw.length ∧ Hid (∃ f, IMap wr w.heap.size (k + j) f ∧ Below w.heap.size w wr ∧ Owns raw taken j f)) (fun kv _ => raw.length - (intOf kv).toNat)
      case atStart => exact ⟨0, rfl, Nat.zero_le _, Lib.hid ⟨_, IM.out, HB.out, O0.out⟩⟩
      case round =>
        obtain ⟨j, rfl, hj, hJ⟩ := hrel
        obtain ⟨f2, im, hb, hf⟩ := hJ.out
        have IM := Lib.hid im
        have HB := Lib.hid hb
        have HF := Lib.hid hf
        clear hJ hf
        by_cases hjl : j < raw.length
        · obtain ⟨g, o, x, rfl, hx, hg, hc⟩ := H.out.at' hjl
          have hc1 := (hb.cell (p := ⟨g, o + j, none⟩) hg).trans hc
          have HXS := Lib.hid (HS.out.1 x (List.mem_iff_getElem?.2 ⟨j, hx⟩))
          have HX := Lib.hid hx
          clear hx hc hg hb im
          cases hso : (f2 x).isSome with
          | true =>
            have R1 := Lib.hid (HF.out.skip HX.out hso)
            go_wp2_with (at_lookup; refine wpList_ilookok _ rfl _ _ rfl _ (k + j) f2 rfl IM.out x rfl (by have := HXS.out; unfold maxLen; omega) ?_; rw [hso])
            clear hso
            go_wp2
            go_roundw
            case rel => exact ⟨j + 1, by go_num, by omega, Lib.hid ⟨f2, by obtain ⟨D, a1, a2⟩ := IM.out; exact ⟨D, a1.mono (by omega), a2⟩, HB.out, R1.out⟩⟩
            case measure => simp [intOf]; omega
          | false =>
            have R1 := Lib.hid (HF.out.put HX.out (by rw [hso]; decide))
            go_wp2_with (first
              | (at_lookup; refine wpList_ilookok _ rfl _ _ rfl _ (k + j) f2 rfl IM.out x rfl (by have := HXS.out; unfold maxLen; omega) ?_; rw [hso])
              | (at_mapUpdate; refine wpList_iput _ rfl _ _ _ rfl _ (k + j) f2 rfl IM.out (by omega) x (j : Int) rfl rfl (by have := HXS.out; unfold maxLen; omega) (by omega) ?_; intro w2 im1 g1))
            have R2 := Lib.hid (show ∃ f, IMap w2 w.heap.size (k + (j + 1)) f ∧ Below w.heap.size w w2 ∧ Owns raw taken (j + 1) f from ⟨_, im1, HB.out.grown g1 HB.out.size (fun j hj => by cases hj; exact Nat.le_refl _), R1.out⟩)
            clear im1 g1 hso
            go_wp2
            go_roundw
            case rel => exact ⟨j + 1, by go_num, by omega, R2⟩
            case measure => simp [intOf]; omega
        · have FIN := Lib.hid (show ∃ f, IMap wr w.heap.size 100 f ∧ Owns raw taken raw.length f ∧ Below w.heap.size w wr from ⟨f2, by obtain ⟨D, a1, a2⟩ := IM.out; exact ⟨D, a1.mono (by omega), a2⟩, by rw [show raw.length = j by omega]; exact HF.out, HB.out⟩)
          clear hb im
          go_wp2
          go_returns
          exact ⟨rfl, FIN.out⟩
end Go.Proofs.YtkkeemhbokpngaaDoor
