/- path.Text and the reference's; path.Same, Within, Up. -/
import Derived.Test.YtgiiddcjepjgcaaDoorPK
set_option linter.unusedVariables false
namespace Go.Proofs.YtgiiddcjepjgcaaDoor
open Go.RowKit

abbrev bl (l : List ByteArray) : List (List UInt8) := l.map (·.data.toList)
def tx (l : List ByteArray) : ByteArray := ⟨(47 :: Lib.join (bl l) [47]).toArray⟩
theorem SLies.row {w : World} {ao : Option Addr} {n cap : Nat} {l : List ByteArray} (h : SLies w (.slice ao n cap) l) (hn : 0 < n) : ∃ g o, ao = some ⟨g, o, none⟩ ∧ g < w.heap.size ∧ ∀ j s, l[j]? = some s → w.cell? ⟨g, o + j, none⟩ = some (.string s) := by
  obtain ⟨g, o, s, e, _, hg, _⟩ := h.at' hn
  obtain ⟨ao', cap', ev, h1, h2, h3, h4⟩ := h
  injection ev with ev1 ev2 ev3
  subst ev1 ev2 ev3
  refine ⟨g, o, e, hg, fun j s hj => ?_⟩
  obtain ⟨g', o', e', _, hc⟩ := h4 j s hj
  rw [e] at e'
  injection e' with e'
  injection e' with e1 e2
  subst e1 e2
  exact hc
theorem lens_le : ∀ (l : List ByteArray), (∀ s ∈ l, s.size ≤ 300) → Lib.lens (bl l) ≤ 300 * l.length
  | [], _ => by simp [Lib.lens]
  | x :: l, h => by
    have ih := lens_le l (fun s hs => h s (List.mem_cons_of_mem _ hs))
    have hx := h x (List.mem_cons_self ..)
    have e : x.data.toList.length = x.size := by rw [Array.length_toList]; rfl
    simp only [Lib.lens, bl, List.map_cons, List.sum_cons, List.length_cons] at ih ⊢
    omega
theorem join_le (l : List ByteArray) (hs : ∀ s ∈ l, s.size ≤ 300) : (Lib.join (bl l) [47]).length ≤ 301 * l.length := by
  cases l with
  | nil => simp [bl, Lib.join_nil]
  | cons x l =>
    have h := lens_le (x :: l) hs
    show (Lib.join (x.data.toList :: bl l) [47]).length ≤ _
    rw [Lib.join_length]
    have e : (bl l).length = l.length := List.length_map _
    simp only [List.length_cons, List.length_nil, e] at *
    have e2 : Lib.lens (bl (x :: l)) = Lib.lens (x.data.toList :: bl l) := rfl
    omega
theorem tx_tail {l : List ByteArray} (h : l ≠ []) : (tx l).data.toList = Lib.joinTail [47] (bl l) := by
  cases l with
  | nil => exact absurd rfl h
  | cons x l =>
    show 47 :: Lib.join (x.data.toList :: bl l) [47] = _
    rw [Lib.join_cons]
    rfl
theorem ret_s {a b : ByteArray} (h : a = b) : (Ending.returned (.string a)) = .returned (.string b) := by rw [h]
set_option maxRecDepth 100000 in
set_option maxHeartbeats 1600000 in
theorem text_any (w : World) (v : Value) (l : List ByteArray) (h : SLies w v l) (hl : l.length ≤ 16) (hs : ∀ s ∈ l, s.size ≤ 300) :
    Calls Tryd.prog 7 #[v] w fun e w' => e = .returned (.string (tx l)) ∧ Below w.heap.size w w' := by
  have J : Calls Tryd.prog 17 #[v, .string ⟨#[47]⟩] w fun e w' => e = .returned (.string ⟨(Lib.join (bl l) [47]).toArray⟩) ∧ Below w.heap.size w w' := by
    obtain ⟨ao, cap, rfl, h1, -⟩ := id h
    by_cases h0 : l.length = 0
    · have e : l = [] := List.eq_nil_of_length_eq_zero h0
      subst e
      exact (Tryd.strings_Join_none ao cap ⟨#[47]⟩ w).mono fun e w' hh => ⟨hh.1, by rw [hh.2]; exact Below.refl _ _⟩
    · obtain ⟨g, o, rfl, hg, hc⟩ := h.row (by omega)
      exact Tryd.strings_Join g o cap l ⟨#[47]⟩ w hc hg (by omega) h1 (Nat.le_trans (join_le l hs) (by omega))
  have JJ := Lib.hid J
  have TX := Lib.hid (show (ByteArray.mk #[47]) ++ (⟨(Lib.join (bl l) [47]).toArray⟩ : ByteArray) = tx l from ba_ext (by
    rw [ByteArray.data_append, Array.toList_append]
    rfl))
  have hz : (⟨(Lib.join (bl l) [47]).toArray⟩ : ByteArray).size ≤ 5000 := by
    have := join_le l hs
    show (Lib.join (bl l) [47]).toArray.size ≤ _
    rw [List.size_toArray]
    omega
  generalize (⟨(Lib.join (bl l) [47]).toArray⟩ : ByteArray) = jj at *
  clear J
  go_enter Tryd.func7, Tryd.ntmps7
  go_wp2_with fail
  refine JJ.out.mono ?_
  rintro e w1 ⟨rfl, hb⟩
  have HB := Lib.hid hb
  clear hb
  go_wp2
  go_returns
  exact ⟨ret_s TX.out, HB.out⟩
set_option maxRecDepth 100000 in
set_option maxHeartbeats 1600000 in
theorem rtext_any (w : World) (v : Value) (l : List ByteArray) (h : SLies w v l) (hl : l.length ≤ 16) (hs : ∀ s ∈ l, s.size ≤ 300) :
    Calls Tryd.prog 8 #[v] w fun e w' => e = .returned (.string (tx l)) ∧ w = w' := by
  have H := Lib.hid h
  obtain ⟨ao, cap, rfl, -⟩ := h
  by_cases h0 : l.length = 0
  · have e : l = [] := List.eq_nil_of_length_eq_zero h0
    subst e
    clear h0
    go_enter Tryd.func8, Tryd.ntmps8
    go_wp2
    go_returns
    exact ⟨rfl, rfl⟩
  · have hne : l ≠ [] := fun e => h0 (by rw [e]; rfl)
    have TT := Lib.hid (tx_tail hne)
    have h0' : (l.length : Int) ≠ 0 := by omega
    have t0 := bneb_ (l.length : Int) 0 (by omega)
    have HS := Lib.hid hs
    clear hne hs
    go_enter Tryd.func8, Tryd.ntmps8
    go_wp2
    clear t0 h0'
    go_loop [3, 4] (fun sv iv => ∃ (i : Nat) (s : ByteArray), iv = .int .i64 i ∧ i ≤ l.length ∧ sv = .string s ∧ s.size ≤ 301 * i ∧ Hid (s.data.toList = Lib.joinTail [47] (bl (l.take i)))) (fun _ iv => l.length - (intOf iv).toNat)
    case atStart => exact ⟨0, ⟨#[]⟩, rfl, Nat.zero_le _, rfl, Nat.le_refl _, Lib.hid rfl⟩
    case round =>
      obtain ⟨i, s, rfl, hi, rfl, hsz, hI⟩ := hrel
      by_cases hlt : i < l.length
      · obtain ⟨g, o, x, rfl, hx, hg, hc⟩ := H.out.at' hlt
        have HN := Lib.hid (show ((s ++ ByteArray.mk #[47]) ++ x).data.toList = Lib.joinTail [47] (bl (l.take (i + 1))) from by
          have e : bl (l.take (i + 1)) = (bl l).take (i + 1) := List.map_take ..
          have e2 : bl (l.take i) = (bl l).take i := List.map_take ..
          rw [e, Lib.joinTail_take_succ [47] (bl l) i x.data.toList (by unfold bl; rw [List.getElem?_map, hx]; rfl), ← e2, ← hI.out]
          simp only [ByteArray.data_append, Array.toList_append])
        have hxz : x.size ≤ 300 := HS.out x (List.mem_of_getElem? hx)
        have hz2 : (s ++ ByteArray.mk #[47]).size ≤ 301 * i + 1 := by rw [ByteArray.size_append]; show s.size + 1 ≤ _; omega
        have hz3 : ((s ++ ByteArray.mk #[47]) ++ x).size ≤ 301 * (i + 1) := by rw [ByteArray.size_append]; omega
        have HZ := Lib.hid hz3
        have hi16 : i < 16 := by omega
        clear hx hg hI hz3
        go_wp2
        go_round
        case rel => exact ⟨i + 1, _, by go_num, by omega, rfl, HZ.out, HN⟩
        case measure => simp [intOf]; omega
      · have E := Lib.hid (show s = tx l from ba_ext (by
          rw [TT.out, hI.out, List.take_of_length_le (by omega)]))
        clear hI
        go_wp2
        go_returns
        exact ⟨ret_s E.out, rfl⟩
theorem eq_any (w : World) (v1 v2 : Value) (l m : List ByteArray) (h1 : SLies w v1 l) (h2 : SLies w v2 m) :
    Calls Tryd.prog 18 #[v1, v2] w fun e w' => e = .returned (.bool (eqB l m)) ∧ Below w.heap.size w w' := by
  have hl := h1.len
  have hl2 := h2.len
  obtain ⟨a1, c1, rfl, -⟩ := id h1
  obtain ⟨a2, c2, rfl, -⟩ := id h2
  by_cases hn : l.length = m.length
  · by_cases h0 : l.length = 0
    · have e1 : l = [] := List.eq_nil_of_length_eq_zero h0
      have e2 : m = [] := List.eq_nil_of_length_eq_zero (by omega)
      subst e1 e2
      refine (Tryd.slices_Equal_string_empty a1 a2 c1 0 c2 w (by omega)).mono fun e w' hh => ⟨?_, by rw [hh.2]; exact Below.refl _ _⟩
      rw [hh.1, (eqB_iff [] []).2 rfl]
      rfl
    · obtain ⟨g1, o1, rfl, _, k1⟩ := h1.row (by omega)
      obtain ⟨g2, o2, rfl, _, k2⟩ := h2.row (by omega)
      refine (Tryd.slices_Equal_string g1 o1 l.length c1 g2 o2 m.length c2 l m w (Nat.le_refl _) (Nat.le_refl _) hl hl2 (fun j hj => k1 j _ (by rw [List.getD_eq_getElem?_getD, List.getElem?_eq_getElem hj]; rfl)) (fun j hj => k2 j _ (by rw [List.getD_eq_getElem?_getD, List.getElem?_eq_getElem hj]; rfl))).mono fun e w' hh => ⟨?_, ?_⟩
      · rw [hh.1, List.take_length, List.take_length]
        congr 2
        cases hb : eqB l m with
        | true => exact decide_eq_true ((eqB_iff l m).1 hb)
        | false => exact decide_eq_false (fun q => by rw [(eqB_iff l m).2 q] at hb; cases hb)
      · obtain ⟨q, rfl⟩ := hh.2
        exact ⟨rfl, rfl, rfl, Nat.le_refl _, fun _ _ => rfl⟩
  · refine (Tryd.slices_Equal_string_lens a1 a2 l.length c1 m.length c2 w hn).mono fun e w' hh => ⟨?_, by rw [hh.2]; exact Below.refl _ _⟩
    rw [hh.1]
    congr 2
    cases hb : eqB l m with
    | true => exact absurd (by rw [(eqB_iff l m).1 hb]) hn
    | false => rfl
set_option maxRecDepth 100000 in
set_option maxHeartbeats 800000 in
theorem same_any (w : World) (v1 v2 : Value) (l m : List ByteArray) (h1 : SLies w v1 l) (h2 : SLies w v2 m) :
    Calls Tryd.prog 11 #[v1, v2] w fun e w' => e = .returned (.bool (eqB l m)) ∧ Below w.heap.size w w' := by
  have E := Lib.hid (eq_any w v1 v2 l m h1 h2)
  clear h1 h2
  go_enter Tryd.func11, Tryd.ntmps11
  go_wp2_with fail
  refine E.out.mono ?_
  rintro e w1 ⟨rfl, hb⟩
  have HB := Lib.hid hb
  clear hb
  go_wp2
  go_returns
  exact ⟨rfl, HB.out⟩
end Go.Proofs.YtgiiddcjepjgcaaDoor
