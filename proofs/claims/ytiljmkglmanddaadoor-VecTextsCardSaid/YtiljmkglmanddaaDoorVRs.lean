/- The document's Parse: what stands at a place of a text. Plain. -/
import Derived.Test.YtiljmkglmanddaaDoorVR
set_option linter.unusedVariables false
namespace Go.Proofs.YtiljmkglmanddaaDoor
open Go.RowKit

structure ST (s : ByteArray) (p : Nat) (rest : List (List UInt8)) : Prop where
  le : p ≤ s.size
  dr : s.data.toList.drop p = if p = 0 then jo rest else pre rest
  no : ∀ x ∈ rest, ∀ c ∈ x, c ≠ 32
  ne : p = 0 → rest ≠ []
theorem ST.start (s : ByteArray) : ST s 0 (lsp s.data.toList) := ⟨Nat.zero_le _, by rw [if_pos rfl, jo_lsp]; rfl, lsp_no _, fun _ => lsp_ne _⟩
theorem size_list (s : ByteArray) : s.data.toList.length = s.size := by rw [Array.length_toList]; rfl
theorem ST.more {s : ByteArray} {p : Nat} {rest : List (List UInt8)} (h : ST s p rest) (h0 : s.size ≠ 0) : p < s.size ↔ rest ≠ [] := by
  by_cases hp : p = 0
  · subst hp
    exact ⟨fun _ => h.ne rfl, fun _ => by omega⟩
  · have hd := h.dr
    rw [if_neg hp] at hd
    have hl := congrArg List.length hd
    rw [List.length_drop, size_list] at hl
    cases rest with
    | nil => exact ⟨fun hlt => by have : (pre []).length = 0 := rfl; omega, fun e => absurd rfl e⟩
    | cons x r =>
      have : (pre (x :: r)).length = (jo (x :: r)).length + 1 := by unfold pre; simp
      exact ⟨fun _ => by simp, fun _ => by omega⟩
def off (p : Nat) : List UInt8 := if p = 0 then [] else [32]
theorem ST.here {s : ByteArray} {p : Nat} {x : List UInt8} {r : List (List UInt8)} (h : ST s p (x :: r)) : s.data.toList.drop p = off p ++ (x ++ pre r) := by
  rw [h.dr]
  unfold off
  by_cases hp : p = 0
  · rw [if_pos hp, if_pos hp, jo_cons]; rfl
  · rw [if_neg hp, if_neg hp]; show 32 :: jo (x :: r) = 32 :: (x ++ pre r); rw [jo_cons]
theorem hd_no (i : Nat) : ∀ c ∈ hd i, c ≠ 32 := by
  intro c hc e
  unfold hd at hc
  rcases List.mem_append.1 hc with hc | hc
  · have := List.all_eq_true.1 (dd_all i) c hc
    subst e
    revert this
    decide
  · rw [List.mem_singleton.1 hc] at e
    revert e
    decide
theorem fit : ∀ (h x z : List UInt8) (r : List (List UInt8)), (∀ c ∈ h, c ≠ 32) → x ++ pre r = h ++ z → ∃ y, x = h ++ y
  | [], x, z, r, _, _ => ⟨x, rfl⟩
  | a :: h, [], z, r, hn, e => by
    cases r with
    | nil => simp [pre] at e
    | cons y r =>
      unfold pre at e
      simp at e
      exact absurd e.1.symm (hn a (List.mem_cons_self ..))
  | a :: h, b :: x, z, r, hn, e => by
    simp at e
    obtain ⟨y, hy⟩ := fit h x z r (fun c hc => hn c (List.mem_cons_of_mem _ hc)) e.2
    exact ⟨y, by rw [hy, e.1]; rfl⟩
/-- The head that is looked for. -/
def hB (p i : Nat) : ByteArray := if p = 0 then decS (i : Int) ++ ⟨#[58]⟩ else ⟨#[32]⟩ ++ (decS (i : Int) ++ ⟨#[58]⟩)
theorem decS_data (i : Nat) : (decS (i : Int)).data.toList = Lib.decDigits i := by unfold decS; simp
theorem hB_data (p i : Nat) : (hB p i).data.toList = off p ++ hd i := by
  unfold hB off hd
  by_cases hp : p = 0
  · rw [if_pos hp, if_pos hp, ByteArray.data_append, Array.toList_append, decS_data]; rfl
  · rw [if_neg hp, if_neg hp, ByteArray.data_append, Array.toList_append, ByteArray.data_append, Array.toList_append, decS_data]
theorem hB_size (p i : Nat) : (hB p i).size = (off p).length + (hd i).length := by rw [← size_list, hB_data, List.length_append]
theorem hd_len (i : Nat) : 1 ≤ (hd i).length := by unfold hd; rw [List.length_append, List.length_singleton]; omega
theorem ext_list (s : ByteArray) (a b : Nat) (hb : b ≤ s.size) : (s.extract a b).data.toList = (s.data.toList.drop a).take (b - a) := by
  simp only [ByteArray.data_extract, Array.toList_extract, List.extract]
theorem ST.miss {s : ByteArray} {p i : Nat} {x : List UInt8} {r : List (List UInt8)} (h : ST s p (x :: r)) (hs : strip (hd i) x = none) (hsz : p + (hB p i).size ≤ s.size) : s.extract p (p + (hB p i).size) ≠ hB p i := fun e => by
  have e2 : (s.extract p (p + (hB p i).size)).data.toList = (hB p i).data.toList := by rw [e]
  rw [ext_list s _ _ hsz, hB_data, h.here, Nat.add_sub_cancel_left, hB_size] at e2
  have e3 : (off p ++ (x ++ pre r)).take ((off p).length + (hd i).length) = off p ++ (x ++ pre r).take (hd i).length := by rw [List.take_append]; simp; exact List.take_of_length_le (by omega)
  rw [e3] at e2
  have e4 := List.append_cancel_left e2
  have e5 : x ++ pre r = hd i ++ (x ++ pre r).drop (hd i).length := by conv => lhs; rw [← List.take_append_drop (hd i).length (x ++ pre r), e4]
  obtain ⟨y, hy⟩ := fit _ _ _ _ (hd_no i) e5
  rw [hy, strip_app] at hs
  cases hs
theorem ST.hit {s : ByteArray} {p i : Nat} {x y : List UInt8} {r : List (List UInt8)} (h : ST s p (x :: r)) (hs : strip (hd i) x = some y) :
    p + (hB p i).size + y.length ≤ s.size ∧ s.extract p (p + (hB p i).size) = hB p i ∧ (s.extract (p + (hB p i).size) (p + (hB p i).size + y.length)).data.toList = y ∧
    (∀ j, j < y.length → ∃ c, s.data.toList[p + (hB p i).size + j]? = some c ∧ c ≠ 32) ∧ (p + (hB p i).size + y.length = s.size ∨ s.data.toList[p + (hB p i).size + y.length]? = some 32) ∧
    ST s (p + (hB p i).size + y.length) r := by
  have hx := strip_some hs
  have hh := h.here
  rw [hx] at hh
  have hsz := hB_size p i
  have hdat := hB_data p i
  have hh2 : s.data.toList.drop p = (hB p i).data.toList ++ (y ++ pre r) := by rw [hh, hdat]; simp
  have hl := congrArg List.length hh2
  rw [List.length_drop, size_list, List.length_append, size_list, List.length_append] at hl
  have hle := h.le
  have hge : p + (hB p i).size + y.length ≤ s.size := by omega
  have hd2 : s.data.toList.drop (p + (hB p i).size) = y ++ pre r := by rw [← List.drop_drop, hh2, List.drop_append_of_le_length (by rw [size_list]; exact Nat.le_refl _), List.drop_of_length_le (by rw [size_list]; exact Nat.le_refl _)]; rfl
  have hd3 : s.data.toList.drop (p + (hB p i).size + y.length) = pre r := by rw [← List.drop_drop, hd2]; simp
  have hpos := hd_len i
  refine ⟨hge, ?_, ?_, fun j hj => ?_, ?_, hge, ?_, fun z hz => h.no z (List.mem_cons_of_mem _ hz), fun e => by omega⟩
  · apply ba_ext
    rw [ext_list s _ _ (by omega), hh2, Nat.add_sub_cancel_left, List.take_append_of_le_length (by rw [size_list]; exact Nat.le_refl _), List.take_of_length_le (by rw [size_list]; exact Nat.le_refl _)]
  · rw [ext_list s _ _ hge, hd2, Nat.add_sub_cancel_left, List.take_append_of_le_length (Nat.le_refl _), List.take_of_length_le (Nat.le_refl _)]
  · obtain ⟨c, hc⟩ : ∃ c, y[j]? = some c := ⟨_, List.getElem?_eq_getElem hj⟩
    refine ⟨c, ?_, h.no x (List.mem_cons_self ..) c (by rw [hx]; exact List.mem_append_right _ (List.mem_iff_getElem?.2 ⟨j, hc⟩))⟩
    rw [← List.getElem?_drop, hd2, List.getElem?_append_left hj]
    exact hc
  · cases r with
    | nil =>
      left
      have := congrArg List.length hd3
      rw [List.length_drop, size_list] at this
      have e : (pre []).length = 0 := rfl
      omega
    | cons z r =>
      right
      have := congrArg (fun l : List UInt8 => l[0]?) hd3
      simp only [List.getElem?_drop, Nat.add_zero] at this
      rw [this]; rfl
  · rw [hd3, if_neg (by omega)]
end Go.Proofs.YtiljmkglmanddaaDoor
