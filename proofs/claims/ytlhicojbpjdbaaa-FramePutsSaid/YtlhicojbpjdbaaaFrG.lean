/- Whether two frames are one, by the program. -/
import Derived.Test.YtlhicojbpjdbaaaFrF
set_option linter.unusedVariables false
namespace Go.Proofs.Ytlhicojbpjdbaaa
open Go.RowKit

theorem conv_any {w : World} {v : Value} {bs : List Nat} (h : Lies w v bs) : (convert 22 9 v).run Try.prog w = .ok (.string (strOfNums (ints bs))) w := by
  by_cases hne : bs = []
  · subst hne
    obtain ⟨ao, cap, rfl, _, _, h0, hc⟩ := h
    have h := run_convert_bytes_string w 22 9 5 ao 0 cap Try.underlying22 Try.underlying5 Try.underlying9
    show (convert 22 9 (Value.slice ao 0 cap)).run Try.prog w = _
    rw [h]
    cases ao with
    | none => simp [Conv.bytesToString]; rfl
    | some a => simp [Conv.bytesToString, loadCells]; rfl
  · exact conv_lies h hne

set_option maxRecDepth 100000 in
set_option maxHeartbeats 400000 in
theorem equal_all (w : World) (v1 v2 : Value) (l m : List Nat) (h1 : Lies w v1 l) (h2 : Lies w v2 m) (hl : Byt l) (hm : Byt m) (b : Bool) (hb : b = true ↔ l = m) :
    Calls Try.prog 24 #[v1, v2] w fun e w' => e = .returned (.bool b) ∧ w = w' := by
  have c1 := conv_any h1
  have c2 := conv_any h2
  have t : ((strOfNums (ints l)).toList == (strOfNums (ints m)).toList) = b := by
    cases b with
    | true => exact tl_eq (by rw [hb.1 rfl])
    | false => exact tl_ne (fun e => by have := hb.2 (str_inj hl hm e); cases this)
  generalize strOfNums (ints l) = s1 at *
  generalize strOfNums (ints m) = s2 at *
  obtain ⟨a1, p1, rfl, _⟩ := h1
  obtain ⟨a2, p2, rfl, _⟩ := h2
  clear hb
  go_enter Try.func24, Try.ntmps24
  go_wp2
  go_returns
  exact ⟨rfl, rfl⟩

theorem box2 (w : World) (c d : Array Value) (T U : TypeId) : Below w.heap.size w ((w.alloc (.cells c T)).alloc (.cells d U)) := ((Below.refl _ _).alloc (Nat.le_refl _) _).alloc (by simp) _

set_option maxRecDepth 100000 in
set_option maxHeartbeats 800000 in
theorem same_k (w : World) (k f t k' f' t' : Int) (a a' : Option Addr) (n n' c c' : Nat) (hk : k ≠ k') :
    Calls Try.prog 18 #[.agg #[.int .i64 k, .int .i64 f, .int .i64 t, .slice a n c], .agg #[.int .i64 k', .int .i64 f', .int .i64 t', .slice a' n' c']] w fun e w' => e = .returned (.bool false) ∧ Below w.heap.size w w' := by
  go_enter Try.func18, Try.ntmps18
  go_wp2
  go_returns
  exact ⟨rfl, box2 _ _ _ _ _⟩
set_option maxRecDepth 100000 in
set_option maxHeartbeats 800000 in
theorem same_f (w : World) (k f t f' t' : Int) (a a' : Option Addr) (n n' c c' : Nat) (hk : f ≠ f') :
    Calls Try.prog 18 #[.agg #[.int .i64 k, .int .i64 f, .int .i64 t, .slice a n c], .agg #[.int .i64 k, .int .i64 f', .int .i64 t', .slice a' n' c']] w fun e w' => e = .returned (.bool false) ∧ Below w.heap.size w w' := by
  go_enter Try.func18, Try.ntmps18
  go_wp2
  go_returns
  exact ⟨rfl, box2 _ _ _ _ _⟩
set_option maxRecDepth 100000 in
set_option maxHeartbeats 800000 in
theorem same_t (w : World) (k f t t' : Int) (a a' : Option Addr) (n n' c c' : Nat) (hk : t ≠ t') :
    Calls Try.prog 18 #[.agg #[.int .i64 k, .int .i64 f, .int .i64 t, .slice a n c], .agg #[.int .i64 k, .int .i64 f, .int .i64 t', .slice a' n' c']] w fun e w' => e = .returned (.bool false) ∧ Below w.heap.size w w' := by
  go_enter Try.func18, Try.ntmps18
  go_wp2
  go_returns
  exact ⟨rfl, box2 _ _ _ _ _⟩
set_option maxRecDepth 100000 in
set_option maxHeartbeats 800000 in
theorem same_b (w : World) (k f t : Int) (v v' : Value) (l m : List Nat) (h1 : Lies w v l) (h2 : Lies w v' m) (hl : Byt l) (hm : Byt m) (b : Bool) (hb : b = true ↔ l = m) :
    Calls Try.prog 18 #[.agg #[.int .i64 k, .int .i64 f, .int .i64 t, v], .agg #[.int .i64 k, .int .i64 f, .int .i64 t, v']] w fun e w' => e = .returned (.bool b) ∧ Below w.heap.size w w' := by
  have E := Lib.hid (fun W (hW : Below w.heap.size w W) => equal_all W v v' l m (h1.later hW) (h2.later hW) hl hm b hb)
  obtain ⟨a1, p1, rfl, _⟩ := h1
  obtain ⟨a2, p2, rfl, _⟩ := h2
  clear hb hl hm
  go_enter Try.func18, Try.ntmps18
  go_wp2_with fail
  refine (E.out _ (box2 _ _ _ _ _)).mono ?_
  rintro e w1 ⟨rfl, rfl⟩
  go_wp2
  go_returns
  exact ⟨rfl, box2 _ _ _ _ _⟩

theorem fsame_any (w : World) (k f t k' f' t' : Int) (v v' : Value) (l m : List Nat) (h1 : Lies w v l) (h2 : Lies w v' m) (hl : Byt l) (hm : Byt m) (b : Bool) (hb : b = true ↔ (k = k' ∧ f = f' ∧ t = t' ∧ l = m)) :
    Calls Try.prog 18 #[.agg #[.int .i64 k, .int .i64 f, .int .i64 t, v], .agg #[.int .i64 k', .int .i64 f', .int .i64 t', v']] w fun e w' => e = .returned (.bool b) ∧ Below w.heap.size w w' := by
  have no : ¬ (k = k' ∧ f = f' ∧ t = t' ∧ l = m) → b = false := fun h => by
    cases b with
    | false => rfl
    | true => exact absurd (hb.1 rfl) h
  obtain ⟨a1, p1, e1, _⟩ := id h1
  obtain ⟨a2, p2, e2, _⟩ := id h2
  by_cases hk : k = k'
  · by_cases hf : f = f'
    · by_cases ht : t = t'
      · subst hk hf ht
        exact same_b w k f t v v' l m h1 h2 hl hm b (by rw [hb]; exact ⟨fun h => h.2.2.2, fun h => ⟨rfl, rfl, rfl, h⟩⟩)
      · rw [no (fun h => ht h.2.2.1)]; subst hk hf e1 e2; exact same_t w k f t t' a1 a2 _ _ _ _ ht
    · rw [no (fun h => hf h.2.1)]; subst hk e1 e2; exact same_f w k f t f' t' a1 a2 _ _ _ _ hf
  · rw [no (fun h => hk h.1)]; subst e1 e2; exact same_k w k f t k' f' t' a1 a2 _ _ _ _ hk
end Go.Proofs.Ytlhicojbpjdbaaa
