/- Changes, plain: named, taken back, done. -/
import Derived.Test.YthbmbpnpigpgpaaUF
set_option linter.unusedVariables false
set_option linter.unusedSimpArgs false
namespace Go.Proofs.Ythbmbpnpigpgpaa
open Go.RowKit


/-- A change. -/
structure Ch where
  nw : Bool
  t : Int
  r : Int
  pt : Int
  pr : Int
  nm : ByteArray
  d : Bool
noncomputable instance instInhCh : Inhabited Ch := ⟨⟨false, 0, 0, 0, 0, ⟨#[]⟩, false⟩⟩
def encH (x : Ch) : List Value := [.bool x.nw, .int .i64 x.t, .int .i64 x.r, .int .i64 x.pt, .int .i64 x.pr, .string x.nm, .bool x.d]
def chC (x : Ch) : Array Value := #[.bool x.nw, .int .i64 x.t, .int .i64 x.r, .int .i64 x.pt, .int .i64 x.pr, .string x.nm, .bool x.d]
def chV (x : Ch) : Value := .agg (chC x)
theorem encH_len (x : Ch) : (encH x).length = 7 := rfl
theorem encH_one (x : Ch) : ∀ v ∈ encH x, v.oneCell' = true := by
  intro v hv
  simp only [encH, List.mem_cons, List.not_mem_nil, or_false] at hv
  rcases hv with rfl | rfl | rfl | rfl | rfl | rfl | rfl <;> rfl
/-- One change, with the node that it makes; how many nodes were taken. -/
def nst (made : List Sp) (s : List Ch × Nat) (x : Ch) : List Ch × Nat :=
  if x.nw = true then (match made[s.2]? with | some m => (s.1 ++ [{ x with t := m.1, r := m.2 }], s.2 + 1) | none => s) else (s.1 ++ [x], s.2)
def nsF (made : List Sp) (l : List Ch) : List Ch × Nat := l.foldl (nst made) ([], 0)
def namedF (made : List Sp) (l : List Ch) : List Ch := (nsF made l).1
theorem ns_snoc {made : List Sp} {l : List Ch} {i : Nat} {x : Ch} (h : l[i]? = some x) : nsF made (l.take (i + 1)) = nst made (nsF made (l.take i)) x := by
  obtain ⟨hlt, e⟩ := List.getElem?_eq_some_iff.1 h
  unfold nsF
  rw [List.take_succ_eq_append_getElem hlt, List.foldl_append, e]
  rfl
theorem nst_new {made : List Sp} {s : List Ch × Nat} {x : Ch} {m : Sp} (h : x.nw = true) (hm : made[s.2]? = some m) : nst made s x = (s.1 ++ [{ x with t := m.1, r := m.2 }], s.2 + 1) := by
  unfold nst
  rw [if_pos h, hm]
theorem nst_no {made : List Sp} {s : List Ch × Nat} {x : Ch} (h : x.nw = true) (hm : made[s.2]? = none) : nst made s x = s := by
  unfold nst
  rw [if_pos h, hm]
theorem nst_old {made : List Sp} {s : List Ch × Nat} {x : Ch} (h : x.nw = false) : nst made s x = (s.1 ++ [x], s.2) := by
  unfold nst
  rw [if_neg (by rw [h]; simp)]
theorem nst_le {made : List Sp} {s : List Ch × Nat} {x : Ch} {i : Nat} (h1 : s.1.length ≤ i) (h2 : s.2 ≤ made.length) : (nst made s x).1.length ≤ i + 1 ∧ (nst made s x).2 ≤ made.length := by
  cases hn : x.nw with
  | false => rw [nst_old hn]; simp; omega
  | true =>
    cases hm : made[s.2]? with
    | none => rw [nst_no hn hm]; exact ⟨by omega, h2⟩
    | some m =>
      have := (List.getElem?_eq_some_iff.1 hm).1
      rw [nst_new hn hm]; simp; omega
theorem ns_le (made : List Sp) (l : List Ch) : ∀ i, i ≤ l.length → (nsF made (l.take i)).1.length ≤ i ∧ (nsF made (l.take i)).2 ≤ made.length
  | 0, _ => ⟨Nat.le_refl _, Nat.zero_le _⟩
  | i + 1, h => by
    have ih := ns_le made l i (by omega)
    rw [ns_snoc (List.getElem?_eq_getElem (show i < l.length by omega))]
    exact nst_le ih.1 ih.2
theorem named_len (made : List Sp) (l : List Ch) : (namedF made l).length ≤ l.length := by
  have := (ns_le made l l.length (Nat.le_refl _)).1
  rwa [List.take_length] at this
/-- What takes a change back. -/
def bkF (T : List Rw) (x : Ch) : Option Ch := if x.nw = true then some ⟨false, x.t, x.r, 0, 1, x.nm, x.d⟩ else (getF T x.t x.r).map (fun e => ⟨false, x.t, x.r, e.pt, e.pr, e.nm, e.d⟩)
def backF (T : List Rw) (N : List Ch) : List Ch := N.reverse.filterMap (bkF T)
theorem back_step {T : List Rw} {N : List Ch} {k : Nat} {x : Ch} (h : N[k]? = some x) : ((N.drop k).reverse).filterMap (bkF T) = ((N.drop (k + 1)).reverse).filterMap (bkF T) ++ (bkF T x).toList := by
  obtain ⟨hlt, e⟩ := List.getElem?_eq_some_iff.1 h
  rw [List.drop_eq_getElem_cons hlt, List.reverse_cons, e, List.filterMap_append]
  cases hb : bkF T x <;> simp [hb]
theorem back_le (T : List Rw) (N : List Ch) (k : Nat) : (((N.drop k).reverse).filterMap (bkF T)).length ≤ N.length := by
  refine Nat.le_trans (List.length_filterMap_le ..) ?_
  rw [List.length_reverse, List.length_drop]
  omega
def rwC (x : Ch) : Rw := ⟨x.t, x.r, x.pt, x.pr, x.nm, x.d⟩
def doneF (T : List Rw) (N : List Ch) : List Rw := N.foldl (fun T x => setF T (rwC x)) T
theorem done_snoc {T : List Rw} {N : List Ch} {i : Nat} {x : Ch} (h : N[i]? = some x) : doneF T (N.take (i + 1)) = setF (doneF T (N.take i)) (rwC x) := by
  obtain ⟨hlt, e⟩ := List.getElem?_eq_some_iff.1 h
  unfold doneF
  rw [List.take_succ_eq_append_getElem hlt, List.foldl_append, e]
  rfl
theorem done_rise {T : List Rw} (h : Rise T) : ∀ N : List Ch, Rise (doneF T N)
  | [] => h
  | x :: N => done_rise (rise_set h (rwC x)) N
end Go.Proofs.Ythbmbpnpigpgpaa
