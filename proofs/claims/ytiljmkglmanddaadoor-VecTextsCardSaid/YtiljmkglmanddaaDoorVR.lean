/- Parse: the document's way, replica by replica, tells what the split tells. Plain. -/
import Derived.Test.YtiljmkglmanddaaDoorVU
import Derived.Test.YtiljmkglmanddaaDoorVW
set_option linter.unusedVariables false
namespace Go.Proofs.YtiljmkglmanddaaDoor
open Go.RowKit

def lsp : List UInt8 → List (List UInt8)
  | [] => [[]]
  | c :: l => if c = 32 then [] :: lsp l else match lsp l with | [] => [[c]] | x :: r => (c :: x) :: r
theorem lsp_ne : ∀ l, lsp l ≠ []
  | [] => by simp [lsp]
  | c :: l => by
    unfold lsp
    split
    · simp
    · split <;> simp
theorem lsp_no : ∀ l, ∀ x ∈ lsp l, ∀ c ∈ x, c ≠ 32
  | [], x, hx, c, hc => by rw [List.mem_singleton.1 hx] at hc; cases hc
  | b :: l, x, hx, c, hc => by
    unfold lsp at hx
    have ih := lsp_no l
    split at hx
    · rcases List.mem_cons.1 hx with rfl | hx
      · cases hc
      · exact ih x hx c hc
    · rename_i hb
      split at hx
      · rw [List.mem_singleton.1 hx] at hc
        rw [List.mem_singleton.1 hc]; exact hb
      · rename_i y r e
        rcases List.mem_cons.1 hx with rfl | hx
        · rcases List.mem_cons.1 hc with rfl | hc
          · exact hb
          · exact ih y (by rw [e]; exact List.mem_cons_self ..) c hc
        · exact ih x (by rw [e]; exact List.mem_cons_of_mem _ hx) c hc
def jo (xs : List (List UInt8)) : List UInt8 := ([32] : List UInt8).intercalate xs
def pre : List (List UInt8) → List UInt8
  | [] => []
  | x :: r => 32 :: jo (x :: r)
theorem jo_cons (x : List UInt8) (r : List (List UInt8)) : jo (x :: r) = x ++ pre r := by
  cases r with
  | nil => unfold jo pre; rw [List.intercalate_singleton, List.append_nil]
  | cons y r =>
    unfold pre jo
    rw [List.intercalate_cons_cons]
    simp
theorem jo_lsp : ∀ l, jo (lsp l) = l
  | [] => rfl
  | c :: l => by
    have ih := jo_lsp l
    unfold lsp
    split
    · rename_i h
      subst h
      cases hl : lsp l with
      | nil => exact absurd hl (lsp_ne l)
      | cons x r => rw [jo_cons, List.nil_append]; show 32 :: jo (x :: r) = _; rw [← hl, ih]
    · cases hl : lsp l with
      | nil => exact absurd hl (lsp_ne l)
      | cons x r => show jo ((c :: x) :: r) = _; rw [jo_cons, List.cons_append, ← jo_cons, ← hl, ih]
theorem idx_ne (c : UInt8) (l : List UInt8) (h : c ≠ 32) : Lib.index (c :: l) [32] = if Lib.index l [32] == -1 then -1 else Lib.index l [32] + 1 := by
  have hp : ([32] : List UInt8).isPrefixOf (c :: l) = false := by simp [List.isPrefixOf, Ne.symm h]
  rw [Lib.index, hp]; simp
theorem split_lsp : ∀ l : List UInt8, Lib.splitK [32] 0 (l.count 32) l = lsp l
  | [] => rfl
  | c :: l => by
    have ih := split_lsp l
    unfold lsp
    by_cases h : c = 32
    · subst h
      rw [if_pos rfl, List.count_cons_self]
      have hix : Lib.index ((32 : UInt8) :: l) [32] = ((0 : Nat) : Int) := by rw [Lib.index]; simp [List.isPrefixOf]
      unfold Lib.splitK
      rw [hix]
      simp
      exact ih
    · rw [if_neg h, List.count_cons_of_ne (by simpa using h)]
      cases hc : l.count 32 with
      | zero =>
        rw [hc] at ih
        have e : lsp l = [l] := ih.symm
        rw [e]
        rfl
      | succ k =>
        rw [hc] at ih
        have hne : Lib.index l [32] ≠ -1 := fun e => by
          have := Lib.count_one 32 l
          rw [Lib.count_miss e] at this
          omega
        have hge := Lib.index_ge l [32]
        obtain ⟨j, hj⟩ : ∃ j : Nat, Lib.index l [32] = j := ⟨(Lib.index l [32]).toNat, by omega⟩
        have hb : (Lib.index l [32] == -1) = false := beq_eq_false_iff_ne.2 hne
        have e1 : Lib.splitK [32] 0 (k + 1) l = l.take j :: Lib.splitK [32] 0 k (l.drop (j + 1)) := by
          show (if Lib.index l [32] == -1 then [l] else _) = _
          rw [hb, if_neg Bool.false_ne_true, hj]
          rfl
        have hix : Lib.index (c :: l) [32] = ((j + 1 : Nat) : Int) := by rw [idx_ne c l h, hb, if_neg Bool.false_ne_true, hj]; omega
        have hb2 : (Lib.index (c :: l) [32] == -1) = false := beq_eq_false_iff_ne.2 (by rw [hix]; omega)
        have e2 : Lib.splitK [32] 0 (k + 1) (c :: l) = (c :: l.take j) :: Lib.splitK [32] 0 k (l.drop (j + 1)) := by
          show (if Lib.index (c :: l) [32] == -1 then [c :: l] else _) = _
          rw [hb2, if_neg Bool.false_ne_true, hix]
          rfl
        rw [e1] at ih
        rw [e2, ← ih]
theorem vparts_data (s : ByteArray) : (vparts s).map (·.data.toList) = lsp s.data.toList := by
  unfold vparts
  rw [Lib.splitB_data]
  have e : Lib.countB s ⟨#[32]⟩ = s.data.toList.count 32 := by
    show Lib.count s.data.toList [32] = _
    exact Lib.count_one 32 _
  rw [e]
  exact split_lsp _
/-- What stands between two blanks, as a list. -/
theorem dec_nocol (u : Nat) : ∀ x ∈ Lib.decDigits u, x ≠ 58 := by
  intro x hx e
  have := List.all_eq_true.1 (dd_all u) x hx
  subst e
  revert this
  decide
theorem cut_col (s : ByteArray) (i : Nat) (y : List UInt8) (h : s.data.toList = Lib.decDigits i ++ 58 :: y) : (cutAt s 58).1.data.toList = Lib.decDigits i ∧ (cutAt s 58).2.1.data.toList = y := by
  have hix : Lib.indexByte s.data.toList 58 = ((Lib.decDigits i).length : Int) := by rw [h]; exact idx_here _ _ _ (dec_nocol i)
  unfold cutAt
  rw [hix, if_pos (by omega)]
  have hsz : s.size = s.data.toList.length := by rw [Array.length_toList]; rfl
  refine ⟨?_, ?_⟩
  · show (s.extract 0 _).data.toList = _
    rw [Lib.extract_from_zero, h]
    simp
  · simp only [ByteArray.data_extract, Array.toList_extract, List.extract]
    rw [hsz, h]
    simp
    rw [List.take_of_length_le (by omega)]
theorem known_col (s : ByteArray) (i : Nat) (hi : i < 64) (y : List UInt8) (h : s.data.toList = Lib.decDigits i ++ 58 :: y) : knownP s = (numOf y).map fun b => (i, b) := by
  obtain ⟨h1, h2⟩ := cut_col s i y h
  unfold knownP
  rw [h1, h2, num_dd i (by omega)]
  cases numOf y <;> rfl
theorem numOf_dd {l : List UInt8} {n : Nat} (h : numOf l = some n) : l = Lib.decDigits n := by
  unfold numOf at h
  split at h
  · cases h
  · rename_i hc
    injection h with h
    subst h
    have h2 : l.all isD = true := by
      cases ha : l.all isD with
      | true => rfl
      | false => exact absurd (.inr (.inr (.inl (by rw [ha]; decide)))) hc
    refine (dd_of_val l h2 (fun e => hc (.inl (by rw [e]; decide))) ?_).symm
    by_cases hl : l.length ≤ 1
    · exact .inl hl
    · exact .inr fun e => hc (.inr (.inr (.inr ⟨by omega, e⟩)))
theorem col_known (s : ByteArray) (a b : Nat) (h : knownP s = some (a, b)) : ∃ y, s.data.toList = Lib.decDigits a ++ 58 :: y := by
  unfold knownP at h
  cases h1 : numOf (cutAt s 58).1.data.toList with
  | none => rw [h1] at h; cases h
  | some a' =>
    cases h2 : numOf (cutAt s 58).2.1.data.toList with
    | none => rw [h1, h2] at h; cases h
    | some b' =>
      rw [h1, h2] at h
      injection h with h
      injection h with ha hb
      subst ha; subst hb
      have e1 := numOf_dd h1
      have hsz : s.size = s.data.toList.length := by rw [Array.length_toList]; rfl
      unfold cutAt at e1 h2
      by_cases hix : 0 ≤ Lib.indexByte s.data.toList 58
      · rw [if_pos hix] at e1
        obtain ⟨o, ho⟩ : ∃ o : Nat, Lib.indexByte s.data.toList 58 = o := ⟨(Lib.indexByte s.data.toList 58).toNat, by omega⟩
        have hat := (Lib.indexByte_some ho).1
        rw [ho] at e1
        have e2 : (s.extract 0 ((o : Int)).toNat).data.toList = Lib.decDigits a' := e1
        rw [Lib.extract_from_zero] at e2
        have ht : ((o : Int)).toNat = o := by omega
        rw [ht] at e2
        have hol : o < s.data.toList.length := (List.getElem?_eq_some_iff.1 hat).1
        refine ⟨s.data.toList.drop (o + 1), ?_⟩
        rw [← e2]
        have h58 : s.data.toList[o] = 58 := (List.getElem?_eq_some_iff.1 hat).2
        have hdr := List.drop_eq_getElem_cons hol
        rw [h58] at hdr
        rw [← hdr, List.take_append_drop]
      · rw [if_neg hix] at h2
        have h3 : numOf [] = some b' := h2
        have h4 : numOf [] = none := by decide
        rw [h4] at h3
        cases h3
/-- The document's way over the parts. -/
def strip : List UInt8 → List UInt8 → Option (List UInt8)
  | [], x => some x
  | _ :: _, [] => none
  | a :: l, b :: x => if a = b then strip l x else none
theorem strip_some : ∀ {l x y : List UInt8}, strip l x = some y → x = l ++ y
  | [], x, y, h => by injection h with h
  | a :: l, [], y, h => by cases h
  | a :: l, b :: x, y, h => by
    unfold strip at h
    split at h
    · rename_i e; subst e; rw [strip_some h]; rfl
    · cases h
theorem strip_app : ∀ (l y : List UInt8), strip l (l ++ y) = some y
  | [], y => rfl
  | a :: l, y => by show (if a = a then strip l (l ++ y) else none) = _; rw [if_pos rfl]; exact strip_app l y
def hd (i : Nat) : List UInt8 := Lib.decDigits i ++ [58]
def RFn : Nat → Nat → List (List UInt8) → List Int → Option (List Int)
  | 0, i, rest, out => if rest = [] then some out else none
  | k + 1, i, [], out => some out
  | k + 1, i, x :: r, out => match strip (hd i) x with
    | none => RFn k (i + 1) (x :: r) out
    | some y => match numOf y with
      | some n => if n < 1 ∨ 4294967296 < n then none else RFn k (i + 1) r (out.set i (n : Int))
      | none => none
theorem RFn_nil : ∀ k i out, RFn k i [] out = some out
  | 0, i, out => rfl
  | k + 1, i, out => rfl
theorem parseF_skip (s : ByteArray) (r : List ByteArray) (i : Nat) (out : List Int) (h : strip (hd i) s.data.toList = none) : parseF (s :: r) i out = parseF (s :: r) (i + 1) out := by
  unfold parseF
  cases hk : knownP s with
  | none => rfl
  | some p =>
    obtain ⟨a, b⟩ := p
    have hne : a ≠ i := fun e => by
      subst e
      obtain ⟨y, hy⟩ := col_known s a b hk
      have : s.data.toList = hd a ++ y := by rw [hy]; unfold hd; simp
      rw [this, strip_app] at h
      cases h
    simp only
    by_cases h1 : a < i
    · rw [if_pos (.inl h1), if_pos (.inl (by omega))]
    · by_cases h2 : 64 ≤ a ∨ b < 1 ∨ 4294967296 < b
      · rw [if_pos (.inr h2), if_pos (.inr h2)]
      · rw [if_neg (fun e => e.elim h1 h2), if_neg (fun e => e.elim (by omega) h2)]
theorem RFn_parse : ∀ (k i : Nat), i + k = 64 → ∀ (ps : List ByteArray) (out : List Int), RFn k i (ps.map (·.data.toList)) out = parseF ps i out
  | _, _, _, [], out => by rw [List.map_nil, RFn_nil]; rfl
  | 0, i, h, s :: r, out => by
    show (if (s :: r).map _ = [] then some out else none) = _
    rw [if_neg (by simp)]
    unfold parseF
    cases hk : knownP s with
    | none => rfl
    | some p => simp only; rw [if_pos (by omega)]
  | k + 1, i, h, s :: r, out => by
    rw [List.map_cons]
    unfold RFn
    cases hst : strip (hd i) s.data.toList with
    | none =>
      simp only
      rw [parseF_skip s r i out hst]
      exact RFn_parse k (i + 1) (by omega) (s :: r) out
    | some y =>
      have hk := known_col s i (by omega) y (by rw [strip_some hst]; unfold hd; simp)
      simp only
      unfold parseF
      rw [hk]
      cases hn : numOf y with
      | none => rfl
      | some n =>
        simp only [Option.map_some]
        by_cases hb : n < 1 ∨ 4294967296 < n
        · rw [if_pos hb, if_pos (by omega)]
        · rw [if_neg hb, if_neg (by omega)]
          exact RFn_parse k (i + 1) (by omega) r _
theorem parseR_RFn (s : ByteArray) (h : s.size ≠ 0) : parseR s = RFn 64 0 (lsp s.data.toList) zs := by
  unfold parseR
  rw [if_neg h, ← vparts_data, RFn_parse 64 0 rfl]
end Go.Proofs.YtiljmkglmanddaaDoor
