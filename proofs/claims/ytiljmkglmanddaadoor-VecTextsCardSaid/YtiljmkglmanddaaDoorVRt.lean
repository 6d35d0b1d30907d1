/- A vector's text, parsed. Plain. -/
import Derived.Test.YtiljmkglmanddaaDoorVRs
set_option linter.unusedVariables false
namespace Go.Proofs.YtiljmkglmanddaaDoor
open Go.RowKit

theorem lsp_part : ∀ (x : List UInt8) (l : List UInt8), (∀ c ∈ x, c ≠ 32) → lsp (x ++ 32 :: l) = x :: lsp l
  | [], l, _ => by
    show lsp (32 :: l) = [] :: lsp l
    conv => lhs; unfold lsp
    rw [if_pos rfl]
  | c :: x, l, h => by
    have ih := lsp_part x l (fun d hd => h d (List.mem_cons_of_mem _ hd))
    show lsp (c :: (x ++ 32 :: l)) = _
    conv => lhs; unfold lsp
    rw [if_neg (h c (List.mem_cons_self ..)), ih]
theorem lsp_one : ∀ (x : List UInt8), (∀ c ∈ x, c ≠ 32) → lsp x = [x]
  | [], _ => rfl
  | c :: x, h => by
    have ih := lsp_one x (fun d hd => h d (List.mem_cons_of_mem _ hd))
    conv => lhs; unfold lsp
    rw [if_neg (h c (List.mem_cons_self ..)), ih]
theorem lsp_jo : ∀ (xs : List (List UInt8)), xs ≠ [] → (∀ x ∈ xs, ∀ c ∈ x, c ≠ 32) → lsp (jo xs) = xs
  | [], h, _ => absurd rfl h
  | [x], _, hn => by
    have : jo [x] = x := by unfold jo; rw [List.intercalate_singleton]
    rw [this]; exact lsp_one x (hn x (List.mem_cons_self ..))
  | x :: y :: r, _, hn => by
    rw [jo_cons]
    show lsp (x ++ 32 :: jo (y :: r)) = _
    rw [lsp_part x _ (hn x (List.mem_cons_self ..)), lsp_jo (y :: r) (by simp) (fun z hz => hn z (List.mem_cons_of_mem _ hz))]
def pc (l : List Int) (j : Nat) : List ByteArray := if 0 < l.getD j 0 then [piece j (l.getD j 0)] else []
def PT (l : List Int) : Nat → Nat → List ByteArray
  | 0, _ => []
  | k + 1, i => pc l i ++ PT l k (i + 1)
theorem PT_snoc (l : List Int) : ∀ (k i : Nat), PT l (k + 1) i = PT l k i ++ pc l (i + k)
  | 0, i => by show pc l i ++ [] = [] ++ pc l (i + 0); simp
  | k + 1, i => by
    show pc l i ++ PT l (k + 1) (i + 1) = (pc l i ++ PT l k (i + 1)) ++ _
    rw [PT_snoc l k (i + 1), List.append_assoc, show i + 1 + k = i + (k + 1) by omega]
theorem partsF_PT (l : List Int) : ∀ k, partsF l k = PT l k 0
  | 0 => rfl
  | k + 1 => by rw [PT_snoc, Nat.zero_add, ← partsF_PT l k]; rfl
theorem piece_data (i : Nat) (n : Int) : (piece i n).data.toList = hd i ++ Lib.decDigits n.toNat := by
  unfold piece hd decS
  simp
theorem dec_no32 (u : Nat) : ∀ c ∈ Lib.decDigits u, c ≠ 32 := by
  intro c hc e
  have := List.all_eq_true.1 (dd_all u) c hc
  subst e
  revert this
  decide
theorem pc_no (l : List Int) (i : Nat) : ∀ x ∈ pc l i, ∀ c ∈ x.data.toList, c ≠ 32 := by
  intro x hx c hc
  unfold pc at hx
  split at hx
  · rw [List.mem_singleton.1 hx, piece_data] at hc
    rcases List.mem_append.1 hc with hc | hc
    · exact hd_no i c hc
    · exact dec_no32 _ c hc
  · cases hx
theorem PT_no (l : List Int) : ∀ k i, ∀ x ∈ PT l k i, ∀ c ∈ x.data.toList, c ≠ 32
  | 0, i, x, hx, c, hc => by cases hx
  | k + 1, i, x, hx, c, hc => by
    rcases List.mem_append.1 hx with hx | hx
    · exact pc_no l i x hx c hc
    · exact PT_no l k (i + 1) x hx c hc
theorem PT_idx (l : List Int) : ∀ k i, ∀ x ∈ PT l k i, ∃ j, i ≤ j ∧ ∃ n, x = piece j n
  | 0, i, x, hx => by cases hx
  | k + 1, i, x, hx => by
    rcases List.mem_append.1 hx with hx | hx
    · unfold pc at hx
      split at hx
      · exact ⟨i, Nat.le_refl _, _, List.mem_singleton.1 hx⟩
      · cases hx
    · obtain ⟨j, hj, n, e⟩ := PT_idx l k (i + 1) x hx
      exact ⟨j, by omega, n, e⟩
theorem col_inj : ∀ (a b : List UInt8) (y z : List UInt8), (∀ c ∈ a, c ≠ 58) → (∀ c ∈ b, c ≠ 58) → a ++ 58 :: y = b ++ 58 :: z → a = b
  | [], [], _, _, _, _, _ => rfl
  | [], d :: b, y, z, _, hb, e => by simp at e; exact absurd e.1.symm (hb d (List.mem_cons_self ..))
  | c :: a, [], y, z, ha, _, e => by simp at e; exact absurd e.1 (ha c (List.mem_cons_self ..))
  | c :: a, d :: b, y, z, ha, hb, e => by
    simp at e
    rw [e.1, col_inj a b y z (fun x hx => ha x (List.mem_cons_of_mem _ hx)) (fun x hx => hb x (List.mem_cons_of_mem _ hx)) e.2]
theorem strip_other (i j : Nat) (hij : i ≠ j) (n : Int) : strip (hd i) (piece j n).data.toList = none := by
  cases hs : strip (hd i) (piece j n).data.toList with
  | none => rfl
  | some y =>
    have := strip_some hs
    rw [piece_data] at this
    unfold hd at this
    rw [List.append_assoc, List.append_assoc] at this
    have e := col_inj _ _ _ _ (dec_nocol j) (dec_nocol i) this
    have := congrArg val e
    rw [dd_val, dd_val] at this
    exact absurd this.symm hij
theorem RFn_pass (k i : Nat) (l : List Int) (out : List Int) : RFn (k + 1) i ((PT l k (i + 1)).map (·.data.toList)) out = RFn k (i + 1) ((PT l k (i + 1)).map (·.data.toList)) out := by
  cases hp : PT l k (i + 1) with
  | nil => rw [List.map_nil, RFn_nil, RFn_nil]
  | cons x r =>
    obtain ⟨j, hj, n, e⟩ := PT_idx l k (i + 1) x (by rw [hp]; exact List.mem_cons_self ..)
    rw [List.map_cons]
    conv => lhs; unfold RFn
    rw [e, strip_other i j (by omega) n]
theorem RFn_text (l : List Int) (hl : l.length = 64) (hr : RightP l) : ∀ (k i : Nat), i + k = 64 → ∀ out : List Int, out.length = 64 → (∀ j, j < 64 → out.getD j 0 = if j < i then l.getD j 0 else 0) → RFn k i ((PT l k i).map (·.data.toList)) out = some l
  | 0, i, h, out, ho, hj => by
    show (if ([] : List (List UInt8)) = [] then some out else none) = some l
    rw [if_pos rfl]
    congr 1
    apply List.ext_getElem?
    intro j
    by_cases hj64 : j < 64
    · have := hj j hj64
      rw [if_pos (by omega), List.getD_eq_getElem?_getD, List.getD_eq_getElem?_getD, List.getElem?_eq_getElem (by omega), List.getElem?_eq_getElem (by omega)] at this
      rw [List.getElem?_eq_getElem (by omega), List.getElem?_eq_getElem (by omega)]
      simpa using this
    · rw [List.getElem?_eq_none (by omega), List.getElem?_eq_none (by omega)]
  | k + 1, i, h, out, ho, hj => by
    obtain ⟨x, hx⟩ := va_len l hl i (by omega)
    have hgx : l.getD i 0 = x := by rw [List.getD_eq_getElem?_getD, hx]; rfl
    have hrx := hr i x hx
    show RFn (k + 1) i ((pc l i ++ PT l k (i + 1)).map _) out = some l
    unfold pc
    rw [hgx]
    by_cases hpos : 0 < x
    · rw [if_pos hpos]
      show RFn (k + 1) i ((piece i x).data.toList :: (PT l k (i + 1)).map _) out = some l
      unfold RFn
      rw [piece_data, strip_app]
      have e18 : (10 : Nat) ^ 18 = 1000000000000000000 := by decide
      have hn : numOf (Lib.decDigits x.toNat) = some x.toNat := num_dd _ (by rw [e18]; omega)
      simp only [hn]
      rw [if_neg (by omega), show ((x.toNat : Nat) : Int) = x by omega]
      refine RFn_text l hl hr k (i + 1) (by omega) _ (by rw [List.length_set]; exact ho) fun j hj64 => ?_
      rw [List.getD_eq_getElem?_getD, List.getElem?_set]
      by_cases e : i = j
      · subst e
        rw [if_pos rfl, if_pos (by omega), if_pos (by omega), hgx]; rfl
      · rw [if_neg e, ← List.getD_eq_getElem?_getD, hj j hj64]
        by_cases h1 : j < i
        · rw [if_pos h1, if_pos (by omega)]
        · rw [if_neg h1, if_neg (by omega)]
    · rw [if_neg hpos, List.nil_append, RFn_pass]
      refine RFn_text l hl hr k (i + 1) (by omega) out ho fun j hj64 => ?_
      rw [hj j hj64]
      by_cases h1 : j < i
      · rw [if_pos h1, if_pos (by omega)]
      · rw [if_neg h1]
        by_cases h2 : j < i + 1
        · have : j = i := by omega
          subst this
          rw [if_pos h2, hgx]; omega
        · rw [if_neg h2]
theorem textF_jo (l : List Int) : (textF l).data.toList = jo ((PT l 64 0).map (·.data.toList)) := by
  unfold textF
  rw [partsF_PT]
  simp
  rfl
theorem parse_text (l : List Int) (hl : l.length = 64) (hr : RightP l) : parseR (textF l) = some l := by
  have hfin := RFn_text l hl hr 64 0 rfl zs zs_len (fun j hj => by rw [if_neg (Nat.not_lt_zero _), List.getD_eq_getElem?_getD, zs_get j hj]; rfl)
  have hjo := textF_jo l
  have hno := PT_no l 64 0
  have hix := PT_idx l 64 0
  generalize PT l 64 0 = ps at *
  by_cases h0 : (textF l).size = 0
  · unfold parseR
    rw [if_pos h0]
    have hd0 : (textF l).data.toList = [] := List.eq_nil_of_length_eq_zero (by rw [size_list]; exact h0)
    rw [hjo] at hd0
    cases ps with
    | nil => rw [List.map_nil, RFn_nil] at hfin; exact hfin
    | cons y t =>
      rw [List.map_cons, jo_cons] at hd0
      obtain ⟨j, _, n, e⟩ := hix y (List.mem_cons_self ..)
      have h1 := congrArg List.length hd0
      rw [List.length_append, e, piece_data, List.length_append, List.length_nil] at h1
      have := hd_len j
      omega
  · have hne : ps.map (·.data.toList) ≠ [] := fun e => h0 (by rw [← size_list, hjo, e]; rfl)
    rw [parseR_RFn _ h0, hjo, lsp_jo _ hne (fun x hx => by
      obtain ⟨y, hy, rfl⟩ := List.mem_map.1 hx
      exact hno y hy)]
    exact hfin
end Go.Proofs.YtiljmkglmanddaaDoor
