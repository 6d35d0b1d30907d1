/- A beginning of records, one behind the other (plain). -/
import Derived.Test.YtpklcddfoegogaaReG
set_option linter.unusedVariables false
namespace Go.Proofs.Ytpklcddfoegogaa

def cat (l : List (List Nat)) : List Nat := l.flatMap rec
theorem cat_cons (b : List Nat) (r : List (List Nat)) : cat (b :: r) = rec b ++ cat r := rfl
theorem cat_snoc (l : List (List Nat)) (b : List Nat) : cat (l ++ [b]) = cat l ++ rec b := by unfold cat; rw [List.flatMap_append]; simp
def wn : List (List Nat) → Nat → Nat
  | [], _ => 0
  | b :: r, c => if b.length + 8 ≤ c then 1 + wn r (c - (b.length + 8)) else 0
def en : List (List Nat) → Nat → Nat
  | [], _ => 0
  | b :: r, c => if b.length + 8 ≤ c then b.length + 8 + en r (c - (b.length + 8)) else 0
theorem cat_len_cons (b : List Nat) (r : List (List Nat)) : (cat (b :: r)).length = b.length + 8 + (cat r).length := by rw [cat_cons, List.length_append, rec_length]
theorem wn_le : ∀ (l : List (List Nat)) (c : Nat), wn l c ≤ l.length
  | [], _ => Nat.le_refl _
  | b :: r, c => by
    have := wn_le r (c - (b.length + 8))
    show (if b.length + 8 ≤ c then 1 + wn r (c - (b.length + 8)) else 0) ≤ r.length + 1
    split <;> omega
theorem recs_cut : ∀ (l : List (List Nat)) (c at_ : Nat), (∀ b ∈ l, b.length ≤ 65536) → (recsAt at_ ((cat l).take c)).map (·.2) = l.take (wn l c) ∧ takes (recsAt at_ ((cat l).take c)) = en l c
  | [], c, at_, _ => by
    have : (cat []).take c = [] := by unfold cat; simp
    rw [this, recs_nil]
    exact ⟨rfl, rfl⟩
  | b :: r, c, at_, h => by
    have hb := h b (List.mem_cons_self ..)
    by_cases hc : b.length + 8 ≤ c
    · have ih := recs_cut r (c - (b.length + 8)) (at_ + (b.length + 8)) (fun x hx => h x (List.mem_cons_of_mem _ hx))
      have e : (cat (b :: r)).take c = rec b ++ (cat r).take (c - (b.length + 8)) := by
        rw [cat_cons, List.take_append, rec_length, List.take_of_length_le (by rw [rec_length]; exact hc)]
      rw [e, recs_one b _ hb]
      show (b :: (recsAt _ _).map (·.2)) = (b :: r).take (if b.length + 8 ≤ c then 1 + wn r (c - (b.length + 8)) else 0) ∧ b.length + 8 + takes _ = (if b.length + 8 ≤ c then b.length + 8 + en r (c - (b.length + 8)) else 0)
      rw [if_pos hc, if_pos hc, ih.1, ih.2, Nat.add_comm 1, List.take_succ_cons]
      exact ⟨rfl, rfl⟩
    · have e : (cat (b :: r)).take c = (rec b).take c := by
        rw [cat_cons, List.take_append_of_le_length (by rw [rec_length]; omega)]
      rw [e, recs_torn b c at_ hb (by omega)]
      show ([] : List (List Nat)) = (b :: r).take (if b.length + 8 ≤ c then 1 + wn r (c - (b.length + 8)) else 0) ∧ 0 = (if b.length + 8 ≤ c then b.length + 8 + en r (c - (b.length + 8)) else 0)
      rw [if_neg hc, if_neg hc]
      exact ⟨rfl, rfl⟩
theorem wn_snoc : ∀ (l : List (List Nat)) (b : List Nat) (c : Nat), wn (l ++ [b]) c = if (cat (l ++ [b])).length ≤ c then l.length + 1 else wn l c
  | [], b, c => by
    have e : (cat [b]).length = b.length + 8 := by rw [cat_len_cons]; rfl
    show (if b.length + 8 ≤ c then 1 + wn [] (c - (b.length + 8)) else 0) = (if (cat [b]).length ≤ c then 0 + 1 else 0)
    rw [e]
    rfl
  | a :: l, b, c => by
    have ih := wn_snoc l b (c - (a.length + 8))
    show (if a.length + 8 ≤ c then 1 + wn (l ++ [b]) (c - (a.length + 8)) else 0) = (if (cat (a :: (l ++ [b]))).length ≤ c then l.length + 1 + 1 else (if a.length + 8 ≤ c then 1 + wn l (c - (a.length + 8)) else 0))
    rw [cat_len_cons, ih]
    by_cases h1 : a.length + 8 ≤ c
    · rw [if_pos h1, if_pos h1]
      by_cases h2 : (cat (l ++ [b])).length ≤ c - (a.length + 8)
      · rw [if_pos h2, if_pos (by omega)]; omega
      · rw [if_neg h2, if_neg (by omega)]
    · rw [if_neg h1, if_neg h1, if_neg (by omega)]
theorem en_snoc : ∀ (l : List (List Nat)) (b : List Nat) (c : Nat), en (l ++ [b]) c = if (cat (l ++ [b])).length ≤ c then (cat (l ++ [b])).length else en l c
  | [], b, c => by
    have e : (cat [b]).length = b.length + 8 := by rw [cat_len_cons]; rfl
    show (if b.length + 8 ≤ c then b.length + 8 + en [] (c - (b.length + 8)) else 0) = (if (cat [b]).length ≤ c then (cat [b]).length else 0)
    rw [e]
    rfl
  | a :: l, b, c => by
    have ih := en_snoc l b (c - (a.length + 8))
    show (if a.length + 8 ≤ c then a.length + 8 + en (l ++ [b]) (c - (a.length + 8)) else 0) = (if (cat (a :: (l ++ [b]))).length ≤ c then (cat (a :: (l ++ [b]))).length else (if a.length + 8 ≤ c then a.length + 8 + en l (c - (a.length + 8)) else 0))
    rw [cat_len_cons, ih]
    by_cases h1 : a.length + 8 ≤ c
    · rw [if_pos h1, if_pos h1]
      by_cases h2 : (cat (l ++ [b])).length ≤ c - (a.length + 8)
      · rw [if_pos h2, if_pos (by omega)]
      · rw [if_neg h2, if_neg (by omega)]
    · rw [if_neg h1, if_neg h1, if_neg (by omega)]
/-- The same at whatever cut. -/
def wnI (l : List (List Nat)) (cut : Int) : Nat := if cut < 0 then 0 else wn l cut.toNat
def enI (l : List (List Nat)) (cut : Int) : Nat := if cut < 0 then 0 else en l cut.toNat
theorem wnI_yes (l : List (List Nat)) (b : List Nat) (cut : Int) (h : ((cat (l ++ [b])).length : Int) ≤ cut) : wnI (l ++ [b]) cut = l.length + 1 ∧ enI (l ++ [b]) cut = (cat (l ++ [b])).length := by
  unfold wnI enI
  rw [if_neg (by omega), if_neg (by omega), wn_snoc, en_snoc, if_pos (by omega), if_pos (by omega)]
  exact ⟨rfl, rfl⟩
theorem wnI_no (l : List (List Nat)) (b : List Nat) (cut : Int) (h : ¬ ((cat (l ++ [b])).length : Int) ≤ cut) : wnI (l ++ [b]) cut = wnI l cut ∧ enI (l ++ [b]) cut = enI l cut := by
  unfold wnI enI
  by_cases h0 : cut < 0
  · rw [if_pos h0, if_pos h0, if_pos h0, if_pos h0]; exact ⟨rfl, rfl⟩
  · rw [if_neg h0, if_neg h0, if_neg h0, if_neg h0, wn_snoc, en_snoc, if_neg (by omega), if_neg (by omega)]; exact ⟨rfl, rfl⟩
end Go.Proofs.Ytpklcddfoegogaa
