/- What a quoted text is, and what a text is the quotation of: plain facts. -/
import Derived.Test.YtiolkopmoailmaaDoorApartM
set_option linter.unusedVariables false
namespace Go.Proofs.YtiolkopmoailmaaDoor
open Go.RowKit

def hexL : List Nat := [48, 49, 50, 51, 52, 53, 54, 55, 56, 57, 65, 66, 67, 68, 69, 70]
def hexAt (k : Nat) : Nat := hexL.getD k 0
/-- The worth of a digit; 16: none. -/
def hexOf (b : Nat) : Nat := if 48 ≤ b ∧ b ≤ 57 then b - 48 else if 65 ≤ b ∧ b ≤ 70 then b - 55 else 16
theorem hexAt_lo (k : Nat) (h : k < 10) : hexAt k = 48 + k := by
  rcases (show k = 0 ∨ k = 1 ∨ k = 2 ∨ k = 3 ∨ k = 4 ∨ k = 5 ∨ k = 6 ∨ k = 7 ∨ k = 8 ∨ k = 9 by omega) with rfl | rfl | rfl | rfl | rfl | rfl | rfl | rfl | rfl | rfl <;> rfl
theorem hexAt_hi (k : Nat) (h : 10 ≤ k) (h2 : k < 16) : hexAt k = 55 + k := by
  rcases (show k = 10 ∨ k = 11 ∨ k = 12 ∨ k = 13 ∨ k = 14 ∨ k = 15 by omega) with rfl | rfl | rfl | rfl | rfl | rfl <;> rfl
theorem hex_there (k : Nat) (h : k < 16) : hexOf (hexAt k) = k ∧ 48 ≤ hexAt k ∧ hexAt k ≤ 70 := by
  by_cases h1 : k < 10
  · rw [hexAt_lo k h1]; unfold hexOf; rw [if_pos (by omega)]; omega
  · rw [hexAt_hi k (by omega) h]; unfold hexOf; rw [if_neg (by omega), if_pos (by omega)]; omega
theorem hex_back (b : Nat) (h : hexOf b < 16) : hexAt (hexOf b) = b := by
  unfold hexOf at h ⊢
  by_cases h1 : 48 ≤ b ∧ b ≤ 57
  · rw [if_pos h1, hexAt_lo _ (by omega)]; omega
  · rw [if_neg h1] at h ⊢
    by_cases h2 : 65 ≤ b ∧ b ≤ 70
    · rw [if_pos h2, hexAt_hi _ (by omega) (by omega)]; omega
    · rw [if_neg h2] at h; omega

def oneN (c : Nat) : List Nat := if plainB c then [c] else [37, hexAt (c / 16), hexAt (c % 16)]
theorem oneN_plain {c : Nat} (h : plainB c = true) : oneN c = [c] := by unfold oneN; rw [if_pos h]
theorem oneN_hex {c : Nat} (h : plainB c = false) : oneN c = [37, hexAt (c / 16), hexAt (c % 16)] := by unfold oneN; rw [if_neg (by rw [h]; decide)]
theorem plain_37 : plainB 37 = false := rfl
theorem plain_bd {c : Nat} (h : plainB c = true) : 33 ≤ c ∧ c ≤ 126 := by unfold plainB at h; have := of_decide_eq_true h; omega

/-- The byte that a text begins with, quoted, and how many bytes that takes. -/
def stp : List Nat → Option (Nat × Nat)
  | [] => none
  | a :: t => if plainB a then some (a, 1) else
    match t with
    | h :: l :: _ => if a = 37 ∧ hexOf h < 16 ∧ hexOf l < 16 ∧ plainB (16 * hexOf h + hexOf l) = false then some (16 * hexOf h + hexOf l, 3) else none
    | _ => none
theorem stp_plain {a : Nat} {t : List Nat} (h : plainB a = true) : stp (a :: t) = some (a, 1) := by
  simp [stp, h]
theorem stp_hex {a h l : Nat} {t : List Nat} (hp : plainB a = false) : stp (a :: h :: l :: t) = if a = 37 ∧ hexOf h < 16 ∧ hexOf l < 16 ∧ plainB (16 * hexOf h + hexOf l) = false then some (16 * hexOf h + hexOf l, 3) else none := by
  simp only [stp, hp, Bool.false_eq_true, if_false]
theorem stp_short {a : Nat} {t : List Nat} (hp : plainB a = false) (ht : t.length < 2) : stp (a :: t) = none := by
  match t, ht with
  | [], _ => simp [stp, hp]
  | [x], _ => simp [stp, hp]
theorem stp_some {l : List Nat} {c n : Nat} (h : stp l = some (c, n)) : oneN c = l.take n ∧ n = (oneN c).length ∧ 1 ≤ n ∧ n ≤ l.length ∧ (c < 256 ∨ ∃ t, l = c :: t) := by
  match l with
  | [] => simp [stp] at h
  | a :: t =>
    by_cases hp : plainB a = true
    · rw [stp_plain hp] at h
      injection h with h; injection h with h1 h2
      subst h1 h2
      rw [oneN_plain hp]
      simp
    · have hp := eq_false_of_ne_true hp
      match t with
      | [] => rw [stp_short hp (by simp)] at h; cases h
      | [x] => rw [stp_short hp (by simp)] at h; cases h
      | x :: y :: t =>
        rw [stp_hex hp] at h
        by_cases hc : a = 37 ∧ hexOf x < 16 ∧ hexOf y < 16 ∧ plainB (16 * hexOf x + hexOf y) = false
        · rw [if_pos hc] at h
          injection h with h; injection h with h1 h2
          subst h1 h2
          obtain ⟨rfl, c1, c2, c3⟩ := hc
          rw [oneN_hex c3, show (16 * hexOf x + hexOf y) / 16 = hexOf x by omega, show (16 * hexOf x + hexOf y) % 16 = hexOf y by omega, hex_back x c1, hex_back y c2]
          refine ⟨rfl, rfl, by omega, by simp, .inl (by omega)⟩
        · rw [if_neg hc] at h; cases h
theorem stp_of {l : List Nat} {c : Nat} (hc : c < 256) (h : oneN c <+: l) : stp l = some (c, (oneN c).length) := by
  obtain ⟨t, rfl⟩ := h
  by_cases hp : plainB c = true
  · rw [oneN_plain hp]; exact stp_plain hp
  · have hp := eq_false_of_ne_true hp
    rw [oneN_hex hp]
    show stp (37 :: hexAt (c / 16) :: hexAt (c % 16) :: t) = _
    have a1 := hex_there (c / 16) (by omega)
    have a2 := hex_there (c % 16) (by omega)
    have e : 16 * (c / 16) + c % 16 = c := by omega
    rw [stp_hex plain_37, a1.1, a2.1, e, if_pos ⟨rfl, by omega, by omega, hp⟩]
    rfl

def uqf : Nat → List Nat → Option (List Nat)
  | 0, _ => some []
  | f + 1, l => if l = [] then some [] else match stp l with
    | none => none
    | some (c, n) => (uqf f (l.drop n)).map (c :: ·)
theorem uqf_fuel : ∀ (f g : Nat) (l : List Nat), l.length ≤ f → l.length ≤ g → uqf f l = uqf g l
  | 0, g, l, h, _ => by
    obtain rfl := List.eq_nil_of_length_eq_zero (show l.length = 0 by omega)
    cases g <;> simp [uqf]
  | f + 1, 0, l, _, h => by
    obtain rfl := List.eq_nil_of_length_eq_zero (show l.length = 0 by omega)
    simp [uqf]
  | f + 1, g + 1, l, h1, h2 => by
    unfold uqf
    by_cases hl : l = []
    · rw [if_pos hl, if_pos hl]
    · rw [if_neg hl, if_neg hl]
      cases hs : stp l with
      | none => rfl
      | some r =>
        obtain ⟨c, n⟩ := r
        have := (stp_some hs).2.2
        show Option.map _ _ = Option.map _ _
        rw [uqf_fuel f g (l.drop n) (by rw [List.length_drop]; omega) (by rw [List.length_drop]; omega)]
def uqs (l : List Nat) : Option (List Nat) := uqf l.length l
theorem uqs_nil : uqs [] = some [] := rfl
theorem uqs_none {l : List Nat} (hl : l ≠ []) (h : stp l = none) : uqs l = none := by
  unfold uqs
  cases hn : l.length with
  | zero => exact absurd (List.eq_nil_of_length_eq_zero hn) hl
  | succ n => unfold uqf; rw [if_neg hl, h]
theorem uqs_some {l : List Nat} {c n : Nat} (h : stp l = some (c, n)) : uqs l = (uqs (l.drop n)).map (c :: ·) := by
  have h2 := stp_some h
  unfold uqs
  cases hn : l.length with
  | zero => omega
  | succ m =>
    conv => lhs; unfold uqf
    rw [if_neg (fun e => by rw [e] at hn; simp at hn), h]
    show Option.map _ _ = Option.map _ _
    rw [uqf_fuel m (l.drop n).length (l.drop n) (by rw [List.length_drop]; omega) (Nat.le_refl _)]

def nl (s : ByteArray) : List Nat := s.data.toList.map (·.toNat)
theorem nl_length (s : ByteArray) : (nl s).length = s.size := by unfold nl; rw [List.length_map, size_list]
theorem nl_lt (s : ByteArray) : ∀ x ∈ nl s, x < 256 := by
  intro x hx
  obtain ⟨b, _, rfl⟩ := List.mem_map.1 hx
  exact UInt8.toNat_lt _
theorem nl_get (s : ByteArray) (p : Nat) (h : p < s.size) : (nl s)[p]'(by rw [nl_length]; exact h) = (s[p]'h).toNat := by
  unfold nl
  rw [List.getElem_map]
  congr 1
theorem nl_drop (s : ByteArray) (p : Nat) (h : p < s.size) : (nl s).drop p = (s[p]'h).toNat :: (nl s).drop (p + 1) := by
  rw [List.drop_eq_getElem_cons (by rw [nl_length]; exact h), nl_get s p h]
theorem nl_extract (s : ByteArray) (a b : Nat) : nl (s.extract a b) = ((nl s).take b).drop a := by
  unfold nl; rw [ext_list, List.map_drop, List.map_take]
def ints (l : List Nat) : List Int := l.map (fun n : Nat => (n : Int))
theorem nl_str {l : List Nat} (h : ∀ x ∈ l, x < 256) : nl (strOfNums (ints l)) = l := by
  unfold nl ints
  rw [strOfNums_data, List.map_map, List.map_map]
  refine (List.map_congr_left (g := id) ?_).trans (List.map_id _)
  intro x hx
  have := h x hx
  show (UInt8.ofNat (x : Int).toNat).toNat = x
  rw [UInt8.toNat_ofNat']
  omega
theorem str_nl (s : ByteArray) : strOfNums (ints (nl s)) = s := by
  apply ba_ext
  unfold nl ints
  rw [strOfNums_data, List.map_map, List.map_map]
  refine (List.map_congr_left (g := id) ?_).trans (List.map_id _)
  intro x hx
  apply UInt8.toNat_inj.1
  have := UInt8.toNat_lt x
  show (UInt8.ofNat (x.toNat : Int).toNat).toNat = x.toNat
  rw [UInt8.toNat_ofNat']
  omega
theorem nl_ext {a b : ByteArray} (h : nl a = nl b) : a = b := by rw [← str_nl a, ← str_nl b, h]

def qn (l : List Nat) : List Nat := l.flatMap oneN
theorem oneN_good (c : Nat) (h : c < 256) : ∀ x ∈ oneN c, 33 ≤ x ∧ x ≤ 126 := by
  by_cases hp : plainB c = true
  · rw [oneN_plain hp]
    intro x hx
    obtain rfl : x = c := by simpa using hx
    exact plain_bd hp
  · rw [oneN_hex (eq_false_of_ne_true hp)]
    have a1 := hex_there (c / 16) (by omega)
    have a2 := hex_there (c % 16) (by omega)
    intro x hx
    rcases (show x = 37 ∨ x = hexAt (c / 16) ∨ x = hexAt (c % 16) by simpa using hx) with rfl | rfl | rfl <;> omega
theorem qn_good (l : List Nat) (h : ∀ x ∈ l, x < 256) : ∀ x ∈ qn l, 33 ≤ x ∧ x ≤ 126 := by
  intro x hx
  obtain ⟨c, hc, hx⟩ := List.mem_flatMap.1 hx
  exact oneN_good c (h c hc) x hx
theorem uqs_qn : ∀ (l : List Nat), (∀ x ∈ l, x < 256) → uqs (qn l) = some l
  | [], _ => rfl
  | c :: t, h => by
    have e : qn (c :: t) = oneN c ++ qn t := List.flatMap_cons
    have h1 := stp_of (l := qn (c :: t)) (h c (List.mem_cons_self ..)) ⟨qn t, e.symm⟩
    rw [uqs_some h1, e, List.drop_left, uqs_qn t (fun x hx => h x (List.mem_cons_of_mem _ hx))]
    rfl
theorem qn_snoc (l : List Nat) (c : Nat) : qn (l ++ [c]) = qn l ++ oneN c := by unfold qn; rw [List.flatMap_append]; simp
theorem oneN_len (c : Nat) : (oneN c).length ≤ 3 := by unfold oneN; split <;> simp
theorem qn_len (l : List Nat) : (qn l).length ≤ 3 * l.length := by
  induction l with
  | nil => simp [qn]
  | cons c t ih =>
    have e : qn (c :: t) = oneN c ++ qn t := List.flatMap_cons
    have := oneN_len c
    rw [e, List.length_append, List.length_cons]; omega
/-- A text quoted. -/
def quT (s : ByteArray) : ByteArray := strOfNums (ints (qn (nl s)))
theorem nl_quT (s : ByteArray) : nl (quT s) = qn (nl s) := nl_str (fun x hx => by have := qn_good _ (nl_lt s) x hx; omega)
theorem quT_size (s : ByteArray) : (quT s).size ≤ 3 * s.size := by
  unfold quT ints
  rw [strOfNums_size, List.length_map]
  have := qn_len (nl s)
  rw [nl_length] at this
  exact this
/-- What Unquote answers. -/
def uqV (s : ByteArray) : ByteArray × Bool := match uqs (nl s) with
  | some l => (strOfNums (ints l), true)
  | none => (⟨#[]⟩, false)
theorem uqV_quT (s : ByteArray) : uqV (quT s) = (s, true) := by
  unfold uqV
  rw [nl_quT, uqs_qn _ (nl_lt s)]
  show (strOfNums (ints (nl s)), true) = _
  rw [str_nl]
end Go.Proofs.YtiolkopmoailmaaDoor
