/- The sum of bytes, told by steps of one bit: plain facts, of no program. -/
import Derived.WalkKit
import Derived.Lib.Hide
set_option linter.unusedVariables false
namespace Go.Proofs.YtgbihpfpiaacfaaGreatDoor.Rc
open Go

def rule : Nat := 2197175160
def st (r : Nat) : Nat := if r % 2 = 1 then (r / 2) ^^^ rule else r / 2
def stn : Nat → Nat → Nat
  | 0, r => r
  | k + 1, r => stn k (st r)
theorem xor_odd (a b : Nat) : ((a ^^^ b) % 2 = 1) ↔ ¬ (a % 2 = 1 ↔ b % 2 = 1) := Nat.xor_mod_two_eq_one
theorem st_alt (r : Nat) : st r = (r / 2) ^^^ (if r % 2 = 1 then rule else 0) := by
  unfold st; split <;> simp
theorem x4 (a b r : Nat) : (a ^^^ r) ^^^ (b ^^^ r) = a ^^^ b := by
  apply Nat.eq_of_testBit_eq
  intro i
  simp only [Nat.testBit_xor]
  cases a.testBit i <;> cases b.testBit i <;> cases r.testBit i <;> rfl
theorem st_xor (a b : Nat) : st (a ^^^ b) = st a ^^^ st b := by
  rw [st_alt, st_alt, st_alt, Nat.xor_div_two]
  have h := xor_odd a b
  by_cases ha : a % 2 = 1 <;> by_cases hb : b % 2 = 1
  · rw [if_neg (by rw [h]; simp [ha, hb]), if_pos ha, if_pos hb]
    rw [Nat.xor_zero, x4]
  · rw [if_pos (by rw [h]; simp [ha, hb]), if_pos ha, if_neg hb]
    rw [Nat.xor_zero, Nat.xor_assoc, Nat.xor_assoc, Nat.xor_comm rule]
  · rw [if_pos (by rw [h]; simp [ha, hb]), if_neg ha, if_pos hb]
    rw [Nat.xor_zero, Nat.xor_assoc]
  · rw [if_neg (by rw [h]; simp [ha, hb]), if_neg ha, if_neg hb]
    rw [Nat.xor_zero, Nat.xor_zero, Nat.xor_zero]
theorem stn_xor : ∀ (k a b : Nat), stn k (a ^^^ b) = stn k a ^^^ stn k b
  | 0, _, _ => rfl
  | k + 1, a, b => by show stn k (st (a ^^^ b)) = stn k (st a) ^^^ stn k (st b); rw [st_xor, stn_xor k]
theorem st_zero : st 0 = 0 := rfl
theorem stn_zero : ∀ k, stn k 0 = 0
  | 0 => rfl
  | k + 1 => stn_zero k
theorem stn_succ : ∀ (k r : Nat), stn (k + 1) r = st (stn k r)
  | 0, _ => rfl
  | k + 1, r => by show stn (k + 1) (st r) = st (stn k (st r)); exact stn_succ k (st r)
theorem stn_add : ∀ (j k r : Nat), stn (j + k) r = stn k (stn j r)
  | 0, k, r => by rw [Nat.zero_add]; rfl
  | j + 1, k, r => by rw [show j + 1 + k = (j + k) + 1 by omega]; exact stn_add j k (st r)
theorem xor_lt (a b : Nat) (ha : a < 4294967296) (hb : b < 4294967296) : a ^^^ b < 4294967296 := Nat.xor_lt_two_pow (n := 32) ha hb
theorem rule_lt : rule < 4294967296 := by decide
theorem st_lt (r : Nat) (h : r < 4294967296) : st r < 4294967296 := by
  unfold st
  split
  · exact xor_lt _ _ (by omega) rule_lt
  · omega
theorem stn_lt : ∀ (k r : Nat), r < 4294967296 → stn k r < 4294967296
  | 0, _, h => h
  | k + 1, r, h => stn_lt k (st r) (st_lt r h)
/-- Only the low bits decide what is put in. -/
theorem stn_low : ∀ (k c : Nat), stn k c = stn k (c % 2 ^ k) ^^^ (c / 2 ^ k)
  | 0, c => by simp [stn, Nat.mod_one]
  | k + 1, c => by
    have e1 : (c % 2 ^ (k + 1)) / 2 = (c / 2) % 2 ^ k := by
      rw [Nat.pow_succ, Nat.mul_comm, Nat.mod_mul_right_div_self]
    have e2 : (c % 2 ^ (k + 1)) % 2 = c % 2 := by
      rw [Nat.pow_succ]; exact Nat.mod_mul_left_mod _ _ _
    have e3 : c / 2 ^ (k + 1) = (c / 2) / 2 ^ k := by rw [Nat.pow_succ, Nat.mul_comm, Nat.div_div_eq_div_mul]
    show stn k (st c) = stn k (st (c % 2 ^ (k + 1))) ^^^ _
    rw [st_alt, st_alt (c % _), e1, e2, e3, stn_xor, stn_xor, stn_low k (c / 2)]
    rw [Nat.xor_assoc, Nat.xor_comm (c / 2 / 2 ^ k), ← Nat.xor_assoc]
theorem nibble (c : Nat) : stn 4 c = stn 4 (c % 16) ^^^ (c / 16) := stn_low 4 c

/-- One bit is put in, as the document has it. -/
theorem bit_step (r x r' : Nat) (h : r' = if (r % 2 = x % 2) then r / 2 else (r / 2) ^^^ rule) : r' ^^^ (x / 2) = st (r ^^^ x) := by
  subst h
  rw [st_alt, Nat.xor_div_two]
  have h := xor_odd r x
  by_cases e : r % 2 = x % 2
  · rw [if_pos e, if_neg (by rw [h]; simp [e]), Nat.xor_zero]
  · rw [if_neg e, if_pos (by rw [h]; omega)]
    rw [Nat.xor_assoc, Nat.xor_comm rule, ← Nat.xor_assoc]

def bst (r x : Nat) : Nat := stn 8 (r ^^^ x)
theorem bst_lt (r x : Nat) (hr : r < 4294967296) (hx : x < 256) : bst r x < 4294967296 := stn_lt _ _ (xor_lt _ _ hr (by omega))
def reg (r : Nat) (l : List Nat) : Nat := l.foldl bst r
theorem reg_cons (r x : Nat) (l : List Nat) : reg r (x :: l) = reg (bst r x) l := rfl
theorem reg_snoc (r x : Nat) (l : List Nat) : reg r (l ++ [x]) = bst (reg r l) x := by unfold reg; rw [List.foldl_append]; rfl
theorem reg_append (r : Nat) (l m : List Nat) : reg r (l ++ m) = reg (reg r l) m := by unfold reg; rw [List.foldl_append]
theorem reg_lt : ∀ (l : List Nat) (r : Nat), r < 4294967296 → (∀ x ∈ l, x < 256) → reg r l < 4294967296
  | [], _, h, _ => h
  | x :: l, r, h, hl => by
    rw [reg_cons]
    exact reg_lt l _ (bst_lt r x h (hl x (List.mem_cons_self ..))) (fun y hy => hl y (List.mem_cons_of_mem _ hy))
def more (c : Nat) (l : List Nat) : Nat := 4294967295 - reg (4294967295 - c) l
theorem more_lt (c : Nat) (l : List Nat) : more c l < 4294967296 := by unfold more; omega
theorem more_append (c : Nat) (l m : List Nat) (hl : ∀ x ∈ l, x < 256) : more (more c l) m = more c (l ++ m) := by
  have h := reg_lt l (4294967295 - c) (by omega) hl
  unfold more
  rw [reg_append, show 4294967295 - (4294967295 - reg (4294967295 - c) l) = reg (4294967295 - c) l by omega]
theorem more_nil (c : Nat) (h : c < 4294967296) : more c [] = c := by unfold more reg; simp; omega
theorem ones_xor (c : Nat) (h : c < 4294967296) : 4294967295 ^^^ c = 4294967295 - c := by
  have e : BitVec.allOnes 32 ^^^ BitVec.ofNat 32 c = ~~~ (BitVec.ofNat 32 c) := by rw [BitVec.not_def]
  have e2 := congrArg BitVec.toNat e
  rw [BitVec.toNat_xor, BitVec.toNat_not, BitVec.toNat_allOnes, BitVec.toNat_ofNat, Nat.mod_eq_of_lt (show c < 2 ^ 32 from h)] at e2
  exact e2

/-- The sum as bytes, the lowest first. -/
def le4 (s : Nat) : List Nat := [s % 256, s / 256 % 256, s / 65536 % 256, s / 16777216 % 256]
theorem le4_lt (s : Nat) : ∀ x ∈ le4 s, x < 256 := by
  intro x hx
  unfold le4 at hx
  simp only [List.mem_cons, List.not_mem_nil, or_false] at hx
  omega
theorem le4_inj {a b : Nat} (ha : a < 4294967296) (hb : b < 4294967296) (h : le4 a = le4 b) : a = b := by
  unfold le4 at h
  injection h with h1 h; injection h with h2 h; injection h with h3 h; injection h with h4 h
  omega
def seal' (l : List Nat) : List Nat := l ++ le4 (more 0 l)
theorem seal_length (l : List Nat) : (seal' l).length = l.length + 4 := by unfold seal' le4; simp
theorem seal_lt {l : List Nat} (h : ∀ x ∈ l, x < 256) : ∀ x ∈ seal' l, x < 256 := by
  intro x hx
  rcases List.mem_append.1 hx with hx | hx
  · exact h x hx
  · exact le4_lt _ x hx
/-- Is a text a sealed one? -/
def Sealed (l : List Nat) : Prop := 4 ≤ l.length ∧ seal' (l.take (l.length - 4)) = l
theorem sealed_seal (l : List Nat) : Sealed (seal' l) := by
  refine ⟨by rw [seal_length]; omega, ?_⟩
  rw [seal_length, show l.length + 4 - 4 = l.length by omega]
  congr 1
  unfold seal'
  exact List.take_left
theorem sealed_iff (l : List Nat) (h : 4 ≤ l.length) : Sealed l ↔ le4 (more 0 (l.take (l.length - 4))) = l.drop (l.length - 4) := by
  unfold Sealed seal'
  constructor
  · rintro ⟨_, e⟩
    have h2 := List.take_append_drop (l.length - 4) l
    exact List.append_cancel_left (e.trans h2.symm)
  · intro e
    exact ⟨h, by rw [e]; exact List.take_append_drop _ _⟩

/-! ### what is found -/
theorem bst_xor (a b x y : Nat) : bst (a ^^^ b) (x ^^^ y) = bst a x ^^^ bst b y := by
  unfold bst
  rw [← stn_xor]
  congr 1
  rw [Nat.xor_assoc, ← Nat.xor_assoc b, Nat.xor_comm b x, Nat.xor_assoc x, ← Nat.xor_assoc a]
def xors : List Nat → List Nat → List Nat
  | x :: l, y :: m => (x ^^^ y) :: xors l m
  | _, _ => []
theorem reg_xors : ∀ (l m : List Nat) (a b : Nat), l.length = m.length → reg (a ^^^ b) (xors l m) = reg a l ^^^ reg b m
  | [], [], a, b, _ => rfl
  | x :: l, y :: m, a, b, h => by
    show reg (bst (a ^^^ b) (x ^^^ y)) (xors l m) = reg (bst a x) l ^^^ reg (bst b y) m
    rw [bst_xor]
    exact reg_xors l m _ _ (by simpa using h)
theorem st_inj {r : Nat} (h : r < 4294967296) (hz : st r = 0) : r = 0 := by
  unfold st at hz
  split at hz
  · have e : (r / 2 ^^^ rule) ^^^ rule = 0 ^^^ rule := by rw [hz]
    rw [Nat.xor_assoc, Nat.xor_self, Nat.xor_zero, Nat.zero_xor] at e
    have : rule = 2197175160 := rfl
    omega
  · omega
theorem stn_inj : ∀ (k r : Nat), r < 4294967296 → stn k r = 0 → r = 0
  | 0, _, _, h => h
  | k + 1, r, hr, h => st_inj hr (stn_inj k (st r) (st_lt r hr) h)
end Go.Proofs.YtgbihpfpiaacfaaGreatDoor.Rc
