/- What is read of bytes: a number, a truth, a text, a stamp; and that it is what was written. Of no program. -/
import Derived.Test.YtifeakmbeaflgaaDoorWWPlain
set_option linter.unusedVariables false
namespace Go.Proofs.YtifeakmbeaflgaaDoor.Wi

/-- From the i-th byte on, with what was read so far: the error, how many bytes were taken, the number. -/
def rd (i : Nat) (acc : Int) : List Int → Int × Nat × Int
  | [] => (3, 0, 0)
  | c :: l => if (c = 0 ∧ 0 < i) ∨ (128 ≤ c ∧ i + 1 = 9) then (4, 0, 0) else if c < 128 then (0, i + 1, acc + c % 128 * 128 ^ i) else rd (i + 1) (acc + c % 128 * 128 ^ i) l

/-- A reader's state: what is left, and what is wrong. -/
structure St where
  bs : List Int
  bad : Int

def St.fail (s : St) (e : Int) : St := if s.bad ≠ 0 ∨ e = 0 then s else ⟨[], e⟩
def St.num (s : St) : Int × St := if s.bad ≠ 0 then (0, s) else if (rd 0 0 s.bs).1 = 0 then ((rd 0 0 s.bs).2.2, ⟨s.bs.drop (rd 0 0 s.bs).2.1, 0⟩) else (0, ⟨[], (rd 0 0 s.bs).1⟩)
def St.flag (s : St) : Bool × St := if s.num.1 > 1 then (false, s.num.2.fail 4) else (s.num.1 == 1, s.num.2)
def St.fin (s : St) : St := if s.bs.length > 0 then s.fail 4 else s
def bytesOf (l : List Int) : ByteArray := ⟨(l.map fun x => UInt8.ofNat x.toNat).toArray⟩
def St.text (s : St) (most : Int) : ByteArray × St :=
  if s.num.2.bad ≠ 0 then (⟨#[]⟩, s.num.2)
  else if s.num.1 > most then (⟨#[]⟩, s.num.2.fail 6)
  else if s.num.1 > s.num.2.bs.length then (⟨#[]⟩, s.num.2.fail 3)
  else (bytesOf (s.num.2.bs.take s.num.1.toNat), ⟨s.num.2.bs.drop s.num.1.toNat, s.num.2.bad⟩)
def St.stamp (s : St) : (Int × Int) × St := if s.num.2.num.2.bad ≠ 0 then ((0, 0), s.num.2.num.2) else ((s.num.1, s.num.2.num.1), s.num.2.num.2)

/-- Bytes. -/
def Byt (l : List Int) : Prop := ∀ x ∈ l, 0 ≤ x ∧ x < 256
theorem Byt.drop {l : List Int} (h : Byt l) (k : Nat) : Byt (l.drop k) := fun x hx => h x (List.mem_of_mem_drop hx)
theorem Byt.nil : Byt [] := fun x hx => by cases hx

/-- The powers that are met. -/
theorem pow_bound (i : Nat) (h : i < 9) : (128 : Int) ^ i ≤ 72057594037927936 ∧ 1 ≤ (128 : Int) ^ i := by
  match i, h with
  | 0, _ => decide
  | 1, _ => decide
  | 2, _ => decide
  | 3, _ => decide
  | 4, _ => decide
  | 5, _ => decide
  | 6, _ => decide
  | 7, _ => decide
  | 8, _ => decide

theorem rd_range : ∀ (l : List Int) (i : Nat) (acc : Int), Byt l → i < 9 → 0 ≤ acc → acc < 128 ^ i →
    0 ≤ (rd i acc l).2.2 ∧ (rd i acc l).2.2 < 9223372036854775808 ∧ ((rd i acc l).1 = 0 ∨ (rd i acc l).1 = 3 ∨ (rd i acc l).1 = 4) ∧ ((rd i acc l).1 = 0 → i < (rd i acc l).2.1 ∧ (rd i acc l).2.1 ≤ i + l.length)
  | [], i, acc, _, _, _, _ => by simp [rd]
  | c :: l, i, acc, hb, hi, h0, h1 => by
    have hc := hb c (List.mem_cons_self ..)
    have hp := pow_bound i hi
    have hs : (128 : Int) ^ (i + 1) = 128 * 128 ^ i := by rw [Int.pow_succ]; omega
    have hm : 0 ≤ c % 128 * 128 ^ i := Int.mul_nonneg (by omega) (by omega)
    have hm2 : c % 128 * 128 ^ i ≤ 127 * 128 ^ i := Int.mul_le_mul_of_nonneg_right (by omega) (by omega)
    unfold rd
    by_cases a : (c = 0 ∧ 0 < i) ∨ (128 ≤ c ∧ i + 1 = 9)
    · rw [if_pos a]; simp
    · rw [if_neg a]
      by_cases b : c < 128
      · rw [if_pos b]
        refine ⟨by show 0 ≤ acc + _; omega, by show acc + _ < _; omega, .inl rfl, fun _ => ⟨by show i < i + 1; omega, by show i + 1 ≤ _; simp only [List.length_cons]; omega⟩⟩
      · rw [if_neg b]
        have hi' : i + 1 < 9 := by omega
        have := rd_range l (i + 1) (acc + c % 128 * 128 ^ i) (fun x hx => hb x (List.mem_cons_of_mem _ hx)) hi' (by omega) (by rw [hs]; omega)
        refine ⟨this.1, this.2.1, this.2.2.1, fun h => ?_⟩
        have := this.2.2.2 h
        simp only [List.length_cons]
        omega
end Go.Proofs.YtifeakmbeaflgaaDoor.Wi
