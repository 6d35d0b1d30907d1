/- Plain facts on the pieces of a text, of no program: where they begin, how many they are, which of them fit, and that the number of each, told bit by bit, is the model's own decoder's. No condition. -/
import Derived.Lib.DecodeN
import Derived.Lib.RuneCountTail
namespace Go.Proofs.YtkkeemhbokpngaaDoor
open Go

def wid (s : ByteArray) (p : Nat) : Nat := (Utf8.decode s p).2
def rn (s : ByteArray) (p : Nat) : Nat := (Utf8.decode s p).1

theorem decodeN_w (n b0 b1 b2 b3 : Nat) : 1 ≤ (Lib.decodeN n b0 b1 b2 b3).2 ∧ (Lib.decodeN n b0 b1 b2 b3).2 ≤ 4 ∧ (1 ≤ n → (Lib.decodeN n b0 b1 b2 b3).2 ≤ n) := by
  unfold Lib.decodeN
  repeat' split
  all_goals (simp only; omega)
theorem decodeN_r (n b0 b1 b2 b3 : Nat) (h0 : b0 < 256) : (Lib.decodeN n b0 b1 b2 b3).1 ≤ 1114111 := by
  unfold Lib.decodeN
  repeat' split
  all_goals (simp only; omega)
theorem wid_pos (s : ByteArray) (p : Nat) : 1 ≤ wid s p := by unfold wid; rw [Lib.decode_at]; exact (decodeN_w _ _ _ _ _).1
theorem wid_four (s : ByteArray) (p : Nat) : wid s p ≤ 4 := by unfold wid; rw [Lib.decode_at]; exact (decodeN_w _ _ _ _ _).2.1
theorem wid_fit (s : ByteArray) (p : Nat) (h : p < s.size) : p + wid s p ≤ s.size := by
  unfold wid; rw [Lib.decode_at]
  have := (decodeN_w (s.size - p) (s.get! p).toNat (s.get! (p + 1)).toNat (s.get! (p + 2)).toNat (s.get! (p + 3)).toNat).2.2 (by omega)
  omega
theorem rn_le (s : ByteArray) (p : Nat) : rn s p ≤ 1114111 := by unfold rn; rw [Lib.decode_at]; exact decodeN_r _ _ _ _ _ (UInt8.toNat_lt _)
/-- Where the k-th piece begins; behind the last one: the text's end. -/
def bd (s : ByteArray) : Nat → Nat
  | 0 => 0
  | k + 1 => if bd s k < s.size then bd s k + wid s (bd s k) else bd s k
theorem bd_succ (s : ByteArray) (k : Nat) (h : bd s k < s.size) : bd s (k + 1) = bd s k + wid s (bd s k) := by
  show (if bd s k < s.size then bd s k + wid s (bd s k) else bd s k) = _
  rw [if_pos h]
theorem bd_end (s : ByteArray) (k : Nat) (h : ¬ bd s k < s.size) : bd s (k + 1) = bd s k := by
  show (if bd s k < s.size then bd s k + wid s (bd s k) else bd s k) = _
  rw [if_neg h]
theorem bd_le (s : ByteArray) : ∀ k, bd s k ≤ s.size
  | 0 => Nat.zero_le _
  | k + 1 => by
    by_cases h : bd s k < s.size
    · rw [bd_succ s k h]; exact wid_fit s _ h
    · rw [bd_end s k h]; exact bd_le s k
theorem bd_step (s : ByteArray) (k : Nat) : bd s k ≤ bd s (k + 1) := by
  by_cases h : bd s k < s.size
  · rw [bd_succ s k h]; omega
  · rw [bd_end s k h]; exact Nat.le_refl _
theorem bd_mono (s : ByteArray) (i : Nat) : ∀ j, i ≤ j → bd s i ≤ bd s j
  | 0, h => by rw [show i = 0 by omega]; exact Nat.le_refl _
  | j + 1, h => by
    by_cases e : i = j + 1
    · rw [e]; exact Nat.le_refl _
    · exact Nat.le_trans (bd_mono s i j (by omega)) (bd_step s j)
theorem le_bd (s : ByteArray) : ∀ k, k ≤ bd s k ∨ bd s k = s.size
  | 0 => .inl (Nat.zero_le _)
  | k + 1 => by
    by_cases h : bd s k < s.size
    · have := wid_pos s (bd s k)
      rcases le_bd s k with e | e
      · left; rw [bd_succ s k h]; omega
      · omega
    · right; rw [bd_end s k h]; have := bd_le s k; omega

/-- N is how many pieces the text has. -/
def IsN (s : ByteArray) (N : Nat) : Prop := bd s N = s.size ∧ ∀ k, k < N → bd s k < s.size
theorem isN_exists (s : ByteArray) : ∃ N, IsN s N := by
  have key : ∀ m, (∃ N, IsN s N) ∨ (∀ k, k < m → bd s k < s.size) := by
    intro m
    induction m with
    | zero => exact .inr (fun k h => absurd h (Nat.not_lt_zero _))
    | succ m ih =>
      rcases ih with h | h
      · exact .inl h
      · by_cases e : bd s m < s.size
        · refine .inr fun k hk => ?_
          by_cases c : k = m
          · rw [c]; exact e
          · exact h k (by omega)
        · exact .inl ⟨m, by have := bd_le s m; omega, h⟩
  rcases key (s.size + 1) with h | h
  · exact h
  · have h1 := h s.size (by omega)
    rcases le_bd s s.size with e | e <;> omega
theorem isN_bd_lt {s : ByteArray} {N : Nat} (h : IsN s N) {i j : Nat} (hij : i < j) (hj : j ≤ N) : bd s i < bd s j := by
  have h1 := h.2 i (by omega)
  have h2 := bd_succ s i h1
  have h3 := wid_pos s (bd s i)
  have h4 := bd_mono s (i + 1) j (by omega)
  omega
theorem isN_ge {s : ByteArray} {N : Nat} (h : IsN s N) : ∀ k, k ≤ N → k ≤ bd s k := by
  intro k hk
  rcases le_bd s k with e | e
  · exact e
  · by_cases c : k < N
    · have := h.2 k c; omega
    · rw [show k = N by omega]
      cases N with
      | zero => exact Nat.zero_le _
      | succ M =>
        have h1 := h.2 M (by omega)
        rcases le_bd s M with g | g
        · have := isN_bd_lt h (show M < M + 1 by omega) (Nat.le_refl _); omega
        · omega
theorem isN_le {s : ByteArray} {N : Nat} (h : IsN s N) : N ≤ s.size := by have := isN_ge h N (Nat.le_refl _); rw [h.1] at this; exact this
theorem isN_succ {s : ByteArray} {N : Nat} (h : IsN s N) {k : Nat} (hk : k < N) : bd s (k + 1) = bd s k + wid s (bd s k) := bd_succ s k (h.2 k hk)

/-- The first j pieces are those that fit into 'most' bytes. -/
def IsFit (s : ByteArray) (N : Nat) (most : Int) (j : Nat) : Prop := j ≤ N ∧ (j = 0 ∨ (bd s j : Int) ≤ most) ∧ (j = N ∨ most < (bd s (j + 1) : Int))
theorem isFit_eq {s : ByteArray} {N : Nat} {most : Int} {i j : Nat} (hi : IsFit s N most i) (hj : IsFit s N most j) : i = j := by
  obtain ⟨i1, i2, i3⟩ := hi
  obtain ⟨j1, j2, j3⟩ := hj
  by_cases hlt : i < j
  · have := bd_mono s (i + 1) j (by omega); omega
  · by_cases hgt : j < i
    · have := bd_mono s (j + 1) i (by omega); omega
    · omega
theorem isFit_exists {s : ByteArray} {N : Nat} (most : Int) : ∃ j, IsFit s N most j := by
  have key : ∀ m, m ≤ N → (m = 0 ∨ (bd s m : Int) ≤ most) → ∃ j, IsFit s N most j := by
    intro m
    induction hd : N - m generalizing m with
    | zero => intro hm h; exact ⟨m, hm, h, .inl (by omega)⟩
    | succ d ih =>
      intro hm h
      by_cases c : most < (bd s (m + 1) : Int)
      · exact ⟨m, hm, h, .inr c⟩
      · exact ih (m + 1) (by omega) (by omega) (.inr (by omega))
  exact key 0 (Nat.zero_le _) (.inl rfl)

def tl (s : ByteArray) (p : Nat) : Int := if s.size ≤ p then -1 else if (s.get! p).toNat / 64 = 2 then ((s.get! p).toNat % 64 : Nat) else -1
theorem tl_bd (s : ByteArray) (p : Nat) : -1 ≤ tl s p ∧ tl s p < 64 := by unfold tl; split <;> (try split) <;> omega
def sev (s : ByteArray) (p : Nat) : Nat → Nat → Int → Int
  | 0, _, x => x
  | k + 1, i, x => if tl s (p + i) < 0 then -1 else sev s p k (i + 1) (64 * x + tl s (p + i))

theorem dec (s : ByteArray) (p : Nat) : (rn s p, wid s p) = Lib.decodeN (s.size - p) (s.get! p).toNat (s.get! (p + 1)).toNat (s.get! (p + 2)).toNat (s.get! (p + 3)).toNat := by
  unfold rn wid; rw [Lib.decode_at]

/-- What the piece at p is, by what its bytes are: one lemma for all ways. -/
def Nx (s : ByteArray) (p : Nat) (n : Nat) (r : Int) : Prop := (wid s p : Int) = n ∧ (rn s p : Int) = r
theorem tl_cases (s : ByteArray) (p i : Nat) : (tl s (p + i) < 0 ∧ ¬ (i < s.size - p ∧ (s.get! (p + i)).toNat / 64 = 2)) ∨ (tl s (p + i) = ((s.get! (p + i)).toNat % 64 : Nat) ∧ (i < s.size - p ∧ (s.get! (p + i)).toNat / 64 = 2)) := by
  unfold tl
  by_cases h : s.size ≤ p + i
  · left; rw [if_pos h]; omega
  · rw [if_neg h]
    by_cases g : (s.get! (p + i)).toNat / 64 = 2
    · right; rw [if_pos g]; exact ⟨rfl, by omega, g⟩
    · left; rw [if_neg g]; exact ⟨by omega, fun c => g c.2⟩

theorem nx_split (s : ByteArray) (p : Nat) {n : Nat} {r : Nat} (h : Lib.decodeN (s.size - p) (s.get! p).toNat (s.get! (p + 1)).toNat (s.get! (p + 2)).toNat (s.get! (p + 3)).toNat = (r, n)) : Nx s p n r := by
  have := dec s p
  rw [h] at this
  injection this with h1 h2
  exact ⟨by rw [h2], by rw [h1]⟩

theorem nx1 (s : ByteArray) (p c : Nat) (hc : (s.get! p).toNat = c) (h : c < 128) : Nx s p 1 c := by
  apply nx_split; unfold Lib.decodeN; rw [hc, if_pos h]

theorem sev2 (s : ByteArray) (p : Nat) (x : Int) : sev s p 1 1 x = if tl s (p + 1) < 0 then -1 else 64 * x + tl s (p + 1) := rfl
theorem sev3 (s : ByteArray) (p : Nat) (x : Int) : sev s p 2 1 x = if tl s (p + 1) < 0 then -1 else if tl s (p + 2) < 0 then -1 else 64 * (64 * x + tl s (p + 1)) + tl s (p + 2) := rfl
theorem sev4 (s : ByteArray) (p : Nat) (x : Int) : sev s p 3 1 x = if tl s (p + 1) < 0 then -1 else if tl s (p + 2) < 0 then -1 else if tl s (p + 3) < 0 then -1 else 64 * (64 * (64 * x + tl s (p + 1)) + tl s (p + 2)) + tl s (p + 3) := rfl

theorem nx2 (s : ByteArray) (p c : Nat) (hc : (s.get! p).toNat = c) (h : c / 32 = 6) :
    (128 ≤ sev s p 1 1 ((c : Int) % 32) ∧ Nx s p 2 (sev s p 1 1 ((c : Int) % 32))) ∨ (sev s p 1 1 ((c : Int) % 32) < 128 ∧ Nx s p 1 65533) := by
  rw [sev2]
  rcases tl_cases s p 1 with ⟨h1, g1⟩ | ⟨h1, g1⟩
  · right; rw [if_pos h1]
    refine ⟨by omega, nx_split s p ?_⟩
    unfold Lib.decodeN; rw [hc, if_neg (by omega), if_neg (fun k => g1 k.2), if_neg (by omega), if_neg (by omega)]
  · rw [h1, if_neg (by omega)]
    by_cases k : 128 ≤ 64 * ((c : Int) % 32) + ((s.get! (p + 1)).toNat % 64 : Nat)
    · left
      refine ⟨k, ?_⟩
      have := nx_split s p (n := 2) (r := c % 32 * 64 + (s.get! (p + 1)).toNat % 64) (by unfold Lib.decodeN; rw [hc, if_neg (by omega), if_pos ⟨h, g1⟩, if_pos (by omega)])
      exact ⟨this.1, by rw [this.2]; omega⟩
    · right
      refine ⟨by omega, nx_split s p ?_⟩
      unfold Lib.decodeN; rw [hc, if_neg (by omega), if_pos ⟨h, g1⟩, if_neg (by omega)]

theorem nx3 (s : ByteArray) (p c : Nat) (hc : (s.get! p).toNat = c) (h : c / 16 = 14) :
    (2048 ≤ sev s p 2 1 ((c : Int) % 16) ∧ sev s p 2 1 ((c : Int) % 16) < 55296 ∧ Nx s p 3 (sev s p 2 1 ((c : Int) % 16))) ∨ (57343 < sev s p 2 1 ((c : Int) % 16) ∧ Nx s p 3 (sev s p 2 1 ((c : Int) % 16)))
      ∨ (sev s p 2 1 ((c : Int) % 16) < 2048 ∧ Nx s p 1 65533) ∨ (55296 ≤ sev s p 2 1 ((c : Int) % 16) ∧ sev s p 2 1 ((c : Int) % 16) ≤ 57343 ∧ Nx s p 1 65533) := by
  rw [sev3]
  rcases tl_cases s p 1 with ⟨h1, g1⟩ | ⟨h1, g1⟩
  · right; right; left; rw [if_pos h1]
    refine ⟨by omega, nx_split s p ?_⟩
    unfold Lib.decodeN; rw [hc, if_neg (by omega), if_neg (by omega), if_neg (fun k => g1 k.2.1), if_neg (by omega)]
  · rcases tl_cases s p 2 with ⟨h2, g2⟩ | ⟨h2, g2⟩
    · right; right; left; rw [h1, if_neg (by omega), if_pos h2]
      refine ⟨by omega, nx_split s p ?_⟩
      unfold Lib.decodeN; rw [hc, if_neg (by omega), if_neg (by omega), if_neg (fun k => g2 k.2.2), if_neg (by omega)]
    · rw [h1, h2, if_neg (by omega), if_neg (by omega)]
      obtain ⟨a, ha⟩ : ∃ a, (s.get! (p + 1)).toNat % 64 = a := ⟨_, rfl⟩
      obtain ⟨b, hb⟩ : ∃ b, (s.get! (p + 2)).toNat % 64 = b := ⟨_, rfl⟩
      have e : Lib.decodeN (s.size - p) (s.get! p).toNat (s.get! (p + 1)).toNat (s.get! (p + 2)).toNat (s.get! (p + 3)).toNat =
          (if c % 16 * 4096 + a * 64 + b ≥ 2048 ∧ (c % 16 * 4096 + a * 64 + b < 55296 ∨ (57344 ≤ c % 16 * 4096 + a * 64 + b ∧ c % 16 * 4096 + a * 64 + b ≤ 1114111)) then (c % 16 * 4096 + a * 64 + b, 3) else (65533, 1)) := by
        unfold Lib.decodeN; rw [hc, if_neg (by omega), if_neg (by omega), if_pos ⟨h, g1, g2⟩, ha, hb]
      have hab : a < 64 ∧ b < 64 := by omega
      have ez : 64 * (64 * ((c : Int) % 16) + (a : Nat)) + (b : Nat) = ((c % 16 * 4096 + a * 64 + b : Nat) : Int) := by omega
      rw [ha, hb, ez]
      obtain ⟨z, hz⟩ : ∃ z, c % 16 * 4096 + a * 64 + b = z := ⟨_, rfl⟩
      have hz' : z < 65536 := by omega
      rw [hz] at e ⊢
      by_cases k1 : z < 2048
      · right; right; left; exact ⟨by omega, nx_split s p (by rw [e, if_neg (by omega)])⟩
      · by_cases k2 : z < 55296
        · left; exact ⟨by omega, by omega, nx_split s p (by rw [e, if_pos (by omega)])⟩
        · by_cases k3 : z ≤ 57343
          · right; right; right; exact ⟨by omega, by omega, nx_split s p (by rw [e, if_neg (by omega)])⟩
          · right; left; exact ⟨by omega, nx_split s p (by rw [e, if_pos (by omega)])⟩

theorem nx4 (s : ByteArray) (p c : Nat) (hc : (s.get! p).toNat = c) (h : c / 8 = 30) :
    (65536 ≤ sev s p 3 1 ((c : Int) % 8) ∧ sev s p 3 1 ((c : Int) % 8) ≤ 1114111 ∧ Nx s p 4 (sev s p 3 1 ((c : Int) % 8)))
      ∨ (sev s p 3 1 ((c : Int) % 8) < 65536 ∧ Nx s p 1 65533) ∨ (1114111 < sev s p 3 1 ((c : Int) % 8) ∧ Nx s p 1 65533) := by
  rw [sev4]
  rcases tl_cases s p 1 with ⟨h1, g1⟩ | ⟨h1, g1⟩
  · right; left; rw [if_pos h1]
    refine ⟨by omega, nx_split s p ?_⟩
    unfold Lib.decodeN; rw [hc, if_neg (by omega), if_neg (by omega), if_neg (by omega), if_neg (fun k => g1 k.2.1)]
  · rcases tl_cases s p 2 with ⟨h2, g2⟩ | ⟨h2, g2⟩
    · right; left; rw [h1, if_neg (by omega), if_pos h2]
      refine ⟨by omega, nx_split s p ?_⟩
      unfold Lib.decodeN; rw [hc, if_neg (by omega), if_neg (by omega), if_neg (by omega), if_neg (fun k => g2 k.2.2.1)]
    · rcases tl_cases s p 3 with ⟨h3, g3⟩ | ⟨h3, g3⟩
      · right; left; rw [h1, h2, if_neg (by omega), if_neg (by omega), if_pos h3]
        refine ⟨by omega, nx_split s p ?_⟩
        unfold Lib.decodeN; rw [hc, if_neg (by omega), if_neg (by omega), if_neg (by omega), if_neg (fun k => g3 k.2.2.2)]
      · rw [h1, h2, h3, if_neg (by omega), if_neg (by omega), if_neg (by omega)]
        obtain ⟨a, ha⟩ : ∃ a, (s.get! (p + 1)).toNat % 64 = a := ⟨_, rfl⟩
        obtain ⟨b, hb⟩ : ∃ b, (s.get! (p + 2)).toNat % 64 = b := ⟨_, rfl⟩
        obtain ⟨d, hd⟩ : ∃ d, (s.get! (p + 3)).toNat % 64 = d := ⟨_, rfl⟩
        have e : Lib.decodeN (s.size - p) (s.get! p).toNat (s.get! (p + 1)).toNat (s.get! (p + 2)).toNat (s.get! (p + 3)).toNat =
            (if c % 8 * 262144 + a * 4096 + b * 64 + d ≥ 65536 ∧ (c % 8 * 262144 + a * 4096 + b * 64 + d < 55296 ∨ (57344 ≤ c % 8 * 262144 + a * 4096 + b * 64 + d ∧ c % 8 * 262144 + a * 4096 + b * 64 + d ≤ 1114111)) then (c % 8 * 262144 + a * 4096 + b * 64 + d, 4) else (65533, 1)) := by
          unfold Lib.decodeN; rw [hc, if_neg (by omega), if_neg (by omega), if_neg (by omega), if_pos ⟨h, g1, g2, g3⟩, ha, hb, hd]
        have hab : a < 64 ∧ b < 64 ∧ d < 64 := by omega
        have ez : 64 * (64 * (64 * ((c : Int) % 8) + (a : Nat)) + (b : Nat)) + (d : Nat) = ((c % 8 * 262144 + a * 4096 + b * 64 + d : Nat) : Int) := by omega
        rw [ha, hb, hd, ez]
        obtain ⟨z, hz⟩ : ∃ z, c % 8 * 262144 + a * 4096 + b * 64 + d = z := ⟨_, rfl⟩
        rw [hz] at e ⊢
        by_cases k1 : z < 65536
        · right; left; exact ⟨by omega, nx_split s p (by rw [e, if_neg (by omega)])⟩
        · by_cases k2 : z ≤ 1114111
          · left; exact ⟨by omega, by omega, nx_split s p (by rw [e, if_pos (by omega)])⟩
          · right; right; exact ⟨by omega, nx_split s p (by rw [e, if_neg (by omega)])⟩

theorem nx0 (s : ByteArray) (p c : Nat) (hc : (s.get! p).toNat = c) (h0 : 128 ≤ c) (h1 : c / 32 ≠ 6) (h2 : c / 16 ≠ 14) (h3 : c / 8 ≠ 30) : Nx s p 1 65533 := by
  apply nx_split; unfold Lib.decodeN; rw [hc, if_neg (by omega), if_neg (by omega), if_neg (by omega), if_neg (by omega)]

end Go.Proofs.YtkkeemhbokpngaaDoor
