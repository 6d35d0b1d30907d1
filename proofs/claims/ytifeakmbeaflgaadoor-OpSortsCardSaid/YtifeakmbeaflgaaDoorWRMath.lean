/- What is read is what was written, and the other way round. Of no program. -/
import Derived.Test.YtifeakmbeaflgaaDoorWRPlain
set_option linter.unusedVariables false
namespace Go.Proofs.YtifeakmbeaflgaaDoor.Wi

theorem nb_cons (m c : Nat) (hc : c < 128) (hm : 0 < m) : nb (c + 128 * m) = ((c : Int) + 128) :: nb m := by
  rw [nb_big (by omega)]
  congr 1
  · omega
  · congr 1; omega

theorem rd_nb : ∀ (m : Nat) (i : Nat) (acc : Int) (rest : List Int), i < 9 → (m : Int) < 128 ^ (9 - i) → (0 < i → 0 < m) →
    rd i acc (nb m ++ rest) = (0, i + (nb m).length, acc + m * 128 ^ i) := by
  intro m
  induction m using Nat.strongRecOn with
  | ind m ih =>
    intro i acc rest hi hm h0
    by_cases hs : m < 128
    · rw [nb_small hs]
      show rd i acc ((m : Int) :: rest) = _
      unfold rd
      rw [if_neg (by omega), if_pos (by omega)]
      have : (m : Int) % 128 = m := by omega
      rw [this]
      rfl
    · rw [nb_big hs]
      show rd i acc (((m % 128 + 128 : Nat) : Int) :: (nb (m / 128) ++ rest)) = _
      have h9 : i + 1 < 9 := by
        rcases Nat.lt_or_ge (i + 1) 9 with h | h
        · exact h
        · have e : 9 - i = 1 := by omega
          rw [e] at hm
          have : (128 : Int) ^ 1 = 128 := rfl
          omega
      have hp : (128 : Int) ^ (9 - i) = 128 * 128 ^ (9 - (i + 1)) := by
        rw [show 9 - i = (9 - (i + 1)) + 1 by omega, Int.pow_succ]; omega
      unfold rd
      rw [if_neg (by omega), if_neg (by omega), ih (m / 128) (by omega) (i + 1) _ rest h9 (by rw [hp] at hm; omega) (by omega)]
      have e1 : (((m % 128 + 128 : Nat) : Int)) % 128 = ((m % 128 : Nat) : Int) := by omega
      have hs' : (128 : Int) ^ (i + 1) = 128 * 128 ^ i := by rw [Int.pow_succ]; omega
      rw [e1, hs']
      congr 1
      congr 1
      · simp only [List.length_cons]; omega
      · have : (m : Int) = ((m % 128 : Nat) : Int) + 128 * ((m / 128 : Nat) : Int) := by omega
        generalize (128 : Int) ^ i = p
        generalize ((m % 128 : Nat) : Int) = u at *
        generalize ((m / 128 : Nat) : Int) = d at *
        rw [this, Int.add_mul, Int.mul_assoc, Int.mul_comm d (128 * p), Int.mul_assoc, Int.mul_comm p d]
        omega

theorem rd_inv : ∀ (l : List Int) (i : Nat) (acc : Int) (k : Nat) (n : Int), Byt l → rd i acc l = (0, k, n) →
    ∃ (m : Nat) (rest : List Int), l = nb m ++ rest ∧ k = i + (nb m).length ∧ n = acc + m * 128 ^ i ∧ (0 < i → 0 < m)
  | [], i, acc, k, n, _, h => by simp [rd] at h
  | c :: l, i, acc, k, n, hb, h => by
    have hc := hb c (List.mem_cons_self ..)
    unfold rd at h
    by_cases a : (c = 0 ∧ 0 < i) ∨ (128 ≤ c ∧ i + 1 = 9)
    · rw [if_pos a] at h; simp at h
    · rw [if_neg a] at h
      by_cases b : c < 128
      · rw [if_pos b] at h
        simp only [Prod.mk.injEq, true_and] at h
        refine ⟨c.toNat, l, ?_, ?_, ?_, by omega⟩
        · rw [nb_small (by omega)]
          show c :: l = (c.toNat : Int) :: l
          congr 1; omega
        · rw [nb_small (by omega)]; exact h.1.symm
        · rw [← h.2, show c % 128 = c by omega, show (c.toNat : Int) = c by omega]
      · rw [if_neg b] at h
        obtain ⟨m, rest, h1, h2, h3, h4⟩ := rd_inv l (i + 1) _ k n (fun x hx => hb x (List.mem_cons_of_mem _ hx)) h
        have hm := h4 (by omega)
        have e := nb_cons m (c.toNat - 128) (by omega) hm
        refine ⟨c.toNat - 128 + 128 * m, rest, ?_, ?_, ?_, by omega⟩
        · rw [e, h1]
          show c :: (nb m ++ rest) = (((c.toNat - 128 : Nat) : Int) + 128) :: (nb m ++ rest)
          congr 1; omega
        · rw [e, h2]; simp only [List.length_cons]; omega
        · rw [h3]
          have hs' : (128 : Int) ^ (i + 1) = 128 * 128 ^ i := by rw [Int.pow_succ]; omega
          have hcv : ((c.toNat - 128 + 128 * m : Nat) : Int) = c % 128 + 128 * (m : Int) := by omega
          rw [hs', hcv]
          generalize (128 : Int) ^ i = p
          generalize c % 128 = u
          generalize (m : Int) = d
          rw [Int.add_mul, Int.mul_assoc, ← Int.mul_assoc d, Int.mul_comm d 128, Int.mul_assoc]
          omega

/-- A state where nothing is left if something is wrong. -/
def St.ok (s : St) : Prop := s.bad ≠ 0 → s.bs = []

theorem St.num_ok {s : St} (h : s.ok) : s.num.2.ok := by
  unfold St.num
  by_cases hb : s.bad ≠ 0
  · rw [if_pos hb]; exact h
  · rw [if_neg hb]
    by_cases k : (rd 0 0 s.bs).1 = 0
    · rw [if_pos k]; exact fun c => absurd rfl c
    · rw [if_neg k]; exact fun _ => rfl
theorem St.fail_ok {s : St} (h : s.ok) (e : Int) : (s.fail e).ok := by
  unfold St.fail
  by_cases hb : s.bad ≠ 0 ∨ e = 0
  · rw [if_pos hb]; exact h
  · rw [if_neg hb]; exact fun _ => rfl
theorem St.flag_ok {s : St} (h : s.ok) : s.flag.2.ok := by
  unfold St.flag
  by_cases hb : s.num.1 > 1
  · rw [if_pos hb]; exact St.fail_ok (St.num_ok h) 4
  · rw [if_neg hb]; exact St.num_ok h
theorem St.stamp_ok {s : St} (h : s.ok) : s.stamp.2.ok := by
  unfold St.stamp
  split
  · exact St.num_ok (St.num_ok h)
  · exact St.num_ok (St.num_ok h)
theorem St.text_ok {s : St} (h : s.ok) (m : Int) : (s.text m).2.ok := by
  unfold St.text
  split
  · exact St.num_ok h
  · rename_i h1
    split
    · exact St.fail_ok (St.num_ok h) 6
    · split
      · exact St.fail_ok (St.num_ok h) 3
      · exact fun c => absurd c (by simpa using h1)

theorem fail_bad (s : St) (e : Int) (he : e ≠ 0) : (s.fail e).bad ≠ 0 := by
  unfold St.fail
  by_cases hb : s.bad ≠ 0 ∨ e = 0
  · rw [if_pos hb]; exact hb.resolve_right he
  · rw [if_neg hb]; exact he

/-- What a number that was read was. -/
theorem St.num_inv {s : St} (hb : Byt s.bs) (h : s.num.2.bad = 0) : s.bad = 0 ∧ s.bs = nb s.num.1.toNat ++ s.num.2.bs ∧ 0 ≤ s.num.1 := by
  have h0 : s.bad = 0 := by
    by_cases c : s.bad = 0
    · exact c
    · unfold St.num at h; rw [if_pos c] at h; exact h
  have hn : s.num = if (rd 0 0 s.bs).1 = 0 then ((rd 0 0 s.bs).2.2, ⟨s.bs.drop (rd 0 0 s.bs).2.1, 0⟩) else (0, ⟨[], (rd 0 0 s.bs).1⟩) := by
    unfold St.num; rw [if_neg (by omega)]
  by_cases k : (rd 0 0 s.bs).1 = 0
  · rw [if_pos k] at hn
    obtain ⟨m, rest, h1, h2, h3, _⟩ := rd_inv s.bs 0 0 (rd 0 0 s.bs).2.1 (rd 0 0 s.bs).2.2 hb (Prod.ext k rfl)
    have e : (128 : Int) ^ 0 = 1 := rfl
    rw [e] at h3
    rw [hn]
    refine ⟨h0, ?_, ?_⟩
    · show s.bs = nb (rd 0 0 s.bs).2.2.toNat ++ s.bs.drop (rd 0 0 s.bs).2.1
      rw [h2, Nat.zero_add, h3, show ((0 : Int) + m * 1).toNat = m by omega]
      conv => lhs; rw [h1]
      conv => rhs; rw [h1]
      rw [List.drop_left]
    · show 0 ≤ (rd 0 0 s.bs).2.2
      omega
  · rw [if_neg k] at hn
    rw [hn] at h
    exact absurd h k

/-- What was written is read. -/
theorem St.num_nb (n : Nat) (rest : List Int) (hn : n ≤ 9223372036854775807) : (⟨nb n ++ rest, 0⟩ : St).num = ((n : Int), ⟨rest, 0⟩) := by
  have e9 : (128 : Int) ^ (9 - 0) = 9223372036854775808 := by decide
  have h := rd_nb n 0 0 rest (by omega) (by rw [e9]; omega) (by omega)
  have e : (128 : Int) ^ 0 = 1 := rfl
  rw [e, Int.zero_add, Int.mul_one, Nat.zero_add] at h
  unfold St.num
  rw [if_neg (by simp)]
  show (if (rd 0 0 (nb n ++ rest)).1 = 0 then ((rd 0 0 (nb n ++ rest)).2.2, (⟨(nb n ++ rest).drop (rd 0 0 (nb n ++ rest)).2.1, 0⟩ : St)) else (0, ⟨[], (rd 0 0 (nb n ++ rest)).1⟩)) = _
  rw [h, if_pos rfl]
  show ((n : Int), (⟨(nb n ++ rest).drop (nb n).length, 0⟩ : St)) = _
  rw [List.drop_left]

theorem St.flag_fb (b : Bool) (rest : List Int) : (⟨fb b ++ rest, 0⟩ : St).flag = (b, ⟨rest, 0⟩) := by
  have h : (⟨fb b ++ rest, 0⟩ : St).num = ((if b then 1 else 0), ⟨rest, 0⟩) := by
    cases b
    · have := St.num_nb 0 rest (by omega)
      rw [nb_small (by omega)] at this
      exact this
    · have := St.num_nb 1 rest (by omega)
      rw [nb_small (by omega)] at this
      exact this
  unfold St.flag
  rw [h]
  cases b <;> rfl
theorem bytesOf_strI (s : ByteArray) : bytesOf (strI s) = s := by
  unfold bytesOf strI
  rw [List.map_map]
  have : (List.map ((fun x : Int => UInt8.ofNat x.toNat) ∘ fun c : UInt8 => (c.toNat : Int)) s.data.toList) = s.data.toList := by
    conv => rhs; rw [← List.map_id s.data.toList]
    apply List.map_congr_left
    intro c _
    simp
  rw [this]
theorem strI_bytesOf (l : List Int) (h : Byt l) : strI (bytesOf l) = l := by
  unfold bytesOf strI
  simp only [List.map_map]
  conv => rhs; rw [← List.map_id l]
  apply List.map_congr_left
  intro x hx
  have := h x hx
  simp only [Function.comp, id]
  rw [UInt8.toNat_ofNat']
  omega
theorem St.text_tb (s : ByteArray) (rest : List Int) (hs : s.size ≤ 9223372036854775807) : (⟨tb s ++ rest, 0⟩ : St).text s.size = (s, ⟨rest, 0⟩) := by
  have h : (⟨tb s ++ rest, 0⟩ : St).num = ((s.size : Int), ⟨strI s ++ rest, 0⟩) := by
    unfold tb
    rw [List.append_assoc]
    exact St.num_nb s.size _ hs
  have hl := strI_len s
  unfold St.text
  rw [h]
  simp only
  rw [if_neg (by simp), if_neg (by omega), if_neg (by rw [List.length_append]; omega), Int.toNat_natCast, ← hl, List.take_left, List.drop_left, bytesOf_strI]
theorem St.stamp_stb (x y : Int) (rest : List Int) (hx : 0 ≤ x) (hx2 : x ≤ 9223372036854775807) (hy : 0 ≤ y) (hy2 : y ≤ 9223372036854775807) : (⟨stb x y ++ rest, 0⟩ : St).stamp = ((x, y), ⟨rest, 0⟩) := by
  have h1 : (⟨stb x y ++ rest, 0⟩ : St).num = (x, ⟨nb y.toNat ++ rest, 0⟩) := by
    unfold stb
    rw [List.append_assoc, St.num_nb x.toNat _ (by omega)]
    congr 1; omega
  have h2 : (⟨nb y.toNat ++ rest, 0⟩ : St).num = (y, ⟨rest, 0⟩) := by
    rw [St.num_nb y.toNat _ (by omega)]
    congr 1; omega
  unfold St.stamp
  rw [h1]
  simp only
  rw [h2]
  rfl

theorem St.flag_inv {s : St} (hb : Byt s.bs) (h : s.flag.2.bad = 0) : s.bs = fb s.flag.1 ++ s.flag.2.bs := by
  unfold St.flag at h ⊢
  by_cases c : s.num.1 > 1
  · rw [if_pos c] at h; exact absurd h (fail_bad _ _ (by omega))
  · rw [if_neg c] at h ⊢
    have := St.num_inv hb h
    have e : fb (s.num.1 == 1) = nb s.num.1.toNat := by
      rcases (show s.num.1 = 0 ∨ s.num.1 = 1 by omega) with e | e
      · rw [e]; exact (nb_small (n := 0) (by decide)).symm
      · rw [e]; exact (nb_small (n := 1) (by decide)).symm
    show s.bs = fb (s.num.1 == 1) ++ s.num.2.bs
    rw [e]; exact this.2.1
theorem num_byt {s : St} (hb : Byt s.bs) : Byt s.num.2.bs := by
  unfold St.num
  split
  · exact hb
  · split
    · exact hb.drop _
    · exact Byt.nil
theorem St.stamp_inv {s : St} (hb : Byt s.bs) (h : s.stamp.2.bad = 0) : s.bs = stb s.stamp.1.1 s.stamp.1.2 ++ s.stamp.2.bs := by
  unfold St.stamp at h ⊢
  by_cases c : s.num.2.num.2.bad ≠ 0
  · rw [if_pos c] at h; exact absurd h c
  · rw [if_neg c] at h ⊢
    have h2 := St.num_inv (num_byt hb) h
    have h1 := St.num_inv hb h2.1
    show s.bs = (nb s.num.1.toNat ++ nb s.num.2.num.1.toNat) ++ s.num.2.num.2.bs
    rw [List.append_assoc, ← h2.2.1]
    exact h1.2.1
theorem bytesOf_size (l : List Int) : (bytesOf l).size = l.length := by unfold bytesOf; simp [ByteArray.size]
theorem St.text_inv {s : St} (hb : Byt s.bs) (m : Int) (h : (s.text m).2.bad = 0) : s.bs = tb (s.text m).1 ++ (s.text m).2.bs ∧ ((s.text m).1.size : Int) ≤ m := by
  unfold St.text at h ⊢
  by_cases c : s.num.2.bad ≠ 0
  · rw [if_pos c] at h; exact absurd h c
  · rw [if_neg c] at h ⊢
    by_cases c2 : s.num.1 > m
    · rw [if_pos c2] at h; exact absurd h (fail_bad _ _ (by omega))
    · rw [if_neg c2] at h ⊢
      by_cases c3 : s.num.1 > s.num.2.bs.length
      · rw [if_pos c3] at h; exact absurd h (fail_bad _ _ (by omega))
      · rw [if_neg c3] at h ⊢
        have h1 := St.num_inv hb (by omega)
        have hsz : (bytesOf (s.num.2.bs.take s.num.1.toNat)).size = s.num.1.toNat := by rw [bytesOf_size, List.length_take]; omega
        refine ⟨?_, by show ((bytesOf (s.num.2.bs.take s.num.1.toNat)).size : Int) ≤ m; omega⟩
        show s.bs = (nb (bytesOf (s.num.2.bs.take s.num.1.toNat)).size ++ strI (bytesOf (s.num.2.bs.take s.num.1.toNat))) ++ s.num.2.bs.drop s.num.1.toNat
        rw [hsz, strI_bytesOf _ (fun x hx => num_byt hb x (List.mem_of_mem_take hx)), List.append_assoc, List.take_append_drop]
        exact h1.2.1
end Go.Proofs.YtifeakmbeaflgaaDoor.Wi
