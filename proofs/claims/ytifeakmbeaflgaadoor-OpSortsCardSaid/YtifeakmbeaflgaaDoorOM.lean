/- What was written of ops is read; what was read is written: plain. -/
import Derived.Test.YtifeakmbeaflgaaDoorOH
set_option linter.unusedVariables false
namespace Go.Proofs.YtifeakmbeaflgaaDoor
open Wi (St Byt nb tb fb stb)

theorem rO_parts {o : O} (h : rO o = true) : 1 ≤ o.t ∧ o.t ≤ 281474976710656 ∧ 0 ≤ o.r ∧ o.r ≤ 63 ∧ 1 ≤ o.q ∧ o.q ≤ 4294967296 ∧ 1 ≤ o.nt ∧ o.nt ≤ 281474976710656 ∧ 0 ≤ o.nr ∧ o.nr ≤ 63 ∧ 0 ≤ o.pt ∧ o.pt ≤ 281474976710656 ∧ 0 ≤ o.pr ∧ o.pr ≤ 63 ∧ o.nm.size ≤ 255 := by
  unfold rO rB at h
  simp only [Bool.and_eq_true, decide_eq_true_eq] at h
  obtain ⟨h1, h2, h3, h4, h5, h6, h7⟩ := h
  have hc := ckI_is o.nm
  rw [h7] at hc
  have hs : o.nm.size ≤ 255 := by
    rcases hc with ⟨_, c⟩ | ⟨_, _, _, c⟩ | ⟨_, _, c, _⟩
    · cases c
    · cases c
    · exact c
  have rr : ∀ a b, Go.Proofs.YtifeakmbeaflgaaDoor.St.rightB a b = true → 1 ≤ a ∧ a ≤ 281474976710656 ∧ 0 ≤ b ∧ b ≤ 63 := fun a b h => by
    unfold Go.Proofs.YtifeakmbeaflgaaDoor.St.rightB Go.Proofs.YtifeakmbeaflgaaDoor.St.rT Go.Proofs.YtifeakmbeaflgaaDoor.St.rR at h
    simp at h
    omega
  have a1 := rr _ _ h1
  have a2 := rr _ _ h4
  unfold rpB at h6
  split at h6
  · rename_i c; omega
  · split at h6
    · rename_i c; omega
    · simp only [Bool.and_eq_true] at h6
      have a3 := rr _ _ h6.1
      omega
theorem rO_fit {o : O} (h : rO o = true) : Fit o := by
  have := rO_parts h
  exact ⟨by omega, by omega, by omega, by omega, by omega, by omega, by omega⟩
theorem text_tb255 (s : ByteArray) (rest : List Int) (hs : s.size ≤ 255) : (⟨tb s ++ rest, 0⟩ : St).text 255 = (s, ⟨rest, 0⟩) := by
  have h : (⟨tb s ++ rest, 0⟩ : St).num = ((s.size : Int), ⟨Wi.strI s ++ rest, 0⟩) := by
    unfold tb
    rw [List.append_assoc]
    exact Wi.St.num_nb s.size _ (by omega)
  have hl := Wi.strI_len s
  unfold Wi.St.text
  rw [h]
  simp only
  rw [if_neg (by simp), if_neg (by omega), if_neg (by rw [List.length_append]; omega), Int.toNat_natCast, ← hl, List.take_left, List.drop_left, Wi.bytesOf_strI]
theorem getR_put {o : O} (h : rO o = true) (rest : List Int) : getR ⟨oB o ++ rest, 0⟩ = (o, ⟨rest, 0⟩) := by
  have p := rO_parts h
  have e : oB o ++ rest = stb o.t o.r ++ (nb o.q.toNat ++ (stb o.nt o.nr ++ (stb o.pt o.pr ++ (tb o.nm ++ (fb o.d ++ rest))))) := by
    unfold oB opB; simp only [List.append_assoc]
  have k1 := Wi.St.stamp_stb o.t o.r (nb o.q.toNat ++ (stb o.nt o.nr ++ (stb o.pt o.pr ++ (tb o.nm ++ (fb o.d ++ rest))))) (by omega) (by omega) (by omega) (by omega)
  have k2 := Wi.St.num_nb o.q.toNat (stb o.nt o.nr ++ (stb o.pt o.pr ++ (tb o.nm ++ (fb o.d ++ rest)))) (by omega)
  have k3 := Wi.St.stamp_stb o.nt o.nr (stb o.pt o.pr ++ (tb o.nm ++ (fb o.d ++ rest))) (by omega) (by omega) (by omega) (by omega)
  have k4 := Wi.St.stamp_stb o.pt o.pr (tb o.nm ++ (fb o.d ++ rest)) (by omega) (by omega) (by omega) (by omega)
  have k5 := text_tb255 o.nm (fb o.d ++ rest) (by omega)
  have k6 := Wi.St.flag_fb o.d rest
  unfold getR
  rw [e, k1]
  simp only
  rw [k2]
  simp only
  rw [k3]
  simp only
  rw [k4]
  simp only
  rw [k5]
  simp only
  rw [k6]
  simp only
  rw [show ((o.q.toNat : Nat) : Int) = o.q by omega]
theorem getO_put {o : O} (h : rO o = true) (rest : List Int) : getO ⟨oB o ++ rest, 0⟩ = (o, ⟨rest, 0⟩) := by
  have e := getR_put h rest
  have es : getS ⟨oB o ++ rest, 0⟩ = ⟨rest, 0⟩ := by unfold getS; rw [e]; simp only; rw [if_pos h]
  unfold getO
  rw [es, e]
  simp
theorem opsS_put (l : List O) (rest : List Int) (h : ∀ o ∈ l, rO o = true) : ∀ k, k ≤ l.length → opsS k ⟨bodyB l ++ rest, 0⟩ = (l.take k, ⟨bodyB (l.drop k) ++ rest, 0⟩)
  | 0, _ => by simp [opsS]
  | k + 1, hk => by
    have ih := opsS_put l rest h k (by omega)
    have hlt : k < l.length := by omega
    show ((opsS k ⟨bodyB l ++ rest, 0⟩).1 ++ [(getO (opsS k ⟨bodyB l ++ rest, 0⟩).2).1], (getO (opsS k ⟨bodyB l ++ rest, 0⟩).2).2) = _
    rw [ih]
    simp only
    have e : bodyB (l.drop k) ++ rest = oB l[k] ++ (bodyB (l.drop (k + 1)) ++ rest) := by
      rw [List.drop_eq_getElem_cons hlt]
      unfold bodyB
      rw [List.flatMap_cons, List.append_assoc]
    rw [e, getO_put (h _ (List.getElem_mem hlt)), List.take_succ_eq_append_getElem hlt]
theorem nb_pos (n : Nat) : 1 ≤ (nb n).length := by
  unfold Wi.nb
  split <;> simp
theorem bodyB_ge : ∀ l : List O, l.length ≤ (bodyB l).length
  | [] => Nat.le_refl _
  | o :: l => by
    have ih := bodyB_ge l
    have h1 : 1 ≤ (oB o).length := by
      unfold oB opB
      simp only [List.length_append]
      have := nb_pos o.q.toNat
      omega
    show (o :: l).length ≤ (oB o ++ bodyB l).length
    rw [List.length_append, List.length_cons]
    omega
theorem parse_code (l : List O) (hl : l.length ≤ 64) (h : ∀ o ∈ l, rO o = true) : parseO (codeB l) = (l, 0) := by
  have k1 := Wi.St.num_nb l.length (bodyB l) (by omega)
  have k2 := opsS_put l [] h l.length (Nat.le_refl _)
  have hg := bodyB_ge l
  rw [List.append_nil, List.append_nil, List.take_length, List.drop_length] at k2
  unfold parseO codeB
  rw [k1]
  simp only
  rw [if_neg (by rw [List.length_append]; omega), Int.toNat_natCast, k2]
  simp only
  have e : (⟨bodyB [], 0⟩ : St).fin = ⟨[], 0⟩ := rfl
  rw [e]
  simp
theorem byt_append {a b : List Int} (h : Byt a) (g : Byt b) : Byt (a ++ b) := fun x hx => (List.mem_append.1 hx).elim (h x) (g x)
theorem num_bad0 {s : St} (h : s.num.2.bad = 0) : s.bad = 0 := by
  by_cases c : s.bad = 0
  · exact c
  · unfold Wi.St.num at h; rw [if_pos c] at h; exact h
theorem flag_bad0 {s : St} (h : s.flag.2.bad = 0) : s.bad = 0 := by
  unfold Wi.St.flag at h
  split at h
  · exact absurd h (Wi.fail_bad _ _ (by omega))
  · exact num_bad0 h
theorem stamp_bad0 {s : St} (h : s.stamp.2.bad = 0) : s.bad = 0 := by
  unfold Wi.St.stamp at h
  split at h
  · exact num_bad0 (num_bad0 h)
  · exact num_bad0 (num_bad0 h)
theorem text_bad0 {s : St} {m : Int} (h : (s.text m).2.bad = 0) : s.bad = 0 := by
  unfold Wi.St.text at h
  split at h
  · exact num_bad0 h
  · split at h
    · exact absurd h (Wi.fail_bad _ _ (by omega))
    · split at h
      · exact absurd h (Wi.fail_bad _ _ (by omega))
      · exact num_bad0 h
theorem fail_byt {s : St} (hb : Byt s.bs) (e : Int) : Byt (s.fail e).bs := by
  unfold Wi.St.fail
  split
  · exact hb
  · exact Byt.nil
theorem flag_byt {s : St} (hb : Byt s.bs) : Byt s.flag.2.bs := by
  unfold Wi.St.flag
  split
  · exact fail_byt (Wi.num_byt hb) 4
  · exact Wi.num_byt hb
theorem stamp_byt {s : St} (hb : Byt s.bs) : Byt s.stamp.2.bs := by
  unfold Wi.St.stamp
  split
  · exact Wi.num_byt (Wi.num_byt hb)
  · exact Wi.num_byt (Wi.num_byt hb)
theorem text_byt {s : St} (hb : Byt s.bs) (m : Int) : Byt (s.text m).2.bs := by
  unfold Wi.St.text
  split
  · exact Wi.num_byt hb
  · split
    · exact fail_byt (Wi.num_byt hb) 6
    · split
      · exact fail_byt (Wi.num_byt hb) 3
      · exact (Wi.num_byt hb).drop _
theorem getR_byt {s : St} (hb : Byt s.bs) : Byt (getR s).2.bs := flag_byt (text_byt (stamp_byt (stamp_byt (Wi.num_byt (stamp_byt hb)))) 255)
theorem getS_byt {s : St} (hb : Byt s.bs) : Byt (getS s).bs := by
  unfold getS
  split
  · exact getR_byt hb
  · exact fail_byt (getR_byt hb) 2
theorem getO_snd (s : St) : (getO s).2 = getS s := by unfold getO; split <;> rfl
theorem getO_inv {s : St} (hb : Byt s.bs) (h : (getO s).2.bad = 0) : rO (getO s).1 = true ∧ s.bs = oB (getO s).1 ++ (getO s).2.bs ∧ s.bad = 0 := by
  rw [getO_snd] at h
  have e1 : (getO s).1 = (getR s).1 := by unfold getO; rw [if_neg (by simpa using h)]
  rw [getO_snd, e1]
  have hr : rO (getR s).1 = true := by
    cases c : rO (getR s).1 with
    | true => rfl
    | false =>
      unfold getS at h
      rw [c, if_neg (by decide)] at h
      exact absurd h (Wi.fail_bad _ _ (by omega))
  have e2 : getS s = (getR s).2 := by unfold getS; rw [if_pos hr]
  rw [e2] at h ⊢
  refine ⟨hr, ?_, ?_⟩
  · have b6 : (s.stamp.2.num.2.stamp.2.stamp.2.text 255).2.bad = 0 := flag_bad0 h
    have b5 : s.stamp.2.num.2.stamp.2.stamp.2.bad = 0 := text_bad0 b6
    have b4 : s.stamp.2.num.2.stamp.2.bad = 0 := stamp_bad0 b5
    have b3 : s.stamp.2.num.2.bad = 0 := stamp_bad0 b4
    have b2 : s.stamp.2.bad = 0 := num_bad0 b3
    have y1 := stamp_byt hb
    have y2 := Wi.num_byt y1
    have y3 := stamp_byt y2
    have y4 := stamp_byt y3
    have y5 := text_byt y4 255
    have q6 := Wi.St.flag_inv y5 h
    have q5 := (Wi.St.text_inv y4 255 b6).1
    have q4 := Wi.St.stamp_inv y3 b5
    have q3 := Wi.St.stamp_inv y2 b4
    have q2 := (Wi.St.num_inv y1 b3).2.1
    have q1 := Wi.St.stamp_inv hb b2
    unfold oB opB getR
    simp only [List.append_assoc]
    rw [← q6, ← q5, ← q4, ← q3, ← q2]
    exact q1
  · exact stamp_bad0 (num_bad0 (stamp_bad0 (stamp_bad0 (text_bad0 (flag_bad0 h)))))
theorem opsS_byt {s : St} (hb : Byt s.bs) : ∀ k, Byt (opsS k s).2.bs
  | 0 => hb
  | k + 1 => by
    show Byt (getO (opsS k s).2).2.bs
    rw [getO_snd]; exact getS_byt (opsS_byt hb k)
theorem opsS_inv {s : St} (hb : Byt s.bs) : ∀ k, (opsS k s).2.bad = 0 → s.bs = bodyB (opsS k s).1 ++ (opsS k s).2.bs ∧ (∀ o ∈ (opsS k s).1, rO o = true) ∧ s.bad = 0
  | 0, h => ⟨rfl, (fun o ho => by cases ho), h⟩
  | k + 1, h => by
    have hg : (getO (opsS k s).2).2.bad = 0 := h
    obtain ⟨g1, g2, g3⟩ := getO_inv (opsS_byt hb k) hg
    obtain ⟨i1, i2, i3⟩ := opsS_inv hb k g3
    refine ⟨?_, ?_, i3⟩
    · show s.bs = bodyB ((opsS k s).1 ++ [(getO (opsS k s).2).1]) ++ (getO (opsS k s).2).2.bs
      unfold bodyB at i1 ⊢
      rw [List.flatMap_append, List.append_assoc]
      rw [show List.flatMap oB [(getO (opsS k s).2).1] = oB (getO (opsS k s).2).1 by simp, ← g2]
      exact i1
    · intro o ho
      have ho' : o ∈ (opsS k s).1 ++ [(getO (opsS k s).2).1] := ho
      rcases List.mem_append.1 ho' with q | q
      · exact i2 o q
      · rw [List.mem_singleton] at q; rw [q]; exact g1
/-- What was parsed may be, and is told as just these bytes. -/
theorem parse_inv (bs : List Int) (hb : Byt bs) (h : (parseO bs).2 = 0) : codeB (parseO bs).1 = bs ∧ (∀ o ∈ (parseO bs).1, rO o = true) ∧ (parseO bs).1.length ≤ 64 := by
  unfold parseO at h ⊢
  by_cases c : (64 : Int) < (St.num ⟨bs, 0⟩).1 ∨ (bs.length : Int) < (St.num ⟨bs, 0⟩).1
  · rw [if_pos c] at h; cases h
  · rw [if_neg c] at h ⊢
    obtain ⟨n, hn⟩ : ∃ n, (opsS (St.num ⟨bs, 0⟩).1.toNat (St.num ⟨bs, 0⟩).2) = n := ⟨_, rfl⟩
    rw [hn] at h ⊢
    by_cases d : n.2.fin.bad ≠ 0
    · rw [if_pos d] at h; exact absurd h d
    · rw [if_neg d]
      have d' : n.2.fin.bad = 0 := by omega
      have hz : n.2.bs = [] ∧ n.2.bad = 0 := by
        unfold Wi.St.fin at d'
        by_cases q : n.2.bs.length > 0
        · rw [if_pos q] at d'; exact absurd d' (Wi.fail_bad _ _ (by omega))
        · rw [if_neg q] at d'; exact ⟨List.eq_nil_of_length_eq_zero (by omega), d'⟩
      have hy : Byt (St.num ⟨bs, 0⟩).2.bs := Wi.num_byt (s := ⟨bs, 0⟩) hb
      have hi := opsS_inv hy (St.num ⟨bs, 0⟩).1.toNat (by rw [hn]; exact hz.2)
      rw [hn] at hi
      have hm := Wi.St.num_inv (s := ⟨bs, 0⟩) hb hi.2.2
      have hl : n.1.length = (St.num ⟨bs, 0⟩).1.toNat := by rw [← hn]; exact opsS_len _ _
      refine ⟨?_, hi.2.1, ?_⟩
      · show nb n.1.length ++ bodyB n.1 = bs
        rw [hl]
        have e1 := hi.1
        rw [hz.1, List.append_nil] at e1
        rw [← e1]
        exact hm.2.1.symm
      · show n.1.length ≤ 64
        rw [hl]; omega
theorem parse_bad_nil (bs : List Int) (h : (parseO bs).2 ≠ 0) : (parseO bs).1 = [] := by
  unfold parseO at h ⊢
  split
  · rfl
  · split
    · rfl
    · rename_i c d
      rw [if_neg c, if_neg d] at h
      exact absurd rfl h
end Go.Proofs.YtifeakmbeaflgaaDoor
