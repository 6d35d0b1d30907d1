/- PathSelves' law. -/
import Derived.Test.YtgiiddcjepjgcaaDoorPJ
set_option linter.unusedVariables false
namespace Go.Proofs.YtgiiddcjepjgcaaDoor
open Go.RowKit

def noSign (q : ByteArray) : Prop := ∀ j, j < q.size → tb q j ≠ 42 ∧ tb q j ≠ 63
theorem noSign_mn {q : ByteArray} (h : noSign q) : mnB q = false := mn_ne q (fun e => by
  have hs : q = ⟨#[42, 42]⟩ := ba_ext e
  subst hs
  exact (h 0 (by decide)).1 (by decide))
theorem mf_plain (L : Nat → Nat → Bool) (mn : Nat → Bool) (n : Nat) (hmn : ∀ i, i < n → mn i = false) : ∀ i, i ≤ n → ∀ a, mf L mn i a = true ↔ a = i ∧ ∀ j, j < i → L j j = true
  | 0, _, a => by
    show (a == 0) = true ↔ _
    rw [beq_iff_eq]
    exact ⟨fun e => ⟨e, fun j hj => by omega⟩, fun h => h.1⟩
  | i + 1, hi, a => by
    have ih := mf_plain L mn n hmn i (by omega)
    show (if mn i then onB (mf L mn i) else stepB (mf L mn i) (fun a => L a i)) a = true ↔ _
    rw [hmn i (by omega), if_neg (by decide)]
    match a with
    | 0 =>
      show false = true ↔ _
      exact ⟨(fun h => by cases h), (fun h => by have := h.1; omega)⟩
    | a + 1 =>
      show (mf L mn i a && L a i) = true ↔ _
      rw [Bool.and_eq_true, ih a]
      constructor
      · rintro ⟨⟨rfl, h⟩, hb⟩
        refine ⟨rfl, fun j hj => ?_⟩
        by_cases e : j = a
        · subst e; exact hb
        · exact h j (by omega)
      · rintro ⟨e, h⟩
        have e' : a = i := by omega
        subst e'
        exact ⟨⟨rfl, fun j hj => h j (by omega)⟩, h a (by omega)⟩
def selfL (m l : List ByteArray) : Nat → Nat → Bool := fun a i => match m[a]?, l[i]? with | some s, some q => lf s q q.size s.size | _, _ => false
theorem selfL_at {m l : List ByteArray} {a i : Nat} {s q : ByteArray} (h1 : m[a]? = some s) (h2 : l[i]? = some q) : selfL m l a i = lf s q q.size s.size := by unfold selfL; rw [h1, h2]
theorem match_self (w : World) (v t : Value) (m l : List ByteArray) (h : SLies w v m) (hp : SLies w t l) (h1 : m.length ≤ 16 ∧ ∀ s ∈ m, s.size ≤ 300) (h2 : l.length ≤ 16 ∧ ∀ s ∈ l, s.size ≤ 300) (hn : ∀ q ∈ l, noSign q) (b : Bool) (hb : b = true ↔ l = m) :
    Calls Tryd.prog 16 #[v, t] w fun e w' => e = .returned (.bool b) ∧ Below w.heap.size w w' := by
  have R := match_any w v t m l h hp (by omega) (by omega) (selfL m l) (fun W _ a i s q ha hi hq => by
    rw [selfL_at ha hi]
    exact like_plain W s q (by have := h1.2 s (List.mem_of_getElem? ha); omega) (by have := h2.2 q (List.mem_of_getElem? hi); omega) (hn q (List.mem_of_getElem? hi)))
  have hmn : ∀ i, i < l.length → mnAt l i = false := fun i hi => by
    rw [mnAt_at (List.getElem?_eq_getElem hi)]
    exact noSign_mn (hn _ (List.getElem_mem hi))
  have e : mf (selfL m l) (mnAt l) l.length m.length = true ↔ l = m := by
    rw [mf_plain (selfL m l) (mnAt l) l.length hmn l.length (Nat.le_refl _)]
    constructor
    · rintro ⟨hs, hL⟩
      refine List.ext_getElem hs.symm fun j j1 j2 => ?_
      have := hL j j1
      rw [selfL_at (List.getElem?_eq_getElem j2) (List.getElem?_eq_getElem j1), lf_eq] at this
      exact this.symm
    · rintro rfl
      refine ⟨rfl, fun j hj => ?_⟩
      rw [selfL_at (List.getElem?_eq_getElem hj) (List.getElem?_eq_getElem hj), lf_eq]
  have e2 : mf (selfL m l) (mnAt l) l.length m.length = b := by
    cases hb' : b with
    | true => exact e.2 (hb.1 hb')
    | false =>
      cases q : mf (selfL m l) (mnAt l) l.length m.length with
      | false => rfl
      | true => exact absurd (hb.2 (e.1 q)) (by rw [hb']; decide)
  rwa [e2] at R
noncomputable def eqB (l m : List ByteArray) : Bool := @decide (l = m) (Classical.propDecidable _)
theorem eqB_iff (l m : List ByteArray) : eqB l m = true ↔ l = m := by unfold eqB; exact @decide_eq_true_iff _ (Classical.propDecidable _)
set_option maxRecDepth 100000 in
set_option maxHeartbeats 6400000 in
theorem selves_law (W : World) (m0 : Int) (hm : W.cell? ⟨0, 0, none⟩ = some (.int .i64 m0)) (v0 v1 : Value) (l m : List ByteArray) (h0 : SLies W v0 l) (h1 : SLies W v1 m) :
    Calls Tryd.prog 4 #[v0, v1] W fun e w' => e = .returned (.bool true) ∧ Below W.heap.size W w' := by
  have AW := Lib.hid (awake_any W m0 hm)
  have L0 : Calls Tryd.prog 5 #[v0, .int .i64 300] W fun e w' => e = .returned (.bool (longB l 300)) ∧ W = w' := long_any W v0 l 300 (by omega) h0
  have L1 : Calls Tryd.prog 5 #[v1, .int .i64 300] W fun e w' => e = .returned (.bool (longB m 300)) ∧ W = w' := long_any W v1 m 300 (by omega) h1
  cases hq0 : longB l 300 with
  | true =>
    rw [hq0] at L0
    have LL := Lib.hid L0
    clear L0 L1 hm
    go_enter Tryd.func4, Tryd.ntmps4
    go_wp2_with fail
    refine LL.out.mono ?_
    rintro e w1 ⟨rfl, rfl⟩
    go_wp2_with fail
    refine AW.out.mono ?_
    rintro e w1 ⟨rfl, hb⟩
    have HB := Lib.hid hb
    clear hb
    go_wp2
    go_returns
    exact ⟨rfl, HB.out⟩
  | false =>
    rw [hq0] at L0
    cases hq1 : longB m 300 with
    | true =>
      rw [hq1] at L1
      have LL := Lib.hid L0
      have LM := Lib.hid L1
      clear L0 L1 hm
      go_enter Tryd.func4, Tryd.ntmps4
      go_wp2_with fail
      refine LL.out.mono ?_
      rintro e w1 ⟨rfl, rfl⟩
      go_wp2_with fail
      refine LM.out.mono ?_
      rintro e w1 ⟨rfl, rfl⟩
      go_wp2_with fail
      refine AW.out.mono ?_
      rintro e w1 ⟨rfl, hb⟩
      have HB := Lib.hid hb
      clear hb
      go_wp2
      go_returns
      exact ⟨rfl, HB.out⟩
    | false =>
      rw [hq1] at L1
      have LL := Lib.hid L0
      have LM := Lib.hid L1
      have F0 := Lib.hid (longB_false hq0)
      have F1 := Lib.hid (longB_false hq1)
      have HM := Lib.hid hm
      have H0 := Lib.hid h0
      have H1 := Lib.hid h1
      have hl := h0.len
      clear L0 L1 hq0 hq1 hm
      obtain ⟨a0, c0, rfl, -⟩ := h0
      obtain ⟨a1, c1, rfl, -⟩ := h1
      go_enter Tryd.func4, Tryd.ntmps4
      go_wp2_with fail
      refine LL.out.mono ?_
      rintro e w1 ⟨rfl, rfl⟩
      go_wp2_with fail
      refine LM.out.mono ?_
      rintro e w1 ⟨rfl, rfl⟩
      clear LL LM
      go_wp2_with fail
      go_loop [5] (fun iv => ∃ i : Nat, iv = .int .i64 i ∧ i ≤ l.length ∧ Hid (∀ j q, j < i → l[j]? = some q → noSign q)) (fun iv => l.length - (intOf iv).toNat)
      case atStart => exact ⟨0, rfl, Nat.zero_le _, Lib.hid (fun j q hj => by omega)⟩
      case round =>
        obtain ⟨i, rfl, hi, hI⟩ := hrel
        by_cases hlt : i < l.length
        · obtain ⟨g, o, x, rfl, hx, hg, hc⟩ := H0.out.at' hlt
          have HX := Lib.hid hx
          have hxs : x.size ≤ 300 := F0.out.2 x (List.mem_of_getElem? hx)
          clear hx hg
          go_wp2_with fail
          go_loop [6] (fun kv => ∃ k : Nat, kv = .int .i64 k ∧ k ≤ x.size ∧ Hid (∀ j, j < k → tb x j ≠ 42 ∧ tb x j ≠ 63)) (fun kv => x.size - (intOf kv).toNat)
          case atStart => exact ⟨0, rfl, Nat.zero_le _, Lib.hid (fun j hj => by omega)⟩
          case round =>
            obtain ⟨k, rfl, hk, hK⟩ := hrel
            by_cases hkl : k < x.size
            · have HT := Lib.hid (tb_at x k hkl)
              by_cases e1 : (x[k]'hkl).toNat = 42
              · have t1 := beqb_ (((x[k]'hkl).toNat : Nat) : Int) 42 (by omega)
                clear e1
                go_wp2_with fail
                refine AW.out.mono ?_
                rintro e w1 ⟨rfl, hb⟩
                have HB := Lib.hid hb
                clear hb
                go_wp2
                go_returns
                exact ⟨rfl, HB.out⟩
              · have t1 := bneb_ (((x[k]'hkl).toNat : Nat) : Int) 42 (by omega)
                by_cases e2 : (x[k]'hkl).toNat = 63
                · have t2 := beqb_ (((x[k]'hkl).toNat : Nat) : Int) 63 (by omega)
                  clear e1 e2
                  go_wp2_with fail
                  refine AW.out.mono ?_
                  rintro e w1 ⟨rfl, hb⟩
                  have HB := Lib.hid hb
                  clear hb
                  go_wp2
                  go_returns
                  exact ⟨rfl, HB.out⟩
                · have t2 := bneb_ (((x[k]'hkl).toNat : Nat) : Int) 63 (by omega)
                  have HN := Lib.hid (show ∀ j, j < k + 1 → tb x j ≠ 42 ∧ tb x j ≠ 63 from fun j hj => by
                    by_cases e : j = k
                    · subst e
                      rw [HT.out]
                      exact ⟨e1, e2⟩
                    · exact hK.out j (by omega))
                  clear e1 e2
                  go_wp2_with fail
                  go_round
                  case rel => exact ⟨k + 1, by go_num, by omega, HN⟩
                  case measure => simp [intOf]; omega
            · have HN := Lib.hid (show ∀ j q, j < i + 1 → l[j]? = some q → noSign q from fun j q hj hq => by
                by_cases e : j = i
                · rw [e, HX.out] at hq
                  injection hq with hq
                  rw [← hq]
                  exact fun j hj => hK.out j (by omega)
                · exact hI.out j q (by omega) hq)
              go_wp2_with fail
              go_round
              case rel => exact ⟨i + 1, by go_num, by omega, HN⟩
              case measure => simp [intOf]; omega
        · have NS := Lib.hid (show ∀ q ∈ l, noSign q from fun q hq => by
            obtain ⟨j, hj⟩ := List.mem_iff_getElem?.1 hq
            exact hI.out j q (by have := (List.getElem?_eq_some_iff.1 hj).1; omega) hj)
          clear hI
          have MA := Lib.hid (match_self W _ _ m l H1.out H0.out F1.out F0.out NS.out (eqB l m) (eqB_iff l m))
          have h2 := fun w1 (hb : Below W.heap.size W w1) => rsame_gen w1 _ _ l m (H0.out.step hb) (H1.out.step hb) (eqB l m) (eqB_iff l m)
          have SA := Lib.hid h2
          have h3 := fun w1 (hb : Below W.heap.size W w1) => match_self w1 _ _ l l (H0.out.step hb) (H0.out.step hb) F0.out F0.out NS.out true ⟨fun _ => rfl, fun _ => rfl⟩
          have MS := Lib.hid h3
          clear h2 h3
          have hLT : 0 < W.heap.size := by
            rcases Nat.eq_zero_or_pos W.heap.size with q | q
            · have h := HM.out
              rw [World.cell?, Array.getElem?_eq_none (by show W.heap.size ≤ 0; omega)] at h
              simp at h
            · exact q
          have AX := Lib.hid (fun w1 (hb : Below W.heap.size W w1) => awake_any w1 m0 ((hb.cell (p := ⟨0, 0, none⟩) hLT).trans HM.out))
          clear hLT
          have teq : ∀ b : Bool, (b == b) = true := fun b => by cases b <;> rfl
          generalize eqB l m = bb at *
          go_wp2_with fail
          refine MA.out.mono ?_
          rintro e w1 ⟨rfl, hb⟩
          have B1 := Lib.hid hb
          clear hb MA
          go_wp2_with fail
          refine (SA.out _ B1.out).mono ?_
          rintro e w2 ⟨rfl, hb⟩
          have B2 := Lib.hid (B1.out.trans (hb.mono B1.out.size))
          clear hb SA
          go_wp2_with fail
          refine (MS.out _ B2.out).mono ?_
          rintro e w3 ⟨rfl, hb⟩
          have B3 := Lib.hid (B2.out.trans (hb.mono B2.out.size))
          clear hb MS
          go_wp2_with fail
          refine (AX.out _ B3.out).mono ?_
          rintro e w4 ⟨rfl, hb⟩
          have B4 := Lib.hid (B3.out.trans (hb.mono B3.out.size))
          clear hb AX
          go_wp2_with fail
          go_returns
          exact ⟨rfl, B4.out⟩
end Go.Proofs.YtgiiddcjepjgcaaDoor
