/- hold: what Put leaves may be held; the chapter's example, plain. -/
import Derived.Test.YtgnnpfainoppeaaDoorHJ
set_option linter.unusedVariables false
set_option linter.unusedSimpArgs false
set_option maxRecDepth 100000
namespace Go.Proofs.YtgnnpfainoppeaaDoor
open Go.RowKit
open Ve (zs zs_len textF RightP sumW)

theorem part_last {bs : List Int} {L : Nat → List O} {m : Nat} (g : Gd bs L m) (i : Nat) (hi : i < 64) (x : Int) (hx : bs[i]? = some x) (z : O) (hz : (L i).getLast? = some z) :
    partF L (i : Int) (x + ((L i).length : Int)) (x + ((L i).length : Int)) = [z] := by
  have hne : L i ≠ [] := by intro e; rw [e] at hz; cases hz
  have hpos : 0 < (L i).length := List.length_pos_iff.2 hne
  obtain ⟨h1, _⟩ := part_some g i hi x hx (x + ((L i).length : Int)) (x + ((L i).length : Int)) ((L i).length - 1) (L i).length (by omega) (by omega) (by omega)
  rw [h1, List.take_length]
  rw [List.getLast?_eq_getElem?] at hz
  apply List.ext_getElem?
  intro j
  rw [List.getElem?_drop]
  cases j with
  | zero => simpa using hz
  | succ j => rw [List.getElem?_eq_none (by omega)]; rfl
theorem put_gd {bs : List Int} {L : Nat → List O} {m : Nat} (g : Gd bs L m) (o : O) : Gd bs (putL bs L o) (m + 1) := by
  unfold putL
  by_cases hp : putI bs L o = 0
  · rw [if_pos hp]
    unfold putI at hp
    by_cases hr : rO o = true
    · rw [if_pos hr] at hp
      obtain ⟨ft, fr, fq⟩ := rO_facts hr
      obtain ⟨i, hi⟩ : ∃ i : Nat, o.r = (i : Int) := ⟨o.r.toNat, by omega⟩
      have hi64 : i < 64 := by omega
      obtain ⟨x, hx⟩ : ∃ x, bs[i]? = some x := ⟨bs[i]'(by have := g.len; omega), List.getElem?_eq_getElem _⟩
      have hk : knO bs L o.r = x + ((L i).length : Int) := by
        rw [hi]; unfold knO; rw [Int.toNat_natCast, getD_some (kn_get bs L i hi64 x hx)]
      rw [hk] at hp
      have h1 : ¬ (o.q ≤ x + ((L i).length : Int)) := fun h => by rw [if_pos h] at hp; cases hp
      rw [if_neg h1] at hp
      have h2 : ¬ (x + ((L i).length : Int) + 1 < o.q) := fun h => by rw [if_pos h] at hp; cases hp
      rw [if_neg h2] at hp
      have h3 : lateB L o (x + ((L i).length : Int)) = false := by
        cases hl : lateB L o (x + ((L i).length : Int)) with
        | false => rfl
        | true => rw [hl] at hp; cases hp
      rw [hi, Int.toNat_natCast]
      refine g.put o i hi64 x hx hi (by omega) ⟨ft.1, ft.2, fq.2⟩ fun p hp => ?_
      cases hz : (L i).getLast? with
      | none => rw [List.getLast?_eq_none_iff] at hz; rw [hz] at hp; cases hp
      | some z =>
        have h4 := part_last g i hi64 x hx z hz
        unfold lateB at h3
        rw [hi, h4] at h3
        have h5 : ¬ (o.t ≤ z.t) := by simpa using h3
        have h6 : p.t ≤ z.t := by
          have hu := g.up i hi64
          obtain ⟨ys, hys⟩ := List.getLast?_eq_some_iff.1 hz
          rw [hys] at hp hu
          rcases List.mem_append.1 hp with hp | hp
          · have := (List.pairwise_append.1 hu).2.2 p hp z (List.mem_singleton_self z); omega
          · rw [List.mem_singleton.1 hp]; omega
        omega
    · rw [if_neg hr] at hp; cases hp
  · rw [if_neg hp]; exact g.mono (Nat.le_succ _)
def nilL : Nat → List O := fun _ => []
theorem gd_nil {bs : List Int} (hl : bs.length = 64) (hb : RightP bs) : Gd bs nilL 0 :=
  ⟨hl, hb, fun i _ o ho => (by cases ho), fun i x _ _ j o ho => (by cases ho), fun i _ => List.Pairwise.nil, fun i _ o ho => (by cases ho), fun i _ => Nat.le_refl _⟩
theorem right_zs : RightP zs := fun j x h => by
  have := List.mem_of_getElem? h
  unfold zs at this
  rw [List.eq_of_mem_replicate this]; omega
theorem check_one {s : ByteArray} {c d : Int} (h : CheckIs s c) (g : CheckIs s d) : c = d := by
  rcases h with ⟨h1, rfl⟩ | ⟨h1, h2, h3, rfl⟩ | ⟨h1, h2, h3, rfl⟩ <;> rcases g with ⟨g1, rfl⟩ | ⟨g1, g2, g3, rfl⟩ | ⟨g1, g2, g3, rfl⟩ <;> first | rfl | omega | (rcases h1 with q | q <;> contradiction) | (rcases g1 with q | q <;> contradiction)
theorem ckI_eq {s : ByteArray} {c : Int} (h : CheckIs s c) : ckI s = c := check_one (ckI_is s) h
theorem ck_a : ckI ⟨#[97]⟩ = 0 := by
  refine ckI_eq (.inr (.inr ⟨?_, ?_, by decide, rfl⟩))
  · rintro (h | h | h) <;> (have := congrArg ByteArray.data h; revert this; decide)
  · rintro ⟨j, _, hj, hb⟩
    have : j = 0 := by have : (⟨#[97]⟩ : ByteArray).size = 1 := rfl; omega
    subst this
    revert hb
    decide
def exO (n : Int) : O := ⟨n, 0, n, n, 0, 0, 0, ⟨#[97]⟩, false⟩
theorem rO_ex (n : Int) (h : n = 1 ∨ n = 2 ∨ n = 4) : rO (exO n) = true := by
  unfold rO rB exO
  rw [ck_a]
  rcases h with rfl | rfl | rfl <;> decide +kernel
def exL1 : Nat → List O := fup nilL 0 [exO 1]
def exL2 : Nat → List O := fup exL1 0 [exO 1, exO 2]
theorem ex1 : putI zs nilL (exO 1) = 0 ∧ putL zs nilL (exO 1) = exL1 := by
  have h : putI zs nilL (exO 1) = 0 := by
    unfold putI
    rw [if_pos (rO_ex 1 (.inl rfl)), if_neg (by decide +kernel), if_neg (by decide +kernel), if_neg (by decide +kernel)]
  exact ⟨h, by unfold putL; rw [if_pos h]; rfl⟩
theorem ex2 : putI zs exL1 (exO 2) = 0 ∧ putL zs exL1 (exO 2) = exL2 := by
  have h : putI zs exL1 (exO 2) = 0 := by
    unfold putI
    rw [if_pos (rO_ex 2 (.inr (.inl rfl))), if_neg (by decide +kernel), if_neg (by decide +kernel), if_neg (by decide +kernel)]
  exact ⟨h, by unfold putL; rw [if_pos h]; rfl⟩
theorem ex3 : putI zs exL2 (exO 4) = 10 ∧ putL zs exL2 (exO 4) = exL2 := by
  have h : putI zs exL2 (exO 4) = 10 := by
    unfold putI
    rw [if_pos (rO_ex 4 (.inr (.inr rfl))), if_neg (by decide +kernel), if_pos (by decide +kernel)]
  exact ⟨h, by unfold putL; rw [if_neg (by rw [h]; decide)]⟩
theorem ex_len : wrap64 (sumW (kn zs exL2) - sumW zs) = 2 := by decide +kernel
theorem ex_time : timeF exL2 = 2 := by decide +kernel
theorem ex_text : textF (kn zs exL2) = ⟨#[48, 58, 50]⟩ := ba_ext (by decide +kernel)
theorem gd_ex1 : Gd zs exL1 1 := by have := put_gd (gd_nil zs_len right_zs) (exO 1); rwa [ex1.2] at this
theorem gd_ex2 : Gd zs exL2 2 := by have := put_gd gd_ex1 (exO 2); rwa [ex2.2] at this
end Go.Proofs.YtgnnpfainoppeaaDoor
