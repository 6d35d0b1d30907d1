/- The chapter's example, plain. -/
import Derived.Test.YtkmeceoilighiaaEG
set_option linter.unusedVariables false
set_option linter.unusedSimpArgs false
set_option maxRecDepth 100000
namespace Go.Proofs.Ytkmeceoilighiaa
open Go.RowKit
open Tb (Rw setF dropF getF aboveF Rise TabI TM LiesK)

theorem check_one {s : ByteArray} {c d : Int} (h : CheckIs s c) (g : CheckIs s d) : c = d := by
  rcases h with ⟨h1, rfl⟩ | ⟨h1, h2, h3, rfl⟩ | ⟨h1, h2, h3, rfl⟩ <;> rcases g with ⟨g1, rfl⟩ | ⟨g1, g2, g3, rfl⟩ | ⟨g1, g2, g3, rfl⟩ <;> first | rfl | omega | (rcases h1 with q | q <;> contradiction) | (rcases g1 with q | q <;> contradiction)
theorem ckI_eq {s : ByteArray} {c : Int} (h : CheckIs s c) : ckI s = c := check_one (ckI_is s) h
theorem ck_a : ckI ⟨#[97]⟩ = 0 := by
  refine ckI_eq (.inr (.inr ⟨?_, ?_, by decide, rfl⟩))
  · rintro (h | h | h) <;> (have := congrArg ByteArray.data h; revert this; decide)
  · rintro ⟨j, _, hj, hb⟩
    have : j = 0 := by have : (⟨#[97]⟩ : ByteArray).size = 1 := rfl; omega
    subst this
    revert hb
    decide
theorem ck_b : ckI ⟨#[98]⟩ = 0 := by
  refine ckI_eq (.inr (.inr ⟨?_, ?_, by decide, rfl⟩))
  · rintro (h | h | h) <;> (have := congrArg ByteArray.data h; revert this; decide)
  · rintro ⟨j, _, hj, hb⟩
    have : j = 0 := by have : (⟨#[98]⟩ : ByteArray).size = 1 := rfl; omega
    subst this
    revert hb
    decide
def exO : Nat → O
  | 0 => ⟨2, 0, 2, 2, 0, 0, 0, ⟨#[98]⟩, true⟩
  | 1 => ⟨6, 0, 3, 2, 0, 1, 0, ⟨#[98]⟩, true⟩
  | 2 => ⟨1, 0, 1, 1, 0, 0, 0, ⟨#[97]⟩, true⟩
  | _ => ⟨5, 1, 1, 1, 0, 2, 0, ⟨#[97]⟩, true⟩
def exAll : List O := [exO 0, exO 1, exO 2, exO 3]
def exL : Nat → List O
  | 0 => []
  | 1 => [exO 0]
  | 2 => [exO 0, exO 1]
  | 3 => [exO 2, exO 0, exO 1]
  | _ => [exO 2, exO 0, exO 3, exO 1]
def exN : Nat → Int
  | 0 => 0
  | 1 => 0
  | 2 => 0
  | 3 => 2
  | _ => 3
theorem ex_at {i : Nat} (hi : i < 4) : exAll[i]? = some (exO i) := by
  match i, hi with
  | 0, _ => rfl
  | 1, _ => rfl
  | 2, _ => rfl
  | 3, _ => rfl
theorem ex_put {i : Nat} (hi : i < 4) : putO (exL i) (exO i) = exL (i + 1) := by
  match i, hi with
  | 0, _ => rfl
  | 1, _ => rfl
  | 2, _ => rfl
  | 3, _ => rfl
theorem ex_has {i : Nat} (hi : i < 4) : hasO (exL i) (exO i).t (exO i).r = false := by
  match i, hi with
  | 0, _ => rfl
  | 1, _ => rfl
  | 2, _ => rfl
  | 3, _ => rfl
theorem ex_right {i : Nat} (hi : i < 4) : rO (exO i) = true := by
  match i, hi with
  | 0, _ => unfold rO rB; rw [show (exO 0).nm = ⟨#[98]⟩ from rfl, ck_b]; rfl
  | 1, _ => unfold rO rB; rw [show (exO 1).nm = ⟨#[98]⟩ from rfl, ck_b]; rfl
  | 2, _ => unfold rO rB; rw [show (exO 2).nm = ⟨#[97]⟩ from rfl, ck_a]; rfl
  | 3, _ => unfold rO rB; rw [show (exO 3).nm = ⟨#[97]⟩ from rfl, ck_a]; rfl
theorem ex_ok {i : Nat} (hi : i < 4) : OkO (exO i) := by
  match i, hi with
  | 0, _ => constructor <;> (unfold Tb.I64; decide)
  | 1, _ => constructor <;> (unfold Tb.I64; decide)
  | 2, _ => constructor <;> (unfold Tb.I64; decide)
  | 3, _ => constructor <;> (unfold Tb.I64; decide)
theorem ex_sz {i : Nat} (hi : i < 4) : (exO i).nm.size ≤ 9223372036854775807 := by
  match i, hi with
  | 0, _ => decide
  | 1, _ => decide
  | 2, _ => decide
  | 3, _ => decide
theorem ex_addE {i : Nat} (hi : i < 4) : addE 0 0 (exL i) (exO i) = 0 := by
  unfold addE
  rw [if_neg (by rw [ex_right hi]; decide), if_neg, if_neg (by rw [ex_has hi]; decide)]
  match i, hi with
  | 0, _ => decide
  | 1, _ => decide
  | 2, _ => decide
  | 3, _ => decide
theorem ex_addN {i : Nat} (hi : i < 4) : exN i + addN 0 0 (exL i) (exO i) = exN (i + 1) := by
  unfold addN
  rw [if_pos (ex_addE hi)]
  match i, hi with
  | 0, _ => rfl
  | 1, _ => rfl
  | 2, _ => rfl
  | 3, _ => rfl
theorem ex_rise : ∀ i, i ≤ 4 → RiseO (exL i)
  | 0, _ => List.Pairwise.nil
  | i + 1, h => by rw [← ex_put (by omega)]; exact put_rise (ex_rise i (by omega)) (ex_has (by omega))
theorem ex_okL : ∀ i, i ≤ 4 → OkL (exL i)
  | 0, _ => fun o ho => by cases ho
  | i + 1, h => by
    rw [← ex_put (by omega)]
    intro o ho
    rcases put_mem.1 ho with rfl | ho
    · exact ex_ok (by omega)
    · exact ex_okL i (by omega) o ho
theorem ex_len {i : Nat} (hi : i ≤ 4) : (exL i).length = i := by
  match i, hi with
  | 0, _ => rfl
  | 1, _ => rfl
  | 2, _ => rfl
  | 3, _ => rfl
  | 4, _ => rfl
theorem ex_get : getF (playF [] (exL 4)) 2 0 = some ⟨2, 0, 0, 0, ⟨#[98]⟩, true⟩ := rfl
theorem ex_above : aboveF (playF [] (exL 4)) 2 0 (playF [] (exL 4)).length 1 0 = true := rfl
theorem okT_nil : OkT [] := fun x hx => by cases hx
end Go.Proofs.Ytkmeceoilighiaa
