/- path.Text; the example. -/
import Derived.Test.YtgiiddcjepjgcaaDoorPH
set_option linter.unusedVariables false
namespace Go.Proofs.YtgiiddcjepjgcaaDoor
open Go.RowKit

abbrev sA : ByteArray := ⟨#[97]⟩
abbrev sB : ByteArray := ⟨#[98]⟩
abbrev sC : ByteArray := ⟨#[99]⟩
theorem check_one_byte (x : UInt8) (h0 : x.toNat ≠ 0) (h47 : x.toNat ≠ 47) (h46 : x ≠ 46) : CheckIs ⟨#[x]⟩ 0 := by
  refine .inr (.inr ⟨?_, ?_, (show 1 ≤ 255 by omega), rfl⟩)
  · rintro (h | h | h)
    · exact absurd (show (1 : Nat) = 0 from congrArg (fun b : ByteArray => b.size) h) (by omega)
    · have := congrArg (fun b : ByteArray => b.data.toList) h
      simp at this
      exact h46 this
    · exact absurd (show (1 : Nat) = 2 from congrArg (fun b : ByteArray => b.size) h) (by omega)
  · rintro ⟨j, _, h2, h3⟩
    have : j = 0 := by
      have h2' : j < 1 := h2
      omega
    subst this
    have e : (ByteArray.get! ⟨#[x]⟩ 0).toNat = x.toNat := rfl
    rw [e] at h3
    unfold badN at h3
    have := of_decide_eq_true h3
    omega
theorem sp1 : Lib.splitB ⟨#[47]⟩ 0 (Lib.countB ⟨#[97, 47, 98]⟩ ⟨#[47]⟩) ⟨#[97, 47, 98]⟩ = [sA, sB] := by rfl
theorem sp2 : Lib.splitB ⟨#[47]⟩ 0 (Lib.countB ⟨#[47]⟩ ⟨#[47]⟩) ⟨#[47]⟩ = [⟨#[]⟩, ⟨#[]⟩] := by rfl
theorem sp3 : Lib.splitB ⟨#[47]⟩ 0 (Lib.countB ⟨#[46, 46]⟩ ⟨#[47]⟩) ⟨#[46, 46]⟩ = [⟨#[46, 46]⟩] := by rfl
theorem nonemp (x : UInt8) (l : List UInt8) : (ByteArray.mk (x :: l).toArray).toList.isEmpty = false := by
  rw [ByteArray.toList_eq]; rfl
theorem ckA : ckI sA = 0 := ckI_eq (check_one_byte 97 (by decide) (by decide) (by decide))
theorem ckB : ckI sB = 0 := ckI_eq (check_one_byte 98 (by decide) (by decide) (by decide))
theorem ckE : ckI ⟨#[]⟩ = 25 := ckI_eq (.inl ⟨.inl (.inl rfl), rfl⟩)
theorem ckD : ckI ⟨#[46, 46]⟩ = 25 := ckI_eq check_dots
theorem pc1 : parseC 4 [sA, sB] = 0 := by
  unfold parseC lgF
  simp [ckA, ckB]
theorem pc2 : parseC 2 [⟨#[]⟩, ⟨#[]⟩] = 25 := parseC_bad (k := 0) rfl ckE
theorem pc3 : parseC 3 [⟨#[46, 46]⟩] = 25 := parseC_bad (k := 0) rfl ckD
theorem p1 (w : World) (m : Int) (hm : w.cell? ⟨0, 0, none⟩ = some (.int .i64 m)) : Calls Tryd.prog 15 #[.string ⟨#[47, 97, 47, 98]⟩] w fun e w' => ∃ v, e = .returned (.tuple #[v, .int .i64 0]) ∧ SLies w' v [sA, sB] ∧ Below w.heap.size w w' := by
  refine (parse_any w ⟨#[47, 97, 47, 98]⟩ ⟨#[97, 47, 98]⟩ m hm rfl (nonemp _ _) (by decide) [sA, sB] sp1 (by intro p hp; simp at hp; rcases hp with rfl | rfl <;> decide)).mono ?_
  rintro e w' ⟨v, rfl, h1, h2⟩
  have e1 : parseC (ByteArray.mk #[47, 97, 47, 98]).size [sA, sB] = 0 := pc1
  rw [e1]
  exact ⟨v, rfl, h1 e1, h2⟩
theorem p2 (w : World) (m : Int) (hm : w.cell? ⟨0, 0, none⟩ = some (.int .i64 m)) : Calls Tryd.prog 15 #[.string ⟨#[47, 47]⟩] w fun e w' => ∃ v, e = .returned (.tuple #[v, .int .i64 25]) ∧ Below w.heap.size w w' := by
  refine (parse_any w ⟨#[47, 47]⟩ ⟨#[47]⟩ m hm rfl (nonemp _ _) (by decide) [⟨#[]⟩, ⟨#[]⟩] sp2 (by intro p hp; simp at hp; subst hp; decide)).mono ?_
  rintro e w' ⟨v, rfl, h1, h2⟩
  have e1 : parseC (ByteArray.mk #[47, 47]).size [⟨#[]⟩, ⟨#[]⟩] = 25 := pc2
  rw [e1]
  exact ⟨v, rfl, h2⟩
theorem p3 (w : World) (m : Int) (hm : w.cell? ⟨0, 0, none⟩ = some (.int .i64 m)) : Calls Tryd.prog 15 #[.string ⟨#[47, 46, 46]⟩] w fun e w' => ∃ v, e = .returned (.tuple #[v, .int .i64 25]) ∧ Below w.heap.size w w' := by
  refine (parse_any w ⟨#[47, 46, 46]⟩ ⟨#[46, 46]⟩ m hm rfl (nonemp _ _) (by decide) [⟨#[46, 46]⟩] sp3 (by intro p hp; simp at hp; subst hp; decide)).mono ?_
  rintro e w' ⟨v, rfl, h1, h2⟩
  have e1 : parseC (ByteArray.mk #[47, 46, 46]).size [⟨#[46, 46]⟩] = 25 := pc3
  rw [e1]
  exact ⟨v, rfl, h2⟩
theorem text_nil (w : World) : Calls Tryd.prog 7 #[.slice none 0 0] w fun e w' => e = .returned (.string ⟨#[47]⟩) ∧ w' = w := by
  have JN := Lib.hid (fun W => Tryd.strings_Join_none none 0 ⟨#[47]⟩ W)
  go_enter Tryd.func7, Tryd.ntmps7
  go_wp2_with fail
  refine (JN.out _).mono ?_
  rintro e w1 ⟨rfl, rfl⟩
  go_wp2
  go_returns
  exact ⟨rfl, rfl⟩
def exL : Nat → Nat → Bool := fun a i => if i = 0 then a == 0 else true
abbrev eP : List ByteArray := [sA, ⟨#[42, 42]⟩, ⟨#[63]⟩]
theorem mn_ne (q : ByteArray) (h : q.data.toList ≠ [42, 42]) : mnB q = false := by
  unfold mnB
  rw [ByteArray.toList_eq]
  simpa using h
theorem mn0 : mnAt eP 0 = false := mn_ne sA (by decide)
theorem mn1 : mnAt eP 1 = true := by
  show mnB ⟨#[42, 42]⟩ = true
  unfold mnB
  rw [ByteArray.toList_eq]
  rfl
theorem mn2 : mnAt eP 2 = false := mn_ne ⟨#[63]⟩ (by decide)
theorem ex_mf : mf exL (mnAt eP) 3 3 = true := by
  show (if mnAt eP 2 then onB (mf exL (mnAt eP) 2) else stepB (mf exL (mnAt eP) 2) (fun a => exL a 2)) 3 = true
  rw [mn2]
  show stepB (if mnAt eP 1 then onB (mf exL (mnAt eP) 1) else stepB (mf exL (mnAt eP) 1) (fun a => exL a 1)) (fun a => exL a 2) 3 = true
  rw [mn1]
  show stepB (onB (if mnAt eP 0 then onB (mf exL (mnAt eP) 0) else stepB (mf exL (mnAt eP) 0) (fun a => exL a 0))) (fun a => exL a 2) 3 = true
  rw [mn0]
  rfl
theorem lf_is (p q : ByteArray) (b : Bool) (h : b = true ↔ p = q) : lf p q q.size p.size = b := by
  cases hb : b with
  | true => exact (lf_eq p q).2 (h.1 hb)
  | false =>
    cases e : lf p q q.size p.size with
    | false => rfl
    | true => exact absurd (h.2 ((lf_eq p q).1 e)) (by rw [hb]; decide)
theorem ex_like (W : World) (a i : Nat) (s q : ByteArray) (ha : [sA, sB, sC][a]? = some s) (hi : eP[i]? = some q) (hq : mnB q = false) : Calls Tryd.prog 26 #[.string s, .string q] W fun e w' => e = .returned (.bool (exL a i)) ∧ Below W.heap.size W w' := by
  match i, hi with
  | 0, hi =>
    injection hi with hi
    subst hi
    have L := like_plain W s sA (by
      match a, ha with
      | 0, ha => injection ha with ha; subst ha; decide
      | 1, ha => injection ha with ha; subst ha; decide
      | 2, ha => injection ha with ha; subst ha; decide) (by decide) (fun i hi => by
        have : i = 0 := by
          have : i < 1 := hi
          omega
        subst this
        exact ⟨by decide, by decide⟩)
    rw [lf_is s sA (exL a 0) (by
      match a, ha with
      | 0, ha => injection ha with ha; subst ha; exact ⟨fun _ => rfl, fun _ => rfl⟩
      | 1, ha => injection ha with ha; subst ha; exact ⟨fun h => (by cases h), fun h => absurd (congrArg (fun b : ByteArray => b.data.toList) h) (by decide)⟩
      | 2, ha => injection ha with ha; subst ha; exact ⟨fun h => (by cases h), fun h => absurd (congrArg (fun b : ByteArray => b.data.toList) h) (by decide)⟩)] at L
    exact L
  | 1, hi =>
    injection hi with hi
    subst hi
    have : mnB ⟨#[42, 42]⟩ = true := mn1
    rw [this] at hq
    cases hq
  | 2, hi =>
    injection hi with hi
    subst hi
    match a, ha with
    | 0, ha => injection ha with ha; subst ha; exact like_q97 W
    | 1, ha => injection ha with ha; subst ha; exact like_q98 W
    | 2, ha => injection ha with ha; subst ha; exact like_q99 W
theorem ex_match (w : World) (v t : Value) (h : SLies w v [sA, sB, sC]) (hp : SLies w t eP) : Calls Tryd.prog 16 #[v, t] w fun e w' => e = .returned (.bool true) ∧ Below w.heap.size w w' := by
  have := match_any w v t [sA, sB, sC] eP h hp (by decide) (by decide) exL (fun W _ a i s q ha hi hq => ex_like W a i s q ha hi hq)
  rwa [show mf exL (mnAt eP) eP.length [sA, sB, sC].length = true from ex_mf] at this
end Go.Proofs.YtgiiddcjepjgcaaDoor
