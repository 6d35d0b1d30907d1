/- Merged by tools/merge.py: NBase, NNum, NLater, NCut, NDecMath, NDigW, NRNumW, NAwA, NOwn, NBytes, NQuoteA, NCheckA, NCheckB, NApartM, NQuoteM, NQuoteW. -/
import Derived.Test.YtbeodechhneeeaaGreatDoorRows
import Derived.Test.YtbeodechhneeeaaGreatDoorShelf
import Derived.WalkKit
import Derived.WalkSpells
import Derived.Lib.Hide
import Derived.Lib.Walk
import Derived.OneCell
import Derived.LoopTactic
import Derived.Deep.Cut
import Derived.Outline
import Derived.Handy
import Derived.RegionTactic
import Derived.ChangeAlike
import Derived.Laws.RangeAny
import Derived.Lib.OthersKept
import Derived.Lib.DecodeN
import Derived.Below
import Derived.Deep.Quiet
import Derived.BigQuiet
import Derived.Lib.AppendIntMem
import Derived.Lib.IndexLaws
import Derived.Lib.LaidTab
import Derived.Lib.ItoaLen
import Derived.Deep.QuietTactic
import Derived.Deep.AppendSrc
import Derived.OwnWalk
import Derived.Laws.OwnMore
import Derived.Deep.RegionLaw
import Derived.Lib.RuneCountTail
import Derived.WalkSmall
import Derived.Deep.DeepMust
import Derived.Lib.ConvBytes
set_option linter.unusedVariables false
namespace Go.Proofs.YtbeodechhneeeaaGreatDoor
open Go.RowKit
theorem ret_b {a b : Bool} (h : a = b) : Ending.returned (.bool a) = .returned (.bool b) := by rw [h]
end Go.Proofs.YtbeodechhneeeaaGreatDoor

set_option linter.unusedVariables false
namespace Go.Proofs.YtbeodechhneeeaaGreatDoor
open Go.RowKit

theorem neb_ (a b : Int) (h : a ≠ b) : (a != b) = true := by simpa using h
theorem beqb_ (a b : Int) (h : a = b) : (a == b) = true := by simpa using h
theorem bneb_ (a b : Int) (h : a ≠ b) : (a == b) = false := by simpa using h

end Go.Proofs.YtbeodechhneeeaaGreatDoor

set_option linter.unusedVariables false
namespace Go.Proofs.YtbeodechhneeeaaGreatDoor
open Go.RowKit

/-- A world in which all that stands in w stands as it did. -/
def Later (w : World) : Type := { w' : World // Below w.heap.size w w' }
def Later.w {w : World} (x : Later w) : World := x.val
theorem Later.below {w : World} (x : Later w) : Below w.heap.size w x.w := x.property
instance (w : World) : Nonempty (Later w) := ⟨⟨w, Below.refl _ _⟩⟩

theorem wp_region_later {P : Program} {id : Nat} {Q : Exit → Act → World → Prop} {a : Act} {w : World} {l : List Oper} (hm : P.follows .mixedOrders = true) (hB : Region.lexB .any l.toArray = true)
    (h : wpQuiet P l.toArray (fun w' => ∃ x : Later w, w' = x.w) (fun a' => ∀ w', (∃ x : Later w, w' = x.w) → Q .normal a' w') l a) : (Code.region id l.toArray true).wp P Q a w :=
  wp_region_quiet (C := fun w' => ∃ x : Later w, w' = x.w) hm hB ⟨⟨_, (Below.refl _ _).drew⟩, rfl⟩ (by simpa using h)

/-- A callee's contract there. -/
theorem later_call {P : Program} {f : FuncId} {args : Array Value} {w : World} {x : Later w} {v : Value}
    (h : Calls P f args x.w fun e w' => e = .returned v ∧ Below x.w.heap.size x.w w') : Calls P f args x.w fun e w'' => e = .returned v ∧ ∃ y : Later w, w'' = y.w :=
  h.mono fun _ w' ⟨he, hb⟩ => ⟨he, ⟨⟨w', x.below.trans (hb.mono x.below.size)⟩, rfl⟩⟩
end Go.Proofs.YtbeodechhneeeaaGreatDoor

set_option linter.unusedVariables false
namespace Go.Proofs.YtbeodechhneeeaaGreatDoor
open Go.RowKit

end Go.Proofs.YtbeodechhneeeaaGreatDoor

set_option linter.unusedVariables false
namespace Go.Proofs.YtbeodechhneeeaaGreatDoor
open Go.RowKit

theorem ba_ext {a b : ByteArray} (h : a.data.toList = b.data.toList) : a = b := by
  cases a with | mk x => cases b with | mk y => exact congrArg ByteArray.mk (Array.ext' h)

end Go.Proofs.YtbeodechhneeeaaGreatDoor

set_option linter.unusedVariables false
namespace Go.Proofs.YtbeodechhneeeaaGreatDoor
open Go.RowKit

end Go.Proofs.YtbeodechhneeeaaGreatDoor

set_option linter.unusedVariables false
namespace Go.Proofs.YtbeodechhneeeaaGreatDoor
open Go.RowKit

theorem tl_eq {a b : ByteArray} (h : a = b) : (a.toList == b.toList) = true := by rw [h]; simp
theorem tl_ne {a b : ByteArray} (h : a ≠ b) : (a.toList == b.toList) = false := by
  rw [beq_eq_false_iff_ne, ByteArray.toList_eq, ByteArray.toList_eq]
  exact fun e => h (ba_ext e)
end Go.Proofs.YtbeodechhneeeaaGreatDoor

set_option linter.unusedVariables false
namespace Go.Proofs.YtbeodechhneeeaaGreatDoor
open Go.RowKit

end Go.Proofs.YtbeodechhneeeaaGreatDoor

set_option linter.unusedVariables false
namespace Go.Proofs.YtbeodechhneeeaaGreatDoor
open Go.RowKit

section
variable {P : Program} (w : World)
end

end Go.Proofs.YtbeodechhneeeaaGreatDoor

set_option linter.unusedVariables false
namespace Go.Proofs.YtbeodechhneeeaaGreatDoor
open Go.RowKit

end Go.Proofs.YtbeodechhneeeaaGreatDoor

set_option linter.unusedVariables false
namespace Go.Proofs.YtbeodechhneeeaaGreatDoor
open Go.RowKit

end Go.Proofs.YtbeodechhneeeaaGreatDoor

set_option linter.unusedVariables false
namespace Go.Proofs.YtbeodechhneeeaaGreatDoor
open Go.RowKit

def badN (c : Nat) : Bool := decide (c = 47 ∨ c = 0)
/-- A bad byte at some place from a place on. -/
def BadFrom (s : ByteArray) (p : Nat) : Prop := ∃ j, p ≤ j ∧ j < s.size ∧ badN (s.get! j).toNat = true

theorem dec_high (n b0 b1 b2 b3 : Nat) (h : 128 ≤ b0) : 128 ≤ (Lib.decodeN n b0 b1 b2 b3).1 ∧ 1 ≤ (Lib.decodeN n b0 b1 b2 b3).2 ∧ (2 ≤ (Lib.decodeN n b0 b1 b2 b3).2 → 128 ≤ b1) ∧ (3 ≤ (Lib.decodeN n b0 b1 b2 b3).2 → 128 ≤ b2) ∧ (4 ≤ (Lib.decodeN n b0 b1 b2 b3).2 → 128 ≤ b3) ∧ (Lib.decodeN n b0 b1 b2 b3).2 ≤ 4 := by
  unfold Lib.decodeN
  rw [if_neg (by omega)]
  repeat' split
  all_goals (simp only; refine ⟨by omega, by omega, fun _ => by omega, fun _ => by omega, fun _ => by omega, by omega⟩)

theorem idx_bad (s : ByteArray) : ∀ (f p : Nat), s.size - p ≤ f → (0 ≤ Lib.idxFuncFrom badN true s f p ↔ BadFrom s p)
  | 0, p, h => by
    constructor
    · intro h1; simp [Lib.idxFuncFrom] at h1
    · rintro ⟨j, h1, h2, _⟩; omega
  | f + 1, p, h => by
    unfold Lib.idxFuncFrom
    by_cases hp : p < s.size
    · rw [if_pos hp]
      have hd := Lib.decode_at s p
      by_cases hb : (s.get! p).toNat < 128
      · have e : Utf8.decode s p = ((s.get! p).toNat, 1) := by rw [hd]; unfold Lib.decodeN; rw [if_pos hb]
        rw [e]
        simp only
        cases hc : badN (s.get! p).toNat with
        | true => rw [if_pos rfl]; exact ⟨fun _ => ⟨p, Nat.le_refl _, hp, hc⟩, fun _ => by omega⟩
        | false =>
          rw [if_neg (by decide), idx_bad s f (p + 1) (by omega)]
          constructor
          · rintro ⟨j, h1, h2, h3⟩; exact ⟨j, by omega, h2, h3⟩
          · rintro ⟨j, h1, h2, h3⟩
            refine ⟨j, ?_, h2, h3⟩
            rcases Nat.eq_or_lt_of_le h1 with rfl | h'
            · rw [hc] at h3; cases h3
            · omega
      · have D := dec_high (s.size - p) (s.get! p).toNat (s.get! (p + 1)).toNat (s.get! (p + 2)).toNat (s.get! (p + 3)).toNat (by omega)
        rw [← hd] at D
        generalize Utf8.decode s p = d at D
        obtain ⟨r, wd⟩ := d
        simp only at D ⊢
        obtain ⟨D1, D2, D3, D4, D5, D6⟩ := D
        have hr : badN r = false := by unfold badN; simp; omega
        rw [hr, if_neg (by decide), idx_bad s f (p + wd) (by omega)]
        constructor
        · rintro ⟨j, h1, h2, h3⟩; exact ⟨j, by omega, h2, h3⟩
        · rintro ⟨j, h1, h2, h3⟩
          refine ⟨j, ?_, h2, h3⟩
          rcases Nat.lt_or_ge j (p + wd) with h' | h'
          · exfalso
            have hbj : 128 ≤ (s.get! j).toNat := by
              rcases (show j = p ∨ j = p + 1 ∨ j = p + 2 ∨ j = p + 3 by omega) with rfl | rfl | rfl | rfl
              · omega
              · exact D3 (by omega)
              · exact D4 (by omega)
              · exact D5 (by omega)
            unfold badN at h3
            simp at h3
            omega
          · exact h'
    · rw [if_neg hp]
      constructor
      · intro h1; simp at h1
      · rintro ⟨j, h1, h2, _⟩; omega

set_option maxRecDepth 100000 in
set_option maxHeartbeats 400000 in
theorem lit_any (w : World) (x : Nat) : Calls Tryz.prog 91 #[.int .i32 x] w fun e w' => e = .returned (.bool (badN x)) ∧ w = w' := by
  have hcase : (x = 47 ∧ badN x = true) ∨ (x ≠ 47 ∧ x = 0 ∧ badN x = true) ∨ (x ≠ 47 ∧ x ≠ 0 ∧ badN x = false) := by
    unfold badN
    by_cases h1 : x = 47 <;> by_cases h2 : x = 0 <;> simp [h1, h2]
  rcases hcase with ⟨h1, h⟩ | ⟨h1, h2, h⟩ | ⟨h1, h2, h⟩
  · subst h1
    go_enter Tryz.func91, Tryz.ntmps91
    go_wp2
    go_returns
    exact ⟨rfl, rfl⟩
  · subst h2
    go_enter Tryz.func91, Tryz.ntmps91
    go_wp2
    go_returns
    exact ⟨rfl, rfl⟩
  · have t1 := bneb_ (x : Int) 47 (by omega)
    have t2 := bneb_ (x : Int) 0 (by omega)
    have E := Lib.hid h
    clear h h1 h2
    go_enter Tryz.func91, Tryz.ntmps91
    go_wp2
    go_returns
    exact ⟨ret_b E.out.symm, rfl⟩
end Go.Proofs.YtbeodechhneeeaaGreatDoor

set_option linter.unusedVariables false
namespace Go.Proofs.YtbeodechhneeeaaGreatDoor
open Go.RowKit

def Lits (s : ByteArray) : Prop := s = ⟨#[]⟩ ∨ s = ⟨#[46]⟩ ∨ s = ⟨#[46, 46]⟩
/-- The number that Check answers. -/
def CheckIs (s : ByteArray) (c : Int) : Prop :=
  ((Lits s ∨ BadFrom s 0) ∧ c = 25) ∨ (¬ Lits s ∧ ¬ BadFrom s 0 ∧ 255 < s.size ∧ c = 26) ∨ (¬ Lits s ∧ ¬ BadFrom s 0 ∧ s.size ≤ 255 ∧ c = 0)
theorem eg26 : ∀ args w, (callFunc 91 args).run Tryz.prog w = .ok (.enter 91 args) w := enters_of Tryz.func91 (by kernel_rfl) rfl
theorem contains_any (w : World) (s : ByteArray) (b : Bool) (hb : b = true ↔ BadFrom s 0) :
    Calls Tryz.prog 90 #[.string s, .func (.func 91) #[] #[]] w fun e w' => e = .returned (.bool b) ∧ Below w.heap.size w w' := by
  have C := Tryz.strings_ContainsFunc_runes 91 #[] eg26 badN s w (fun W x _ _ => (lit_any W x).mono fun e w' h => ⟨h.1, 0, h.2.symm⟩)
  have e : decide (0 ≤ Lib.idxFunc badN true s) = b := by
    have h1 := idx_bad s s.size 0 (by omega)
    cases b with
    | true => exact decide_eq_true (h1.2 (hb.1 rfl))
    | false => exact decide_eq_false (fun h => by have := hb.2 (h1.1 h); cases this)
  rw [e] at C
  exact C

theorem ne_one {s : ByteArray} (h : s ≠ ⟨#[46]⟩) : (s.toList == [46]) = false := by
  have := tl_ne h
  rwa [show (ByteArray.mk #[46]).toList = [46] from by rw [ByteArray.toList_eq]] at this
theorem ne_two {s : ByteArray} (h : s ≠ ⟨#[46, 46]⟩) : (s.toList == [46, 46]) = false := by
  have := tl_ne h
  rwa [show (ByteArray.mk #[46, 46]).toList = [46, 46] from by rw [ByteArray.toList_eq]] at this

set_option maxRecDepth 100000 in
set_option maxHeartbeats 800000 in
theorem check_any (w : World) (s : ByteArray) (hs : s.size ≤ 1000000) (c : Int) (hc : CheckIs s c) : Calls Tryz.prog 57 #[.string s] w fun e w' => e = .returned (.int .i64 c) ∧ Below w.heap.size w w' := by
  by_cases hl : Lits s
  · obtain rfl : c = 25 := by rcases hc with h | h | h <;> first | exact h.2 | exact absurd hl h.1
    clear hc
    rcases hl with rfl | rfl | rfl
    all_goals
      go_enter Tryz.func57, Tryz.ntmps57
      go_wp2
      go_returns
      exact ⟨rfl, Below.refl _ _⟩
  · have n1 := ne_one (fun h => hl (.inr (.inl h)))
    have n2 := ne_two (fun h => hl (.inr (.inr h)))
    have hne : s.toList.isEmpty = false := by
      rw [ByteArray.toList_eq]
      cases hd : s.data.toList with
      | nil => exact absurd (.inl (ba_ext hd)) hl
      | cons a t => rfl
    by_cases hb : BadFrom s 0
    · obtain rfl : c = 25 := by rcases hc with h | h | h <;> first | exact h.2 | exact absurd hb h.2.1
      have C := Lib.hid (fun W => contains_any W s true ⟨fun _ => hb, fun _ => rfl⟩)
      clear hc hl hb
      go_enter Tryz.func57, Tryz.ntmps57
      go_wp2_with fail
      refine (C.out _).mono ?_
      rintro e w1 ⟨rfl, hb⟩
      have HB := Lib.hid hb
      clear hb
      go_wp2
      go_returns
      exact ⟨rfl, HB.out⟩
    · have C := Lib.hid (fun W => contains_any W s false ⟨fun h => absurd h (by decide), fun h => absurd h hb⟩)
      rcases hc with h | ⟨_, _, h2, rfl⟩ | ⟨_, _, h2, rfl⟩
      · exact absurd h.1 (fun h => h.elim hl hb)
      all_goals
        clear hl hb
        go_enter Tryz.func57, Tryz.ntmps57
        go_wp2_with fail
        refine (C.out _).mono ?_
        rintro e w1 ⟨rfl, hb⟩
        have HB := Lib.hid hb
        clear hb
        go_wp2
        go_returns
        exact ⟨rfl, HB.out⟩

set_option maxRecDepth 100000 in
set_option maxHeartbeats 800000 in
theorem has_any (w : World) (s : ByteArray) (hs : s.size ≤ 9223372036854775807) (x : Nat) (xi : Int) (hxi : xi = x) (b : Bool) (hb : b = true ↔ ∃ j, j < s.size ∧ (s.get! j).toNat = x) :
    Calls Tryz.prog 101 #[.string s, .int .u8 xi] w fun e w' => e = .returned (.bool b) ∧ w = w' := by
  have HB := Lib.hid hb
  clear hb
  go_enter Tryz.func101, Tryz.ntmps101
  go_wp2
  go_loop [5] (fun kv => ∃ k : Nat, kv = .int .i64 k ∧ k ≤ s.size ∧ Hid (∀ j, j < k → (s.get! j).toNat ≠ x)) (fun kv => s.size - (intOf kv).toNat)
  case atStart => exact ⟨0, rfl, by omega, fun j hj => by omega⟩
  case round =>
    obtain ⟨k, rfl, hk, hI⟩ := hrel
    by_cases hlt : k < s.size
    · have hg : s.get! k = s[k]'hlt := get_at s k hlt
      by_cases hx : (s[k]'hlt).toNat = x
      · have E : b = true := HB.out.2 ⟨k, hlt, by rw [hg]; exact hx⟩
        have HE := Lib.hid E
        have t1 := beqb_ ((s[k]'hlt).toNat : Int) xi (by omega)
        clear hx hg E
        go_wp2
        go_returns
        exact ⟨ret_b HE.out.symm, rfl⟩
      · have t1 := bneb_ ((s[k]'hlt).toNat : Int) xi (by omega)
        have NX := Lib.hid (fun j (hj : j < k + 1) => show (s.get! j).toNat ≠ x from if hji : j = k then by rw [hji, hg]; exact hx else hI.out j (by omega))
        clear hx hg
        go_wp2
        go_round
        case rel => exact ⟨k + 1, by go_num, by omega, NX.out⟩
        case measure => simp [intOf]; omega
    · have E : b = false := by
        cases hbb : b with
        | false => rfl
        | true =>
          obtain ⟨j, h1, h2⟩ := HB.out.1 hbb
          exact absurd h2 (hI.out j (by omega))
      have HE := Lib.hid E
      clear E
      go_wp2
      go_returns
      exact ⟨ret_b HE.out.symm, rfl⟩

theorem bad_has (s : ByteArray) : BadFrom s 0 ↔ (∃ j, j < s.size ∧ (s.get! j).toNat = 47) ∨ (∃ j, j < s.size ∧ (s.get! j).toNat = 0) := by
  unfold BadFrom badN
  constructor
  · rintro ⟨j, _, h2, h3⟩
    rcases of_decide_eq_true h3 with h | h
    · exact .inl ⟨j, h2, h⟩
    · exact .inr ⟨j, h2, h⟩
  · rintro (⟨j, h2, h⟩ | ⟨j, h2, h⟩)
    · exact ⟨j, by omega, h2, decide_eq_true (.inl h)⟩
    · exact ⟨j, by omega, h2, decide_eq_true (.inr h)⟩

set_option maxRecDepth 100000 in
set_option maxHeartbeats 800000 in
theorem rcheck_any (w : World) (s : ByteArray) (hs : s.size ≤ 9223372036854775807) (c : Int) (hc : CheckIs s c) : Calls Tryz.prog 79 #[.string s] w fun e w' => e = .returned (.int .i64 c) ∧ w = w' := by
  by_cases hl : Lits s
  · obtain rfl : c = 25 := by rcases hc with h | h | h <;> first | exact h.2 | exact absurd hl h.1
    clear hc
    rcases hl with rfl | rfl | rfl
    all_goals
      go_enter Tryz.func79, Tryz.ntmps79
      go_wp2
      go_returns
      exact ⟨rfl, rfl⟩
  · have n1 := ne_one (fun h => hl (.inr (.inl h)))
    have n2 := ne_two (fun h => hl (.inr (.inr h)))
    have hne : s.toList.isEmpty = false := by
      rw [ByteArray.toList_eq]
      cases hd : s.data.toList with
      | nil => exact absurd (.inl (ba_ext hd)) hl
      | cons a t => rfl
    have hbh := bad_has s
    by_cases h47 : ∃ j, j < s.size ∧ (s.get! j).toNat = 47
    · have C := Lib.hid (fun W => has_any W s hs 47 47 rfl true ⟨fun _ => h47, fun _ => rfl⟩)
      obtain rfl : c = 25 := by rcases hc with h | h | h <;> first | exact h.2 | exact absurd (hbh.2 (.inl h47)) h.2.1
      clear hc hl hbh h47
      go_enter Tryz.func79, Tryz.ntmps79
      go_wp2_with fail
      refine (C.out _).mono ?_
      rintro e w1 ⟨rfl, rfl⟩
      go_wp2
      go_returns
      exact ⟨rfl, rfl⟩
    · have C := Lib.hid (fun W => has_any W s hs 47 47 rfl false ⟨fun h => absurd h (by decide), fun h => absurd h h47⟩)
      by_cases h0 : ∃ j, j < s.size ∧ (s.get! j).toNat = 0
      · have D := Lib.hid (fun W => has_any W s hs 0 0 rfl true ⟨fun _ => h0, fun _ => rfl⟩)
        obtain rfl : c = 25 := by rcases hc with h | h | h <;> first | exact h.2 | exact absurd (hbh.2 (.inr h0)) h.2.1
        clear hc hl hbh h47 h0
        go_enter Tryz.func79, Tryz.ntmps79
        go_wp2_with fail
        refine (C.out _).mono ?_
        rintro e w1 ⟨rfl, rfl⟩
        go_wp2_with fail
        refine (D.out _).mono ?_
        rintro e w1 ⟨rfl, rfl⟩
        go_wp2
        go_returns
        exact ⟨rfl, rfl⟩
      · have D := Lib.hid (fun W => has_any W s hs 0 0 rfl false ⟨fun h => absurd h (by decide), fun h => absurd h h0⟩)
        rcases hc with h | ⟨_, _, h2, rfl⟩ | ⟨_, _, h2, rfl⟩
        · exact absurd h.1 (fun h => h.elim hl (fun h => (hbh.1 h).elim h47 h0))
        all_goals
          clear hl hbh h47 h0
          go_enter Tryz.func79, Tryz.ntmps79
          go_wp2_with fail
          refine (C.out _).mono ?_
          rintro e w1 ⟨rfl, rfl⟩
          go_wp2_with fail
          refine (D.out _).mono ?_
          rintro e w1 ⟨rfl, rfl⟩
          go_wp2
          go_returns
          exact ⟨rfl, rfl⟩
end Go.Proofs.YtbeodechhneeeaaGreatDoor

set_option linter.unusedVariables false
namespace Go.Proofs.YtbeodechhneeeaaGreatDoor
open Go.RowKit

end Go.Proofs.YtbeodechhneeeaaGreatDoor

set_option linter.unusedVariables false
namespace Go.Proofs.YtbeodechhneeeaaGreatDoor
open Go.RowKit

end Go.Proofs.YtbeodechhneeeaaGreatDoor

set_option linter.unusedVariables false
namespace Go.Proofs.YtbeodechhneeeaaGreatDoor
open Go.RowKit

end Go.Proofs.YtbeodechhneeeaaGreatDoor





