/- name.Check and the reference's Check at every text. -/
import Derived.Test.YtgiiddcjepjgcaaDoorShelf
import Derived.Test.YtgiiddcjepjgcaaDoorCheckA
set_option linter.unusedVariables false
namespace Go.Proofs.YtgiiddcjepjgcaaDoor
open Go.RowKit

def Lits (s : ByteArray) : Prop := s = ⟨#[]⟩ ∨ s = ⟨#[46]⟩ ∨ s = ⟨#[46, 46]⟩
/-- The number that Check answers. -/
def CheckIs (s : ByteArray) (c : Int) : Prop :=
  ((Lits s ∨ BadFrom s 0) ∧ c = 25) ∨ (¬ Lits s ∧ ¬ BadFrom s 0 ∧ 255 < s.size ∧ c = 26) ∨ (¬ Lits s ∧ ¬ BadFrom s 0 ∧ s.size ≤ 255 ∧ c = 0)
theorem check_is (s : ByteArray) : ∃ c, CheckIs s c := by
  by_cases h1 : Lits s ∨ BadFrom s 0
  · exact ⟨25, .inl ⟨h1, rfl⟩⟩
  · by_cases h2 : 255 < s.size
    · exact ⟨26, .inr (.inl ⟨fun h => h1 (.inl h), fun h => h1 (.inr h), h2, rfl⟩)⟩
    · exact ⟨0, .inr (.inr ⟨fun h => h1 (.inl h), fun h => h1 (.inr h), by omega, rfl⟩)⟩

theorem eg26 : ∀ args w, (callFunc 33 args).run Tryd.prog w = .ok (.enter 33 args) w := enters_of Tryd.func33 (by kernel_rfl) rfl
theorem contains_any (w : World) (s : ByteArray) (b : Bool) (hb : b = true ↔ BadFrom s 0) :
    Calls Tryd.prog 32 #[.string s, .func (.func 33) #[] #[]] w fun e w' => e = .returned (.bool b) ∧ Below w.heap.size w w' := by
  have C := Tryd.strings_ContainsFunc_runes 33 #[] eg26 badN s w (fun W x _ _ => (lit_any W x).mono fun e w' h => ⟨h.1, 0, h.2.symm⟩)
  have e : decide (0 ≤ Lib.idxFunc badN true s) = b := by
    have h1 := idx_bad s s.size 0 (by omega)
    cases b with
    | true => exact decide_eq_true (h1.2 (hb.1 rfl))
    | false => exact decide_eq_false (fun h => by have := hb.2 (h1.1 h); cases this)
  rw [e] at C
  exact C

theorem ne_one {s : ByteArray} (h : s ≠ ⟨#[46]⟩) : (s.toList == [46]) = false := by
  have := tl_ne h
  rwa [show (ByteArray.mk #[46]).toList = [46] from by rw [ByteArray.toList_eq]] at this
theorem ne_two {s : ByteArray} (h : s ≠ ⟨#[46, 46]⟩) : (s.toList == [46, 46]) = false := by
  have := tl_ne h
  rwa [show (ByteArray.mk #[46, 46]).toList = [46, 46] from by rw [ByteArray.toList_eq]] at this

set_option maxRecDepth 100000 in
set_option maxHeartbeats 800000 in
theorem check_any (w : World) (s : ByteArray) (hs : s.size ≤ 1000000) (c : Int) (hc : CheckIs s c) : Calls Tryd.prog 23 #[.string s] w fun e w' => e = .returned (.int .i64 c) ∧ Below w.heap.size w w' := by
  by_cases hl : Lits s
  · obtain rfl : c = 25 := by rcases hc with h | h | h <;> first | exact h.2 | exact absurd hl h.1
    clear hc
    rcases hl with rfl | rfl | rfl
    all_goals
      go_enter Tryd.func23, Tryd.ntmps23
      go_wp2
      go_returns
      exact ⟨rfl, Below.refl _ _⟩
  · have n1 := ne_one (fun h => hl (.inr (.inl h)))
    have n2 := ne_two (fun h => hl (.inr (.inr h)))
    have hne : s.toList.isEmpty = false := by
      rw [ByteArray.toList_eq]
      cases hd : s.data.toList with
      | nil => exact absurd (.inl (ba_ext hd)) hl
      | cons a t => rfl
    by_cases hb : BadFrom s 0
    · obtain rfl : c = 25 := by rcases hc with h | h | h <;> first | exact h.2 | exact absurd hb h.2.1
      have C := Lib.hid (fun W => contains_any W s true ⟨fun _ => hb, fun _ => rfl⟩)
      clear hc hl hb
      go_enter Tryd.func23, Tryd.ntmps23
      go_wp2_with fail
      refine (C.out _).mono ?_
      rintro e w1 ⟨rfl, hb⟩
      have HB := Lib.hid hb
      clear hb
      go_wp2
      go_returns
      exact ⟨rfl, HB.out⟩
    · have C := Lib.hid (fun W => contains_any W s false ⟨fun h => absurd h (by decide), fun h => absurd h hb⟩)
      rcases hc with h | ⟨_, _, h2, rfl⟩ | ⟨_, _, h2, rfl⟩
      · exact absurd h.1 (fun h => h.elim hl hb)
      all_goals
        clear hl hb
        go_enter Tryd.func23, Tryd.ntmps23
        go_wp2_with fail
        refine (C.out _).mono ?_
        rintro e w1 ⟨rfl, hb⟩
        have HB := Lib.hid hb
        clear hb
        go_wp2
        go_returns
        exact ⟨rfl, HB.out⟩

set_option maxRecDepth 100000 in
set_option maxHeartbeats 800000 in
theorem has_any (w : World) (s : ByteArray) (hs : s.size ≤ 9223372036854775807) (x : Nat) (xi : Int) (hxi : xi = x) (b : Bool) (hb : b = true ↔ ∃ j, j < s.size ∧ (s.get! j).toNat = x) :
    Calls Tryd.prog 20 #[.string s, .int .u8 xi] w fun e w' => e = .returned (.bool b) ∧ w = w' := by
  have HB := Lib.hid hb
  clear hb
  go_enter Tryd.func20, Tryd.ntmps20
  go_wp2
  go_loop [5] (fun kv => ∃ k : Nat, kv = .int .i64 k ∧ k ≤ s.size ∧ Hid (∀ j, j < k → (s.get! j).toNat ≠ x)) (fun kv => s.size - (intOf kv).toNat)
  case atStart => exact ⟨0, rfl, by omega, fun j hj => by omega⟩
  case round =>
    obtain ⟨k, rfl, hk, hI⟩ := hrel
    by_cases hlt : k < s.size
    · have hg : s.get! k = s[k]'hlt := get_at s k hlt
      by_cases hx : (s[k]'hlt).toNat = x
      · have E : b = true := HB.out.2 ⟨k, hlt, by rw [hg]; exact hx⟩
        have HE := Lib.hid E
        have t1 := beqb_ ((s[k]'hlt).toNat : Int) xi (by omega)
        clear hx hg E
        go_wp2
        go_returns
        exact ⟨ret_b HE.out.symm, rfl⟩
      · have t1 := bneb_ ((s[k]'hlt).toNat : Int) xi (by omega)
        have NX := Lib.hid (fun j (hj : j < k + 1) => show (s.get! j).toNat ≠ x from if hji : j = k then by rw [hji, hg]; exact hx else hI.out j (by omega))
        clear hx hg
        go_wp2
        go_round
        case rel => exact ⟨k + 1, by go_num, by omega, NX.out⟩
        case measure => simp [intOf]; omega
    · have E : b = false := by
        cases hbb : b with
        | false => rfl
        | true =>
          obtain ⟨j, h1, h2⟩ := HB.out.1 hbb
          exact absurd h2 (hI.out j (by omega))
      have HE := Lib.hid E
      clear E
      go_wp2
      go_returns
      exact ⟨ret_b HE.out.symm, rfl⟩

theorem bad_has (s : ByteArray) : BadFrom s 0 ↔ (∃ j, j < s.size ∧ (s.get! j).toNat = 47) ∨ (∃ j, j < s.size ∧ (s.get! j).toNat = 0) := by
  unfold BadFrom badN
  constructor
  · rintro ⟨j, _, h2, h3⟩
    rcases of_decide_eq_true h3 with h | h
    · exact .inl ⟨j, h2, h⟩
    · exact .inr ⟨j, h2, h⟩
  · rintro (⟨j, h2, h⟩ | ⟨j, h2, h⟩)
    · exact ⟨j, by omega, h2, decide_eq_true (.inl h)⟩
    · exact ⟨j, by omega, h2, decide_eq_true (.inr h)⟩

set_option maxRecDepth 100000 in
set_option maxHeartbeats 800000 in
theorem rcheck_any (w : World) (s : ByteArray) (hs : s.size ≤ 9223372036854775807) (c : Int) (hc : CheckIs s c) : Calls Tryd.prog 14 #[.string s] w fun e w' => e = .returned (.int .i64 c) ∧ w = w' := by
  by_cases hl : Lits s
  · obtain rfl : c = 25 := by rcases hc with h | h | h <;> first | exact h.2 | exact absurd hl h.1
    clear hc
    rcases hl with rfl | rfl | rfl
    all_goals
      go_enter Tryd.func14, Tryd.ntmps14
      go_wp2
      go_returns
      exact ⟨rfl, rfl⟩
  · have n1 := ne_one (fun h => hl (.inr (.inl h)))
    have n2 := ne_two (fun h => hl (.inr (.inr h)))
    have hne : s.toList.isEmpty = false := by
      rw [ByteArray.toList_eq]
      cases hd : s.data.toList with
      | nil => exact absurd (.inl (ba_ext hd)) hl
      | cons a t => rfl
    have hbh := bad_has s
    by_cases h47 : ∃ j, j < s.size ∧ (s.get! j).toNat = 47
    · have C := Lib.hid (fun W => has_any W s hs 47 47 rfl true ⟨fun _ => h47, fun _ => rfl⟩)
      obtain rfl : c = 25 := by rcases hc with h | h | h <;> first | exact h.2 | exact absurd (hbh.2 (.inl h47)) h.2.1
      clear hc hl hbh h47
      go_enter Tryd.func14, Tryd.ntmps14
      go_wp2_with fail
      refine (C.out _).mono ?_
      rintro e w1 ⟨rfl, rfl⟩
      go_wp2
      go_returns
      exact ⟨rfl, rfl⟩
    · have C := Lib.hid (fun W => has_any W s hs 47 47 rfl false ⟨fun h => absurd h (by decide), fun h => absurd h h47⟩)
      by_cases h0 : ∃ j, j < s.size ∧ (s.get! j).toNat = 0
      · have D := Lib.hid (fun W => has_any W s hs 0 0 rfl true ⟨fun _ => h0, fun _ => rfl⟩)
        obtain rfl : c = 25 := by rcases hc with h | h | h <;> first | exact h.2 | exact absurd (hbh.2 (.inr h0)) h.2.1
        clear hc hl hbh h47 h0
        go_enter Tryd.func14, Tryd.ntmps14
        go_wp2_with fail
        refine (C.out _).mono ?_
        rintro e w1 ⟨rfl, rfl⟩
        go_wp2_with fail
        refine (D.out _).mono ?_
        rintro e w1 ⟨rfl, rfl⟩
        go_wp2
        go_returns
        exact ⟨rfl, rfl⟩
      · have D := Lib.hid (fun W => has_any W s hs 0 0 rfl false ⟨fun h => absurd h (by decide), fun h => absurd h h0⟩)
        rcases hc with h | ⟨_, _, h2, rfl⟩ | ⟨_, _, h2, rfl⟩
        · exact absurd h.1 (fun h => h.elim hl (fun h => (hbh.1 h).elim h47 h0))
        all_goals
          clear hl hbh h47 h0
          go_enter Tryd.func14, Tryd.ntmps14
          go_wp2_with fail
          refine (C.out _).mono ?_
          rintro e w1 ⟨rfl, rfl⟩
          go_wp2_with fail
          refine (D.out _).mono ?_
          rintro e w1 ⟨rfl, rfl⟩
          go_wp2
          go_returns
          exact ⟨rfl, rfl⟩
end Go.Proofs.YtgiiddcjepjgcaaDoor
