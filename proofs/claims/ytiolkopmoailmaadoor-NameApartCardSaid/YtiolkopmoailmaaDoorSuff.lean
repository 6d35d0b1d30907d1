/- Suffixed and Base of both, at every text. -/
import Derived.Test.YtiolkopmoailmaaDoorLF
import Derived.Test.YtiolkopmoailmaaDoorChecks
set_option linter.unusedVariables false
namespace Go.Proofs.YtiolkopmoailmaaDoor
open Go.RowKit

def BaseIs (s b : ByteArray) (x : Int) : Prop :=
  (Lib.lastIdx s 126 s.size ≤ 0 ∧ b = s ∧ x = 0) ∨ (∃ i : Nat, 1 ≤ i ∧ i < s.size ∧ Lib.lastIdx s 126 s.size = i ∧ ∃ (y : Int) (ok : Bool), numV (s.extract (i + 1) s.size).data.toList = .tuple #[.int .i64 y, .bool ok] ∧
    ((ok = false ∧ b = s ∧ x = 0) ∨ (ok = true ∧ y < 2 ∧ b = s ∧ x = 0) ∨ (ok = true ∧ 2 ≤ y ∧ b = s.extract 0 i ∧ x = y)))
theorem base_is (s : ByteArray) : ∃ b x, BaseIs s b x := by
  rcases Lib.lastIdx_spec s 126 s.size with ⟨h, _⟩ | ⟨i, h1, h2, _⟩
  · exact ⟨_, _, .inl ⟨by omega, rfl, rfl⟩⟩
  · by_cases h0 : i = 0
    · exact ⟨_, _, .inl ⟨by omega, rfl, rfl⟩⟩
    · obtain ⟨y, ok, hv⟩ : ∃ (x : Int) (ok : Bool), numV (s.extract (i + 1) s.size).data.toList = .tuple #[.int .i64 x, .bool ok] := by
        unfold numV
        cases numOf (s.extract (i + 1) s.size).data.toList <;> exact ⟨_, _, rfl⟩
      cases ok with
      | false => exact ⟨_, _, .inr ⟨i, by omega, h1, h2, y, _, hv, .inl ⟨rfl, rfl, rfl⟩⟩⟩
      | true =>
        by_cases hy : y < 2
        · exact ⟨_, _, .inr ⟨i, by omega, h1, h2, y, _, hv, .inr (.inl ⟨rfl, hy, rfl, rfl⟩)⟩⟩
        · exact ⟨_, _, .inr ⟨i, by omega, h1, h2, y, _, hv, .inr (.inr ⟨rfl, by omega, rfl, rfl⟩)⟩⟩

set_option maxRecDepth 100000 in
set_option maxHeartbeats 800000 in
theorem base_any (w : World) (s b : ByteArray) (x : Int) (hs : s.size ≤ 600) (h : BaseIs s b x) : Calls Tryd.prog 15 #[.string s] w fun e w' => e = .returned (.tuple #[.string b, .int .i64 x]) ∧ Below w.heap.size w w' := by
  have L : Hid (∀ W, Calls Tryd.prog 29 #[.string s, .string ⟨#[126]⟩] W fun e w' => e = .returned (.int .i64 (Lib.lastIdx s 126 s.size)) ∧ w' = W) := Lib.hid (fun W => Tryd.strings_LastIndex_one s ⟨#[126]⟩ (by decide) (by omega) W)
  unfold BaseIs at h
  generalize Lib.lastIdx s 126 s.size = l at *
  rcases h with ⟨hl, rfl, rfl⟩ | ⟨i, h1, h2, rfl, y, ok, hv, h⟩
  · go_enter Tryd.func15, Tryd.ntmps15
    go_wp2_with fail
    refine (L.out _).mono ?_
    rintro e w1 ⟨rfl, rfl⟩
    go_wp2
    go_returns
    exact ⟨rfl, Below.refl _ _⟩
  · have N := Lib.hid (fun W => number_any W (s.extract (i + 1) s.size) (by simp only [ByteArray.size_extract]; omega))
    rw [hv] at N
    clear hv
    rcases h with ⟨rfl, rfl, rfl⟩ | ⟨rfl, hy, rfl, rfl⟩ | ⟨rfl, hy, rfl, rfl⟩
    all_goals
      go_enter Tryd.func15, Tryd.ntmps15
      go_wp2_with fail
      refine (L.out _).mono ?_
      rintro e w1 ⟨rfl, rfl⟩
      go_wp2_with fail
      refine (N.out _).mono ?_
      rintro e w2 ⟨rfl, hb⟩
      have HB := Lib.hid hb
      clear hb
      go_wp2
      go_returns
      exact ⟨rfl, HB.out⟩

set_option maxRecDepth 100000 in
set_option maxHeartbeats 1600000 in
theorem rbase_any (w : World) (s b : ByteArray) (x : Int) (hs : s.size ≤ 600) (h : BaseIs s b x) : Calls Tryd.prog 16 #[.string s] w fun e w' => e = .returned (.tuple #[.string b, .int .i64 x]) ∧ Below w.heap.size w w' := by
  have H := Lib.hid h
  clear h
  go_enter Tryd.func16, Tryd.ntmps16
  go_wp2
  go_loop [4, 5] (fun lv kv => ∃ k : Nat, kv = .int .i64 k ∧ k ≤ s.size ∧ lv = .int .i64 (Lib.lastIdx s 126 k)) (fun _ kv => s.size - (intOf kv).toNat)
  case atStart => exact ⟨0, rfl, by omega, rfl⟩
  case round =>
    obtain ⟨k, rfl, hk, rfl⟩ := hrel
    by_cases hlt : k < s.size
    · have hg : s.data[k]! = s[k]'hlt := by
        show s.data[k]! = s.data[k]'hlt
        exact getElem!_pos s.data k hlt
      have hst : Lib.lastIdx s 126 (k + 1) = if ((s[k]'hlt).toNat : Int) = 126 then (k : Int) else Lib.lastIdx s 126 k := by
        show (if ((s.data[k]!).toNat : Int) = 126 then (k : Int) else Lib.lastIdx s 126 k) = _
        rw [hg]
      by_cases hx : ((s[k]'hlt).toNat : Int) = 126
      · rw [if_pos hx] at hst
        have t1 := beqb_ _ _ hx
        have HS := Lib.hid hst
        clear hst hg hx
        generalize Lib.lastIdx s 126 k = l
        go_wp2
        go_round
        case rel => exact ⟨k + 1, by go_num, by omega, by rw [HS.out]⟩
        case measure => simp [intOf]; omega
      · rw [if_neg hx] at hst
        have t1 := bneb_ _ _ hx
        have HS := Lib.hid hst
        clear hst hg hx
        generalize Lib.lastIdx s 126 k = l at *
        go_wp2
        go_round
        case rel => exact ⟨k + 1, by go_num, by omega, by rw [HS.out]⟩
        case measure => simp [intOf]; omega
    · obtain rfl : k = s.size := by omega
      have h := H.out
      clear H hlt
      unfold BaseIs at h
      generalize Lib.lastIdx s 126 s.size = l at *
      rcases h with ⟨hl, rfl, rfl⟩ | ⟨i, h1, h2, rfl, y, ok, hv, h⟩
      · go_wp2
        go_returns
        exact ⟨rfl, Below.refl _ _⟩
      · have N := Lib.hid (fun W => rnumber_any W (s.extract (i + 1) s.size) (by simp only [ByteArray.size_extract]; omega))
        rw [hv] at N
        clear hv
        rcases h with ⟨rfl, rfl, rfl⟩ | ⟨rfl, hy, rfl, rfl⟩ | ⟨rfl, hy, rfl, rfl⟩
        all_goals
          go_wp2_with fail
          refine (N.out _).mono ?_
          rintro e w2 ⟨rfl, hb⟩
          have HB := Lib.hid hb
          clear hb
          go_wp2
          go_returns
          exact ⟨rfl, HB.out⟩

/-- What Suffixed tells. -/
def SuffIs (s : ByteArray) (k : Int) (t : ByteArray) : Prop := ∃ N j, IsN s N ∧ IsFit s N (254 - ((decS (max k 2)).size : Int)) j ∧ t = s.extract 0 (bd s j) ++ ⟨#[126]⟩ ++ decS (max k 2)
theorem suff_is (s : ByteArray) (k : Int) : ∃ t, SuffIs s k t := by
  obtain ⟨N, hN⟩ := isN_exists s
  obtain ⟨j, hj⟩ := isFit_exists (s := s) (N := N) (254 - ((decS (max k 2)).size : Int))
  exact ⟨_, N, j, hN, hj, rfl⟩

set_option maxRecDepth 100000 in
set_option maxHeartbeats 800000 in
theorem suffixed_any (w : World) (s t : ByteArray) (k : Int) (hs : s.size ≤ 600) (hk : k ≤ 9223372036854775807) (ht : Tab w) (h : SuffIs s k t) : Calls Tryd.prog 17 #[.string s, .int .i64 k] w fun e w' => e = .returned (.string t) ∧ Below w.heap.size w w' := by
  obtain ⟨N, j, hN, hj, rfl⟩ := h
  have D := Lib.hid (fun W (hb : Below w.heap.size w W) => digits_any W (max k 2) (by omega) (tab_later ht hb))
  have hsz := decS_size (max k 2) (by omega)
  generalize hd : decS (max k 2) = d at *
  clear hd
  have e2 : 255 - (1 + (d.size : Int)) = 254 - (d.size : Int) := by omega
  rw [← e2] at hj
  have F := Lib.hid (fun W => fit_any s N j (255 - (1 + (d.size : Int))) W (by omega) hN hj)
  clear e2
  have EA := Lib.hid (show s.extract 0 (bd s j) ++ ((⟨#[126]⟩ : ByteArray) ++ d) = s.extract 0 (bd s j) ++ ⟨#[126]⟩ ++ d by rw [ByteArray.append_assoc])
  clear hN hj ht
  go_enter Tryd.func17, Tryd.ntmps17
  go_wp2_with fail
  refine (D.out _ (Below.refl _ _)).mono ?_
  rintro e w1 ⟨rfl, hb⟩
  have HB := Lib.hid hb
  clear hb
  go_wp2_with fail
  refine (F.out _).mono ?_
  rintro e w2 ⟨rfl, hb⟩
  have HB2 := Lib.hid (HB.out.trans (hb.mono HB.out.size))
  clear hb
  go_wp2
  go_returns
  exact ⟨by rw [← EA.out]; rfl, HB2.out⟩

set_option maxRecDepth 100000 in
set_option maxHeartbeats 800000 in
theorem rsuffixed_any (w : World) (s t : ByteArray) (k : Int) (hs : s.size ≤ 600) (hk : k ≤ 9223372036854775807) (h : SuffIs s k t) : Calls Tryd.prog 18 #[.string s, .int .i64 k] w fun e w' => e = .returned (.string t) ∧ Below w.heap.size w w' := by
  obtain ⟨N, j, hN, hj, rfl⟩ := h
  have D := Lib.hid (fun W => rdig_any W (max k 2) (by omega))
  have hsz := decS_size (max k 2) (by omega)
  have hmx : (k < 2 ∧ max k 2 = 2) ∨ (2 ≤ k ∧ max k 2 = k) := by omega
  generalize hd : decS (max k 2) = d at *
  clear hd
  have F := Lib.hid (fun W => rfit_any s N j (254 - (d.size : Int)) W (by omega) hN hj)
  clear hN hj
  rcases hmx with ⟨h1, h2⟩ | ⟨h1, h2⟩
  all_goals
    rw [h2] at D
    clear h2
    go_enter Tryd.func18, Tryd.ntmps18
    go_wp2_with fail
    refine (D.out _).mono ?_
    rintro e w1 ⟨rfl, hb⟩
    have HB := Lib.hid hb
    clear hb
    go_wp2_with fail
    refine (F.out _).mono ?_
    rintro e w2 ⟨rfl, hb⟩
    have HB2 := Lib.hid (HB.out.trans (hb.mono HB.out.size))
    clear hb
    go_wp2
    go_returns
    exact ⟨rfl, HB2.out⟩
end Go.Proofs.YtiolkopmoailmaaDoor
