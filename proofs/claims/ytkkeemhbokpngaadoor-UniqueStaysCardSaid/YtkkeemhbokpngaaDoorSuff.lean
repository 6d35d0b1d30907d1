/- Suffixed and Base of both, at every text. -/
import Derived.Test.YtkkeemhbokpngaaDoorLF
import Derived.Test.YtkkeemhbokpngaaDoorRNumW
import Derived.Test.YtkkeemhbokpngaaDoorCheckB
import Derived.Deep.RegionLaw
import Derived.Lib.ConvBytes
import Derived.WalkKit
import Derived.Deep.AppendSrc
import Derived.OwnWalk
import Derived.Laws.OwnMore
set_option linter.unusedVariables false
namespace Go.Proofs.YtkkeemhbokpngaaDoor
open Go.RowKit

/-- What Suffixed tells. -/
def SuffIs (s : ByteArray) (k : Int) (t : ByteArray) : Prop := ∃ N j, IsN s N ∧ IsFit s N (254 - ((decS (max k 2)).size : Int)) j ∧ t = s.extract 0 (bd s j) ++ ⟨#[126]⟩ ++ decS (max k 2)
theorem suff_is (s : ByteArray) (k : Int) : ∃ t, SuffIs s k t := by
  obtain ⟨N, hN⟩ := isN_exists s
  obtain ⟨j, hj⟩ := isFit_exists (s := s) (N := N) (254 - ((decS (max k 2)).size : Int))
  exact ⟨_, N, j, hN, hj, rfl⟩

set_option maxRecDepth 100000 in
set_option maxHeartbeats 800000 in
theorem suffixed_any (w : World) (s t : ByteArray) (k : Int) (hs : s.size ≤ 600) (hk : k ≤ 9223372036854775807) (ht : Tab w) (h : SuffIs s k t) : Calls Tryd.prog 16 #[.string s, .int .i64 k] w fun e w' => e = .returned (.string t) ∧ Below w.heap.size w w' := by
  obtain ⟨N, j, hN, hj, rfl⟩ := h
  have D := Lib.hid (fun W (hb : Below w.heap.size w W) => digits_any W (max k 2) (by omega) (tab_later ht hb))
  have hsz := decS_size (max k 2) (by omega)
  generalize hd : decS (max k 2) = d at *
  clear hd
  have e2 : 255 - (1 + (d.size : Int)) = 254 - (d.size : Int) := by omega
  rw [← e2] at hj
  have F := Lib.hid (fun W => fit_any s N j (255 - (1 + (d.size : Int))) W (by omega) hN hj)
  clear e2
  have EA := Lib.hid (show s.extract 0 (bd s j) ++ ((⟨#[126]⟩ : ByteArray) ++ d) = s.extract 0 (bd s j) ++ ⟨#[126]⟩ ++ d by rw [ByteArray.append_assoc])
  clear hN hj ht
  go_enter Tryd.func16, Tryd.ntmps16
  go_wp2_with fail
  refine (D.out _ (Below.refl _ _)).mono ?_
  rintro e w1 ⟨rfl, hb⟩
  have HB := Lib.hid hb
  clear hb
  go_wp2_with fail
  refine (F.out _).mono ?_
  rintro e w2 ⟨rfl, hb⟩
  have HB2 := Lib.hid (HB.out.trans (hb.mono HB.out.size))
  clear hb
  go_wp2
  go_returns
  exact ⟨by rw [← EA.out]; rfl, HB2.out⟩

set_option maxRecDepth 100000 in
set_option maxHeartbeats 800000 in
theorem rsuffixed_any (w : World) (s t : ByteArray) (k : Int) (hs : s.size ≤ 600) (hk : k ≤ 9223372036854775807) (h : SuffIs s k t) : Calls Tryd.prog 17 #[.string s, .int .i64 k] w fun e w' => e = .returned (.string t) ∧ Below w.heap.size w w' := by
  obtain ⟨N, j, hN, hj, rfl⟩ := h
  have D := Lib.hid (fun W => rdig_any W (max k 2) (by omega))
  have hsz := decS_size (max k 2) (by omega)
  have hmx : (k < 2 ∧ max k 2 = 2) ∨ (2 ≤ k ∧ max k 2 = k) := by omega
  generalize hd : decS (max k 2) = d at *
  clear hd
  have F := Lib.hid (fun W => rfit_any s N j (254 - (d.size : Int)) W (by omega) hN hj)
  clear hN hj
  rcases hmx with ⟨h1, h2⟩ | ⟨h1, h2⟩
  all_goals
    rw [h2] at D
    clear h2
    go_enter Tryd.func17, Tryd.ntmps17
    go_wp2_with fail
    refine (D.out _).mono ?_
    rintro e w1 ⟨rfl, hb⟩
    have HB := Lib.hid hb
    clear hb
    go_wp2_with fail
    refine (F.out _).mono ?_
    rintro e w2 ⟨rfl, hb⟩
    have HB2 := Lib.hid (HB.out.trans (hb.mono HB.out.size))
    clear hb
    go_wp2
    go_returns
    exact ⟨rfl, HB2.out⟩
end Go.Proofs.YtkkeemhbokpngaaDoor
