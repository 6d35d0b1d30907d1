/- The chapter's example. -/
import Derived.Test.YtlhicojbpjdbaaaFrH
set_option linter.unusedVariables false
namespace Go.Proofs.Ytlhicojbpjdbaaa
open Go.RowKit

set_option maxRecDepth 100000 in
set_option maxHeartbeats 1600000 in
theorem awake_any (w : World) : Calls Try.prog 7 #[] w fun e w' => e = .returned (.bool true) ∧ Below w.heap.size w w' := by
  have P := put_any w 1 0 1 (.slice none 0 0) [] (Lies.nil w) (by intro x hx; cases hx) (by omega) (by omega) (by omega) (by simp) rfl
  have hlen : (seal' (fb 1 0 1 [])).length = 8 := by rw [seal_length]; rfl
  have hbyt : Byt (seal' (fb 1 0 1 [])) := seal_byt (by intro x hx; unfold fb at hx; simp at hx; omega)
  have htk : (seal' (fb 1 0 1 [])).take ((seal' (fb 1 0 1 [])).length - 4) = 1 :: 1 :: 0 :: 1 :: [] := by
    rw [hlen]; unfold seal'; rfl
  have hse := sealed_seal (fb 1 0 1 [])
  have G : ∀ W v, Lies W v (seal' (fb 1 0 1 [])) → _ := fun W v h => get_ok W v _ h hbyt (by rw [hlen]; omega) (by rw [hlen]; omega) hse htk rfl rfl
  have S0 := fun W => get_short W (.slice none 0 0) [] (Lies.nil W) (by simp)
  generalize seal' (fb 1 0 1 []) = ss at *
  have P := Lib.hid P
  have G := Lib.hid G
  have S := Lib.hid S0
  clear S0
  have HLEN := Lib.hid hlen
  clear hbyt htk hse hlen
  go_enter Try.func7, Try.ntmps7
  go_wp2_with fail
  refine P.out.mono ?_
  rintro e w1 ⟨r, rfl, hr⟩
  have B1 := Lib.hid hr.2
  have hL := own_lies hr.1
  obtain ⟨ra, rc, rfl⟩ := own_shape hr.1
  have G1 := Lib.hid (G.out w1 _ hL)
  rw [HLEN.out] at G1 ⊢
  clear hr hL
  go_wp2_with fail
  refine G1.out.mono ?_
  rintro e w2 ⟨r2, rfl, hr2, hb2⟩
  have B2 := Lib.hid (B1.out.trans (hb2.mono B1.out.size))
  obtain ⟨a2, c2, rfl, _⟩ := id hr2
  have L2 := Lib.hid hr2
  clear hr2 hb2
  go_wp2_with fail
  refine (S.out _).mono ?_
  rintro e w3 ⟨rfl, hb3⟩
  have BX := (Below.refl w2.heap.size w2).alloc (Nat.le_refl _) (.cells #[.int .i64 1, .int .i64 0, .int .i64 1, .slice a2 0 c2] 29)
  have hbF := (hb3.block w2.heap.size (by simp)).trans (heap_alloc_new w2 (.cells #[.int .i64 1, .int .i64 0, .int .i64 1, .slice a2 0 c2] 29))
  have hlt : w2.heap.size < w3.heap.size := (Array.getElem?_eq_some_iff.1 hbF).1
  have BZ := (Below.refl w3.heap.size w3).alloc (Nat.le_refl _) (.cells #[.int .i64 0, .int .i64 0, .int .i64 0, .slice none 0 0] 29)
  have hbG := (BZ.block w2.heap.size hlt).trans hbF
  obtain ⟨⟨p0, p1, p2, p3⟩, _⟩ := box_cells hbG
  have b23 := BX.trans (hb3.mono BX.size)
  have L3 := Lib.hid ((L2.out.later b23).later BZ)
  have b3 := B2.out.trans (b23.mono B2.out.size)
  have B4 := Lib.hid (b3.trans (BZ.mono b3.size))
  clear BX hb3 hbF b23 BZ hbG b3
  go_wp2_with fail
  refine (fsame_any _ 1 0 1 1 0 1 _ _ [] [] L3.out (Lies.nil _) (fun x hx => by cases hx) (fun x hx => by cases hx) true (by simp)).mono ?_
  rintro e w5 ⟨rfl, hb5⟩
  have B5 := Lib.hid (B4.out.trans (hb5.mono B4.out.size))
  clear hb5
  go_wp2
  go_returns
  exact ⟨rfl, B5.out⟩
end Go.Proofs.Ytlhicojbpjdbaaa
