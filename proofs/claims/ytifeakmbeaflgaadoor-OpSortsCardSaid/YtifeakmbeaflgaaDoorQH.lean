/- OpSorts' law. Made by genqf7.py. -/
import Derived.Test.YtifeakmbeaflgaaDoorQG
import Derived.Test.YtifeakmbeaflgaaDoorOPs
set_option linter.unusedVariables false
set_option linter.unusedSimpArgs false
set_option maxRecDepth 100000
namespace Go.Proofs.YtifeakmbeaflgaaDoor
open Go.Shelf Go.RowKit Go.Lib Go.Sort

set_option maxHeartbeats 6400000 in
theorem sorts_law (w : World) (v : Value) (l : List O) (hT : Tab w) (h : OLies w v l) :
    Calls Tryd.prog 7 #[v] w fun e w' => e = .returned (.bool true) ∧ Below w.heap.size w w' := by
  have AW := Lib.hid (fun W (hb : Below w.heap.size w W) => awake_any W (tab_later hT hb))
  have LG := Lib.hid (long_any w v l h)
  have H := Lib.hid h
  cases hlo : longO l with
  | true =>
    rw [hlo] at LG
    have A := Lib.hid (AW.out w (Below.refl _ _))
    obtain ⟨ao, cap, rfl⟩ := h.shape
    clear h hT hlo
    go_enter Tryd.func7, Tryd.ntmps7
    go_wp2_with fail
    refine LG.out.mono ?_
    rintro e w1 ⟨rfl, rfl⟩
    go_wp2_with fail
    refine A.out.mono ?_
    rintro e w1 ⟨rfl, hb1⟩
    have B1 := Lib.hid hb1
    clear hb1
    go_wp2
    go_returns
    exact ⟨rfl, B1.out⟩
  | false =>
    rw [hlo] at LG
    have hl := (longO_no hlo).1
    have S1 := Lib.hid (sorted_any w v l h (by omega))
    have S2 := Lib.hid (fun (W : World) (hb : Below w.heap.size w W) => rsorted_any W v l (H.out.step hb) (by omega))
    obtain ⟨ao, cap, rfl⟩ := h.shape
    clear h hT hlo
    go_enter Tryd.func7, Tryd.ntmps7
    go_wp2_with fail
    refine LG.out.mono ?_
    rintro e w1 ⟨rfl, rfl⟩
    go_wp2_with fail
    refine S1.out.mono ?_
    rintro e w1 ⟨v1, rfl, hl1, hb1⟩
    have O1 := Lib.hid hl1
    have B1 := Lib.hid hb1
    obtain ⟨a1, c1, rfl⟩ := hl1.shape
    have P2 := Lib.hid (S2.out w1 hb1)
    clear hl1 hb1 S1
    go_wp2_with fail
    refine P2.out.mono ?_
    rintro e w2 ⟨v2, rfl, hl2, hb2⟩
    have O2 := Lib.hid hl2
    have O1b := Lib.hid (O1.out.step hb2)
    have B2 := Lib.hid (B1.out.trans (hb2.mono B1.out.size))
    obtain ⟨a2, c2, rfl⟩ := hl2.shape
    have SA := Lib.hid (rsameO_any w2 _ _ _ _ O1b.out O2.out)
    rw [sameO_refl] at SA
    clear hl2 hb2 P2
    go_wp2_with fail
    refine SA.out.mono ?_
    rintro e w3 ⟨rfl, hb3⟩
    have B3 := Lib.hid (B2.out.trans (hb3.mono B2.out.size))
    have A := Lib.hid (AW.out w3 B3.out)
    clear hb3 SA
    go_wp2_with fail
    refine A.out.mono ?_
    rintro e w4 ⟨rfl, hb4⟩
    have B4 := Lib.hid (B3.out.trans (hb4.mono B3.out.size))
    clear hb4
    go_wp2
    go_returns
    exact ⟨rfl, B4.out⟩
end Go.Proofs.YtifeakmbeaflgaaDoor
