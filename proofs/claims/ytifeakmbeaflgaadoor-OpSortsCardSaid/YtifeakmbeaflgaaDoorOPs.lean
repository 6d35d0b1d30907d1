/- OpParses' law. -/
import Derived.Test.YtifeakmbeaflgaaDoorPF
import Derived.Test.YtifeakmbeaflgaaDoorOU
set_option linter.unusedVariables false
set_option linter.unusedSimpArgs false
set_option maxRecDepth 100000
namespace Go.Proofs.YtifeakmbeaflgaaDoor
open Go.RowKit
open Wi (Byt)

theorem sameO_refl (l : List O) : sameO l l = true := by
  unfold sameO
  simp
set_option maxHeartbeats 6400000 in
theorem parses_law (w : World) (v : Value) (bs : List Int) (hT : Tab w) (h : Wi.Lies w v bs) (hb : Byt bs) (hbl : bs.length ≤ maxLen) :
    Calls Tryd.prog 5 #[v] w fun e w' => e = .returned (.bool true) ∧ Below w.heap.size w w' := by
  have AW := Lib.hid (fun W (hb : Below w.heap.size w W) => awake_any W (tab_later hT hb))
  have L1 := Lib.hid h
  have HB := Lib.hid hb
  obtain ⟨ao, cap, rfl, -⟩ := id h
  unfold maxLen at hbl
  by_cases hbig : (2000 : Int) < (bs.length : Int)
  · have A := Lib.hid (AW.out w (Below.refl _ _))
    clear h hb hT
    go_enter Tryd.func5, Tryd.ntmps5
    go_wp2_with fail
    refine A.out.mono ?_
    rintro e w1 ⟨rfl, hb1⟩
    have B1 := Lib.hid hb1
    clear hb1
    go_wp2
    go_returns
    exact ⟨rfl, B1.out⟩
  · have PA := Lib.hid (parse_any w _ bs h hb (by omega))
    have PB := Lib.hid (fun (W : World) (k : Below w.heap.size w W) => rparse_any W (.slice ao bs.length cap) bs (L1.out.later k) HB.out (by omega))
    clear h hb hT
    obtain ⟨⟨l, f⟩, hp⟩ : ∃ q, parseO bs = q := ⟨_, rfl⟩
    rw [hp] at PA PB
    simp only at PA PB
    clear hp
    go_enter Tryd.func5, Tryd.ntmps5
    go_wp2_with fail
    refine PA.out.mono ?_
    rintro e w1 ⟨v1, rfl, hl1, hb1⟩
    have O1 := Lib.hid hl1
    have B1 := Lib.hid hb1
    obtain ⟨a1, c1, rfl⟩ := hl1.shape
    have P2 := Lib.hid (PB.out w1 hb1)
    clear hl1 hb1 PA
    go_wp2_with fail
    refine P2.out.mono ?_
    rintro e w2 ⟨v2, rfl, hl2, hb2⟩
    have O2 := Lib.hid hl2
    have O1b := Lib.hid (O1.out.step hb2)
    have B2 := Lib.hid (B1.out.trans (hb2.mono B1.out.size))
    obtain ⟨a2, c2, rfl⟩ := hl2.shape
    have SA := Lib.hid (rsameO_any w2 _ _ l l O1b.out O2.out)
    rw [sameO_refl] at SA
    clear hl2 hb2 P2
    go_wp2_with fail
    refine SA.out.mono ?_
    rintro e w3 ⟨rfl, hb3⟩
    have B3 := Lib.hid (B2.out.trans (hb3.mono B2.out.size))
    have A := Lib.hid (AW.out w3 B3.out)
    clear hb3 SA
    go_wp2_with fail
    refine A.out.mono ?_
    rintro e w4 ⟨rfl, hb4⟩
    have B4 := Lib.hid (B3.out.trans (hb4.mono B3.out.size))
    clear hb4
    go_wp2
    go_returns
    exact ⟨rfl, B4.out⟩
end Go.Proofs.YtifeakmbeaflgaaDoor
