/- The example. -/
import Derived.Test.YtgiiddcjepjgcaaDoorPI
set_option linter.unusedVariables false
namespace Go.Proofs.YtgiiddcjepjgcaaDoor
open Go.RowKit

theorem push_size (w : World) (o : Obj) : (w.alloc o).heap.size = w.heap.size + 1 := by
  show (w.heap.push o).size = _
  exact Array.size_push ..
set_option maxRecDepth 100000 in
set_option maxHeartbeats 3200000 in
theorem awake_any (w : World) (m : Int) (hm : w.cell? ⟨0, 0, none⟩ = some (.int .i64 m)) : Calls Tryd.prog 6 #[] w fun e w' => e = .returned (.bool true) ∧ Below w.heap.size w w' := by
  have lt0 : ∀ {w : World}, w.cell? ⟨0, 0, none⟩ = some (.int .i64 m) → 0 < w.heap.size := fun {w} h => by
    rcases Nat.eq_zero_or_pos w.heap.size with q | q
    · rw [World.cell?, Array.getElem?_eq_none (by show w.heap.size ≤ 0; omega)] at h
      simp at h
    · exact q
  have P1 := Lib.hid (p1 w m hm)
  have HM := Lib.hid hm
  have LT := Lib.hid (lt0 hm)
  clear hm lt0
  go_enter Tryd.func6, Tryd.ntmps6
  go_wp2_with fail
  refine P1.out.mono ?_
  rintro e w1 ⟨v1, rfl, hv, hb⟩
  have V1 := Lib.hid hv
  have B1 := Lib.hid hb
  have P2 := Lib.hid (p2 w1 m ((hb.cell (p := ⟨0, 0, none⟩) LT.out).trans HM.out))
  clear hv hb P1
  go_wp2_with fail
  refine P2.out.mono ?_
  rintro e w2 ⟨v2, rfl, hb⟩
  have B2 := Lib.hid (B1.out.trans (hb.mono B1.out.size))
  have V2 := Lib.hid (V1.out.step hb)
  have P3 := Lib.hid (p3 w2 m ((B2.out.cell (p := ⟨0, 0, none⟩) LT.out).trans HM.out))
  clear hb P2 V1 B1
  go_wp2_with fail
  refine P3.out.mono ?_
  rintro e w3 ⟨v3, rfl, hb⟩
  have B3 := Lib.hid (B2.out.trans (hb.mono B2.out.size))
  have V3 := Lib.hid (V2.out.step hb)
  clear hb P3 V2 B2
  have SAME := Lib.hid (rsame_any (w3.alloc (.cells (strs [sA, sB]).toArray 9)) v1 _ [sA, sB] (V3.out.step (vstep w3 _)) (slies_new w3 [sA, sB] (by decide)))
  have BS := Lib.hid (B3.out.trans ((vstep w3 (.cells (strs [sA, sB]).toArray 9)).mono B3.out.size))
  clear V3
  go_wp2_with fail
  refine SAME.out.mono ?_
  rintro e w4 ⟨rfl, hb⟩
  have B4 := Lib.hid (BS.out.trans (hb.mono BS.out.size))
  have v1' := vstep w4 (.cells (strs [sA, sB, sC]).toArray 9)
  have v2' := vstep (w4.alloc (.cells (strs [sA, sB, sC]).toArray 9)) (.cells (strs eP).toArray 9)
  have hsz : (w4.alloc (.cells (strs [sA, sB, sC]).toArray 9)).heap.size = w4.heap.size + 1 := push_size _ _
  have S2 := slies_new (w4.alloc (.cells (strs [sA, sB, sC]).toArray 9)) eP (by decide)
  rw [hsz] at S2
  have MA := Lib.hid (ex_match _ _ _ ((slies_new w4 [sA, sB, sC] (by decide)).step v2') S2)
  have BM := Lib.hid (B4.out.trans ((v1'.trans (v2'.mono v1'.size)).mono B4.out.size))
  clear hb SAME BS v1' v2' hsz S2 B4
  go_wp2_with fail
  refine MA.out.mono ?_
  rintro e w5 ⟨rfl, hb⟩
  have B5 := Lib.hid (BM.out.trans (hb.mono BM.out.size))
  have TX := Lib.hid (text_nil w5)
  clear hb MA BM
  go_wp2_with fail
  refine TX.out.mono ?_
  rintro e w6 ⟨rfl, rfl⟩
  clear TX
  have t0 : ((ByteArray.mk #[47]).toList == [47]) = true := by rw [ByteArray.toList_eq]; rfl
  go_wp2
  go_returns
  exact ⟨rfl, B5.out⟩
end Go.Proofs.YtgiiddcjepjgcaaDoor
