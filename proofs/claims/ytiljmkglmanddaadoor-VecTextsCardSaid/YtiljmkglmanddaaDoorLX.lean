/- VecTexts, walked. Made by genlx.py. -/
import Derived.Test.YtiljmkglmanddaaDoorRP
import Derived.Test.YtiljmkglmanddaaDoorVRt
import Derived.Test.YtiljmkglmanddaaDoorVZ
set_option linter.unusedVariables false
namespace Go.Proofs.YtiljmkglmanddaaDoor
open Go.RowKit

theorem parseR_len {s : ByteArray} {v : List Int} (hq : parseR s = some v) : v.length = 64 := by
  unfold parseR at hq
  split at hq
  · injection hq with hq; rw [← hq]; exact zs_len
  · exact parseF_len _ _ _ _ zs_len hq
theorem parseW_len (s : ByteArray) : ∃ bl be, parseW s = (bl, be) ∧ bl.length = 64 := by
  cases hq : parseR s with
  | none => exact ⟨zs, 4, by unfold parseW; rw [hq], zs_len⟩
  | some v => exact ⟨v, 0, by unfold parseW; rw [hq], parseR_len hq⟩
theorem text_small (l : List Int) (hI : I63 l) : (textF l).size ≤ 3000 :=
  jn_small (partsF l 64) (partsF_small l hI 64 (Nat.le_refl _)) (partsF_len l 64)
set_option maxRecDepth 100000 in
set_option maxHeartbeats 1600000 in
theorem texts_big (w : World) (v0 : Value) (l : List (Nat × Int)) (s : ByteArray) (hl : LiesO w v0 l) (hs : 600 < s.size) (hs2 : s.size ≤ 9223372036854775807) (m : Int) (hm : w.cell? ⟨0, 0, none⟩ = some (.int .i64 m)) (ht : Tab w) :
    Calls Tryd.prog 5 #[v0, .string s] w fun e w' => e = .returned (.bool true) ∧ Below w.heap.size w w' := by
  have AW := Lib.hid (awake_any w m hm ht)
  obtain ⟨a0, c0, rfl⟩ := hl.shape
  have h1 : (600 : Int) < (s.size : Int) := by omega
  clear hl ht hm
  go_enter Tryd.func5, Tryd.ntmps5
  go_wp2_with fail
  refine AW.out.mono ?_
  rintro e w1 ⟨rfl, b1⟩
  have B1 := Lib.hid b1
  clear b1
  go_wp2
  go_returns
  exact ⟨rfl, B1.out⟩

set_option maxRecDepth 100000 in
set_option maxHeartbeats 6400000 in
theorem texts_sr (w : World) (v0 : Value) (l : List (Nat × Int)) (s : ByteArray) (hl : LiesO w v0 l) (hI : I63 (madeF l)) (hs : s.size ≤ 600) (m : Int) (hm : w.cell? ⟨0, 0, none⟩ = some (.int .i64 m)) (ht : Tab w) (x : List Int) (hxl : x.length = 64) (hp : parseR s = some x) (hr : RightP (madeF l)) :
    Calls Tryd.prog 5 #[v0, .string s] w fun e w' => e = .returned (.bool true) ∧ Below w.heap.size w w' := by
  have hb0 : 0 < w.heap.size := World.block_lt_of_cell? w _ hm
  have hmm := fun W (h : Below w.heap.size w W) => (h.cell (p := ⟨0, 0, none⟩) hb0).trans hm
  have AW := Lib.hid (fun W (h : Below w.heap.size w W) => awake_any W m (hmm W h) (tab_later ht h))
  have M1 := Lib.hid (Made_any w v0 l hl)
  have ha := madeF_len l
  have P1 := Lib.hid (fun W (h : Below w.heap.size w W) => parse_any W s m (by omega) (hmm W h))
  have P2 := Lib.hid (fun W => rparse_any W s (by omega))
  rw [show parseW s = (x, 0) by unfold parseW; rw [hp]] at P1
  rw [show rparseV s = .tuple #[vw x, .bool true] by unfold rparseV; rw [hp]] at P2
  have TX := Lib.hid (fun W (h : Below w.heap.size w W) => text_any W (madeF l) ha hI (tab_later ht h))
  have RT := Lib.hid (fun W => rtext_any W (madeF l) ha hI)
  have hts := text_small (madeF l) hI
  have P3 := Lib.hid (fun W (h : Below w.heap.size w W) => parse_any W (textF (madeF l)) m (by omega) (hmm W h))
  have RG := Lib.hid (fun W => rright_any W (madeF l) ha true ⟨fun _ => hr, fun _ => rfl⟩)
  rw [show parseW (textF (madeF l)) = (madeF l, 0) by unfold parseW; rw [parse_text _ ha hr]] at P3
  obtain ⟨a0, c0, rfl⟩ := hl.shape
  generalize textF (madeF l) = tx at *
  generalize madeF l = a at *
  have HX := Lib.hid (show (x).length = 64 from hxl)
  have HA := Lib.hid ha
  have EX := Lib.hid (eqin_self x HX.out)
  have EA := Lib.hid (eqin_self a ha)
  have LA := Lib.hid (fun (W : World) (g : Nat) (h : VAt 24 W g a) => load_va v24 W g a ha h)
  have LX := Lib.hid (fun (W : World) (g : Nat) (h : VAt 24 W g x) => load_va v24 W g x HX.out h)
  have LY := Lib.hid (fun (W : World) (g : Nat) (h : VAt 23 W g x) => load_va v23 W g x HX.out h)
  have h1 : ¬ (600 : Int) < (s.size : Int) := by omega
  have htl := tl_eq (rfl : tx = tx)
  have htn := tln_eq (rfl : tx = tx)
  unfold vw at *
  clear hl ht hm hb0 hmm hs hI ha hts hr hp hxl
  go_enter Tryd.func5, Tryd.ntmps5
  go_wp2_with fail
  refine M1.out.mono ?_
  rintro e w1 ⟨rfl, b1⟩
  obtain ⟨W1, W2, e1, e2, b2, v2⟩ := one_box z24 v24 w1 a HA.out
  have E1 := Lib.hid e1
  have E2 := Lib.hid e2
  have VA := Lib.hid v2
  have BB := Lib.hid (b1.trans (b2.mono b1.size))
  obtain ⟨g1, hg1⟩ : ∃ g, w1.heap.size = g := ⟨_, rfl⟩
  rw [hg1] at E1 E2 VA
  clear e1 e2 b1 b2 v2 hg1 M1
  go_wp2_with (first | refine wpList_alloc_arr rfl 24 rfl _ _ E1.out ?_ | refine wpList_store_arr rfl (.tmp 5) (.tmp 18) 24 rfl (.pointer (some ⟨g1, 0, none⟩)) (.agg (va a)) rfl rfl _ E2.out ?_)
  refine (P1.out _ BB.out).mono ?_
  rintro e w3 ⟨rfl, b3⟩
  obtain ⟨W3, W4, e3, e4, b4, v4⟩ := one_box z24 v24 w3 x HX.out
  have E3 := Lib.hid e3
  have E4 := Lib.hid e4
  have VX := Lib.hid v4
  have VA := Lib.hid ((VA.out.step b3).step b4)
  have BB := Lib.hid ((BB.out.trans (b3.mono BB.out.size)).trans (b4.mono (BB.out.trans (b3.mono BB.out.size)).size))
  obtain ⟨g2, hg2⟩ : ∃ g, w3.heap.size = g := ⟨_, rfl⟩
  rw [hg2] at E3 E4 VX
  clear e3 e4 b3 b4 v4 hg2 E1 E2 P1
  go_wp2_with (first | refine wpList_alloc_arr rfl 24 rfl _ _ E3.out ?_ | refine wpList_store_arr rfl (.tmp 6) (.tmp 22) 24 rfl (.pointer (some ⟨g2, 0, none⟩)) (.agg (va x)) rfl rfl _ E4.out ?_)
  refine (P2.out _).mono ?_
  rintro e w5 ⟨rfl, b5⟩
  obtain ⟨W5, W6, e5, e6, b6, v6⟩ := one_box z23 v23 w5 x HX.out
  have E5 := Lib.hid e5
  have E6 := Lib.hid e6
  have VY := Lib.hid v6
  have VA := Lib.hid ((VA.out.step b5).step b6)
  have VX := Lib.hid ((VX.out.step b5).step b6)
  have BB := Lib.hid ((BB.out.trans (b5.mono BB.out.size)).trans (b6.mono (BB.out.trans (b5.mono BB.out.size)).size))
  obtain ⟨g3, hg3⟩ : ∃ g, w5.heap.size = g := ⟨_, rfl⟩
  rw [hg3] at E5 E6 VY
  clear e5 e6 b5 b6 v6 hg3 E3 E4 P2
  go_wp2_with (first | refine wpList_alloc_arr rfl 23 rfl _ _ E5.out ?_ | refine wpList_store_arr rfl (.tmp 8) (.tmp 27) 23 rfl (.pointer (some ⟨g3, 0, none⟩)) (.agg (va x)) rfl rfl _ E6.out ?_ | refine wpList_load_arrG rfl (.tmp 5) 24 rfl (.pointer (some ⟨g1, 0, none⟩)) (.agg (va a)) rfl (LA.out _ _ VA.out) ?_)
  refine (TX.out _ BB.out).mono ?_
  rintro e w7 ⟨rfl, b7⟩
  have VA := Lib.hid (VA.out.step b7)
  have VX := Lib.hid (VX.out.step b7)
  have VY := Lib.hid (VY.out.step b7)
  have BB := Lib.hid (BB.out.trans (b7.mono BB.out.size))
  clear b7 E5 E6 TX
  go_wp2_with (refine wpList_load_arrG rfl (.tmp 5) 24 rfl (.pointer (some ⟨g1, 0, none⟩)) (.agg (va a)) rfl (LA.out _ _ VA.out) ?_)
  refine (RT.out _).mono ?_
  rintro e w8 ⟨rfl, b8⟩
  have VA := Lib.hid (VA.out.step b8)
  have VX := Lib.hid (VX.out.step b8)
  have VY := Lib.hid (VY.out.step b8)
  have BB := Lib.hid (BB.out.trans (b8.mono BB.out.size))
  have ex := EX.out
  clear b8 RT
  go_wp2_with (first | refine wpList_load_arrG rfl (.tmp 6) 24 rfl (.pointer (some ⟨g2, 0, none⟩)) (.agg (va x)) rfl (LX.out _ _ VX.out) ?_ | refine wpList_load_arrG rfl (.tmp 8) 23 rfl (.pointer (some ⟨g3, 0, none⟩)) (.agg (va x)) rfl (LY.out _ _ VY.out) ?_)
  refine (P3.out _ BB.out).mono ?_
  rintro e w9 ⟨rfl, b9⟩
  obtain ⟨W7, W8, e7, e8, b10, v10⟩ := one_box z24 v24 w9 a HA.out
  have E7 := Lib.hid e7
  have E8 := Lib.hid e8
  have VB := Lib.hid v10
  have VA := Lib.hid ((VA.out.step b9).step b10)
  have BB := Lib.hid ((BB.out.trans (b9.mono BB.out.size)).trans (b10.mono (BB.out.trans (b9.mono BB.out.size)).size))
  obtain ⟨g4, hg4⟩ : ∃ g, w9.heap.size = g := ⟨_, rfl⟩
  rw [hg4] at E7 E8 VB
  clear e7 e8 b9 b10 v10 hg4 P3 ex EX LX LY VX VY htl htn
  go_wp2_with (first | refine wpList_alloc_arr rfl 24 rfl _ _ E7.out ?_ | refine wpList_store_arr rfl (.tmp 11) (.tmp 57) 24 rfl (.pointer (some ⟨g4, 0, none⟩)) (.agg (va a)) rfl rfl _ E8.out ?_ | refine wpList_load_arrG rfl (.tmp 5) 24 rfl (.pointer (some ⟨g1, 0, none⟩)) (.agg (va a)) rfl (LA.out _ _ VA.out) ?_)
  refine (RG.out _).mono ?_
  rintro e w11 ⟨rfl, b11⟩
  have VA := Lib.hid (VA.out.step b11)
  have VB := Lib.hid (VB.out.step b11)
  have BB := Lib.hid (BB.out.trans (b11.mono BB.out.size))
  have ea := EA.out
  clear b11 E7 E8 RG
  go_wp2_with (first | refine wpList_load_arrG rfl (.tmp 11) 24 rfl (.pointer (some ⟨g4, 0, none⟩)) (.agg (va a)) rfl (LA.out _ _ VB.out) ?_ | refine wpList_load_arrG rfl (.tmp 5) 24 rfl (.pointer (some ⟨g1, 0, none⟩)) (.agg (va a)) rfl (LA.out _ _ VA.out) ?_)
  refine (AW.out _ BB.out).mono ?_
  rintro e w12 ⟨rfl, b12⟩
  have BB := Lib.hid (BB.out.trans (b12.mono BB.out.size))
  clear b12
  go_wp2
  go_returns
  exact ⟨rfl, BB.out⟩

set_option maxRecDepth 100000 in
set_option maxHeartbeats 6400000 in
theorem texts_sw (w : World) (v0 : Value) (l : List (Nat × Int)) (s : ByteArray) (hl : LiesO w v0 l) (hI : I63 (madeF l)) (hs : s.size ≤ 600) (m : Int) (hm : w.cell? ⟨0, 0, none⟩ = some (.int .i64 m)) (ht : Tab w) (x : List Int) (hxl : x.length = 64) (hp : parseR s = some x) (hr : ¬ RightP (madeF l)) :
    Calls Tryd.prog 5 #[v0, .string s] w fun e w' => e = .returned (.bool true) ∧ Below w.heap.size w w' := by
  have hb0 : 0 < w.heap.size := World.block_lt_of_cell? w _ hm
  have hmm := fun W (h : Below w.heap.size w W) => (h.cell (p := ⟨0, 0, none⟩) hb0).trans hm
  have AW := Lib.hid (fun W (h : Below w.heap.size w W) => awake_any W m (hmm W h) (tab_later ht h))
  have M1 := Lib.hid (Made_any w v0 l hl)
  have ha := madeF_len l
  have P1 := Lib.hid (fun W (h : Below w.heap.size w W) => parse_any W s m (by omega) (hmm W h))
  have P2 := Lib.hid (fun W => rparse_any W s (by omega))
  rw [show parseW s = (x, 0) by unfold parseW; rw [hp]] at P1
  rw [show rparseV s = .tuple #[vw x, .bool true] by unfold rparseV; rw [hp]] at P2
  have TX := Lib.hid (fun W (h : Below w.heap.size w W) => text_any W (madeF l) ha hI (tab_later ht h))
  have RT := Lib.hid (fun W => rtext_any W (madeF l) ha hI)
  have hts := text_small (madeF l) hI
  have P3 := Lib.hid (fun W (h : Below w.heap.size w W) => parse_any W (textF (madeF l)) m (by omega) (hmm W h))
  have RG := Lib.hid (fun W => rright_any W (madeF l) ha false ⟨fun h => (by cases h), fun h => absurd h hr⟩)
  obtain ⟨bl, be, hbe, hbl⟩ := parseW_len (textF (madeF l))
  rw [hbe] at P3
  clear hbe
  obtain ⟨a0, c0, rfl⟩ := hl.shape
  generalize textF (madeF l) = tx at *
  generalize madeF l = a at *
  have HX := Lib.hid (show (x).length = 64 from hxl)
  have HA := Lib.hid ha
  have EX := Lib.hid (eqin_self x HX.out)
  have EA := Lib.hid (eqin_self a ha)
  have LA := Lib.hid (fun (W : World) (g : Nat) (h : VAt 24 W g a) => load_va v24 W g a ha h)
  have LX := Lib.hid (fun (W : World) (g : Nat) (h : VAt 24 W g x) => load_va v24 W g x HX.out h)
  have LY := Lib.hid (fun (W : World) (g : Nat) (h : VAt 23 W g x) => load_va v23 W g x HX.out h)
  have h1 : ¬ (600 : Int) < (s.size : Int) := by omega
  have htl := tl_eq (rfl : tx = tx)
  have htn := tln_eq (rfl : tx = tx)
  unfold vw at *
  have HBL := Lib.hid hbl
  clear hl ht hm hb0 hmm hs hI ha hts hr hp hbl hxl
  go_enter Tryd.func5, Tryd.ntmps5
  go_wp2_with fail
  refine M1.out.mono ?_
  rintro e w1 ⟨rfl, b1⟩
  obtain ⟨W1, W2, e1, e2, b2, v2⟩ := one_box z24 v24 w1 a HA.out
  have E1 := Lib.hid e1
  have E2 := Lib.hid e2
  have VA := Lib.hid v2
  have BB := Lib.hid (b1.trans (b2.mono b1.size))
  obtain ⟨g1, hg1⟩ : ∃ g, w1.heap.size = g := ⟨_, rfl⟩
  rw [hg1] at E1 E2 VA
  clear e1 e2 b1 b2 v2 hg1 M1
  go_wp2_with (first | refine wpList_alloc_arr rfl 24 rfl _ _ E1.out ?_ | refine wpList_store_arr rfl (.tmp 5) (.tmp 18) 24 rfl (.pointer (some ⟨g1, 0, none⟩)) (.agg (va a)) rfl rfl _ E2.out ?_)
  refine (P1.out _ BB.out).mono ?_
  rintro e w3 ⟨rfl, b3⟩
  obtain ⟨W3, W4, e3, e4, b4, v4⟩ := one_box z24 v24 w3 x HX.out
  have E3 := Lib.hid e3
  have E4 := Lib.hid e4
  have VX := Lib.hid v4
  have VA := Lib.hid ((VA.out.step b3).step b4)
  have BB := Lib.hid ((BB.out.trans (b3.mono BB.out.size)).trans (b4.mono (BB.out.trans (b3.mono BB.out.size)).size))
  obtain ⟨g2, hg2⟩ : ∃ g, w3.heap.size = g := ⟨_, rfl⟩
  rw [hg2] at E3 E4 VX
  clear e3 e4 b3 b4 v4 hg2 E1 E2 P1
  go_wp2_with (first | refine wpList_alloc_arr rfl 24 rfl _ _ E3.out ?_ | refine wpList_store_arr rfl (.tmp 6) (.tmp 22) 24 rfl (.pointer (some ⟨g2, 0, none⟩)) (.agg (va x)) rfl rfl _ E4.out ?_)
  refine (P2.out _).mono ?_
  rintro e w5 ⟨rfl, b5⟩
  obtain ⟨W5, W6, e5, e6, b6, v6⟩ := one_box z23 v23 w5 x HX.out
  have E5 := Lib.hid e5
  have E6 := Lib.hid e6
  have VY := Lib.hid v6
  have VA := Lib.hid ((VA.out.step b5).step b6)
  have VX := Lib.hid ((VX.out.step b5).step b6)
  have BB := Lib.hid ((BB.out.trans (b5.mono BB.out.size)).trans (b6.mono (BB.out.trans (b5.mono BB.out.size)).size))
  obtain ⟨g3, hg3⟩ : ∃ g, w5.heap.size = g := ⟨_, rfl⟩
  rw [hg3] at E5 E6 VY
  clear e5 e6 b5 b6 v6 hg3 E3 E4 P2
  go_wp2_with (first | refine wpList_alloc_arr rfl 23 rfl _ _ E5.out ?_ | refine wpList_store_arr rfl (.tmp 8) (.tmp 27) 23 rfl (.pointer (some ⟨g3, 0, none⟩)) (.agg (va x)) rfl rfl _ E6.out ?_ | refine wpList_load_arrG rfl (.tmp 5) 24 rfl (.pointer (some ⟨g1, 0, none⟩)) (.agg (va a)) rfl (LA.out _ _ VA.out) ?_)
  refine (TX.out _ BB.out).mono ?_
  rintro e w7 ⟨rfl, b7⟩
  have VA := Lib.hid (VA.out.step b7)
  have VX := Lib.hid (VX.out.step b7)
  have VY := Lib.hid (VY.out.step b7)
  have BB := Lib.hid (BB.out.trans (b7.mono BB.out.size))
  clear b7 E5 E6 TX
  go_wp2_with (refine wpList_load_arrG rfl (.tmp 5) 24 rfl (.pointer (some ⟨g1, 0, none⟩)) (.agg (va a)) rfl (LA.out _ _ VA.out) ?_)
  refine (RT.out _).mono ?_
  rintro e w8 ⟨rfl, b8⟩
  have VA := Lib.hid (VA.out.step b8)
  have VX := Lib.hid (VX.out.step b8)
  have VY := Lib.hid (VY.out.step b8)
  have BB := Lib.hid (BB.out.trans (b8.mono BB.out.size))
  have ex := EX.out
  clear b8 RT
  go_wp2_with (first | refine wpList_load_arrG rfl (.tmp 6) 24 rfl (.pointer (some ⟨g2, 0, none⟩)) (.agg (va x)) rfl (LX.out _ _ VX.out) ?_ | refine wpList_load_arrG rfl (.tmp 8) 23 rfl (.pointer (some ⟨g3, 0, none⟩)) (.agg (va x)) rfl (LY.out _ _ VY.out) ?_)
  refine (P3.out _ BB.out).mono ?_
  rintro e w9 ⟨rfl, b9⟩
  obtain ⟨W7, W8, e7, e8, b10, v10⟩ := one_box z24 v24 w9 bl HBL.out
  have E7 := Lib.hid e7
  have E8 := Lib.hid e8
  have VB := Lib.hid v10
  have VA := Lib.hid ((VA.out.step b9).step b10)
  have BB := Lib.hid ((BB.out.trans (b9.mono BB.out.size)).trans (b10.mono (BB.out.trans (b9.mono BB.out.size)).size))
  obtain ⟨g4, hg4⟩ : ∃ g, w9.heap.size = g := ⟨_, rfl⟩
  rw [hg4] at E7 E8 VB
  clear e7 e8 b9 b10 v10 hg4 P3 ex EX LX LY VX VY htl htn
  go_wp2_with (first | refine wpList_alloc_arr rfl 24 rfl _ _ E7.out ?_ | refine wpList_store_arr rfl (.tmp 11) (.tmp 57) 24 rfl (.pointer (some ⟨g4, 0, none⟩)) (.agg (va bl)) rfl rfl _ E8.out ?_ | refine wpList_load_arrG rfl (.tmp 5) 24 rfl (.pointer (some ⟨g1, 0, none⟩)) (.agg (va a)) rfl (LA.out _ _ VA.out) ?_)
  refine (RG.out _).mono ?_
  rintro e w11 ⟨rfl, b11⟩
  have VA := Lib.hid (VA.out.step b11)
  have VB := Lib.hid (VB.out.step b11)
  have BB := Lib.hid (BB.out.trans (b11.mono BB.out.size))
  have ea := EA.out
  clear b11 E7 E8 RG
  go_wp2_with fail
  refine (AW.out _ BB.out).mono ?_
  rintro e w12 ⟨rfl, b12⟩
  have BB := Lib.hid (BB.out.trans (b12.mono BB.out.size))
  clear b12
  go_wp2
  go_returns
  exact ⟨rfl, BB.out⟩

set_option maxRecDepth 100000 in
set_option maxHeartbeats 6400000 in
theorem texts_nr (w : World) (v0 : Value) (l : List (Nat × Int)) (s : ByteArray) (hl : LiesO w v0 l) (hI : I63 (madeF l)) (hs : s.size ≤ 600) (m : Int) (hm : w.cell? ⟨0, 0, none⟩ = some (.int .i64 m)) (ht : Tab w) (hp : parseR s = none) (hr : RightP (madeF l)) :
    Calls Tryd.prog 5 #[v0, .string s] w fun e w' => e = .returned (.bool true) ∧ Below w.heap.size w w' := by
  have hb0 : 0 < w.heap.size := World.block_lt_of_cell? w _ hm
  have hmm := fun W (h : Below w.heap.size w W) => (h.cell (p := ⟨0, 0, none⟩) hb0).trans hm
  have AW := Lib.hid (fun W (h : Below w.heap.size w W) => awake_any W m (hmm W h) (tab_later ht h))
  have M1 := Lib.hid (Made_any w v0 l hl)
  have ha := madeF_len l
  have P1 := Lib.hid (fun W (h : Below w.heap.size w W) => parse_any W s m (by omega) (hmm W h))
  have P2 := Lib.hid (fun W => rparse_any W s (by omega))
  rw [show parseW s = (zs, 4) by unfold parseW; rw [hp]] at P1
  rw [show rparseV s = .tuple #[vw zs, .bool false] by unfold rparseV; rw [hp]] at P2
  have TX := Lib.hid (fun W (h : Below w.heap.size w W) => text_any W (madeF l) ha hI (tab_later ht h))
  have RT := Lib.hid (fun W => rtext_any W (madeF l) ha hI)
  have hts := text_small (madeF l) hI
  have P3 := Lib.hid (fun W (h : Below w.heap.size w W) => parse_any W (textF (madeF l)) m (by omega) (hmm W h))
  have RG := Lib.hid (fun W => rright_any W (madeF l) ha true ⟨fun _ => hr, fun _ => rfl⟩)
  rw [show parseW (textF (madeF l)) = (madeF l, 0) by unfold parseW; rw [parse_text _ ha hr]] at P3
  obtain ⟨a0, c0, rfl⟩ := hl.shape
  generalize textF (madeF l) = tx at *
  generalize madeF l = a at *
  have HX := Lib.hid (show (zs).length = 64 from zs_len)
  generalize zs = x at *
  have HA := Lib.hid ha
  have EX := Lib.hid (eqin_self x HX.out)
  have EA := Lib.hid (eqin_self a ha)
  have LA := Lib.hid (fun (W : World) (g : Nat) (h : VAt 24 W g a) => load_va v24 W g a ha h)
  have LX := Lib.hid (fun (W : World) (g : Nat) (h : VAt 24 W g x) => load_va v24 W g x HX.out h)
  have LY := Lib.hid (fun (W : World) (g : Nat) (h : VAt 23 W g x) => load_va v23 W g x HX.out h)
  have h1 : ¬ (600 : Int) < (s.size : Int) := by omega
  have htl := tl_eq (rfl : tx = tx)
  have htn := tln_eq (rfl : tx = tx)
  unfold vw at *
  clear hl ht hm hb0 hmm hs hI ha hts hr hp
  go_enter Tryd.func5, Tryd.ntmps5
  go_wp2_with fail
  refine M1.out.mono ?_
  rintro e w1 ⟨rfl, b1⟩
  obtain ⟨W1, W2, e1, e2, b2, v2⟩ := one_box z24 v24 w1 a HA.out
  have E1 := Lib.hid e1
  have E2 := Lib.hid e2
  have VA := Lib.hid v2
  have BB := Lib.hid (b1.trans (b2.mono b1.size))
  obtain ⟨g1, hg1⟩ : ∃ g, w1.heap.size = g := ⟨_, rfl⟩
  rw [hg1] at E1 E2 VA
  clear e1 e2 b1 b2 v2 hg1 M1
  go_wp2_with (first | refine wpList_alloc_arr rfl 24 rfl _ _ E1.out ?_ | refine wpList_store_arr rfl (.tmp 5) (.tmp 18) 24 rfl (.pointer (some ⟨g1, 0, none⟩)) (.agg (va a)) rfl rfl _ E2.out ?_)
  refine (P1.out _ BB.out).mono ?_
  rintro e w3 ⟨rfl, b3⟩
  obtain ⟨W3, W4, e3, e4, b4, v4⟩ := one_box z24 v24 w3 x HX.out
  have E3 := Lib.hid e3
  have E4 := Lib.hid e4
  have VX := Lib.hid v4
  have VA := Lib.hid ((VA.out.step b3).step b4)
  have BB := Lib.hid ((BB.out.trans (b3.mono BB.out.size)).trans (b4.mono (BB.out.trans (b3.mono BB.out.size)).size))
  obtain ⟨g2, hg2⟩ : ∃ g, w3.heap.size = g := ⟨_, rfl⟩
  rw [hg2] at E3 E4 VX
  clear e3 e4 b3 b4 v4 hg2 E1 E2 P1
  go_wp2_with (first | refine wpList_alloc_arr rfl 24 rfl _ _ E3.out ?_ | refine wpList_store_arr rfl (.tmp 6) (.tmp 22) 24 rfl (.pointer (some ⟨g2, 0, none⟩)) (.agg (va x)) rfl rfl _ E4.out ?_)
  refine (P2.out _).mono ?_
  rintro e w5 ⟨rfl, b5⟩
  obtain ⟨W5, W6, e5, e6, b6, v6⟩ := one_box z23 v23 w5 x HX.out
  have E5 := Lib.hid e5
  have E6 := Lib.hid e6
  have VY := Lib.hid v6
  have VA := Lib.hid ((VA.out.step b5).step b6)
  have VX := Lib.hid ((VX.out.step b5).step b6)
  have BB := Lib.hid ((BB.out.trans (b5.mono BB.out.size)).trans (b6.mono (BB.out.trans (b5.mono BB.out.size)).size))
  obtain ⟨g3, hg3⟩ : ∃ g, w5.heap.size = g := ⟨_, rfl⟩
  rw [hg3] at E5 E6 VY
  clear e5 e6 b5 b6 v6 hg3 E3 E4 P2
  go_wp2_with (first | refine wpList_alloc_arr rfl 23 rfl _ _ E5.out ?_ | refine wpList_store_arr rfl (.tmp 8) (.tmp 27) 23 rfl (.pointer (some ⟨g3, 0, none⟩)) (.agg (va x)) rfl rfl _ E6.out ?_ | refine wpList_load_arrG rfl (.tmp 5) 24 rfl (.pointer (some ⟨g1, 0, none⟩)) (.agg (va a)) rfl (LA.out _ _ VA.out) ?_)
  refine (TX.out _ BB.out).mono ?_
  rintro e w7 ⟨rfl, b7⟩
  have VA := Lib.hid (VA.out.step b7)
  have VX := Lib.hid (VX.out.step b7)
  have VY := Lib.hid (VY.out.step b7)
  have BB := Lib.hid (BB.out.trans (b7.mono BB.out.size))
  clear b7 E5 E6 TX
  go_wp2_with (refine wpList_load_arrG rfl (.tmp 5) 24 rfl (.pointer (some ⟨g1, 0, none⟩)) (.agg (va a)) rfl (LA.out _ _ VA.out) ?_)
  refine (RT.out _).mono ?_
  rintro e w8 ⟨rfl, b8⟩
  have VA := Lib.hid (VA.out.step b8)
  have VX := Lib.hid (VX.out.step b8)
  have VY := Lib.hid (VY.out.step b8)
  have BB := Lib.hid (BB.out.trans (b8.mono BB.out.size))
  have ex := EX.out
  clear b8 RT
  go_wp2_with (first | refine wpList_load_arrG rfl (.tmp 6) 24 rfl (.pointer (some ⟨g2, 0, none⟩)) (.agg (va x)) rfl (LX.out _ _ VX.out) ?_ | refine wpList_load_arrG rfl (.tmp 8) 23 rfl (.pointer (some ⟨g3, 0, none⟩)) (.agg (va x)) rfl (LY.out _ _ VY.out) ?_)
  refine (P3.out _ BB.out).mono ?_
  rintro e w9 ⟨rfl, b9⟩
  obtain ⟨W7, W8, e7, e8, b10, v10⟩ := one_box z24 v24 w9 a HA.out
  have E7 := Lib.hid e7
  have E8 := Lib.hid e8
  have VB := Lib.hid v10
  have VA := Lib.hid ((VA.out.step b9).step b10)
  have BB := Lib.hid ((BB.out.trans (b9.mono BB.out.size)).trans (b10.mono (BB.out.trans (b9.mono BB.out.size)).size))
  obtain ⟨g4, hg4⟩ : ∃ g, w9.heap.size = g := ⟨_, rfl⟩
  rw [hg4] at E7 E8 VB
  clear e7 e8 b9 b10 v10 hg4 P3 ex EX LX LY VX VY htl htn
  go_wp2_with (first | refine wpList_alloc_arr rfl 24 rfl _ _ E7.out ?_ | refine wpList_store_arr rfl (.tmp 11) (.tmp 57) 24 rfl (.pointer (some ⟨g4, 0, none⟩)) (.agg (va a)) rfl rfl _ E8.out ?_ | refine wpList_load_arrG rfl (.tmp 5) 24 rfl (.pointer (some ⟨g1, 0, none⟩)) (.agg (va a)) rfl (LA.out _ _ VA.out) ?_)
  refine (RG.out _).mono ?_
  rintro e w11 ⟨rfl, b11⟩
  have VA := Lib.hid (VA.out.step b11)
  have VB := Lib.hid (VB.out.step b11)
  have BB := Lib.hid (BB.out.trans (b11.mono BB.out.size))
  have ea := EA.out
  clear b11 E7 E8 RG
  go_wp2_with (first | refine wpList_load_arrG rfl (.tmp 11) 24 rfl (.pointer (some ⟨g4, 0, none⟩)) (.agg (va a)) rfl (LA.out _ _ VB.out) ?_ | refine wpList_load_arrG rfl (.tmp 5) 24 rfl (.pointer (some ⟨g1, 0, none⟩)) (.agg (va a)) rfl (LA.out _ _ VA.out) ?_)
  refine (AW.out _ BB.out).mono ?_
  rintro e w12 ⟨rfl, b12⟩
  have BB := Lib.hid (BB.out.trans (b12.mono BB.out.size))
  clear b12
  go_wp2
  go_returns
  exact ⟨rfl, BB.out⟩

set_option maxRecDepth 100000 in
set_option maxHeartbeats 6400000 in
theorem texts_nw (w : World) (v0 : Value) (l : List (Nat × Int)) (s : ByteArray) (hl : LiesO w v0 l) (hI : I63 (madeF l)) (hs : s.size ≤ 600) (m : Int) (hm : w.cell? ⟨0, 0, none⟩ = some (.int .i64 m)) (ht : Tab w) (hp : parseR s = none) (hr : ¬ RightP (madeF l)) :
    Calls Tryd.prog 5 #[v0, .string s] w fun e w' => e = .returned (.bool true) ∧ Below w.heap.size w w' := by
  have hb0 : 0 < w.heap.size := World.block_lt_of_cell? w _ hm
  have hmm := fun W (h : Below w.heap.size w W) => (h.cell (p := ⟨0, 0, none⟩) hb0).trans hm
  have AW := Lib.hid (fun W (h : Below w.heap.size w W) => awake_any W m (hmm W h) (tab_later ht h))
  have M1 := Lib.hid (Made_any w v0 l hl)
  have ha := madeF_len l
  have P1 := Lib.hid (fun W (h : Below w.heap.size w W) => parse_any W s m (by omega) (hmm W h))
  have P2 := Lib.hid (fun W => rparse_any W s (by omega))
  rw [show parseW s = (zs, 4) by unfold parseW; rw [hp]] at P1
  rw [show rparseV s = .tuple #[vw zs, .bool false] by unfold rparseV; rw [hp]] at P2
  have TX := Lib.hid (fun W (h : Below w.heap.size w W) => text_any W (madeF l) ha hI (tab_later ht h))
  have RT := Lib.hid (fun W => rtext_any W (madeF l) ha hI)
  have hts := text_small (madeF l) hI
  have P3 := Lib.hid (fun W (h : Below w.heap.size w W) => parse_any W (textF (madeF l)) m (by omega) (hmm W h))
  have RG := Lib.hid (fun W => rright_any W (madeF l) ha false ⟨fun h => (by cases h), fun h => absurd h hr⟩)
  obtain ⟨bl, be, hbe, hbl⟩ := parseW_len (textF (madeF l))
  rw [hbe] at P3
  clear hbe
  obtain ⟨a0, c0, rfl⟩ := hl.shape
  generalize textF (madeF l) = tx at *
  generalize madeF l = a at *
  have HX := Lib.hid (show (zs).length = 64 from zs_len)
  generalize zs = x at *
  have HA := Lib.hid ha
  have EX := Lib.hid (eqin_self x HX.out)
  have EA := Lib.hid (eqin_self a ha)
  have LA := Lib.hid (fun (W : World) (g : Nat) (h : VAt 24 W g a) => load_va v24 W g a ha h)
  have LX := Lib.hid (fun (W : World) (g : Nat) (h : VAt 24 W g x) => load_va v24 W g x HX.out h)
  have LY := Lib.hid (fun (W : World) (g : Nat) (h : VAt 23 W g x) => load_va v23 W g x HX.out h)
  have h1 : ¬ (600 : Int) < (s.size : Int) := by omega
  have htl := tl_eq (rfl : tx = tx)
  have htn := tln_eq (rfl : tx = tx)
  unfold vw at *
  have HBL := Lib.hid hbl
  clear hl ht hm hb0 hmm hs hI ha hts hr hp hbl
  go_enter Tryd.func5, Tryd.ntmps5
  go_wp2_with fail
  refine M1.out.mono ?_
  rintro e w1 ⟨rfl, b1⟩
  obtain ⟨W1, W2, e1, e2, b2, v2⟩ := one_box z24 v24 w1 a HA.out
  have E1 := Lib.hid e1
  have E2 := Lib.hid e2
  have VA := Lib.hid v2
  have BB := Lib.hid (b1.trans (b2.mono b1.size))
  obtain ⟨g1, hg1⟩ : ∃ g, w1.heap.size = g := ⟨_, rfl⟩
  rw [hg1] at E1 E2 VA
  clear e1 e2 b1 b2 v2 hg1 M1
  go_wp2_with (first | refine wpList_alloc_arr rfl 24 rfl _ _ E1.out ?_ | refine wpList_store_arr rfl (.tmp 5) (.tmp 18) 24 rfl (.pointer (some ⟨g1, 0, none⟩)) (.agg (va a)) rfl rfl _ E2.out ?_)
  refine (P1.out _ BB.out).mono ?_
  rintro e w3 ⟨rfl, b3⟩
  obtain ⟨W3, W4, e3, e4, b4, v4⟩ := one_box z24 v24 w3 x HX.out
  have E3 := Lib.hid e3
  have E4 := Lib.hid e4
  have VX := Lib.hid v4
  have VA := Lib.hid ((VA.out.step b3).step b4)
  have BB := Lib.hid ((BB.out.trans (b3.mono BB.out.size)).trans (b4.mono (BB.out.trans (b3.mono BB.out.size)).size))
  obtain ⟨g2, hg2⟩ : ∃ g, w3.heap.size = g := ⟨_, rfl⟩
  rw [hg2] at E3 E4 VX
  clear e3 e4 b3 b4 v4 hg2 E1 E2 P1
  go_wp2_with (first | refine wpList_alloc_arr rfl 24 rfl _ _ E3.out ?_ | refine wpList_store_arr rfl (.tmp 6) (.tmp 22) 24 rfl (.pointer (some ⟨g2, 0, none⟩)) (.agg (va x)) rfl rfl _ E4.out ?_)
  refine (P2.out _).mono ?_
  rintro e w5 ⟨rfl, b5⟩
  obtain ⟨W5, W6, e5, e6, b6, v6⟩ := one_box z23 v23 w5 x HX.out
  have E5 := Lib.hid e5
  have E6 := Lib.hid e6
  have VY := Lib.hid v6
  have VA := Lib.hid ((VA.out.step b5).step b6)
  have VX := Lib.hid ((VX.out.step b5).step b6)
  have BB := Lib.hid ((BB.out.trans (b5.mono BB.out.size)).trans (b6.mono (BB.out.trans (b5.mono BB.out.size)).size))
  obtain ⟨g3, hg3⟩ : ∃ g, w5.heap.size = g := ⟨_, rfl⟩
  rw [hg3] at E5 E6 VY
  clear e5 e6 b5 b6 v6 hg3 E3 E4 P2
  go_wp2_with (first | refine wpList_alloc_arr rfl 23 rfl _ _ E5.out ?_ | refine wpList_store_arr rfl (.tmp 8) (.tmp 27) 23 rfl (.pointer (some ⟨g3, 0, none⟩)) (.agg (va x)) rfl rfl _ E6.out ?_ | refine wpList_load_arrG rfl (.tmp 5) 24 rfl (.pointer (some ⟨g1, 0, none⟩)) (.agg (va a)) rfl (LA.out _ _ VA.out) ?_)
  refine (TX.out _ BB.out).mono ?_
  rintro e w7 ⟨rfl, b7⟩
  have VA := Lib.hid (VA.out.step b7)
  have VX := Lib.hid (VX.out.step b7)
  have VY := Lib.hid (VY.out.step b7)
  have BB := Lib.hid (BB.out.trans (b7.mono BB.out.size))
  clear b7 E5 E6 TX
  go_wp2_with (refine wpList_load_arrG rfl (.tmp 5) 24 rfl (.pointer (some ⟨g1, 0, none⟩)) (.agg (va a)) rfl (LA.out _ _ VA.out) ?_)
  refine (RT.out _).mono ?_
  rintro e w8 ⟨rfl, b8⟩
  have VA := Lib.hid (VA.out.step b8)
  have VX := Lib.hid (VX.out.step b8)
  have VY := Lib.hid (VY.out.step b8)
  have BB := Lib.hid (BB.out.trans (b8.mono BB.out.size))
  have ex := EX.out
  clear b8 RT
  go_wp2_with (first | refine wpList_load_arrG rfl (.tmp 6) 24 rfl (.pointer (some ⟨g2, 0, none⟩)) (.agg (va x)) rfl (LX.out _ _ VX.out) ?_ | refine wpList_load_arrG rfl (.tmp 8) 23 rfl (.pointer (some ⟨g3, 0, none⟩)) (.agg (va x)) rfl (LY.out _ _ VY.out) ?_)
  refine (P3.out _ BB.out).mono ?_
  rintro e w9 ⟨rfl, b9⟩
  obtain ⟨W7, W8, e7, e8, b10, v10⟩ := one_box z24 v24 w9 bl HBL.out
  have E7 := Lib.hid e7
  have E8 := Lib.hid e8
  have VB := Lib.hid v10
  have VA := Lib.hid ((VA.out.step b9).step b10)
  have BB := Lib.hid ((BB.out.trans (b9.mono BB.out.size)).trans (b10.mono (BB.out.trans (b9.mono BB.out.size)).size))
  obtain ⟨g4, hg4⟩ : ∃ g, w9.heap.size = g := ⟨_, rfl⟩
  rw [hg4] at E7 E8 VB
  clear e7 e8 b9 b10 v10 hg4 P3 ex EX LX LY VX VY htl htn
  go_wp2_with (first | refine wpList_alloc_arr rfl 24 rfl _ _ E7.out ?_ | refine wpList_store_arr rfl (.tmp 11) (.tmp 57) 24 rfl (.pointer (some ⟨g4, 0, none⟩)) (.agg (va bl)) rfl rfl _ E8.out ?_ | refine wpList_load_arrG rfl (.tmp 5) 24 rfl (.pointer (some ⟨g1, 0, none⟩)) (.agg (va a)) rfl (LA.out _ _ VA.out) ?_)
  refine (RG.out _).mono ?_
  rintro e w11 ⟨rfl, b11⟩
  have VA := Lib.hid (VA.out.step b11)
  have VB := Lib.hid (VB.out.step b11)
  have BB := Lib.hid (BB.out.trans (b11.mono BB.out.size))
  have ea := EA.out
  clear b11 E7 E8 RG
  go_wp2_with fail
  refine (AW.out _ BB.out).mono ?_
  rintro e w12 ⟨rfl, b12⟩
  have BB := Lib.hid (BB.out.trans (b12.mono BB.out.size))
  clear b12
  go_wp2
  go_returns
  exact ⟨rfl, BB.out⟩

theorem texts_law (w : World) (v0 : Value) (l : List (Nat × Int)) (s : ByteArray) (hl : LiesO w v0 l) (hI : I63 (madeF l)) (hs2 : s.size ≤ 9223372036854775807) (m : Int) (hm : w.cell? ⟨0, 0, none⟩ = some (.int .i64 m)) (ht : Tab w) :
    Calls Tryd.prog 5 #[v0, .string s] w fun e w' => e = .returned (.bool true) ∧ Below w.heap.size w w' := by
  by_cases hs : 600 < s.size
  · exact texts_big w v0 l s hl hs hs2 m hm ht
  · by_cases hr : RightP (madeF l)
    · cases hp : parseR s with
      | none => exact texts_nr w v0 l s hl hI (by omega) m hm ht hp hr
      | some x =>
        have hxl : x.length = 64 := parseR_len hp
        exact texts_sr w v0 l s hl hI (by omega) m hm ht x hxl hp hr
    · cases hp : parseR s with
      | none => exact texts_nw w v0 l s hl hI (by omega) m hm ht hp hr
      | some x =>
        have hxl : x.length = 64 := parseR_len hp
        exact texts_sw w v0 l s hl hI (by omega) m hm ht x hxl hp hr
end Go.Proofs.YtiljmkglmanddaaDoor
