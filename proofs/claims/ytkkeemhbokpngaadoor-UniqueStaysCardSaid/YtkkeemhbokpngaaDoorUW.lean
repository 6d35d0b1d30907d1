/- The chapter's example; UniqueNames' law. -/
import Derived.Test.YtkkeemhbokpngaaDoorUN
set_option linter.unusedVariables false
namespace Go.Proofs.YtkkeemhbokpngaaDoor
open Go.RowKit

def sA : ByteArray := ⟨#[97]⟩
def sA2 : ByteArray := ⟨#[97, 126, 50]⟩
def sA3 : ByteArray := ⟨#[97, 126, 51]⟩
def sA4 : ByteArray := ⟨#[97, 126, 52]⟩
theorem sfx_a (k : Nat) (h2 : 2 ≤ k) (h9 : k < 10) : (sfx sA k).data.toList = [97, 126, UInt8.ofNat (48 + k)] := by
  obtain ⟨p, e, _, _, hp⟩ := suff_list (k := (k : Int)) (by omega) (sfx_is sA k)
  have hm : max (k : Int) 2 = (k : Int) := by omega
  rw [hm, Int.toNat_natCast, dd_small h9] at e
  have hd : (decS (max (k : Int) 2)).size ≤ 21 := decS_size _ (by omega)
  rw [e, hp (by have : sA.size = 1 := rfl; omega)]
  rfl
theorem sfx_2 : sfx sA 2 = sA2 := ba_ext (sfx_a 2 (by decide) (by decide))
theorem sfx_3 : sfx sA 3 = sA3 := ba_ext (sfx_a 3 (by decide) (by decide))
theorem sfx_4 : sfx sA 4 = sA4 := ba_ext (sfx_a 4 (by decide) (by decide))
theorem ne_list {a b : ByteArray} (h : a.data.toList ≠ b.data.toList) : a ≠ b := fun e => h (by rw [e])
theorem n12 : sA ≠ sA2 := ne_list (by decide)
theorem n13 : sA ≠ sA3 := ne_list (by decide)
theorem n14 : sA ≠ sA4 := ne_list (by decide)
theorem n23 : sA2 ≠ sA3 := ne_list (by decide)
theorem n24 : sA2 ≠ sA4 := ne_list (by decide)
theorem n34 : sA3 ≠ sA4 := ne_list (by decide)
def raw4 : List ByteArray := [sA, sA, sA2, sA]
theorem free3 : FreeAt ([] ++ raw4 ++ [sA]) sA 3 := by
  refine ⟨by decide, ?_, fun j a b => ?_⟩
  · rw [sfx_3]
    simp [raw4, n13.symm, n23.symm]
  · obtain rfl : j = 2 := by omega
    rw [sfx_2]
    simp [raw4]
theorem free4 : FreeAt ([] ++ raw4 ++ [sA, sA3, sA2]) sA 4 := by
  refine ⟨by decide, ?_, fun j a b => ?_⟩
  · rw [sfx_4]
    simp [raw4, n14.symm, n24.symm, n34.symm]
  · rcases (show j = 2 ∨ j = 3 by omega) with rfl | rfl
    · rw [sfx_2]
      simp [raw4]
    · rw [sfx_3]
      simp
theorem tell4 : tell raw4 [] 4 = [sA, sA3, sA2, sA4] := by
  have t1 : tell raw4 [] 1 = [sA] := by
    rw [tell_succ (show raw4[0]? = some sA from rfl), nx_kept (keptB_true ⟨by simp, by simp [raw4]⟩)]
    rfl
  have t2 : tell raw4 [] 2 = [sA, sA3] := by
    rw [tell_succ (show raw4[1]? = some sA from rfl), t1, nx_free (keptB_false (fun h => h.2 (by simp [raw4]))) free3, sfx_3]
    rfl
  have t3 : tell raw4 [] 3 = [sA, sA3, sA2] := by
    rw [tell_succ (show raw4[2]? = some sA2 from rfl), t2, nx_kept (keptB_true ⟨by simp, by simp [raw4, n12.symm]⟩)]
    rfl
  rw [tell_succ (show raw4[3]? = some sA from rfl), t3, nx_free (keptB_false (fun h => h.2 (by simp [raw4]))) free4, sfx_4]
  rfl
theorem slies_new (w : World) (l : List ByteArray) (hl : l.length ≤ 1000) : SLies (w.alloc (.cells (strs l).toArray 9)) (.slice (some ⟨w.heap.size, 0, none⟩) l.length l.length) l := by
  refine ⟨_, _, rfl, Nat.le_refl _, by unfold maxLen; omega, (fun h => by cases h), fun i s hs => ⟨_, _, rfl, by simp, ?_⟩⟩
  rw [cell_of_row _ _ _ _ _ _ (heap_alloc_new w _), Nat.zero_add]
  simp [strs_get, hs]
theorem slies_nil (w : World) : SLies w (.slice none 0 0) [] := ⟨none, 0, rfl, Nat.le_refl _, Nat.zero_le _, fun _ => rfl, fun i s hs => by simp at hs⟩
theorem vstep (W : World) (o : Obj) : Below W.heap.size W (W.alloc o) := (Below.refl _ _).alloc (Nat.le_refl _) _
set_option maxRecDepth 100000 in
set_option maxHeartbeats 6400000 in
theorem awake_any (w : World) (ht : Tab w) : Calls Tryd.prog 7 #[] w fun e w' => e = .returned (.bool true) ∧ Below w.heap.size w w' := by
  have NM := Lib.hid (names_any (w.alloc (.cells #[.string sA, .string sA, .string sA2, .string sA] 9)) (.slice (some ⟨w.heap.size, 0, none⟩) 4 4) (.slice none 0 0) raw4 [] (tab_step ht (vstep w _)) (slies_new w raw4 (by decide)) (slies_nil _) (by decide) (by decide) (by
    intro s hs
    simp [raw4] at hs
    rcases hs with rfl | rfl | rfl <;> decide) (by simp))
  have SM := Lib.hid (fun (W : World) (v : Value) (hv : SLies W v [sA, sA3, sA2, sA4]) => rsame_any (W.alloc (.cells #[.string sA, .string sA3, .string sA2, .string sA4] 9)) v (.slice (some ⟨W.heap.size, 0, none⟩) 4 4) [sA, sA3, sA2, sA4] (hv.step (vstep W _)) (slies_new W [sA, sA3, sA2, sA4] (by decide)))
  have K0 := Lib.hid (fun (W : World) => show Calls Tryd.prog 11 #[.slice (some ⟨W.heap.size, 0, none⟩) 2 2, .slice none 0 0, .int .i64 0] (W.alloc (.cells #[.string sA, .string sA] 9)) (fun e w' => e = Ending.returned (.bool true) ∧ Below (W.alloc (.cells #[.string sA, .string sA] 9)).heap.size (W.alloc (.cells #[.string sA, .string sA] 9)) w') from by
    have := kept_at (W.alloc (.cells #[.string sA, .string sA] 9)) (.slice (some ⟨W.heap.size, 0, none⟩) 2 2) (.slice none 0 0) [sA, sA] [] (slies_new W [sA, sA] (by decide)) (slies_nil _) 0 sA rfl
    rw [keptB_true ⟨by simp, by simp⟩] at this
    exact this)
  have K1 := Lib.hid (fun (W : World) => show Calls Tryd.prog 11 #[.slice (some ⟨W.heap.size, 0, none⟩) 2 2, .slice none 0 0, .int .i64 1] (W.alloc (.cells #[.string sA, .string sA] 9)) (fun e w' => e = Ending.returned (.bool false) ∧ Below (W.alloc (.cells #[.string sA, .string sA] 9)).heap.size (W.alloc (.cells #[.string sA, .string sA] 9)) w') from by
    have := kept_at (W.alloc (.cells #[.string sA, .string sA] 9)) (.slice (some ⟨W.heap.size, 0, none⟩) 2 2) (.slice none 0 0) [sA, sA] [] (slies_new W [sA, sA] (by decide)) (slies_nil _) 1 sA rfl
    rw [keptB_false (fun h => h.2 (by simp))] at this
    exact this)
  have BW := Lib.hid (fun (W : World) (o : Obj) (hb : Below w.heap.size w W) => hb.trans ((vstep W o).mono hb.size))
  have B0 := Lib.hid (show Below w.heap.size w w from Below.refl _ _)
  unfold sA sA2 at NM
  unfold sA sA2 sA3 sA4 at SM
  unfold sA at K0 K1
  clear ht
  go_enter Tryd.func7, Tryd.ntmps7
  go_wp2_with fail
  refine NM.out.mono ?_
  rintro e w1 ⟨r, rfl, ho, hb⟩
  have SR := Lib.hid (show SLies w1 r [⟨#[97]⟩, ⟨#[97, 126, 51]⟩, ⟨#[97, 126, 50]⟩, ⟨#[97, 126, 52]⟩] from by
    have := tell4
    have e4 : raw4.length = 4 := rfl
    rw [e4, this] at ho
    exact own_slies ho)
  have B1 := Lib.hid ((BW.out w _ B0.out).trans (hb.mono (BW.out w _ B0.out).size))
  clear ho hb NM
  go_wp2_with fail
  refine (SM.out w1 r SR.out).mono ?_
  rintro e w2 ⟨rfl, hb⟩
  have B2 := Lib.hid ((BW.out w1 _ B1.out).trans (hb.mono (BW.out w1 _ B1.out).size))
  clear hb SR SM
  go_wp2_with fail
  refine (K0.out w2).mono ?_
  rintro e w3 ⟨rfl, hb⟩
  have B3 := Lib.hid ((BW.out w2 _ B2.out).trans (hb.mono (BW.out w2 _ B2.out).size))
  clear hb K0
  go_wp2_with fail
  refine (K1.out w3).mono ?_
  rintro e w4 ⟨rfl, hb⟩
  have B4 := Lib.hid ((BW.out w3 _ B3.out).trans (hb.mono (BW.out w3 _ B3.out).size))
  clear hb K1
  go_wp2
  go_returns
  exact ⟨rfl, B4.out⟩
end Go.Proofs.YtkkeemhbokpngaaDoor
