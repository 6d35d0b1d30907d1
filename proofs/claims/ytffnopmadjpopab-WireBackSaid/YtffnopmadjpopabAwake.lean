/- The chapter's example holds: 'awake' returns true. -/
import Derived.Test.YtffnopmadjpopabRText
set_option linter.unusedVariables false
namespace Go.Proofs.Ytffnopmadjpopab
open Go.RowKit

theorem own_some {w : World} {B : Nat} {v : Value} {bs : List Int} (h : w.ownsRow B 5 1 v bs.length (u8s bs)) (hne : 0 < bs.length) :
    ∃ g cap, v = .slice (some ⟨g, 0, none⟩) bs.length cap ∧ bs.length ≤ cap ∧ B ≤ g ∧ g < w.heap.size ∧ ∀ j x, bs[j]? = some x → w.cell? ⟨g, j, none⟩ = some (.int .u8 x) := by
  rcases h.2 with ⟨rfl, hn⟩ | ⟨g, cap, cur, rfl, hB, hg, hn, hm, hs, ht⟩
  · omega
  · refine ⟨g, cap, rfl, hn, hB, lt_of_block hg, fun j x hj => ?_⟩
    have := h.cells (g := g) rfl j (.int .u8 x) (by simp [u8s, hj])
    rw [Addr.add_lit] at this
    simpa using this

theorem wr_start (w : World) : WrI (w.alloc (.cells #[.slice none 0 0] 26)) w.heap.size w.heap.size (.slice none 0 0) [] :=
  ⟨Nat.le_refl _, heap_alloc_new w _, World.ownsRow_nil _ _ _ _⟩

theorem nb300 : nb 300 = [172, 2] := by rw [nb_big (by omega), nb_small (by omega)]; rfl
theorem tba : tb ⟨#[97]⟩ = [1, 97] := by unfold tb; rw [nb_small (by decide)]; rfl

theorem st1 : (⟨[172, 2, 1, 97], 0⟩ : St).num = (300, ⟨[1, 97], 0⟩) := by kernel_rfl
theorem st2 : (⟨[1, 97], 0⟩ : St).text 1 = (⟨#[97]⟩, ⟨[], 0⟩) := by
  have h : (⟨[1, 97], 0⟩ : St).num = (1, ⟨[97], 0⟩) := by kernel_rfl
  unfold St.text
  rw [h]
  rfl
theorem st3 : (⟨[], 0⟩ : St).fin = ⟨[], 0⟩ := rfl

set_option maxRecDepth 100000 in
set_option maxHeartbeats 1000000 in
theorem awake_any (w : World) : Calls Try.prog 7 #[] w fun e w' => e = .returned (.bool true) ∧ Below w.heap.size w w' := by
  have HW := Lib.hid (wr_start w)
  have HX := Lib.hid ((Below.refl w.heap.size w).alloc (Nat.le_refl _) (.cells #[.slice none 0 0] 26))
  go_enter Try.func7, Try.ntmps7
  go_wp2_with fail
  refine (wnum_any _ w.heap.size w.heap.size (.slice none 0 0) [] 300 (by omega) HW.out (by simp) (by simp)).mono ?_
  rintro e w1 ⟨rfl, v1, h1, e1⟩
  rw [show ([] ++ nb (Int.toNat 300) : List Int) = [172, 2] from nb300] at h1
  have H1 := Lib.hid h1
  have B1 := Lib.hid (e1.below HW.out (by simp))
  have hz1 := e1.size
  simp only [World.size_alloc] at hz1
  clear h1 e1
  go_wp2_with fail
  refine (wtext_any w1 w.heap.size w.heap.size v1 [172, 2] ⟨#[97]⟩ (by decide) H1.out (by omega) (by decide)).mono ?_
  rintro e w2 ⟨rfl, v2, h2, e2⟩
  rw [tba, show ([172, 2] ++ [1, 97] : List Int) = [172, 2, 1, 97] from rfl] at h2
  have H2 := Lib.hid h2
  have B2 := Lib.hid (e2.below H1.out (by omega))
  have hz2 := e2.size
  clear h2 e2
  go_wp2_with fail
  refine (wbytes_any w2 w.heap.size w.heap.size v2 _ H2.out (by decide)).mono ?_
  rintro e w3 ⟨r3, rfl, ho⟩
  obtain ⟨g, cp, hr3, hcp, hBg, hg, hc⟩ := own_some ho.1 (by decide)
  subst hr3
  have L3 := Lib.hid (own_lies ho.1)
  have B3 := Lib.hid ho.2
  have hz3 := ho.2.size
  clear ho
  go_wp2_with fail
  refine (open_any w3 _ [172, 2, 1, 97] L3.out (by intro x hx; simp at hx; omega) (by decide)).mono ?_
  rintro e w4 ⟨r, M, rfl, hR, hb4⟩
  have d0 := (hb4.cell (p := ⟨g, 0, none⟩) hg).trans (hc 0 172 rfl)
  have d1 := (hb4.cell (p := ⟨g, 1, none⟩) hg).trans (hc 1 2 rfl)
  have d2 := (hb4.cell (p := ⟨g, 2, none⟩) hg).trans (hc 2 1 rfl)
  have d3 := (hb4.cell (p := ⟨g, 3, none⟩) hg).trans (hc 3 97 rfl)
  have R4 := Lib.hid hR
  have B4 := Lib.hid hb4
  have hz4 := hb4.size
  have hr3 := hR.ge
  clear hR hb4 hc hBg
  have e4 : ([172, 2, 1, 97] : List Int).length = 4 := rfl
  simp only [e4] at *
  go_wp2_with fail
  refine (num_any w4 w3.heap.size M r _ R4.out (by omega)).mono ?_
  rw [st1]
  rintro e w5 ⟨rfl, ho5⟩
  have R5 := Lib.hid ho5
  have hz5 := ho5.2.size
  clear ho5
  go_wp2_with fail
  refine (text_any w5 w3.heap.size M r _ 1 (by omega) R5.out.1 (by omega)).mono ?_
  rw [st2]
  rintro e w6 ⟨rfl, ho6⟩
  have R6 := Lib.hid ho6
  have hz6 := ho6.2.size
  clear ho6
  go_wp2_with fail
  refine (end_any w6 w3.heap.size M r _ R6.out.1).mono ?_
  rw [st3]
  rintro e w7 ⟨rfl, ho7⟩
  have R7 := Lib.hid ho7
  clear ho7
  go_wp2
  go_returns
  refine ⟨rfl, ?_⟩
  have k := (((HX.out.trans B1.out).trans B2.out).trans (B3.out.mono (by omega))).trans (B4.out.mono (by omega))
  have k5 := (R5.out.2.trans (R6.out.2.trans R7.out.2)).below (B := w.heap.size) (by omega) (by omega)
  exact k.trans k5
end Go.Proofs.Ytffnopmadjpopab
