/- A disk: Used, Free. -/
import Derived.Test.YtgbihpfpiaacfaaGreatDoorDE
import Derived.Laws.IdiomRangeMap
set_option linter.unusedVariables false
set_option linter.unusedSimpArgs false
set_option maxRecDepth 100000
namespace Go.Proofs.YtgbihpfpiaacfaaGreatDoor
open Go.RowKit Go.WideMaps Go.Maps

theorem below_grown {w w' : World} (h : Below w.heap.size w w') (row : Option Nat) : w.grownBy w' row := ⟨h.os, h.tape, h.output, h.size, fun k hk _ => h.block k hk⟩
structure UI (w W : World) (b r : Nat) (l : List Fl) (nv : Value) (done : List Fl) : Prop where
  rg : DRg W b r l done
  nv : nv = .int .i64 (usedF done : Int)
  bel : Below w.heap.size w W
  big : w.heap.size ≤ r
  le : usedF done ≤ usedF l
theorem DRg.sub {w : World} {b r : Nat} {l done : List Fl} (h : DRg w b r l done) : usedF done ≤ usedF l := by
  obtain ⟨es, left, cnt, _, _, _, h4, _, h6, h7⟩ := h
  exact usedF_sub h6 h7
set_option maxHeartbeats 1600000 in
theorem used_none (w : World) (B d : Nat) (s : DS) (h : DK w B d s) (hm : s.m = none) : Calls Tryz.prog 27 #[pv d] w fun e w' => e = .returned (.int .i64 0) ∧ Below w.heap.size w w' := by
  obtain ⟨c0, c1, c2, c3, c4⟩ := h.cells
  rw [hm] at c1
  have hrg := run_range_nilMap (P := Tryz.prog) w 68 9 82 Tryz.underlying68
  have hnx : ∀ ty, (Instr.next (.pointer (some ⟨w.heap.size, 0, none⟩)) false ty).run Tryz.prog (w.alloc (.mapIter none 0 #[] 0)) = _ := fun ty => run_next_nilMap w ty 0 0 #[]
  have B1 := Lib.hid (vstep w (.mapIter none 0 #[] 0))
  clear h c0 c2 c3 c4
  go_enter Tryz.func27, Tryz.ntmps27
  go_wp2
  try go_frame
  go_loopw [3] (fun sv wr => Hid (sv = .int .i64 0 ∧ wr = w.alloc (.mapIter none 0 #[] 0))) (fun _ _ => 0)
  case atStart => exact Lib.hid ⟨rfl, rfl⟩
  case round =>
    obtain ⟨rfl, rfl⟩ := hrel.out
    go_wp2
    go_returns
    exact ⟨rfl, B1.out⟩
set_option maxHeartbeats 3200000 in
theorem used_some (w : World) (B d : Nat) (s : DS) (h : DK w B d s) (b : Nat) (hm : s.m = some b) (hdm : DM w b s.l) : Calls Tryz.prog 27 #[pv d] w fun e w' => e = .returned (.int .i64 (usedF s.l : Int)) ∧ Below w.heap.size w w' := by
  obtain ⟨c0, c1, c2, c3, c4⟩ := h.cells
  rw [hm] at c1
  have BIG : usedF s.l ≤ 16777216 := by have := h.fits; have := h.roomok; omega
  obtain ⟨l, hl⟩ : ∃ l, s.l = l := ⟨_, rfl⟩
  rw [hl] at hdm BIG ⊢
  have HM := Lib.hid hdm
  have HB := Lib.hid BIG
  clear h c0 c2 c3 c4 hm hdm hl BIG
  go_enter Tryz.func27, Tryz.ntmps27
  go_wp2_with (at_range; refine wpList_drange rfl _ rfl b l rfl HM.out ?_; intro w2 hr hg hs; have R2 := Lib.hid hr; have G2 := Lib.hid hg; clear hr hg hs)
  have K0 := Lib.hid (show UI w w2 b w.heap.size l (.int .i64 0) [] from ⟨R2.out, rfl, ⟨G2.out.os, G2.out.tape, G2.out.output, G2.out.size, fun k hk => G2.out.block k hk (by simp)⟩, Nat.le_refl _, Nat.zero_le _⟩)
  clear c1 R2 G2 HM
  go_frame
  go_loopw [3] (fun sv wr => ∃ done, Hid (UI w wr b w.heap.size l sv done)) (fun _ wr => wr.rangeLeft b w.heap.size)
  case atStart => exact ⟨[], K0⟩
  case round =>
    obtain ⟨done, hK⟩ := hrel
    obtain rfl := hK.out.nv
    have KH := Lib.hid hK.out
    have U0 := Lib.hid hK.out.le
    clear hK K0
    obtain ⟨u, hu⟩ : ∃ u, usedF done = u := ⟨_, rfl⟩
    rw [hu] at U0 ⊢
    have HU := Lib.hid hu
    clear hu
    go_wp2_with (at_next; refine wpList_dnext rfl _ rfl b w.heap.size l done rfl KH.out.rg ?_ ?_)
    · intro hall
      have HA := Lib.hid (usedF_perm (KH.out.rg.all hall))
      clear hall
      go_wp2
      go_returns
      exact ⟨by rw [← HA.out, HU.out]; rfl, KH.out.bel⟩
    · intro x w3 hx hn hr hlt hg hs hen
      have R3 := Lib.hid hr
      have LT := Lib.hid hlt
      have L3 := Lib.hid (KH.out.bel.grown hg KH.out.bel.size (fun k e => by cases e; exact Nat.le_refl _))
      have ME := Lib.hid (show usedF (done ++ [x]) ≤ usedF l from hr.sub)
      have B4 := Lib.hid (vstep w3 (.cells #[.slice x.a x.b.length x.c, .int .i64 x.s] 82))
      have G4 := Lib.hid (FB.new w3 (.slice x.a x.b.length x.c) x.s)
      clear hr hlt hg hs hx hn
      go_upto_region 7 with (fail)
      obtain ⟨w4, hw4⟩ : ∃ y, w3.alloc (.cells #[.slice x.a x.b.length x.c, .int .i64 x.s] 82) = y := ⟨_, rfl⟩
      rw [hw4] at B4 G4 ⊢
      clear hw4 hen
      obtain ⟨g0, g1⟩ := G4.out.cells
      have R4 := Lib.hid (R3.out.kept (below_grown B4.out none) (by simp) (by simp))
      have hbd : u + x.b.length ≤ 16777216 := by have := ME.out; rw [usedF_snoc, HU.out] at this; have := HB.out; omega
      have FIN := Lib.hid (show UI w w4 b w.heap.size l (.int .i64 ((u : Int) + (x.b.length : Int))) (done ++ [x]) from ⟨R4.out.1, by rw [usedF_snoc, HU.out]; simp, L3.out.trans (B4.out.mono L3.out.size), Nat.le_refl _, ME.out⟩)
      have ML := Lib.hid (show w4.rangeLeft b w.heap.size < wr.rangeLeft b w.heap.size from by rw [R4.out.2]; exact LT.out)
      generalize x.b.length = xl at *
      go_wp2
      go_roundw
      case rel => exact ⟨done ++ [x], FIN⟩
      case measure => exact ML.out
theorem used_any (w : World) (B d : Nat) (s : DS) (h : DK w B d s) : Calls Tryz.prog 27 #[pv d] w fun e w' => e = .returned (.int .i64 (usedF s.l : Int)) ∧ Below w.heap.size w w' := by
  rcases h.map with ⟨h0, h1⟩ | ⟨b, h0, hB, hb⟩
  · rw [h1]; exact used_none w B d s h h0
  · exact used_some w B d s h b h0 hb
set_option maxHeartbeats 1600000 in
theorem free_any (w : World) (B d : Nat) (s : DS) (h : DK w B d s) : Calls Tryz.prog 42 #[pv d] w fun e w' => e = .returned (.int .i64 (s.room - (usedF s.l : Int))) ∧ Below w.heap.size w w' := by
  have H := Lib.hid h
  have uu := Lib.hid (fun x : Later w => later_call (used_any x.w B d s (h.step x.below)))
  have RO := h.roomok
  have FI := h.fits
  obtain ⟨u, hu⟩ : ∃ u, usedF s.l = u := ⟨_, rfl⟩
  rw [hu] at FI ⊢
  simp only [hu] at uu
  have cc : ∀ x : Later w, x.w.cell? ⟨d, 0, none⟩ = some (.int .i64 s.room) := fun x => (H.out.step x.below).cells.1
  obtain ⟨m, room, l, ar, lf, dn⟩ := s
  dsimp only at *
  clear h hu
  go_enter Tryz.func42, Tryz.ntmps42
  go_upto_region 3 with (fail)
  refine wp_region_later (by kernel_rfl) (by kernel_rfl) ?_
  repeat (go_big_quiet_step (first | (go_at_call 27; with_reducible exact uu.out _)))
  refine wpQuiet_nil ?_
  rintro _ ⟨xl, rfl⟩
  have B1 := xl.below
  clear cc uu H
  go_wp2
  go_returns
  exact ⟨rfl, B1⟩
end Go.Proofs.YtgbihpfpiaacfaaGreatDoor

