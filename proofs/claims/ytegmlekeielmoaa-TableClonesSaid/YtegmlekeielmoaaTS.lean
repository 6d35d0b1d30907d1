/- TableAbove's law. -/
import Derived.Test.YtegmlekeielmoaaTR
set_option linter.unusedVariables false
set_option maxRecDepth 100000
namespace Go.Proofs.Ytegmlekeielmoaa
open Go.RowKit Go.WideMaps Go.Maps

set_option maxHeartbeats 6400000 in
theorem above_law (w : World) (v : Value) (l : List Rw) (h : LiesR w v l) (hk : ∀ x ∈ l, x.ok) (a1 a2 b1 b2 : Int) (hb1 : I64 b1) (hb2 : I64 b2) :
    Calls Try.prog 4 #[v, .agg #[.int .i64 a1, .int .i64 a2], .agg #[.int .i64 b1, .int .i64 b2]] w fun e w' => e = .returned (.bool true) ∧ Below w.heap.size w w' := by
  have hlm := h.len
  have B1 := vstep w (.cells #[.int .i64 a1, .int .i64 a2] 24)
  have B2 := vstep (w.alloc (.cells #[.int .i64 a1, .int .i64 a2] 24)) (.cells #[.int .i64 b1, .int .i64 b2] 24)
  have B := Lib.hid (B1.trans (B2.mono B1.size))
  have SA := Lib.hid ((StAt.new w a1 a2).step B2)
  have SB := Lib.hid (show StAt ((w.alloc (.cells #[.int .i64 a1, .int .i64 a2] 24)).alloc (.cells #[.int .i64 b1, .int .i64 b2] 24)) (w.heap.size + 1) b1 b2 from by have := StAt.new (w.alloc (.cells #[.int .i64 a1, .int .i64 a2] 24)) b1 b2; rwa [World.size_alloc] at this)
  obtain ⟨W0, hW0⟩ : ∃ y, (w.alloc (.cells #[.int .i64 a1, .int .i64 a2] 24)).alloc (.cells #[.int .i64 b1, .int .i64 b2] 24) = y := ⟨_, rfl⟩
  rw [hW0] at B SA SB
  have HW := Lib.hid hW0
  have L := Lib.hid (h.step B.out)
  have HK := Lib.hid hk
  have HI := Lib.hid (And.intro hb1 hb2)
  obtain ⟨ao, cap, rfl⟩ := h.shape
  clear B1 B2 hW0 h hk hb1 hb2
  by_cases hlen : 60 < l.length
  · have AW := Lib.hid (awake_any W0)
    go_enter Try.func4, Try.ntmps4
    go_upto_region 1 with (fail)
    rw [HW.out]
    go_wp2_with fail
    refine AW.out.mono ?_
    rintro e w2 ⟨rfl, hb⟩
    have FIN := Lib.hid (B.out.trans (hb.mono B.out.size))
    clear hb
    go_wp2
    go_returns
    exact ⟨rfl, FIN.out⟩
  · have MD := Lib.hid (made_rows W0 _ l L.out (by omega) HK.out)
    go_enter Try.func4, Try.ntmps4
    go_upto_region 1 with (fail)
    rw [HW.out]
    go_wp2_with fail
    refine MD.out.mono ?_
    rintro e w1 ⟨p, b, rfl, h1, h2, h3, h4⟩
    have T1 := Lib.hid h1
    have BW1 := Lib.hid h4
    have RM := Lib.hid (rmade_any w1 _ l (L.out.step h4) (by omega))
    clear h1 h2 h3 h4 MD
    go_wp2_with fail
    refine RM.out.mono ?_
    rintro e w2 ⟨r, rfl, h1, h2⟩
    have T2 := Lib.hid (T1.out.step h2)
    have R2 := Lib.hid h1
    have LM := Lib.hid (show (madeF l).length < 1000000 from by have := madeF_len l; omega)
    obtain ⟨ra, rc, rfl⟩ := h1.shape
    have BW2 := Lib.hid (BW1.out.trans (h2.mono BW1.out.size))
    clear h1 h2 RM
    generalize madeF l = m at *
    have A1 := Lib.hid (fun W (hb : Below w2.heap.size w2 W) => above_any W p b m (T2.out.step hb) LM.out a1 a2 b1 b2 HI.out.1 HI.out.2)
    have A2 := Lib.hid (fun W (hb : Below w2.heap.size w2 W) => above_any W p b m (T2.out.step hb) LM.out b1 b2 b1 b2 HI.out.1 HI.out.2)
    have Q1 := Lib.hid (fun W (hb : Below w2.heap.size w2 W) => rabove_any W _ m (R2.out.step hb) a1 a2 b1 b2)
    have Q2 := Lib.hid (fun W (hb : Below w2.heap.size w2 W) => rabove_any W _ m (R2.out.step hb) b1 b2 b1 b2)
    have AW := Lib.hid (fun W => awake_any W)
    have CE := Lib.hid (fun W (hb : Below w2.heap.size w2 W) => (show W.cell? ⟨w.heap.size, 0, none⟩ = some (.int .i64 a1) ∧ W.cell? ⟨w.heap.size, 1, none⟩ = some (.int .i64 a2) ∧ W.cell? ⟨w.heap.size + 1, 0, none⟩ = some (.int .i64 b1) ∧ W.cell? ⟨w.heap.size + 1, 1, none⟩ = some (.int .i64 b2) from ⟨((SA.out.step BW2.out).step hb).cells.1, ((SA.out.step BW2.out).step hb).cells.2, ((SB.out.step BW2.out).step hb).cells.1, ((SB.out.step BW2.out).step hb).cells.2⟩))
    generalize aboveF m a1 a2 m.length b1 b2 = r1 at *
    generalize aboveF m b1 b2 m.length b1 b2 = r2 at *
    have e1 : (r1 == r1) = true := by cases r1 <;> rfl
    have e2 : (r2 == r2) = true := by cases r2 <;> rfl
    have BB := Lib.hid (show Below w2.heap.size w2 w2.drew from (Below.refl _ _).drew)
    have FB := Lib.hid (B.out.trans (BW2.out.mono B.out.size))
    clear T2 R2 T1 SA SB L
    go_upto_region 5 with (fail)
    go_region_held3 (fun w' => w'.cell? ⟨w.heap.size, 0, none⟩ = some (.int .i64 a1) ∧ w'.cell? ⟨w.heap.size, 1, none⟩ = some (.int .i64 a2) ∧ w'.cell? ⟨w.heap.size + 1, 0, none⟩ = some (.int .i64 b1) ∧ w'.cell? ⟨w.heap.size + 1, 1, none⟩ = some (.int .i64 b2)) (exact CE.out _ BB.out)
      (first
      | (go_at_call 27; with_reducible refine (A1.out _ BB.out).mono ?_; rintro e w3 ⟨rfl, hb⟩; have BB := Lib.hid (BB.out.trans (hb.mono BB.out.size)); clear hb)
      | (go_at_call 27; with_reducible refine (A2.out _ BB.out).mono ?_; rintro e w3 ⟨rfl, hb⟩; have BB := Lib.hid (BB.out.trans (hb.mono BB.out.size)); clear hb)
      | (go_at_call 28; with_reducible refine (Q1.out _ BB.out).mono ?_; rintro e w3 ⟨rfl, hb⟩; have BB := Lib.hid (BB.out.trans (hb.mono BB.out.size)); clear hb)
      | (go_at_call 28; with_reducible refine (Q2.out _ BB.out).mono ?_; rintro e w3 ⟨rfl, hb⟩; have BB := Lib.hid (BB.out.trans (hb.mono BB.out.size)); clear hb)
      | (go_at_call 24; refine (AW.out _).mono ?_; rintro e w3 ⟨rfl, hb⟩; have BB := Lib.hid (BB.out.trans (hb.mono BB.out.size)); clear hb))
    all_goals
      go_wp2
      go_returns
      exact ⟨rfl, FB.out.trans (BB.out.mono FB.out.size)⟩
end Go.Proofs.Ytegmlekeielmoaa
