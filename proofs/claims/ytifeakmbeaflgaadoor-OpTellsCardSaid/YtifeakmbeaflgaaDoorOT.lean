/- OpTells' law. Made by genot7.py, with tools/drawn.py. -/
import Derived.Test.YtifeakmbeaflgaaDoorRH
import Derived.Deep.CutRange
set_option linter.unusedVariables false
namespace Go.Proofs.YtifeakmbeaflgaaDoor
open Go.RowKit

theorem srt2 (a b : O) : srtO [a, b] = if lessO b a then [b, a] else [a, b] := by
  unfold srtO insO foldO
  cases h : lessO b a <;> simp [stepO, h]
theorem same2 (a b : O) : sameO [a, b] [b, a] = true → a = b := by
  intro h
  unfold sameO at h
  have h := @of_decide_eq_true _ (Classical.propDecidable _) h
  injection h
theorem less_irr (a : O) : lessO a a = false := by unfold lessO St.lessB; simp
theorem want_of (a b : O) (sb : Bool) (hsb : sameO (srtO [a, b]) [b, a] = sb) : (a.t = b.t ∧ a.r = b.r ∧ St.cmpS a.t a.r b.t b.r = 0) ∨ (¬ (a.t = b.t ∧ a.r = b.r) ∧ sb = true ∧ St.cmpS a.t a.r b.t b.r = 1) ∨ (¬ (a.t = b.t ∧ a.r = b.r) ∧ sb = false ∧ St.cmpS a.t a.r b.t b.r = -1) := by
  by_cases hat : a.t = b.t ∧ a.r = b.r
  · refine .inl ⟨hat.1, hat.2, ?_⟩
    rw [hat.1, hat.2]
    unfold St.cmpS Lib.compareInt
    simp
  · rcases St.cmp_less a.t a.r b.t b.r with ⟨h, e⟩ | ⟨h1, h2, e⟩ | ⟨h1, h2, e⟩
    · refine .inr (.inr ⟨hat, ?_, e⟩)
      have hl : lessO b a = false := by
        unfold lessO
        unfold St.lessB at h ⊢
        split at h <;> split <;> simp at * <;> omega
      rw [srt2, hl] at hsb
      cases sb with
      | false => rfl
      | true => exact absurd (same2 a b hsb) (fun e => hat (by rw [e]; exact ⟨rfl, rfl⟩))
    · refine .inr (.inl ⟨hat, ?_, e⟩)
      have hl : lessO b a = true := h2
      rw [srt2, hl, if_pos rfl, sameO_self] at hsb
      exact hsb.symm
    · exfalso
      apply hat
      unfold St.lessB at h1 h2
      split at h1
      · rename_i c
        rw [if_pos c.symm] at h2
        simp at h1 h2
        exact ⟨c, by omega⟩
      · rename_i c
        rw [if_neg (fun e => c e.symm)] at h2
        simp at h1 h2
        omega
/-- Two boxes, and what stands in both from then on. -/
structure B2 (w W : World) (a b : O) : Prop where
  bel : Below w.heap.size w W
  one : OpAt W w.heap.size a.t a.r a.q a.nt a.nr a.pt a.pr a.nm a.d
  two : OpAt W (w.heap.size + 1) b.t b.r b.q b.nt b.nr b.pt b.pr b.nm b.d
theorem B2.step {w W W' : World} {a b : O} (h : B2 w W a b) (hb : Below W.heap.size W W') : B2 w W' a b := ⟨h.bel.trans (hb.mono h.bel.size), h.one.step hb, h.two.step hb⟩
theorem B2.start (w : World) (a b : O) : B2 w ((w.alloc (.cells #[.int .i64 a.t, .int .i64 a.r, .int .i64 a.q, .int .i64 a.nt, .int .i64 a.nr, .int .i64 a.pt, .int .i64 a.pr, .string a.nm, .bool a.d] 25)).alloc (.cells #[.int .i64 b.t, .int .i64 b.r, .int .i64 b.q, .int .i64 b.nt, .int .i64 b.nr, .int .i64 b.pt, .int .i64 b.pr, .string b.nm, .bool b.d] 25)) a b := by
  have h1 := vstep w (.cells #[.int .i64 a.t, .int .i64 a.r, .int .i64 a.q, .int .i64 a.nt, .int .i64 a.nr, .int .i64 a.pt, .int .i64 a.pr, .string a.nm, .bool a.d] 25)
  have h2 := vstep (w.alloc (.cells #[.int .i64 a.t, .int .i64 a.r, .int .i64 a.q, .int .i64 a.nt, .int .i64 a.nr, .int .i64 a.pt, .int .i64 a.pr, .string a.nm, .bool a.d] 25)) (.cells #[.int .i64 b.t, .int .i64 b.r, .int .i64 b.q, .int .i64 b.nt, .int .i64 b.nr, .int .i64 b.pt, .int .i64 b.pr, .string b.nm, .bool b.d] 25)
  have hn := heap_alloc_new (w.alloc (.cells #[.int .i64 a.t, .int .i64 a.r, .int .i64 a.q, .int .i64 a.nt, .int .i64 a.nr, .int .i64 a.pt, .int .i64 a.pr, .string a.nm, .bool a.d] 25)) (.cells #[.int .i64 b.t, .int .i64 b.r, .int .i64 b.q, .int .i64 b.nt, .int .i64 b.nr, .int .i64 b.pt, .int .i64 b.pr, .string b.nm, .bool b.d] 25)
  rw [World.size_alloc] at hn
  exact ⟨h1.trans (h2.mono h1.size), OpAt.step (heap_alloc_new w _) h2, hn⟩
def S2 (w w' : World) (a b : O) : Prop := w'.cell? ⟨w.heap.size, 0, none⟩ = some (.int .i64 a.t) ∧ w'.cell? ⟨w.heap.size, 1, none⟩ = some (.int .i64 a.r) ∧ w'.cell? ⟨w.heap.size, 2, none⟩ = some (.int .i64 a.q) ∧ w'.cell? ⟨w.heap.size, 3, none⟩ = some (.int .i64 a.nt) ∧ w'.cell? ⟨w.heap.size, 4, none⟩ = some (.int .i64 a.nr) ∧ w'.cell? ⟨w.heap.size, 5, none⟩ = some (.int .i64 a.pt) ∧ w'.cell? ⟨w.heap.size, 6, none⟩ = some (.int .i64 a.pr) ∧ w'.cell? ⟨w.heap.size, 7, none⟩ = some (.string a.nm) ∧ w'.cell? ⟨w.heap.size, 8, none⟩ = some (.bool a.d) ∧ w'.cell? ⟨w.heap.size + 1, 0, none⟩ = some (.int .i64 b.t) ∧ w'.cell? ⟨w.heap.size + 1, 1, none⟩ = some (.int .i64 b.r) ∧ w'.cell? ⟨w.heap.size + 1, 2, none⟩ = some (.int .i64 b.q) ∧ w'.cell? ⟨w.heap.size + 1, 3, none⟩ = some (.int .i64 b.nt) ∧ w'.cell? ⟨w.heap.size + 1, 4, none⟩ = some (.int .i64 b.nr) ∧ w'.cell? ⟨w.heap.size + 1, 5, none⟩ = some (.int .i64 b.pt) ∧ w'.cell? ⟨w.heap.size + 1, 6, none⟩ = some (.int .i64 b.pr) ∧ w'.cell? ⟨w.heap.size + 1, 7, none⟩ = some (.string b.nm) ∧ w'.cell? ⟨w.heap.size + 1, 8, none⟩ = some (.bool b.d)
theorem B2.cells {w W : World} {a b : O} (h : B2 w W a b) : S2 w W a b := by
  obtain ⟨c0, c1, c2, c3, c4, c5, c6, c7, c8⟩ := h.one.cells
  obtain ⟨d0, d1, d2, d3, d4, d5, d6, d7, d8⟩ := h.two.cells
  exact ⟨c0, c1, c2, c3, c4, c5, c6, c7, c8, d0, d1, d2, d3, d4, d5, d6, d7, d8⟩
theorem lat2 {w W : World} {a b : O} (h : B2 w W a b) (x : Later W) : S2 w x.w a b := (h.step x.below).cells
set_option maxRecDepth 100000 in
set_option maxHeartbeats 12800000 in
theorem tells_law (w : World) (a b : O) (hT : Tab w) (ha : Fit a) (hb : Fit b) :
    Calls Tryd.prog 3 #[.agg #[.int .i64 a.t, .int .i64 a.r, .int .i64 a.q, .int .i64 a.nt, .int .i64 a.nr, .int .i64 a.pt, .int .i64 a.pr, .string a.nm, .bool a.d], .agg #[.int .i64 b.t, .int .i64 b.r, .int .i64 b.q, .int .i64 b.nt, .int .i64 b.nr, .int .i64 b.pt, .int .i64 b.pr, .string b.nm, .bool b.d]] w fun e w' => e = .returned (.bool true) ∧ Below w.heap.size w w' := by
  have T0 := Lib.hid (B2.start w a b)
  obtain ⟨W0, hW0⟩ : ∃ x, (w.alloc (.cells #[.int .i64 a.t, .int .i64 a.r, .int .i64 a.q, .int .i64 a.nt, .int .i64 a.nr, .int .i64 a.pt, .int .i64 a.pr, .string a.nm, .bool a.d] 25)).alloc (.cells #[.int .i64 b.t, .int .i64 b.r, .int .i64 b.q, .int .i64 b.nt, .int .i64 b.nr, .int .i64 b.pt, .int .i64 b.pr, .string b.nm, .bool b.d] 25) = x := ⟨_, rfl⟩
  rw [hW0] at T0
  have HW0 := Lib.hid hW0
  clear hW0
  have LG := Lib.hid (long_any (W0.alloc (.cells (arr2 a b) 25)) _ _ (two_op W0 a b))
  have bs := bs_op2 W0 a b
  have B1 := Lib.hid (vstep W0 (.cells (arr2 a b) 25))
  have AW := Lib.hid (fun W (hb : Below w.heap.size w W) => awake_any W (tab_later hT hb))
  have NO := Lib.hid (fun h => longO_no (l := [a, b]) h)
  cases hlo : longO [a, b] with
  | true =>
    rw [hlo] at LG
    go_enter Tryd.func3, Tryd.ntmps3
    go_upto_region 1 with (fail)
    rw [HW0.out]
    obtain ⟨c0, c1, c2, c3, c4, c5, c6, c7, c8, d0, d1, d2, d3, d4, d5, d6, d7, d8⟩ := T0.out.cells
    go_wp2_with fail
    refine LG.out.mono ?_
    rintro e w1 ⟨rfl, rfl⟩
    have X1 := Lib.hid (T0.out.step B1.out)
    go_wp2_with fail
    refine (AW.out _ X1.out.bel).mono ?_
    rintro e w2 ⟨rfl, hb⟩
    have X2 := Lib.hid (X1.out.step hb)
    clear hb
    go_wp2
    go_returns
    exact ⟨rfl, X2.out.bel⟩
  | false =>
    rw [hlo] at LG
    have NL := Lib.hid (NO.out hlo).2
    have za : a.nm.size ≤ 300 := NL.out a (by simp)
    have zb : b.nm.size ≤ 300 := NL.out b (by simp)
    go_enter Tryd.func3, Tryd.ntmps3
    go_upto_region 1 with (fail)
    rw [HW0.out]
    obtain ⟨c0, c1, c2, c3, c4, c5, c6, c7, c8, d0, d1, d2, d3, d4, d5, d6, d7, d8⟩ := T0.out.cells
    go_wp2_with fail
    refine LG.out.mono ?_
    rintro e w1 ⟨rfl, rfl⟩
    have X1 := Lib.hid (T0.out.step B1.out)
    obtain ⟨V1, hV1⟩ : ∃ x, W0.alloc (.cells (arr2 a b) 25) = x := ⟨_, rfl⟩
    rw [hV1] at X1
    have HV1 := Lib.hid hV1
    clear hV1 c0 c1 c2 c3 c4 c5 c6 c7 c8 d0 d1 d2 d3 d4 d5 d6 d7 d8 bs LG B1 NO NL hlo
    have SO := Lib.hid (fun W v (h : OLies W v [a, b]) => rsorted_any W v [a, b] h (by show 2 ≤ 100; omega))
    have SM := Lib.hid (fun W v1 v2 l m (h1 : OLies W v1 l) (h2 : OLies W v2 m) => rsameO_any W v1 v2 l m h1 h2)
    have KEEP := Lib.hid (fun W (hb : Below V1.heap.size V1 W) => (show W.cell? ⟨w.heap.size, 0, none⟩ = some (.int .i64 a.t) ∧ W.cell? ⟨w.heap.size, 1, none⟩ = some (.int .i64 a.r) ∧ W.cell? ⟨w.heap.size, 2, none⟩ = some (.int .i64 a.q) ∧ W.cell? ⟨w.heap.size, 3, none⟩ = some (.int .i64 a.nt) ∧ W.cell? ⟨w.heap.size, 4, none⟩ = some (.int .i64 a.nr) ∧ W.cell? ⟨w.heap.size, 5, none⟩ = some (.int .i64 a.pt) ∧ W.cell? ⟨w.heap.size, 6, none⟩ = some (.int .i64 a.pr) ∧ W.cell? ⟨w.heap.size, 7, none⟩ = some (.string a.nm) ∧ W.cell? ⟨w.heap.size, 8, none⟩ = some (.bool a.d) ∧ W.cell? ⟨w.heap.size + 1, 0, none⟩ = some (.int .i64 b.t) ∧ W.cell? ⟨w.heap.size + 1, 1, none⟩ = some (.int .i64 b.r) ∧ W.cell? ⟨w.heap.size + 1, 2, none⟩ = some (.int .i64 b.q) ∧ W.cell? ⟨w.heap.size + 1, 3, none⟩ = some (.int .i64 b.nt) ∧ W.cell? ⟨w.heap.size + 1, 4, none⟩ = some (.int .i64 b.nr) ∧ W.cell? ⟨w.heap.size + 1, 5, none⟩ = some (.int .i64 b.pt) ∧ W.cell? ⟨w.heap.size + 1, 6, none⟩ = some (.int .i64 b.pr) ∧ W.cell? ⟨w.heap.size + 1, 7, none⟩ = some (.string b.nm) ∧ W.cell? ⟨w.heap.size + 1, 8, none⟩ = some (.bool b.d) from (X1.out.step hb).cells))
    have RR := Lib.hid (fun W (hb : Below V1.heap.size V1 W) => right_any W a.t a.r a.q a.nt a.nr a.pt a.pr a.nm a.d (by omega))
    have RQ := Lib.hid (fun W (hb : Below V1.heap.size V1 W) => rright_any W a.t a.r a.q a.nt a.nr a.pt a.pr a.nm a.d (by omega))
    have KK := Lib.hid (fun W (hb : Below V1.heap.size V1 W) => kind_any W a.t a.r a.q a.nt a.nr a.pt a.pr a.nm a.d)
    have KQ := Lib.hid (fun W (hb : Below V1.heap.size V1 W) => rkind_any W a.t a.r a.q a.nt a.nr a.pt a.pr a.nm a.d)
    have CC := Lib.hid (fun W (hb : Below V1.heap.size V1 W) => compare_any W a.t a.r a.q a.nt a.nr a.pt a.pr b.t b.r b.q b.nt b.nr b.pt b.pr a.nm b.nm a.d b.d)
    have TT := Lib.hid (fun W (hb : Below V1.heap.size V1 W) => textO_any W a.t a.r a.q a.nt a.nr a.pt a.pr a.nm a.d ha.t ha.r ha.q ha.nt ha.nr ha.pt ha.pr za (tab_later hT (X1.out.bel.trans (hb.mono X1.out.bel.size))))
    have TQ := Lib.hid (fun W (hb : Below V1.heap.size V1 W) => rtextO_any W a.t a.r a.q a.nt a.nr a.pt a.pr a.nm a.d ha.t ha.r ha.q ha.nt ha.nr ha.pt ha.pr za)
    have AL := Lib.hid (fun W (hb : Below V1.heap.size V1 W) => AW.out W (X1.out.bel.trans (hb.mono X1.out.bel.size)))
    have WW := want_of a b
    obtain ⟨cw, hcw⟩ : ∃ x, St.cmpS a.t a.r b.t b.r = x := ⟨_, rfl⟩
    rw [hcw] at CC
    simp only [hcw] at WW
    obtain ⟨sl, hsl⟩ : ∃ x, srtO [a, b] = x := ⟨_, rfl⟩
    rw [hsl] at SO WW
    have bs1 := fun W => bs_op2 W a b
    have bs2 := fun W => bs_op2 W b a
    have WANT := Lib.hid WW
    clear hsl hcw WW ha hb za zb hT
    go_upto_region 3 with (fail)
    rw [HV1.out]
    go_wp2_with fail
    go_cut [5, 25] from 11 (fun wv tv wx => wv = .int .i64 0 ∧ tv = .bool (sameO sl [b, a] && !(a.t == b.t && a.r == b.r)) ∧ Below V1.heap.size V1 wx)
    case first =>
      have W2 := WANT.out _ rfl
      have HSB := Lib.hid (fun W v1 v2 (h1 : OLies W v1 sl) (h2 : OLies W v2 [b, a]) => SM.out W v1 v2 sl [b, a] h1 h2)
      generalize sameO sl [b, a] = sb at *
      have W3 : (∃ x1 : (a.t == b.t) = true, (a.r == b.r) = true ∧ cw = 0) ∨ (((a.t == b.t) = false ∨ ((a.t == b.t) = true ∧ (a.r == b.r) = false)) ∧ ((sb = true ∧ cw = 1) ∨ (sb = false ∧ cw = -1))) := by
        rcases W2 with ⟨h1, h2, h3⟩ | ⟨h1, h2, h3⟩ | ⟨h1, h2, h3⟩
        · exact .inl ⟨beqb_ _ _ h1, beqb_ _ _ h2, h3⟩
        · exact .inr ⟨no2 h1, .inl ⟨h2, h3⟩⟩
        · exact .inr ⟨no2 h1, .inr ⟨h2, h3⟩⟩
      clear W2 WANT SM
      have LA := Lib.hid (fun W (hb : Below V1.heap.size V1 W) => load25 W w.heap.size _ _ _ _ _ _ _ _ _ (X1.out.step hb).one)
      have LB := Lib.hid (fun W (hb : Below V1.heap.size V1 W) => load25 W (w.heap.size + 1) _ _ _ _ _ _ _ _ _ (X1.out.step hb).two)
      have MA := Lib.hid (fun W (hb : Below V1.heap.size V1 W) => load23 W w.heap.size _ _ _ _ _ _ _ _ _ (X1.out.step hb).one)
      have MB := Lib.hid (fun W (hb : Below V1.heap.size V1 W) => load23 W (w.heap.size + 1) _ _ _ _ _ _ _ _ _ (X1.out.step hb).two)
      rcases W3 with ⟨x1, x2, x3⟩ | ⟨x1 | ⟨x1, x2⟩, ⟨rfl, x3⟩ | ⟨rfl, x3⟩⟩
      · have HCW := Lib.hid x3
        clear x3
        cases sb with
        | false =>
          refine wp_region_held_drew (S := fun w' => Below V1.heap.size V1 w') (by kernel_rfl) (Below.refl _ _).drew (fun hHeld => ?_)
          have BV := Lib.hid (show Below V1.heap.size V1 V1.drew from (Below.refl _ _).drew)
          clear hHeld
          refine take_at (i := 0) 11 (.agg #[.int .i64 a.t, .int .i64 a.r, .int .i64 a.q, .int .i64 a.nt, .int .i64 a.nr, .int .i64 a.pt, .int .i64 a.pr, .string a.nm, .bool a.d]) rfl rfl (by kernel_rfl) (by kernel_rfl) (by kernel_rfl) (fun _ _ _ h => h) (yields_ld (.tmp 2) 25 (.pointer (some ⟨w.heap.size, 0, none⟩)) _ LA.out rfl rfl rfl) BV.out ?_
          simp only [Act.put, List.setIfInBounds_toArray, List.set_cons_zero, List.set_cons_succ]
          refine take_at (i := 1) 12 (.agg #[.int .i64 b.t, .int .i64 b.r, .int .i64 b.q, .int .i64 b.nt, .int .i64 b.nr, .int .i64 b.pt, .int .i64 b.pr, .string b.nm, .bool b.d]) rfl rfl (by kernel_rfl) (by kernel_rfl) (by kernel_rfl) (fun _ _ _ h => h) (yields_ld (.tmp 3) 25 (.pointer (some ⟨w.heap.size + 1, 0, none⟩)) _ LB.out rfl rfl rfl) BV.out ?_
          simp only [Act.put, List.setIfInBounds_toArray, List.set_cons_zero, List.set_cons_succ]
          refine take_at (i := 4) 15 (.agg #[.int .i64 b.t, .int .i64 b.r, .int .i64 b.q, .int .i64 b.nt, .int .i64 b.nr, .int .i64 b.pt, .int .i64 b.pr, .string b.nm, .bool b.d]) rfl rfl (by kernel_rfl) (by kernel_rfl) (by kernel_rfl) (fun _ _ _ h => h) (yields_ld (.tmp 3) 25 (.pointer (some ⟨w.heap.size + 1, 0, none⟩)) _ LB.out rfl rfl rfl) BV.out ?_
          simp only [Act.put, List.setIfInBounds_toArray, List.set_cons_zero, List.set_cons_succ]
          refine take_at (i := 5) 16 (.agg #[.int .i64 a.t, .int .i64 a.r, .int .i64 a.q, .int .i64 a.nt, .int .i64 a.nr, .int .i64 a.pt, .int .i64 a.pr, .string a.nm, .bool a.d]) rfl rfl (by kernel_rfl) (by kernel_rfl) (by kernel_rfl) (fun _ _ _ h => h) (yields_ld (.tmp 2) 25 (.pointer (some ⟨w.heap.size, 0, none⟩)) _ LA.out rfl rfl rfl) BV.out ?_
          simp only [Act.put, List.setIfInBounds_toArray, List.set_cons_zero, List.set_cons_succ]
          refine wpAnyH_ready (rs := [2, 6]) (by kernel_rfl) (by simp) (br_bslice (i := 2) 13 27 2 _ #[(0, .agg #[.int .i64 a.t, .int .i64 a.r, .int .i64 a.q, .int .i64 a.nt, .int .i64 a.nr, .int .i64 a.pt, .int .i64 a.pr, .string a.nm, .bool a.d]), (1, .agg #[.int .i64 b.t, .int .i64 b.r, .int .i64 b.q, .int .i64 b.nt, .int .i64 b.nr, .int .i64 b.pt, .int .i64 b.pr, .string b.nm, .bool b.d])] _ _ rfl rfl rfl rfl rfl ((fun W => bs_op2 W a b) V1.drew) (BV.out.trans ((vstep V1.drew _).mono BV.out.size)) (fun _ => ?_) (br_bslice (i := 6) 17 27 2 _ #[(0, .agg #[.int .i64 b.t, .int .i64 b.r, .int .i64 b.q, .int .i64 b.nt, .int .i64 b.nr, .int .i64 b.pt, .int .i64 b.pr, .string b.nm, .bool b.d]), (1, .agg #[.int .i64 a.t, .int .i64 a.r, .int .i64 a.q, .int .i64 a.nt, .int .i64 a.nr, .int .i64 a.pt, .int .i64 a.pr, .string a.nm, .bool a.d])] _ _ rfl rfl rfl rfl rfl ((fun W => bs_op2 W b a) V1.drew) (BV.out.trans ((vstep V1.drew _).mono BV.out.size)) (fun _ => ?_) AllReadyH.nil))
          · obtain ⟨v1, hv1⟩ : ∃ x, V1.drew.alloc (.cells (arr2 a b) 25) = x := ⟨_, rfl⟩
            have hb : Below V1.drew.heap.size V1.drew v1 := by rw [← hv1]; exact vstep V1.drew _
            have S13 := Lib.hid (show OLies v1 (.slice (some ⟨V1.drew.heap.size, 0, none⟩) 2 2) [a, b] from by rw [← hv1]; exact two_op V1.drew a b)
            rw [hv1]
            obtain ⟨k1, hk1⟩ : ∃ x, V1.drew.heap.size = x := ⟨_, rfl⟩
            rw [hk1] at S13 ⊢
            have BV := Lib.hid (BV.out.trans (hb.mono BV.out.size))
            clear hb hv1 hk1
            simp only [Act.put, List.setIfInBounds_toArray, List.set_cons_zero, List.set_cons_succ]
            refine wpAnyH_ready (rs := [3, 6]) (by kernel_rfl) (by simp) (br_call (i := 3) 14 11 #[.slice (some ⟨k1, 0, none⟩) 2 2] rfl rfl rfl (by go_simp) ((SO.out _ _ S13.out).mono ?_) (br_bslice (i := 6) 17 27 2 _ #[(0, .agg #[.int .i64 b.t, .int .i64 b.r, .int .i64 b.q, .int .i64 b.nt, .int .i64 b.nr, .int .i64 b.pt, .int .i64 b.pr, .string b.nm, .bool b.d]), (1, .agg #[.int .i64 a.t, .int .i64 a.r, .int .i64 a.q, .int .i64 a.nt, .int .i64 a.nr, .int .i64 a.pt, .int .i64 a.pr, .string a.nm, .bool a.d])] _ _ rfl rfl rfl rfl rfl ((fun W => bs_op2 W b a) v1) (BV.out.trans ((vstep v1 _).mono BV.out.size)) (fun _ => ?_) AllReadyH.nil))
            · rintro e v2 ⟨r2, rfl, ho, hb⟩
              have BV := Lib.hid (BV.out.trans (hb.mono BV.out.size))
              have S13 := Lib.hid (S13.out.step hb)
              have SR := Lib.hid ho
              clear ho
              clear hb
              refine ⟨_, rfl, BV.out, fun _ => ?_⟩
              simp only [Act.put, List.setIfInBounds_toArray, List.set_cons_zero, List.set_cons_succ]
              refine wpAnyH_ready (rs := [6]) (by kernel_rfl) (by simp) (br_bslice (i := 6) 17 27 2 _ #[(0, .agg #[.int .i64 b.t, .int .i64 b.r, .int .i64 b.q, .int .i64 b.nt, .int .i64 b.nr, .int .i64 b.pt, .int .i64 b.pr, .string b.nm, .bool b.d]), (1, .agg #[.int .i64 a.t, .int .i64 a.r, .int .i64 a.q, .int .i64 a.nt, .int .i64 a.nr, .int .i64 a.pt, .int .i64 a.pr, .string a.nm, .bool a.d])] _ _ rfl rfl rfl rfl rfl ((fun W => bs_op2 W b a) v2) (BV.out.trans ((vstep v2 _).mono BV.out.size)) (fun _ => ?_) AllReadyH.nil)
              obtain ⟨v3, hv3⟩ : ∃ x, v2.alloc (.cells (arr2 b a) 25) = x := ⟨_, rfl⟩
              have hb : Below v2.heap.size v2 v3 := by rw [← hv3]; exact vstep v2 _
              have S17 := Lib.hid (show OLies v3 (.slice (some ⟨v2.heap.size, 0, none⟩) 2 2) [b, a] from by rw [← hv3]; exact two_op v2 b a)
              rw [hv3]
              obtain ⟨k3, hk3⟩ : ∃ x, v2.heap.size = x := ⟨_, rfl⟩
              rw [hk3] at S17 ⊢
              have BV := Lib.hid (BV.out.trans (hb.mono BV.out.size))
              have S13 := Lib.hid (S13.out.step hb)
              have SR := Lib.hid (SR.out.step hb)
              clear hb hv3 hk3
              simp only [Act.put, List.setIfInBounds_toArray, List.set_cons_zero, List.set_cons_succ]
              refine wpAnyH_ready (rs := [7]) (by kernel_rfl) (by simp) (br_call (i := 7) 18 10 #[r2, .slice (some ⟨k3, 0, none⟩) 2 2] rfl rfl rfl (by go_simp) ((HSB.out _ _ _ SR.out S17.out).mono ?_) AllReadyH.nil)
              rintro e v4 ⟨rfl, hb⟩
              have BV := Lib.hid (BV.out.trans (hb.mono BV.out.size))
              have S13 := Lib.hid (S13.out.step hb)
              have SR := Lib.hid (SR.out.step hb)
              have S17 := Lib.hid (S17.out.step hb)
              clear hb
              refine ⟨_, rfl, BV.out, fun _ => ?_⟩
              simp only [Act.put, List.setIfInBounds_toArray, List.set_cons_zero, List.set_cons_succ]
              refine take_at (i := 8) 19 ?_ rfl rfl (by kernel_rfl) (by kernel_rfl) (by kernel_rfl) (fun _ _ _ h => h) (.inl ⟨rfl, ?_⟩) BV.out ?_
              rotate_left 1
              · intro w hSw; go_simp; try with_reducible rfl
              simp only [Act.put, List.setIfInBounds_toArray, List.set_cons_zero, List.set_cons_succ]
              refine take_at (i := 9) 20 undef rfl rfl (by kernel_rfl) (by kernel_rfl) (by kernel_rfl) (fun _ _ _ h => h) (.inr ⟨rfl, rfl⟩) BV.out ?_
              simp only [Act.put, List.setIfInBounds_toArray, List.set_cons_zero, List.set_cons_succ]
              refine take_at (i := 10) 21 undef rfl rfl (by kernel_rfl) (by kernel_rfl) (by kernel_rfl) (fun _ _ _ h => h) (.inr ⟨rfl, rfl⟩) BV.out ?_
              simp only [Act.put, List.setIfInBounds_toArray, List.set_cons_zero, List.set_cons_succ]
              refine take_at (i := 11) 22 undef rfl rfl (by kernel_rfl) (by kernel_rfl) (by kernel_rfl) (fun _ _ _ h => h) (.inr ⟨rfl, rfl⟩) BV.out ?_
              simp only [Act.put, List.setIfInBounds_toArray, List.set_cons_zero, List.set_cons_succ]
              refine take_at (i := 12) 23 undef rfl rfl (by kernel_rfl) (by kernel_rfl) (by kernel_rfl) (fun _ _ _ h => h) (.inr ⟨rfl, rfl⟩) BV.out ?_
              simp only [Act.put, List.setIfInBounds_toArray, List.set_cons_zero, List.set_cons_succ]
              refine take_at (i := 13) 24 undef rfl rfl (by kernel_rfl) (by kernel_rfl) (by kernel_rfl) (fun _ _ _ h => h) (.inr ⟨rfl, rfl⟩) BV.out ?_
              simp only [Act.put, List.setIfInBounds_toArray, List.set_cons_zero, List.set_cons_succ]
              refine take_at (i := 14) 25 ?_ rfl rfl (by kernel_rfl) (by kernel_rfl) (by kernel_rfl) (fun _ _ _ h => h) (.inl ⟨rfl, ?_⟩) BV.out ?_
              rotate_left 1
              · intro w hSw; go_simp; try with_reducible rfl
              simp only [Act.put, List.setIfInBounds_toArray, List.set_cons_zero, List.set_cons_succ]
              refine wpAnyH_done (by kernel_rfl) ?_ _
              have HC := (KEEP.out _ BV.out)
              obtain ⟨c0, c1, c2, c3, c4, c5, c6, c7, c8, d0, d1, d2, d3, d4, d5, d6, d7, d8⟩ := HC
              go_wp2_with fail
              go_meet
              exact ⟨rfl, by first | rfl | (rw [x1]; rfl) | (rw [x1, x2]; rfl), BV.out⟩
            · obtain ⟨v5, hv5⟩ : ∃ x, v1.alloc (.cells (arr2 b a) 25) = x := ⟨_, rfl⟩
              have hb : Below v1.heap.size v1 v5 := by rw [← hv5]; exact vstep v1 _
              have S17 := Lib.hid (show OLies v5 (.slice (some ⟨v1.heap.size, 0, none⟩) 2 2) [b, a] from by rw [← hv5]; exact two_op v1 b a)
              rw [hv5]
              obtain ⟨k5, hk5⟩ : ∃ x, v1.heap.size = x := ⟨_, rfl⟩
              rw [hk5] at S17 ⊢
              have BV := Lib.hid (BV.out.trans (hb.mono BV.out.size))
              have S13 := Lib.hid (S13.out.step hb)
              clear hb hv5 hk5
              simp only [Act.put, List.setIfInBounds_toArray, List.set_cons_zero, List.set_cons_succ]
              refine wpAnyH_ready (rs := [3]) (by kernel_rfl) (by simp) (br_call (i := 3) 14 11 #[.slice (some ⟨k1, 0, none⟩) 2 2] rfl rfl rfl (by go_simp) ((SO.out _ _ S13.out).mono ?_) AllReadyH.nil)
              rintro e v6 ⟨r2, rfl, ho, hb⟩
              have BV := Lib.hid (BV.out.trans (hb.mono BV.out.size))
              have S13 := Lib.hid (S13.out.step hb)
              have S17 := Lib.hid (S17.out.step hb)
              have SR := Lib.hid ho
              clear ho
              clear hb
              refine ⟨_, rfl, BV.out, fun _ => ?_⟩
              simp only [Act.put, List.setIfInBounds_toArray, List.set_cons_zero, List.set_cons_succ]
              refine wpAnyH_ready (rs := [7]) (by kernel_rfl) (by simp) (br_call (i := 7) 18 10 #[r2, .slice (some ⟨k5, 0, none⟩) 2 2] rfl rfl rfl (by go_simp) ((HSB.out _ _ _ SR.out S17.out).mono ?_) AllReadyH.nil)
              rintro e v7 ⟨rfl, hb⟩
              have BV := Lib.hid (BV.out.trans (hb.mono BV.out.size))
              have S13 := Lib.hid (S13.out.step hb)
              have S17 := Lib.hid (S17.out.step hb)
              have SR := Lib.hid (SR.out.step hb)
              clear hb
              refine ⟨_, rfl, BV.out, fun _ => ?_⟩
              simp only [Act.put, List.setIfInBounds_toArray, List.set_cons_zero, List.set_cons_succ]
              refine take_at (i := 8) 19 ?_ rfl rfl (by kernel_rfl) (by kernel_rfl) (by kernel_rfl) (fun _ _ _ h => h) (.inl ⟨rfl, ?_⟩) BV.out ?_
              rotate_left 1
              · intro w hSw; go_simp; try with_reducible rfl
              simp only [Act.put, List.setIfInBounds_toArray, List.set_cons_zero, List.set_cons_succ]
              refine take_at (i := 9) 20 undef rfl rfl (by kernel_rfl) (by kernel_rfl) (by kernel_rfl) (fun _ _ _ h => h) (.inr ⟨rfl, rfl⟩) BV.out ?_
              simp only [Act.put, List.setIfInBounds_toArray, List.set_cons_zero, List.set_cons_succ]
              refine take_at (i := 10) 21 undef rfl rfl (by kernel_rfl) (by kernel_rfl) (by kernel_rfl) (fun _ _ _ h => h) (.inr ⟨rfl, rfl⟩) BV.out ?_
              simp only [Act.put, List.setIfInBounds_toArray, List.set_cons_zero, List.set_cons_succ]
              refine take_at (i := 11) 22 undef rfl rfl (by kernel_rfl) (by kernel_rfl) (by kernel_rfl) (fun _ _ _ h => h) (.inr ⟨rfl, rfl⟩) BV.out ?_
              simp only [Act.put, List.setIfInBounds_toArray, List.set_cons_zero, List.set_cons_succ]
              refine take_at (i := 12) 23 undef rfl rfl (by kernel_rfl) (by kernel_rfl) (by kernel_rfl) (fun _ _ _ h => h) (.inr ⟨rfl, rfl⟩) BV.out ?_
              simp only [Act.put, List.setIfInBounds_toArray, List.set_cons_zero, List.set_cons_succ]
              refine take_at (i := 13) 24 undef rfl rfl (by kernel_rfl) (by kernel_rfl) (by kernel_rfl) (fun _ _ _ h => h) (.inr ⟨rfl, rfl⟩) BV.out ?_
              simp only [Act.put, List.setIfInBounds_toArray, List.set_cons_zero, List.set_cons_succ]
              refine take_at (i := 14) 25 ?_ rfl rfl (by kernel_rfl) (by kernel_rfl) (by kernel_rfl) (fun _ _ _ h => h) (.inl ⟨rfl, ?_⟩) BV.out ?_
              rotate_left 1
              · intro w hSw; go_simp; try with_reducible rfl
              simp only [Act.put, List.setIfInBounds_toArray, List.set_cons_zero, List.set_cons_succ]
              refine wpAnyH_done (by kernel_rfl) ?_ _
              have HC := (KEEP.out _ BV.out)
              obtain ⟨c0, c1, c2, c3, c4, c5, c6, c7, c8, d0, d1, d2, d3, d4, d5, d6, d7, d8⟩ := HC
              go_wp2_with fail
              go_meet
              exact ⟨rfl, by first | rfl | (rw [x1]; rfl) | (rw [x1, x2]; rfl), BV.out⟩
          · obtain ⟨v8, hv8⟩ : ∃ x, V1.drew.alloc (.cells (arr2 b a) 25) = x := ⟨_, rfl⟩
            have hb : Below V1.drew.heap.size V1.drew v8 := by rw [← hv8]; exact vstep V1.drew _
            have S17 := Lib.hid (show OLies v8 (.slice (some ⟨V1.drew.heap.size, 0, none⟩) 2 2) [b, a] from by rw [← hv8]; exact two_op V1.drew b a)
            rw [hv8]
            obtain ⟨k8, hk8⟩ : ∃ x, V1.drew.heap.size = x := ⟨_, rfl⟩
            rw [hk8] at S17 ⊢
            have BV := Lib.hid (BV.out.trans (hb.mono BV.out.size))
            clear hb hv8 hk8
            simp only [Act.put, List.setIfInBounds_toArray, List.set_cons_zero, List.set_cons_succ]
            refine wpAnyH_ready (rs := [2]) (by kernel_rfl) (by simp) (br_bslice (i := 2) 13 27 2 _ #[(0, .agg #[.int .i64 a.t, .int .i64 a.r, .int .i64 a.q, .int .i64 a.nt, .int .i64 a.nr, .int .i64 a.pt, .int .i64 a.pr, .string a.nm, .bool a.d]), (1, .agg #[.int .i64 b.t, .int .i64 b.r, .int .i64 b.q, .int .i64 b.nt, .int .i64 b.nr, .int .i64 b.pt, .int .i64 b.pr, .string b.nm, .bool b.d])] _ _ rfl rfl rfl rfl rfl ((fun W => bs_op2 W a b) v8) (BV.out.trans ((vstep v8 _).mono BV.out.size)) (fun _ => ?_) AllReadyH.nil)
            obtain ⟨v9, hv9⟩ : ∃ x, v8.alloc (.cells (arr2 a b) 25) = x := ⟨_, rfl⟩
            have hb : Below v8.heap.size v8 v9 := by rw [← hv9]; exact vstep v8 _
            have S13 := Lib.hid (show OLies v9 (.slice (some ⟨v8.heap.size, 0, none⟩) 2 2) [a, b] from by rw [← hv9]; exact two_op v8 a b)
            rw [hv9]
            obtain ⟨k9, hk9⟩ : ∃ x, v8.heap.size = x := ⟨_, rfl⟩
            rw [hk9] at S13 ⊢
            have BV := Lib.hid (BV.out.trans (hb.mono BV.out.size))
            have S17 := Lib.hid (S17.out.step hb)
            clear hb hv9 hk9
            simp only [Act.put, List.setIfInBounds_toArray, List.set_cons_zero, List.set_cons_succ]
            refine wpAnyH_ready (rs := [3]) (by kernel_rfl) (by simp) (br_call (i := 3) 14 11 #[.slice (some ⟨k9, 0, none⟩) 2 2] rfl rfl rfl (by go_simp) ((SO.out _ _ S13.out).mono ?_) AllReadyH.nil)
            rintro e v10 ⟨r2, rfl, ho, hb⟩
            have BV := Lib.hid (BV.out.trans (hb.mono BV.out.size))
            have S17 := Lib.hid (S17.out.step hb)
            have S13 := Lib.hid (S13.out.step hb)
            have SR := Lib.hid ho
            clear ho
            clear hb
            refine ⟨_, rfl, BV.out, fun _ => ?_⟩
            simp only [Act.put, List.setIfInBounds_toArray, List.set_cons_zero, List.set_cons_succ]
            refine wpAnyH_ready (rs := [7]) (by kernel_rfl) (by simp) (br_call (i := 7) 18 10 #[r2, .slice (some ⟨k8, 0, none⟩) 2 2] rfl rfl rfl (by go_simp) ((HSB.out _ _ _ SR.out S17.out).mono ?_) AllReadyH.nil)
            rintro e v11 ⟨rfl, hb⟩
            have BV := Lib.hid (BV.out.trans (hb.mono BV.out.size))
            have S17 := Lib.hid (S17.out.step hb)
            have S13 := Lib.hid (S13.out.step hb)
            have SR := Lib.hid (SR.out.step hb)
            clear hb
            refine ⟨_, rfl, BV.out, fun _ => ?_⟩
            simp only [Act.put, List.setIfInBounds_toArray, List.set_cons_zero, List.set_cons_succ]
            refine take_at (i := 8) 19 ?_ rfl rfl (by kernel_rfl) (by kernel_rfl) (by kernel_rfl) (fun _ _ _ h => h) (.inl ⟨rfl, ?_⟩) BV.out ?_
            rotate_left 1
            · intro w hSw; go_simp; try with_reducible rfl
            simp only [Act.put, List.setIfInBounds_toArray, List.set_cons_zero, List.set_cons_succ]
            refine take_at (i := 9) 20 undef rfl rfl (by kernel_rfl) (by kernel_rfl) (by kernel_rfl) (fun _ _ _ h => h) (.inr ⟨rfl, rfl⟩) BV.out ?_
            simp only [Act.put, List.setIfInBounds_toArray, List.set_cons_zero, List.set_cons_succ]
            refine take_at (i := 10) 21 undef rfl rfl (by kernel_rfl) (by kernel_rfl) (by kernel_rfl) (fun _ _ _ h => h) (.inr ⟨rfl, rfl⟩) BV.out ?_
            simp only [Act.put, List.setIfInBounds_toArray, List.set_cons_zero, List.set_cons_succ]
            refine take_at (i := 11) 22 undef rfl rfl (by kernel_rfl) (by kernel_rfl) (by kernel_rfl) (fun _ _ _ h => h) (.inr ⟨rfl, rfl⟩) BV.out ?_
            simp only [Act.put, List.setIfInBounds_toArray, List.set_cons_zero, List.set_cons_succ]
            refine take_at (i := 12) 23 undef rfl rfl (by kernel_rfl) (by kernel_rfl) (by kernel_rfl) (fun _ _ _ h => h) (.inr ⟨rfl, rfl⟩) BV.out ?_
            simp only [Act.put, List.setIfInBounds_toArray, List.set_cons_zero, List.set_cons_succ]
            refine take_at (i := 13) 24 undef rfl rfl (by kernel_rfl) (by kernel_rfl) (by kernel_rfl) (fun _ _ _ h => h) (.inr ⟨rfl, rfl⟩) BV.out ?_
            simp only [Act.put, List.setIfInBounds_toArray, List.set_cons_zero, List.set_cons_succ]
            refine take_at (i := 14) 25 ?_ rfl rfl (by kernel_rfl) (by kernel_rfl) (by kernel_rfl) (fun _ _ _ h => h) (.inl ⟨rfl, ?_⟩) BV.out ?_
            rotate_left 1
            · intro w hSw; go_simp; try with_reducible rfl
            simp only [Act.put, List.setIfInBounds_toArray, List.set_cons_zero, List.set_cons_succ]
            refine wpAnyH_done (by kernel_rfl) ?_ _
            have HC := (KEEP.out _ BV.out)
            obtain ⟨c0, c1, c2, c3, c4, c5, c6, c7, c8, d0, d1, d2, d3, d4, d5, d6, d7, d8⟩ := HC
            go_wp2_with fail
            go_meet
            exact ⟨rfl, by first | rfl | (rw [x1]; rfl) | (rw [x1, x2]; rfl), BV.out⟩
        | true =>
          refine wp_region_held_drew (S := fun w' => Below V1.heap.size V1 w') (by kernel_rfl) (Below.refl _ _).drew (fun hHeld => ?_)
          have BV := Lib.hid (show Below V1.heap.size V1 V1.drew from (Below.refl _ _).drew)
          clear hHeld
          refine take_at (i := 0) 11 (.agg #[.int .i64 a.t, .int .i64 a.r, .int .i64 a.q, .int .i64 a.nt, .int .i64 a.nr, .int .i64 a.pt, .int .i64 a.pr, .string a.nm, .bool a.d]) rfl rfl (by kernel_rfl) (by kernel_rfl) (by kernel_rfl) (fun _ _ _ h => h) (yields_ld (.tmp 2) 25 (.pointer (some ⟨w.heap.size, 0, none⟩)) _ LA.out rfl rfl rfl) BV.out ?_
          simp only [Act.put, List.setIfInBounds_toArray, List.set_cons_zero, List.set_cons_succ]
          refine take_at (i := 1) 12 (.agg #[.int .i64 b.t, .int .i64 b.r, .int .i64 b.q, .int .i64 b.nt, .int .i64 b.nr, .int .i64 b.pt, .int .i64 b.pr, .string b.nm, .bool b.d]) rfl rfl (by kernel_rfl) (by kernel_rfl) (by kernel_rfl) (fun _ _ _ h => h) (yields_ld (.tmp 3) 25 (.pointer (some ⟨w.heap.size + 1, 0, none⟩)) _ LB.out rfl rfl rfl) BV.out ?_
          simp only [Act.put, List.setIfInBounds_toArray, List.set_cons_zero, List.set_cons_succ]
          refine take_at (i := 4) 15 (.agg #[.int .i64 b.t, .int .i64 b.r, .int .i64 b.q, .int .i64 b.nt, .int .i64 b.nr, .int .i64 b.pt, .int .i64 b.pr, .string b.nm, .bool b.d]) rfl rfl (by kernel_rfl) (by kernel_rfl) (by kernel_rfl) (fun _ _ _ h => h) (yields_ld (.tmp 3) 25 (.pointer (some ⟨w.heap.size + 1, 0, none⟩)) _ LB.out rfl rfl rfl) BV.out ?_
          simp only [Act.put, List.setIfInBounds_toArray, List.set_cons_zero, List.set_cons_succ]
          refine take_at (i := 5) 16 (.agg #[.int .i64 a.t, .int .i64 a.r, .int .i64 a.q, .int .i64 a.nt, .int .i64 a.nr, .int .i64 a.pt, .int .i64 a.pr, .string a.nm, .bool a.d]) rfl rfl (by kernel_rfl) (by kernel_rfl) (by kernel_rfl) (fun _ _ _ h => h) (yields_ld (.tmp 2) 25 (.pointer (some ⟨w.heap.size, 0, none⟩)) _ LA.out rfl rfl rfl) BV.out ?_
          simp only [Act.put, List.setIfInBounds_toArray, List.set_cons_zero, List.set_cons_succ]
          refine wpAnyH_ready (rs := [2, 6]) (by kernel_rfl) (by simp) (br_bslice (i := 2) 13 27 2 _ #[(0, .agg #[.int .i64 a.t, .int .i64 a.r, .int .i64 a.q, .int .i64 a.nt, .int .i64 a.nr, .int .i64 a.pt, .int .i64 a.pr, .string a.nm, .bool a.d]), (1, .agg #[.int .i64 b.t, .int .i64 b.r, .int .i64 b.q, .int .i64 b.nt, .int .i64 b.nr, .int .i64 b.pt, .int .i64 b.pr, .string b.nm, .bool b.d])] _ _ rfl rfl rfl rfl rfl ((fun W => bs_op2 W a b) V1.drew) (BV.out.trans ((vstep V1.drew _).mono BV.out.size)) (fun _ => ?_) (br_bslice (i := 6) 17 27 2 _ #[(0, .agg #[.int .i64 b.t, .int .i64 b.r, .int .i64 b.q, .int .i64 b.nt, .int .i64 b.nr, .int .i64 b.pt, .int .i64 b.pr, .string b.nm, .bool b.d]), (1, .agg #[.int .i64 a.t, .int .i64 a.r, .int .i64 a.q, .int .i64 a.nt, .int .i64 a.nr, .int .i64 a.pt, .int .i64 a.pr, .string a.nm, .bool a.d])] _ _ rfl rfl rfl rfl rfl ((fun W => bs_op2 W b a) V1.drew) (BV.out.trans ((vstep V1.drew _).mono BV.out.size)) (fun _ => ?_) AllReadyH.nil))
          · obtain ⟨v1, hv1⟩ : ∃ x, V1.drew.alloc (.cells (arr2 a b) 25) = x := ⟨_, rfl⟩
            have hb : Below V1.drew.heap.size V1.drew v1 := by rw [← hv1]; exact vstep V1.drew _
            have S13 := Lib.hid (show OLies v1 (.slice (some ⟨V1.drew.heap.size, 0, none⟩) 2 2) [a, b] from by rw [← hv1]; exact two_op V1.drew a b)
            rw [hv1]
            obtain ⟨k1, hk1⟩ : ∃ x, V1.drew.heap.size = x := ⟨_, rfl⟩
            rw [hk1] at S13 ⊢
            have BV := Lib.hid (BV.out.trans (hb.mono BV.out.size))
            clear hb hv1 hk1
            simp only [Act.put, List.setIfInBounds_toArray, List.set_cons_zero, List.set_cons_succ]
            refine wpAnyH_ready (rs := [3, 6]) (by kernel_rfl) (by simp) (br_call (i := 3) 14 11 #[.slice (some ⟨k1, 0, none⟩) 2 2] rfl rfl rfl (by go_simp) ((SO.out _ _ S13.out).mono ?_) (br_bslice (i := 6) 17 27 2 _ #[(0, .agg #[.int .i64 b.t, .int .i64 b.r, .int .i64 b.q, .int .i64 b.nt, .int .i64 b.nr, .int .i64 b.pt, .int .i64 b.pr, .string b.nm, .bool b.d]), (1, .agg #[.int .i64 a.t, .int .i64 a.r, .int .i64 a.q, .int .i64 a.nt, .int .i64 a.nr, .int .i64 a.pt, .int .i64 a.pr, .string a.nm, .bool a.d])] _ _ rfl rfl rfl rfl rfl ((fun W => bs_op2 W b a) v1) (BV.out.trans ((vstep v1 _).mono BV.out.size)) (fun _ => ?_) AllReadyH.nil))
            · rintro e v2 ⟨r2, rfl, ho, hb⟩
              have BV := Lib.hid (BV.out.trans (hb.mono BV.out.size))
              have S13 := Lib.hid (S13.out.step hb)
              have SR := Lib.hid ho
              clear ho
              clear hb
              refine ⟨_, rfl, BV.out, fun _ => ?_⟩
              simp only [Act.put, List.setIfInBounds_toArray, List.set_cons_zero, List.set_cons_succ]
              refine wpAnyH_ready (rs := [6]) (by kernel_rfl) (by simp) (br_bslice (i := 6) 17 27 2 _ #[(0, .agg #[.int .i64 b.t, .int .i64 b.r, .int .i64 b.q, .int .i64 b.nt, .int .i64 b.nr, .int .i64 b.pt, .int .i64 b.pr, .string b.nm, .bool b.d]), (1, .agg #[.int .i64 a.t, .int .i64 a.r, .int .i64 a.q, .int .i64 a.nt, .int .i64 a.nr, .int .i64 a.pt, .int .i64 a.pr, .string a.nm, .bool a.d])] _ _ rfl rfl rfl rfl rfl ((fun W => bs_op2 W b a) v2) (BV.out.trans ((vstep v2 _).mono BV.out.size)) (fun _ => ?_) AllReadyH.nil)
              obtain ⟨v3, hv3⟩ : ∃ x, v2.alloc (.cells (arr2 b a) 25) = x := ⟨_, rfl⟩
              have hb : Below v2.heap.size v2 v3 := by rw [← hv3]; exact vstep v2 _
              have S17 := Lib.hid (show OLies v3 (.slice (some ⟨v2.heap.size, 0, none⟩) 2 2) [b, a] from by rw [← hv3]; exact two_op v2 b a)
              rw [hv3]
              obtain ⟨k3, hk3⟩ : ∃ x, v2.heap.size = x := ⟨_, rfl⟩
              rw [hk3] at S17 ⊢
              have BV := Lib.hid (BV.out.trans (hb.mono BV.out.size))
              have S13 := Lib.hid (S13.out.step hb)
              have SR := Lib.hid (SR.out.step hb)
              clear hb hv3 hk3
              simp only [Act.put, List.setIfInBounds_toArray, List.set_cons_zero, List.set_cons_succ]
              refine wpAnyH_ready (rs := [7]) (by kernel_rfl) (by simp) (br_call (i := 7) 18 10 #[r2, .slice (some ⟨k3, 0, none⟩) 2 2] rfl rfl rfl (by go_simp) ((HSB.out _ _ _ SR.out S17.out).mono ?_) AllReadyH.nil)
              rintro e v4 ⟨rfl, hb⟩
              have BV := Lib.hid (BV.out.trans (hb.mono BV.out.size))
              have S13 := Lib.hid (S13.out.step hb)
              have SR := Lib.hid (SR.out.step hb)
              have S17 := Lib.hid (S17.out.step hb)
              clear hb
              refine ⟨_, rfl, BV.out, fun _ => ?_⟩
              simp only [Act.put, List.setIfInBounds_toArray, List.set_cons_zero, List.set_cons_succ]
              refine take_at (i := 8) 19 ?_ rfl rfl (by kernel_rfl) (by kernel_rfl) (by kernel_rfl) (fun _ _ _ h => h) (.inl ⟨rfl, ?_⟩) BV.out ?_
              rotate_left 1
              · intro w hSw; go_simp; try with_reducible rfl
              simp only [Act.put, List.setIfInBounds_toArray, List.set_cons_zero, List.set_cons_succ]
              refine take_at (i := 9) 20 ?_ rfl rfl (by kernel_rfl) (by kernel_rfl) (by kernel_rfl) (fun _ _ _ h => h) (.inl ⟨rfl, ?_⟩) BV.out ?_
              rotate_left 1
              · intro w hSw; go_simp; try with_reducible rfl
              simp only [Act.put, List.setIfInBounds_toArray, List.set_cons_zero, List.set_cons_succ]
              refine take_at (i := 10) 21 (.agg #[.int .i64 a.t, .int .i64 a.r]) rfl rfl (by kernel_rfl) (by kernel_rfl) (by kernel_rfl) (fun _ _ _ h => h) (yields_ld (.tmp 20) 23 (.pointer (some ⟨w.heap.size, 0, none⟩)) _ MA.out rfl rfl rfl) BV.out ?_
              simp only [Act.put, List.setIfInBounds_toArray, List.set_cons_zero, List.set_cons_succ]
              refine take_at (i := 11) 22 ?_ rfl rfl (by kernel_rfl) (by kernel_rfl) (by kernel_rfl) (fun _ _ _ h => h) (.inl ⟨rfl, ?_⟩) BV.out ?_
              rotate_left 1
              · intro w hSw; go_simp; try with_reducible rfl
              simp only [Act.put, List.setIfInBounds_toArray, List.set_cons_zero, List.set_cons_succ]
              refine take_at (i := 12) 23 (.agg #[.int .i64 b.t, .int .i64 b.r]) rfl rfl (by kernel_rfl) (by kernel_rfl) (by kernel_rfl) (fun _ _ _ h => h) (yields_ld (.tmp 22) 23 (.pointer (some ⟨w.heap.size + 1, 0, none⟩)) _ MB.out rfl rfl rfl) BV.out ?_
              simp only [Act.put, List.setIfInBounds_toArray, List.set_cons_zero, List.set_cons_succ]
              refine take_at (i := 13) 24 (.bool false) rfl rfl (by kernel_rfl) (by kernel_rfl) (by kernel_rfl) (fun _ _ _ h => h) (.inl ⟨rfl, fun w hSw => by go_simp⟩) BV.out ?_
              simp only [Act.put, List.setIfInBounds_toArray, List.set_cons_zero, List.set_cons_succ]
              refine take_at (i := 14) 25 ?_ rfl rfl (by kernel_rfl) (by kernel_rfl) (by kernel_rfl) (fun _ _ _ h => h) (.inl ⟨rfl, ?_⟩) BV.out ?_
              rotate_left 1
              · intro w hSw; go_simp; try with_reducible rfl
              simp only [Act.put, List.setIfInBounds_toArray, List.set_cons_zero, List.set_cons_succ]
              refine wpAnyH_done (by kernel_rfl) ?_ _
              have HC := (KEEP.out _ BV.out)
              obtain ⟨c0, c1, c2, c3, c4, c5, c6, c7, c8, d0, d1, d2, d3, d4, d5, d6, d7, d8⟩ := HC
              go_wp2_with fail
              go_meet
              exact ⟨rfl, by first | rfl | (rw [x1]; rfl) | (rw [x1, x2]; rfl), BV.out⟩
            · obtain ⟨v5, hv5⟩ : ∃ x, v1.alloc (.cells (arr2 b a) 25) = x := ⟨_, rfl⟩
              have hb : Below v1.heap.size v1 v5 := by rw [← hv5]; exact vstep v1 _
              have S17 := Lib.hid (show OLies v5 (.slice (some ⟨v1.heap.size, 0, none⟩) 2 2) [b, a] from by rw [← hv5]; exact two_op v1 b a)
              rw [hv5]
              obtain ⟨k5, hk5⟩ : ∃ x, v1.heap.size = x := ⟨_, rfl⟩
              rw [hk5] at S17 ⊢
              have BV := Lib.hid (BV.out.trans (hb.mono BV.out.size))
              have S13 := Lib.hid (S13.out.step hb)
              clear hb hv5 hk5
              simp only [Act.put, List.setIfInBounds_toArray, List.set_cons_zero, List.set_cons_succ]
              refine wpAnyH_ready (rs := [3]) (by kernel_rfl) (by simp) (br_call (i := 3) 14 11 #[.slice (some ⟨k1, 0, none⟩) 2 2] rfl rfl rfl (by go_simp) ((SO.out _ _ S13.out).mono ?_) AllReadyH.nil)
              rintro e v6 ⟨r2, rfl, ho, hb⟩
              have BV := Lib.hid (BV.out.trans (hb.mono BV.out.size))
              have S13 := Lib.hid (S13.out.step hb)
              have S17 := Lib.hid (S17.out.step hb)
              have SR := Lib.hid ho
              clear ho
              clear hb
              refine ⟨_, rfl, BV.out, fun _ => ?_⟩
              simp only [Act.put, List.setIfInBounds_toArray, List.set_cons_zero, List.set_cons_succ]
              refine wpAnyH_ready (rs := [7]) (by kernel_rfl) (by simp) (br_call (i := 7) 18 10 #[r2, .slice (some ⟨k5, 0, none⟩) 2 2] rfl rfl rfl (by go_simp) ((HSB.out _ _ _ SR.out S17.out).mono ?_) AllReadyH.nil)
              rintro e v7 ⟨rfl, hb⟩
              have BV := Lib.hid (BV.out.trans (hb.mono BV.out.size))
              have S13 := Lib.hid (S13.out.step hb)
              have S17 := Lib.hid (S17.out.step hb)
              have SR := Lib.hid (SR.out.step hb)
              clear hb
              refine ⟨_, rfl, BV.out, fun _ => ?_⟩
              simp only [Act.put, List.setIfInBounds_toArray, List.set_cons_zero, List.set_cons_succ]
              refine take_at (i := 8) 19 ?_ rfl rfl (by kernel_rfl) (by kernel_rfl) (by kernel_rfl) (fun _ _ _ h => h) (.inl ⟨rfl, ?_⟩) BV.out ?_
              rotate_left 1
              · intro w hSw; go_simp; try with_reducible rfl
              simp only [Act.put, List.setIfInBounds_toArray, List.set_cons_zero, List.set_cons_succ]
              refine take_at (i := 9) 20 ?_ rfl rfl (by kernel_rfl) (by kernel_rfl) (by kernel_rfl) (fun _ _ _ h => h) (.inl ⟨rfl, ?_⟩) BV.out ?_
              rotate_left 1
              · intro w hSw; go_simp; try with_reducible rfl
              simp only [Act.put, List.setIfInBounds_toArray, List.set_cons_zero, List.set_cons_succ]
              refine take_at (i := 10) 21 (.agg #[.int .i64 a.t, .int .i64 a.r]) rfl rfl (by kernel_rfl) (by kernel_rfl) (by kernel_rfl) (fun _ _ _ h => h) (yields_ld (.tmp 20) 23 (.pointer (some ⟨w.heap.size, 0, none⟩)) _ MA.out rfl rfl rfl) BV.out ?_
              simp only [Act.put, List.setIfInBounds_toArray, List.set_cons_zero, List.set_cons_succ]
              refine take_at (i := 11) 22 ?_ rfl rfl (by kernel_rfl) (by kernel_rfl) (by kernel_rfl) (fun _ _ _ h => h) (.inl ⟨rfl, ?_⟩) BV.out ?_
              rotate_left 1
              · intro w hSw; go_simp; try with_reducible rfl
              simp only [Act.put, List.setIfInBounds_toArray, List.set_cons_zero, List.set_cons_succ]
              refine take_at (i := 12) 23 (.agg #[.int .i64 b.t, .int .i64 b.r]) rfl rfl (by kernel_rfl) (by kernel_rfl) (by kernel_rfl) (fun _ _ _ h => h) (yields_ld (.tmp 22) 23 (.pointer (some ⟨w.heap.size + 1, 0, none⟩)) _ MB.out rfl rfl rfl) BV.out ?_
              simp only [Act.put, List.setIfInBounds_toArray, List.set_cons_zero, List.set_cons_succ]
              refine take_at (i := 13) 24 (.bool false) rfl rfl (by kernel_rfl) (by kernel_rfl) (by kernel_rfl) (fun _ _ _ h => h) (.inl ⟨rfl, fun w hSw => by go_simp⟩) BV.out ?_
              simp only [Act.put, List.setIfInBounds_toArray, List.set_cons_zero, List.set_cons_succ]
              refine take_at (i := 14) 25 ?_ rfl rfl (by kernel_rfl) (by kernel_rfl) (by kernel_rfl) (fun _ _ _ h => h) (.inl ⟨rfl, ?_⟩) BV.out ?_
              rotate_left 1
              · intro w hSw; go_simp; try with_reducible rfl
              simp only [Act.put, List.setIfInBounds_toArray, List.set_cons_zero, List.set_cons_succ]
              refine wpAnyH_done (by kernel_rfl) ?_ _
              have HC := (KEEP.out _ BV.out)
              obtain ⟨c0, c1, c2, c3, c4, c5, c6, c7, c8, d0, d1, d2, d3, d4, d5, d6, d7, d8⟩ := HC
              go_wp2_with fail
              go_meet
              exact ⟨rfl, by first | rfl | (rw [x1]; rfl) | (rw [x1, x2]; rfl), BV.out⟩
          · obtain ⟨v8, hv8⟩ : ∃ x, V1.drew.alloc (.cells (arr2 b a) 25) = x := ⟨_, rfl⟩
            have hb : Below V1.drew.heap.size V1.drew v8 := by rw [← hv8]; exact vstep V1.drew _
            have S17 := Lib.hid (show OLies v8 (.slice (some ⟨V1.drew.heap.size, 0, none⟩) 2 2) [b, a] from by rw [← hv8]; exact two_op V1.drew b a)
            rw [hv8]
            obtain ⟨k8, hk8⟩ : ∃ x, V1.drew.heap.size = x := ⟨_, rfl⟩
            rw [hk8] at S17 ⊢
            have BV := Lib.hid (BV.out.trans (hb.mono BV.out.size))
            clear hb hv8 hk8
            simp only [Act.put, List.setIfInBounds_toArray, List.set_cons_zero, List.set_cons_succ]
            refine wpAnyH_ready (rs := [2]) (by kernel_rfl) (by simp) (br_bslice (i := 2) 13 27 2 _ #[(0, .agg #[.int .i64 a.t, .int .i64 a.r, .int .i64 a.q, .int .i64 a.nt, .int .i64 a.nr, .int .i64 a.pt, .int .i64 a.pr, .string a.nm, .bool a.d]), (1, .agg #[.int .i64 b.t, .int .i64 b.r, .int .i64 b.q, .int .i64 b.nt, .int .i64 b.nr, .int .i64 b.pt, .int .i64 b.pr, .string b.nm, .bool b.d])] _ _ rfl rfl rfl rfl rfl ((fun W => bs_op2 W a b) v8) (BV.out.trans ((vstep v8 _).mono BV.out.size)) (fun _ => ?_) AllReadyH.nil)
            obtain ⟨v9, hv9⟩ : ∃ x, v8.alloc (.cells (arr2 a b) 25) = x := ⟨_, rfl⟩
            have hb : Below v8.heap.size v8 v9 := by rw [← hv9]; exact vstep v8 _
            have S13 := Lib.hid (show OLies v9 (.slice (some ⟨v8.heap.size, 0, none⟩) 2 2) [a, b] from by rw [← hv9]; exact two_op v8 a b)
            rw [hv9]
            obtain ⟨k9, hk9⟩ : ∃ x, v8.heap.size = x := ⟨_, rfl⟩
            rw [hk9] at S13 ⊢
            have BV := Lib.hid (BV.out.trans (hb.mono BV.out.size))
            have S17 := Lib.hid (S17.out.step hb)
            clear hb hv9 hk9
            simp only [Act.put, List.setIfInBounds_toArray, List.set_cons_zero, List.set_cons_succ]
            refine wpAnyH_ready (rs := [3]) (by kernel_rfl) (by simp) (br_call (i := 3) 14 11 #[.slice (some ⟨k9, 0, none⟩) 2 2] rfl rfl rfl (by go_simp) ((SO.out _ _ S13.out).mono ?_) AllReadyH.nil)
            rintro e v10 ⟨r2, rfl, ho, hb⟩
            have BV := Lib.hid (BV.out.trans (hb.mono BV.out.size))
            have S17 := Lib.hid (S17.out.step hb)
            have S13 := Lib.hid (S13.out.step hb)
            have SR := Lib.hid ho
            clear ho
            clear hb
            refine ⟨_, rfl, BV.out, fun _ => ?_⟩
            simp only [Act.put, List.setIfInBounds_toArray, List.set_cons_zero, List.set_cons_succ]
            refine wpAnyH_ready (rs := [7]) (by kernel_rfl) (by simp) (br_call (i := 7) 18 10 #[r2, .slice (some ⟨k8, 0, none⟩) 2 2] rfl rfl rfl (by go_simp) ((HSB.out _ _ _ SR.out S17.out).mono ?_) AllReadyH.nil)
            rintro e v11 ⟨rfl, hb⟩
            have BV := Lib.hid (BV.out.trans (hb.mono BV.out.size))
            have S17 := Lib.hid (S17.out.step hb)
            have S13 := Lib.hid (S13.out.step hb)
            have SR := Lib.hid (SR.out.step hb)
            clear hb
            refine ⟨_, rfl, BV.out, fun _ => ?_⟩
            simp only [Act.put, List.setIfInBounds_toArray, List.set_cons_zero, List.set_cons_succ]
            refine take_at (i := 8) 19 ?_ rfl rfl (by kernel_rfl) (by kernel_rfl) (by kernel_rfl) (fun _ _ _ h => h) (.inl ⟨rfl, ?_⟩) BV.out ?_
            rotate_left 1
            · intro w hSw; go_simp; try with_reducible rfl
            simp only [Act.put, List.setIfInBounds_toArray, List.set_cons_zero, List.set_cons_succ]
            refine take_at (i := 9) 20 ?_ rfl rfl (by kernel_rfl) (by kernel_rfl) (by kernel_rfl) (fun _ _ _ h => h) (.inl ⟨rfl, ?_⟩) BV.out ?_
            rotate_left 1
            · intro w hSw; go_simp; try with_reducible rfl
            simp only [Act.put, List.setIfInBounds_toArray, List.set_cons_zero, List.set_cons_succ]
            refine take_at (i := 10) 21 (.agg #[.int .i64 a.t, .int .i64 a.r]) rfl rfl (by kernel_rfl) (by kernel_rfl) (by kernel_rfl) (fun _ _ _ h => h) (yields_ld (.tmp 20) 23 (.pointer (some ⟨w.heap.size, 0, none⟩)) _ MA.out rfl rfl rfl) BV.out ?_
            simp only [Act.put, List.setIfInBounds_toArray, List.set_cons_zero, List.set_cons_succ]
            refine take_at (i := 11) 22 ?_ rfl rfl (by kernel_rfl) (by kernel_rfl) (by kernel_rfl) (fun _ _ _ h => h) (.inl ⟨rfl, ?_⟩) BV.out ?_
            rotate_left 1
            · intro w hSw; go_simp; try with_reducible rfl
            simp only [Act.put, List.setIfInBounds_toArray, List.set_cons_zero, List.set_cons_succ]
            refine take_at (i := 12) 23 (.agg #[.int .i64 b.t, .int .i64 b.r]) rfl rfl (by kernel_rfl) (by kernel_rfl) (by kernel_rfl) (fun _ _ _ h => h) (yields_ld (.tmp 22) 23 (.pointer (some ⟨w.heap.size + 1, 0, none⟩)) _ MB.out rfl rfl rfl) BV.out ?_
            simp only [Act.put, List.setIfInBounds_toArray, List.set_cons_zero, List.set_cons_succ]
            refine take_at (i := 13) 24 (.bool false) rfl rfl (by kernel_rfl) (by kernel_rfl) (by kernel_rfl) (fun _ _ _ h => h) (.inl ⟨rfl, fun w hSw => by go_simp⟩) BV.out ?_
            simp only [Act.put, List.setIfInBounds_toArray, List.set_cons_zero, List.set_cons_succ]
            refine take_at (i := 14) 25 ?_ rfl rfl (by kernel_rfl) (by kernel_rfl) (by kernel_rfl) (fun _ _ _ h => h) (.inl ⟨rfl, ?_⟩) BV.out ?_
            rotate_left 1
            · intro w hSw; go_simp; try with_reducible rfl
            simp only [Act.put, List.setIfInBounds_toArray, List.set_cons_zero, List.set_cons_succ]
            refine wpAnyH_done (by kernel_rfl) ?_ _
            have HC := (KEEP.out _ BV.out)
            obtain ⟨c0, c1, c2, c3, c4, c5, c6, c7, c8, d0, d1, d2, d3, d4, d5, d6, d7, d8⟩ := HC
            go_wp2_with fail
            go_meet
            exact ⟨rfl, by first | rfl | (rw [x1]; rfl) | (rw [x1, x2]; rfl), BV.out⟩
      · have HCW := Lib.hid x3
        clear x3
        refine wp_region_held_drew (S := fun w' => Below V1.heap.size V1 w') (by kernel_rfl) (Below.refl _ _).drew (fun hHeld => ?_)
        have BV := Lib.hid (show Below V1.heap.size V1 V1.drew from (Below.refl _ _).drew)
        clear hHeld
        refine take_at (i := 0) 11 (.agg #[.int .i64 a.t, .int .i64 a.r, .int .i64 a.q, .int .i64 a.nt, .int .i64 a.nr, .int .i64 a.pt, .int .i64 a.pr, .string a.nm, .bool a.d]) rfl rfl (by kernel_rfl) (by kernel_rfl) (by kernel_rfl) (fun _ _ _ h => h) (yields_ld (.tmp 2) 25 (.pointer (some ⟨w.heap.size, 0, none⟩)) _ LA.out rfl rfl rfl) BV.out ?_
        simp only [Act.put, List.setIfInBounds_toArray, List.set_cons_zero, List.set_cons_succ]
        refine take_at (i := 1) 12 (.agg #[.int .i64 b.t, .int .i64 b.r, .int .i64 b.q, .int .i64 b.nt, .int .i64 b.nr, .int .i64 b.pt, .int .i64 b.pr, .string b.nm, .bool b.d]) rfl rfl (by kernel_rfl) (by kernel_rfl) (by kernel_rfl) (fun _ _ _ h => h) (yields_ld (.tmp 3) 25 (.pointer (some ⟨w.heap.size + 1, 0, none⟩)) _ LB.out rfl rfl rfl) BV.out ?_
        simp only [Act.put, List.setIfInBounds_toArray, List.set_cons_zero, List.set_cons_succ]
        refine take_at (i := 4) 15 (.agg #[.int .i64 b.t, .int .i64 b.r, .int .i64 b.q, .int .i64 b.nt, .int .i64 b.nr, .int .i64 b.pt, .int .i64 b.pr, .string b.nm, .bool b.d]) rfl rfl (by kernel_rfl) (by kernel_rfl) (by kernel_rfl) (fun _ _ _ h => h) (yields_ld (.tmp 3) 25 (.pointer (some ⟨w.heap.size + 1, 0, none⟩)) _ LB.out rfl rfl rfl) BV.out ?_
        simp only [Act.put, List.setIfInBounds_toArray, List.set_cons_zero, List.set_cons_succ]
        refine take_at (i := 5) 16 (.agg #[.int .i64 a.t, .int .i64 a.r, .int .i64 a.q, .int .i64 a.nt, .int .i64 a.nr, .int .i64 a.pt, .int .i64 a.pr, .string a.nm, .bool a.d]) rfl rfl (by kernel_rfl) (by kernel_rfl) (by kernel_rfl) (fun _ _ _ h => h) (yields_ld (.tmp 2) 25 (.pointer (some ⟨w.heap.size, 0, none⟩)) _ LA.out rfl rfl rfl) BV.out ?_
        simp only [Act.put, List.setIfInBounds_toArray, List.set_cons_zero, List.set_cons_succ]
        refine wpAnyH_ready (rs := [2, 6]) (by kernel_rfl) (by simp) (br_bslice (i := 2) 13 27 2 _ #[(0, .agg #[.int .i64 a.t, .int .i64 a.r, .int .i64 a.q, .int .i64 a.nt, .int .i64 a.nr, .int .i64 a.pt, .int .i64 a.pr, .string a.nm, .bool a.d]), (1, .agg #[.int .i64 b.t, .int .i64 b.r, .int .i64 b.q, .int .i64 b.nt, .int .i64 b.nr, .int .i64 b.pt, .int .i64 b.pr, .string b.nm, .bool b.d])] _ _ rfl rfl rfl rfl rfl ((fun W => bs_op2 W a b) V1.drew) (BV.out.trans ((vstep V1.drew _).mono BV.out.size)) (fun _ => ?_) (br_bslice (i := 6) 17 27 2 _ #[(0, .agg #[.int .i64 b.t, .int .i64 b.r, .int .i64 b.q, .int .i64 b.nt, .int .i64 b.nr, .int .i64 b.pt, .int .i64 b.pr, .string b.nm, .bool b.d]), (1, .agg #[.int .i64 a.t, .int .i64 a.r, .int .i64 a.q, .int .i64 a.nt, .int .i64 a.nr, .int .i64 a.pt, .int .i64 a.pr, .string a.nm, .bool a.d])] _ _ rfl rfl rfl rfl rfl ((fun W => bs_op2 W b a) V1.drew) (BV.out.trans ((vstep V1.drew _).mono BV.out.size)) (fun _ => ?_) AllReadyH.nil))
        · obtain ⟨v1, hv1⟩ : ∃ x, V1.drew.alloc (.cells (arr2 a b) 25) = x := ⟨_, rfl⟩
          have hb : Below V1.drew.heap.size V1.drew v1 := by rw [← hv1]; exact vstep V1.drew _
          have S13 := Lib.hid (show OLies v1 (.slice (some ⟨V1.drew.heap.size, 0, none⟩) 2 2) [a, b] from by rw [← hv1]; exact two_op V1.drew a b)
          rw [hv1]
          obtain ⟨k1, hk1⟩ : ∃ x, V1.drew.heap.size = x := ⟨_, rfl⟩
          rw [hk1] at S13 ⊢
          have BV := Lib.hid (BV.out.trans (hb.mono BV.out.size))
          clear hb hv1 hk1
          simp only [Act.put, List.setIfInBounds_toArray, List.set_cons_zero, List.set_cons_succ]
          refine wpAnyH_ready (rs := [3, 6]) (by kernel_rfl) (by simp) (br_call (i := 3) 14 11 #[.slice (some ⟨k1, 0, none⟩) 2 2] rfl rfl rfl (by go_simp) ((SO.out _ _ S13.out).mono ?_) (br_bslice (i := 6) 17 27 2 _ #[(0, .agg #[.int .i64 b.t, .int .i64 b.r, .int .i64 b.q, .int .i64 b.nt, .int .i64 b.nr, .int .i64 b.pt, .int .i64 b.pr, .string b.nm, .bool b.d]), (1, .agg #[.int .i64 a.t, .int .i64 a.r, .int .i64 a.q, .int .i64 a.nt, .int .i64 a.nr, .int .i64 a.pt, .int .i64 a.pr, .string a.nm, .bool a.d])] _ _ rfl rfl rfl rfl rfl ((fun W => bs_op2 W b a) v1) (BV.out.trans ((vstep v1 _).mono BV.out.size)) (fun _ => ?_) AllReadyH.nil))
          · rintro e v2 ⟨r2, rfl, ho, hb⟩
            have BV := Lib.hid (BV.out.trans (hb.mono BV.out.size))
            have S13 := Lib.hid (S13.out.step hb)
            have SR := Lib.hid ho
            clear ho
            clear hb
            refine ⟨_, rfl, BV.out, fun _ => ?_⟩
            simp only [Act.put, List.setIfInBounds_toArray, List.set_cons_zero, List.set_cons_succ]
            refine wpAnyH_ready (rs := [6]) (by kernel_rfl) (by simp) (br_bslice (i := 6) 17 27 2 _ #[(0, .agg #[.int .i64 b.t, .int .i64 b.r, .int .i64 b.q, .int .i64 b.nt, .int .i64 b.nr, .int .i64 b.pt, .int .i64 b.pr, .string b.nm, .bool b.d]), (1, .agg #[.int .i64 a.t, .int .i64 a.r, .int .i64 a.q, .int .i64 a.nt, .int .i64 a.nr, .int .i64 a.pt, .int .i64 a.pr, .string a.nm, .bool a.d])] _ _ rfl rfl rfl rfl rfl ((fun W => bs_op2 W b a) v2) (BV.out.trans ((vstep v2 _).mono BV.out.size)) (fun _ => ?_) AllReadyH.nil)
            obtain ⟨v3, hv3⟩ : ∃ x, v2.alloc (.cells (arr2 b a) 25) = x := ⟨_, rfl⟩
            have hb : Below v2.heap.size v2 v3 := by rw [← hv3]; exact vstep v2 _
            have S17 := Lib.hid (show OLies v3 (.slice (some ⟨v2.heap.size, 0, none⟩) 2 2) [b, a] from by rw [← hv3]; exact two_op v2 b a)
            rw [hv3]
            obtain ⟨k3, hk3⟩ : ∃ x, v2.heap.size = x := ⟨_, rfl⟩
            rw [hk3] at S17 ⊢
            have BV := Lib.hid (BV.out.trans (hb.mono BV.out.size))
            have S13 := Lib.hid (S13.out.step hb)
            have SR := Lib.hid (SR.out.step hb)
            clear hb hv3 hk3
            simp only [Act.put, List.setIfInBounds_toArray, List.set_cons_zero, List.set_cons_succ]
            refine wpAnyH_ready (rs := [7]) (by kernel_rfl) (by simp) (br_call (i := 7) 18 10 #[r2, .slice (some ⟨k3, 0, none⟩) 2 2] rfl rfl rfl (by go_simp) ((HSB.out _ _ _ SR.out S17.out).mono ?_) AllReadyH.nil)
            rintro e v4 ⟨rfl, hb⟩
            have BV := Lib.hid (BV.out.trans (hb.mono BV.out.size))
            have S13 := Lib.hid (S13.out.step hb)
            have SR := Lib.hid (SR.out.step hb)
            have S17 := Lib.hid (S17.out.step hb)
            clear hb
            refine ⟨_, rfl, BV.out, fun _ => ?_⟩
            simp only [Act.put, List.setIfInBounds_toArray, List.set_cons_zero, List.set_cons_succ]
            refine take_at (i := 8) 19 ?_ rfl rfl (by kernel_rfl) (by kernel_rfl) (by kernel_rfl) (fun _ _ _ h => h) (.inl ⟨rfl, ?_⟩) BV.out ?_
            rotate_left 1
            · intro w hSw; go_simp; try with_reducible rfl
            simp only [Act.put, List.setIfInBounds_toArray, List.set_cons_zero, List.set_cons_succ]
            refine take_at (i := 9) 20 ?_ rfl rfl (by kernel_rfl) (by kernel_rfl) (by kernel_rfl) (fun _ _ _ h => h) (.inl ⟨rfl, ?_⟩) BV.out ?_
            rotate_left 1
            · intro w hSw; go_simp; try with_reducible rfl
            simp only [Act.put, List.setIfInBounds_toArray, List.set_cons_zero, List.set_cons_succ]
            refine take_at (i := 10) 21 (.agg #[.int .i64 a.t, .int .i64 a.r]) rfl rfl (by kernel_rfl) (by kernel_rfl) (by kernel_rfl) (fun _ _ _ h => h) (yields_ld (.tmp 20) 23 (.pointer (some ⟨w.heap.size, 0, none⟩)) _ MA.out rfl rfl rfl) BV.out ?_
            simp only [Act.put, List.setIfInBounds_toArray, List.set_cons_zero, List.set_cons_succ]
            refine take_at (i := 11) 22 ?_ rfl rfl (by kernel_rfl) (by kernel_rfl) (by kernel_rfl) (fun _ _ _ h => h) (.inl ⟨rfl, ?_⟩) BV.out ?_
            rotate_left 1
            · intro w hSw; go_simp; try with_reducible rfl
            simp only [Act.put, List.setIfInBounds_toArray, List.set_cons_zero, List.set_cons_succ]
            refine take_at (i := 12) 23 (.agg #[.int .i64 b.t, .int .i64 b.r]) rfl rfl (by kernel_rfl) (by kernel_rfl) (by kernel_rfl) (fun _ _ _ h => h) (yields_ld (.tmp 22) 23 (.pointer (some ⟨w.heap.size + 1, 0, none⟩)) _ MB.out rfl rfl rfl) BV.out ?_
            simp only [Act.put, List.setIfInBounds_toArray, List.set_cons_zero, List.set_cons_succ]
            refine take_at (i := 13) 24 (.bool true) rfl rfl (by kernel_rfl) (by kernel_rfl) (by kernel_rfl) (fun _ _ _ h => h) (.inl ⟨rfl, fun w hSw => by go_simp⟩) BV.out ?_
            simp only [Act.put, List.setIfInBounds_toArray, List.set_cons_zero, List.set_cons_succ]
            refine take_at (i := 14) 25 ?_ rfl rfl (by kernel_rfl) (by kernel_rfl) (by kernel_rfl) (fun _ _ _ h => h) (.inl ⟨rfl, ?_⟩) BV.out ?_
            rotate_left 1
            · intro w hSw; go_simp; try with_reducible rfl
            simp only [Act.put, List.setIfInBounds_toArray, List.set_cons_zero, List.set_cons_succ]
            refine wpAnyH_done (by kernel_rfl) ?_ _
            have HC := (KEEP.out _ BV.out)
            obtain ⟨c0, c1, c2, c3, c4, c5, c6, c7, c8, d0, d1, d2, d3, d4, d5, d6, d7, d8⟩ := HC
            go_wp2_with fail
            go_meet
            exact ⟨rfl, by first | rfl | (rw [x1]; rfl) | (rw [x1, x2]; rfl), BV.out⟩
          · obtain ⟨v5, hv5⟩ : ∃ x, v1.alloc (.cells (arr2 b a) 25) = x := ⟨_, rfl⟩
            have hb : Below v1.heap.size v1 v5 := by rw [← hv5]; exact vstep v1 _
            have S17 := Lib.hid (show OLies v5 (.slice (some ⟨v1.heap.size, 0, none⟩) 2 2) [b, a] from by rw [← hv5]; exact two_op v1 b a)
            rw [hv5]
            obtain ⟨k5, hk5⟩ : ∃ x, v1.heap.size = x := ⟨_, rfl⟩
            rw [hk5] at S17 ⊢
            have BV := Lib.hid (BV.out.trans (hb.mono BV.out.size))
            have S13 := Lib.hid (S13.out.step hb)
            clear hb hv5 hk5
            simp only [Act.put, List.setIfInBounds_toArray, List.set_cons_zero, List.set_cons_succ]
            refine wpAnyH_ready (rs := [3]) (by kernel_rfl) (by simp) (br_call (i := 3) 14 11 #[.slice (some ⟨k1, 0, none⟩) 2 2] rfl rfl rfl (by go_simp) ((SO.out _ _ S13.out).mono ?_) AllReadyH.nil)
            rintro e v6 ⟨r2, rfl, ho, hb⟩
            have BV := Lib.hid (BV.out.trans (hb.mono BV.out.size))
            have S13 := Lib.hid (S13.out.step hb)
            have S17 := Lib.hid (S17.out.step hb)
            have SR := Lib.hid ho
            clear ho
            clear hb
            refine ⟨_, rfl, BV.out, fun _ => ?_⟩
            simp only [Act.put, List.setIfInBounds_toArray, List.set_cons_zero, List.set_cons_succ]
            refine wpAnyH_ready (rs := [7]) (by kernel_rfl) (by simp) (br_call (i := 7) 18 10 #[r2, .slice (some ⟨k5, 0, none⟩) 2 2] rfl rfl rfl (by go_simp) ((HSB.out _ _ _ SR.out S17.out).mono ?_) AllReadyH.nil)
            rintro e v7 ⟨rfl, hb⟩
            have BV := Lib.hid (BV.out.trans (hb.mono BV.out.size))
            have S13 := Lib.hid (S13.out.step hb)
            have S17 := Lib.hid (S17.out.step hb)
            have SR := Lib.hid (SR.out.step hb)
            clear hb
            refine ⟨_, rfl, BV.out, fun _ => ?_⟩
            simp only [Act.put, List.setIfInBounds_toArray, List.set_cons_zero, List.set_cons_succ]
            refine take_at (i := 8) 19 ?_ rfl rfl (by kernel_rfl) (by kernel_rfl) (by kernel_rfl) (fun _ _ _ h => h) (.inl ⟨rfl, ?_⟩) BV.out ?_
            rotate_left 1
            · intro w hSw; go_simp; try with_reducible rfl
            simp only [Act.put, List.setIfInBounds_toArray, List.set_cons_zero, List.set_cons_succ]
            refine take_at (i := 9) 20 ?_ rfl rfl (by kernel_rfl) (by kernel_rfl) (by kernel_rfl) (fun _ _ _ h => h) (.inl ⟨rfl, ?_⟩) BV.out ?_
            rotate_left 1
            · intro w hSw; go_simp; try with_reducible rfl
            simp only [Act.put, List.setIfInBounds_toArray, List.set_cons_zero, List.set_cons_succ]
            refine take_at (i := 10) 21 (.agg #[.int .i64 a.t, .int .i64 a.r]) rfl rfl (by kernel_rfl) (by kernel_rfl) (by kernel_rfl) (fun _ _ _ h => h) (yields_ld (.tmp 20) 23 (.pointer (some ⟨w.heap.size, 0, none⟩)) _ MA.out rfl rfl rfl) BV.out ?_
            simp only [Act.put, List.setIfInBounds_toArray, List.set_cons_zero, List.set_cons_succ]
            refine take_at (i := 11) 22 ?_ rfl rfl (by kernel_rfl) (by kernel_rfl) (by kernel_rfl) (fun _ _ _ h => h) (.inl ⟨rfl, ?_⟩) BV.out ?_
            rotate_left 1
            · intro w hSw; go_simp; try with_reducible rfl
            simp only [Act.put, List.setIfInBounds_toArray, List.set_cons_zero, List.set_cons_succ]
            refine take_at (i := 12) 23 (.agg #[.int .i64 b.t, .int .i64 b.r]) rfl rfl (by kernel_rfl) (by kernel_rfl) (by kernel_rfl) (fun _ _ _ h => h) (yields_ld (.tmp 22) 23 (.pointer (some ⟨w.heap.size + 1, 0, none⟩)) _ MB.out rfl rfl rfl) BV.out ?_
            simp only [Act.put, List.setIfInBounds_toArray, List.set_cons_zero, List.set_cons_succ]
            refine take_at (i := 13) 24 (.bool true) rfl rfl (by kernel_rfl) (by kernel_rfl) (by kernel_rfl) (fun _ _ _ h => h) (.inl ⟨rfl, fun w hSw => by go_simp⟩) BV.out ?_
            simp only [Act.put, List.setIfInBounds_toArray, List.set_cons_zero, List.set_cons_succ]
            refine take_at (i := 14) 25 ?_ rfl rfl (by kernel_rfl) (by kernel_rfl) (by kernel_rfl) (fun _ _ _ h => h) (.inl ⟨rfl, ?_⟩) BV.out ?_
            rotate_left 1
            · intro w hSw; go_simp; try with_reducible rfl
            simp only [Act.put, List.setIfInBounds_toArray, List.set_cons_zero, List.set_cons_succ]
            refine wpAnyH_done (by kernel_rfl) ?_ _
            have HC := (KEEP.out _ BV.out)
            obtain ⟨c0, c1, c2, c3, c4, c5, c6, c7, c8, d0, d1, d2, d3, d4, d5, d6, d7, d8⟩ := HC
            go_wp2_with fail
            go_meet
            exact ⟨rfl, by first | rfl | (rw [x1]; rfl) | (rw [x1, x2]; rfl), BV.out⟩
        · obtain ⟨v8, hv8⟩ : ∃ x, V1.drew.alloc (.cells (arr2 b a) 25) = x := ⟨_, rfl⟩
          have hb : Below V1.drew.heap.size V1.drew v8 := by rw [← hv8]; exact vstep V1.drew _
          have S17 := Lib.hid (show OLies v8 (.slice (some ⟨V1.drew.heap.size, 0, none⟩) 2 2) [b, a] from by rw [← hv8]; exact two_op V1.drew b a)
          rw [hv8]
          obtain ⟨k8, hk8⟩ : ∃ x, V1.drew.heap.size = x := ⟨_, rfl⟩
          rw [hk8] at S17 ⊢
          have BV := Lib.hid (BV.out.trans (hb.mono BV.out.size))
          clear hb hv8 hk8
          simp only [Act.put, List.setIfInBounds_toArray, List.set_cons_zero, List.set_cons_succ]
          refine wpAnyH_ready (rs := [2]) (by kernel_rfl) (by simp) (br_bslice (i := 2) 13 27 2 _ #[(0, .agg #[.int .i64 a.t, .int .i64 a.r, .int .i64 a.q, .int .i64 a.nt, .int .i64 a.nr, .int .i64 a.pt, .int .i64 a.pr, .string a.nm, .bool a.d]), (1, .agg #[.int .i64 b.t, .int .i64 b.r, .int .i64 b.q, .int .i64 b.nt, .int .i64 b.nr, .int .i64 b.pt, .int .i64 b.pr, .string b.nm, .bool b.d])] _ _ rfl rfl rfl rfl rfl ((fun W => bs_op2 W a b) v8) (BV.out.trans ((vstep v8 _).mono BV.out.size)) (fun _ => ?_) AllReadyH.nil)
          obtain ⟨v9, hv9⟩ : ∃ x, v8.alloc (.cells (arr2 a b) 25) = x := ⟨_, rfl⟩
          have hb : Below v8.heap.size v8 v9 := by rw [← hv9]; exact vstep v8 _
          have S13 := Lib.hid (show OLies v9 (.slice (some ⟨v8.heap.size, 0, none⟩) 2 2) [a, b] from by rw [← hv9]; exact two_op v8 a b)
          rw [hv9]
          obtain ⟨k9, hk9⟩ : ∃ x, v8.heap.size = x := ⟨_, rfl⟩
          rw [hk9] at S13 ⊢
          have BV := Lib.hid (BV.out.trans (hb.mono BV.out.size))
          have S17 := Lib.hid (S17.out.step hb)
          clear hb hv9 hk9
          simp only [Act.put, List.setIfInBounds_toArray, List.set_cons_zero, List.set_cons_succ]
          refine wpAnyH_ready (rs := [3]) (by kernel_rfl) (by simp) (br_call (i := 3) 14 11 #[.slice (some ⟨k9, 0, none⟩) 2 2] rfl rfl rfl (by go_simp) ((SO.out _ _ S13.out).mono ?_) AllReadyH.nil)
          rintro e v10 ⟨r2, rfl, ho, hb⟩
          have BV := Lib.hid (BV.out.trans (hb.mono BV.out.size))
          have S17 := Lib.hid (S17.out.step hb)
          have S13 := Lib.hid (S13.out.step hb)
          have SR := Lib.hid ho
          clear ho
          clear hb
          refine ⟨_, rfl, BV.out, fun _ => ?_⟩
          simp only [Act.put, List.setIfInBounds_toArray, List.set_cons_zero, List.set_cons_succ]
          refine wpAnyH_ready (rs := [7]) (by kernel_rfl) (by simp) (br_call (i := 7) 18 10 #[r2, .slice (some ⟨k8, 0, none⟩) 2 2] rfl rfl rfl (by go_simp) ((HSB.out _ _ _ SR.out S17.out).mono ?_) AllReadyH.nil)
          rintro e v11 ⟨rfl, hb⟩
          have BV := Lib.hid (BV.out.trans (hb.mono BV.out.size))
          have S17 := Lib.hid (S17.out.step hb)
          have S13 := Lib.hid (S13.out.step hb)
          have SR := Lib.hid (SR.out.step hb)
          clear hb
          refine ⟨_, rfl, BV.out, fun _ => ?_⟩
          simp only [Act.put, List.setIfInBounds_toArray, List.set_cons_zero, List.set_cons_succ]
          refine take_at (i := 8) 19 ?_ rfl rfl (by kernel_rfl) (by kernel_rfl) (by kernel_rfl) (fun _ _ _ h => h) (.inl ⟨rfl, ?_⟩) BV.out ?_
          rotate_left 1
          · intro w hSw; go_simp; try with_reducible rfl
          simp only [Act.put, List.setIfInBounds_toArray, List.set_cons_zero, List.set_cons_succ]
          refine take_at (i := 9) 20 ?_ rfl rfl (by kernel_rfl) (by kernel_rfl) (by kernel_rfl) (fun _ _ _ h => h) (.inl ⟨rfl, ?_⟩) BV.out ?_
          rotate_left 1
          · intro w hSw; go_simp; try with_reducible rfl
          simp only [Act.put, List.setIfInBounds_toArray, List.set_cons_zero, List.set_cons_succ]
          refine take_at (i := 10) 21 (.agg #[.int .i64 a.t, .int .i64 a.r]) rfl rfl (by kernel_rfl) (by kernel_rfl) (by kernel_rfl) (fun _ _ _ h => h) (yields_ld (.tmp 20) 23 (.pointer (some ⟨w.heap.size, 0, none⟩)) _ MA.out rfl rfl rfl) BV.out ?_
          simp only [Act.put, List.setIfInBounds_toArray, List.set_cons_zero, List.set_cons_succ]
          refine take_at (i := 11) 22 ?_ rfl rfl (by kernel_rfl) (by kernel_rfl) (by kernel_rfl) (fun _ _ _ h => h) (.inl ⟨rfl, ?_⟩) BV.out ?_
          rotate_left 1
          · intro w hSw; go_simp; try with_reducible rfl
          simp only [Act.put, List.setIfInBounds_toArray, List.set_cons_zero, List.set_cons_succ]
          refine take_at (i := 12) 23 (.agg #[.int .i64 b.t, .int .i64 b.r]) rfl rfl (by kernel_rfl) (by kernel_rfl) (by kernel_rfl) (fun _ _ _ h => h) (yields_ld (.tmp 22) 23 (.pointer (some ⟨w.heap.size + 1, 0, none⟩)) _ MB.out rfl rfl rfl) BV.out ?_
          simp only [Act.put, List.setIfInBounds_toArray, List.set_cons_zero, List.set_cons_succ]
          refine take_at (i := 13) 24 (.bool true) rfl rfl (by kernel_rfl) (by kernel_rfl) (by kernel_rfl) (fun _ _ _ h => h) (.inl ⟨rfl, fun w hSw => by go_simp⟩) BV.out ?_
          simp only [Act.put, List.setIfInBounds_toArray, List.set_cons_zero, List.set_cons_succ]
          refine take_at (i := 14) 25 ?_ rfl rfl (by kernel_rfl) (by kernel_rfl) (by kernel_rfl) (fun _ _ _ h => h) (.inl ⟨rfl, ?_⟩) BV.out ?_
          rotate_left 1
          · intro w hSw; go_simp; try with_reducible rfl
          simp only [Act.put, List.setIfInBounds_toArray, List.set_cons_zero, List.set_cons_succ]
          refine wpAnyH_done (by kernel_rfl) ?_ _
          have HC := (KEEP.out _ BV.out)
          obtain ⟨c0, c1, c2, c3, c4, c5, c6, c7, c8, d0, d1, d2, d3, d4, d5, d6, d7, d8⟩ := HC
          go_wp2_with fail
          go_meet
          exact ⟨rfl, by first | rfl | (rw [x1]; rfl) | (rw [x1, x2]; rfl), BV.out⟩
      · have HCW := Lib.hid x3
        clear x3
        refine wp_region_held_drew (S := fun w' => Below V1.heap.size V1 w') (by kernel_rfl) (Below.refl _ _).drew (fun hHeld => ?_)
        have BV := Lib.hid (show Below V1.heap.size V1 V1.drew from (Below.refl _ _).drew)
        clear hHeld
        refine take_at (i := 0) 11 (.agg #[.int .i64 a.t, .int .i64 a.r, .int .i64 a.q, .int .i64 a.nt, .int .i64 a.nr, .int .i64 a.pt, .int .i64 a.pr, .string a.nm, .bool a.d]) rfl rfl (by kernel_rfl) (by kernel_rfl) (by kernel_rfl) (fun _ _ _ h => h) (yields_ld (.tmp 2) 25 (.pointer (some ⟨w.heap.size, 0, none⟩)) _ LA.out rfl rfl rfl) BV.out ?_
        simp only [Act.put, List.setIfInBounds_toArray, List.set_cons_zero, List.set_cons_succ]
        refine take_at (i := 1) 12 (.agg #[.int .i64 b.t, .int .i64 b.r, .int .i64 b.q, .int .i64 b.nt, .int .i64 b.nr, .int .i64 b.pt, .int .i64 b.pr, .string b.nm, .bool b.d]) rfl rfl (by kernel_rfl) (by kernel_rfl) (by kernel_rfl) (fun _ _ _ h => h) (yields_ld (.tmp 3) 25 (.pointer (some ⟨w.heap.size + 1, 0, none⟩)) _ LB.out rfl rfl rfl) BV.out ?_
        simp only [Act.put, List.setIfInBounds_toArray, List.set_cons_zero, List.set_cons_succ]
        refine take_at (i := 4) 15 (.agg #[.int .i64 b.t, .int .i64 b.r, .int .i64 b.q, .int .i64 b.nt, .int .i64 b.nr, .int .i64 b.pt, .int .i64 b.pr, .string b.nm, .bool b.d]) rfl rfl (by kernel_rfl) (by kernel_rfl) (by kernel_rfl) (fun _ _ _ h => h) (yields_ld (.tmp 3) 25 (.pointer (some ⟨w.heap.size + 1, 0, none⟩)) _ LB.out rfl rfl rfl) BV.out ?_
        simp only [Act.put, List.setIfInBounds_toArray, List.set_cons_zero, List.set_cons_succ]
        refine take_at (i := 5) 16 (.agg #[.int .i64 a.t, .int .i64 a.r, .int .i64 a.q, .int .i64 a.nt, .int .i64 a.nr, .int .i64 a.pt, .int .i64 a.pr, .string a.nm, .bool a.d]) rfl rfl (by kernel_rfl) (by kernel_rfl) (by kernel_rfl) (fun _ _ _ h => h) (yields_ld (.tmp 2) 25 (.pointer (some ⟨w.heap.size, 0, none⟩)) _ LA.out rfl rfl rfl) BV.out ?_
        simp only [Act.put, List.setIfInBounds_toArray, List.set_cons_zero, List.set_cons_succ]
        refine wpAnyH_ready (rs := [2, 6]) (by kernel_rfl) (by simp) (br_bslice (i := 2) 13 27 2 _ #[(0, .agg #[.int .i64 a.t, .int .i64 a.r, .int .i64 a.q, .int .i64 a.nt, .int .i64 a.nr, .int .i64 a.pt, .int .i64 a.pr, .string a.nm, .bool a.d]), (1, .agg #[.int .i64 b.t, .int .i64 b.r, .int .i64 b.q, .int .i64 b.nt, .int .i64 b.nr, .int .i64 b.pt, .int .i64 b.pr, .string b.nm, .bool b.d])] _ _ rfl rfl rfl rfl rfl ((fun W => bs_op2 W a b) V1.drew) (BV.out.trans ((vstep V1.drew _).mono BV.out.size)) (fun _ => ?_) (br_bslice (i := 6) 17 27 2 _ #[(0, .agg #[.int .i64 b.t, .int .i64 b.r, .int .i64 b.q, .int .i64 b.nt, .int .i64 b.nr, .int .i64 b.pt, .int .i64 b.pr, .string b.nm, .bool b.d]), (1, .agg #[.int .i64 a.t, .int .i64 a.r, .int .i64 a.q, .int .i64 a.nt, .int .i64 a.nr, .int .i64 a.pt, .int .i64 a.pr, .string a.nm, .bool a.d])] _ _ rfl rfl rfl rfl rfl ((fun W => bs_op2 W b a) V1.drew) (BV.out.trans ((vstep V1.drew _).mono BV.out.size)) (fun _ => ?_) AllReadyH.nil))
        · obtain ⟨v1, hv1⟩ : ∃ x, V1.drew.alloc (.cells (arr2 a b) 25) = x := ⟨_, rfl⟩
          have hb : Below V1.drew.heap.size V1.drew v1 := by rw [← hv1]; exact vstep V1.drew _
          have S13 := Lib.hid (show OLies v1 (.slice (some ⟨V1.drew.heap.size, 0, none⟩) 2 2) [a, b] from by rw [← hv1]; exact two_op V1.drew a b)
          rw [hv1]
          obtain ⟨k1, hk1⟩ : ∃ x, V1.drew.heap.size = x := ⟨_, rfl⟩
          rw [hk1] at S13 ⊢
          have BV := Lib.hid (BV.out.trans (hb.mono BV.out.size))
          clear hb hv1 hk1
          simp only [Act.put, List.setIfInBounds_toArray, List.set_cons_zero, List.set_cons_succ]
          refine wpAnyH_ready (rs := [3, 6]) (by kernel_rfl) (by simp) (br_call (i := 3) 14 11 #[.slice (some ⟨k1, 0, none⟩) 2 2] rfl rfl rfl (by go_simp) ((SO.out _ _ S13.out).mono ?_) (br_bslice (i := 6) 17 27 2 _ #[(0, .agg #[.int .i64 b.t, .int .i64 b.r, .int .i64 b.q, .int .i64 b.nt, .int .i64 b.nr, .int .i64 b.pt, .int .i64 b.pr, .string b.nm, .bool b.d]), (1, .agg #[.int .i64 a.t, .int .i64 a.r, .int .i64 a.q, .int .i64 a.nt, .int .i64 a.nr, .int .i64 a.pt, .int .i64 a.pr, .string a.nm, .bool a.d])] _ _ rfl rfl rfl rfl rfl ((fun W => bs_op2 W b a) v1) (BV.out.trans ((vstep v1 _).mono BV.out.size)) (fun _ => ?_) AllReadyH.nil))
          · rintro e v2 ⟨r2, rfl, ho, hb⟩
            have BV := Lib.hid (BV.out.trans (hb.mono BV.out.size))
            have S13 := Lib.hid (S13.out.step hb)
            have SR := Lib.hid ho
            clear ho
            clear hb
            refine ⟨_, rfl, BV.out, fun _ => ?_⟩
            simp only [Act.put, List.setIfInBounds_toArray, List.set_cons_zero, List.set_cons_succ]
            refine wpAnyH_ready (rs := [6]) (by kernel_rfl) (by simp) (br_bslice (i := 6) 17 27 2 _ #[(0, .agg #[.int .i64 b.t, .int .i64 b.r, .int .i64 b.q, .int .i64 b.nt, .int .i64 b.nr, .int .i64 b.pt, .int .i64 b.pr, .string b.nm, .bool b.d]), (1, .agg #[.int .i64 a.t, .int .i64 a.r, .int .i64 a.q, .int .i64 a.nt, .int .i64 a.nr, .int .i64 a.pt, .int .i64 a.pr, .string a.nm, .bool a.d])] _ _ rfl rfl rfl rfl rfl ((fun W => bs_op2 W b a) v2) (BV.out.trans ((vstep v2 _).mono BV.out.size)) (fun _ => ?_) AllReadyH.nil)
            obtain ⟨v3, hv3⟩ : ∃ x, v2.alloc (.cells (arr2 b a) 25) = x := ⟨_, rfl⟩
            have hb : Below v2.heap.size v2 v3 := by rw [← hv3]; exact vstep v2 _
            have S17 := Lib.hid (show OLies v3 (.slice (some ⟨v2.heap.size, 0, none⟩) 2 2) [b, a] from by rw [← hv3]; exact two_op v2 b a)
            rw [hv3]
            obtain ⟨k3, hk3⟩ : ∃ x, v2.heap.size = x := ⟨_, rfl⟩
            rw [hk3] at S17 ⊢
            have BV := Lib.hid (BV.out.trans (hb.mono BV.out.size))
            have S13 := Lib.hid (S13.out.step hb)
            have SR := Lib.hid (SR.out.step hb)
            clear hb hv3 hk3
            simp only [Act.put, List.setIfInBounds_toArray, List.set_cons_zero, List.set_cons_succ]
            refine wpAnyH_ready (rs := [7]) (by kernel_rfl) (by simp) (br_call (i := 7) 18 10 #[r2, .slice (some ⟨k3, 0, none⟩) 2 2] rfl rfl rfl (by go_simp) ((HSB.out _ _ _ SR.out S17.out).mono ?_) AllReadyH.nil)
            rintro e v4 ⟨rfl, hb⟩
            have BV := Lib.hid (BV.out.trans (hb.mono BV.out.size))
            have S13 := Lib.hid (S13.out.step hb)
            have SR := Lib.hid (SR.out.step hb)
            have S17 := Lib.hid (S17.out.step hb)
            clear hb
            refine ⟨_, rfl, BV.out, fun _ => ?_⟩
            simp only [Act.put, List.setIfInBounds_toArray, List.set_cons_zero, List.set_cons_succ]
            refine take_at (i := 8) 19 ?_ rfl rfl (by kernel_rfl) (by kernel_rfl) (by kernel_rfl) (fun _ _ _ h => h) (.inl ⟨rfl, ?_⟩) BV.out ?_
            rotate_left 1
            · intro w hSw; go_simp; try with_reducible rfl
            simp only [Act.put, List.setIfInBounds_toArray, List.set_cons_zero, List.set_cons_succ]
            refine take_at (i := 9) 20 undef rfl rfl (by kernel_rfl) (by kernel_rfl) (by kernel_rfl) (fun _ _ _ h => h) (.inr ⟨rfl, rfl⟩) BV.out ?_
            simp only [Act.put, List.setIfInBounds_toArray, List.set_cons_zero, List.set_cons_succ]
            refine take_at (i := 10) 21 undef rfl rfl (by kernel_rfl) (by kernel_rfl) (by kernel_rfl) (fun _ _ _ h => h) (.inr ⟨rfl, rfl⟩) BV.out ?_
            simp only [Act.put, List.setIfInBounds_toArray, List.set_cons_zero, List.set_cons_succ]
            refine take_at (i := 11) 22 undef rfl rfl (by kernel_rfl) (by kernel_rfl) (by kernel_rfl) (fun _ _ _ h => h) (.inr ⟨rfl, rfl⟩) BV.out ?_
            simp only [Act.put, List.setIfInBounds_toArray, List.set_cons_zero, List.set_cons_succ]
            refine take_at (i := 12) 23 undef rfl rfl (by kernel_rfl) (by kernel_rfl) (by kernel_rfl) (fun _ _ _ h => h) (.inr ⟨rfl, rfl⟩) BV.out ?_
            simp only [Act.put, List.setIfInBounds_toArray, List.set_cons_zero, List.set_cons_succ]
            refine take_at (i := 13) 24 undef rfl rfl (by kernel_rfl) (by kernel_rfl) (by kernel_rfl) (fun _ _ _ h => h) (.inr ⟨rfl, rfl⟩) BV.out ?_
            simp only [Act.put, List.setIfInBounds_toArray, List.set_cons_zero, List.set_cons_succ]
            refine take_at (i := 14) 25 ?_ rfl rfl (by kernel_rfl) (by kernel_rfl) (by kernel_rfl) (fun _ _ _ h => h) (.inl ⟨rfl, ?_⟩) BV.out ?_
            rotate_left 1
            · intro w hSw; go_simp; try with_reducible rfl
            simp only [Act.put, List.setIfInBounds_toArray, List.set_cons_zero, List.set_cons_succ]
            refine wpAnyH_done (by kernel_rfl) ?_ _
            have HC := (KEEP.out _ BV.out)
            obtain ⟨c0, c1, c2, c3, c4, c5, c6, c7, c8, d0, d1, d2, d3, d4, d5, d6, d7, d8⟩ := HC
            go_wp2_with fail
            go_meet
            exact ⟨rfl, by first | rfl | (rw [x1]; rfl) | (rw [x1, x2]; rfl), BV.out⟩
          · obtain ⟨v5, hv5⟩ : ∃ x, v1.alloc (.cells (arr2 b a) 25) = x := ⟨_, rfl⟩
            have hb : Below v1.heap.size v1 v5 := by rw [← hv5]; exact vstep v1 _
            have S17 := Lib.hid (show OLies v5 (.slice (some ⟨v1.heap.size, 0, none⟩) 2 2) [b, a] from by rw [← hv5]; exact two_op v1 b a)
            rw [hv5]
            obtain ⟨k5, hk5⟩ : ∃ x, v1.heap.size = x := ⟨_, rfl⟩
            rw [hk5] at S17 ⊢
            have BV := Lib.hid (BV.out.trans (hb.mono BV.out.size))
            have S13 := Lib.hid (S13.out.step hb)
            clear hb hv5 hk5
            simp only [Act.put, List.setIfInBounds_toArray, List.set_cons_zero, List.set_cons_succ]
            refine wpAnyH_ready (rs := [3]) (by kernel_rfl) (by simp) (br_call (i := 3) 14 11 #[.slice (some ⟨k1, 0, none⟩) 2 2] rfl rfl rfl (by go_simp) ((SO.out _ _ S13.out).mono ?_) AllReadyH.nil)
            rintro e v6 ⟨r2, rfl, ho, hb⟩
            have BV := Lib.hid (BV.out.trans (hb.mono BV.out.size))
            have S13 := Lib.hid (S13.out.step hb)
            have S17 := Lib.hid (S17.out.step hb)
            have SR := Lib.hid ho
            clear ho
            clear hb
            refine ⟨_, rfl, BV.out, fun _ => ?_⟩
            simp only [Act.put, List.setIfInBounds_toArray, List.set_cons_zero, List.set_cons_succ]
            refine wpAnyH_ready (rs := [7]) (by kernel_rfl) (by simp) (br_call (i := 7) 18 10 #[r2, .slice (some ⟨k5, 0, none⟩) 2 2] rfl rfl rfl (by go_simp) ((HSB.out _ _ _ SR.out S17.out).mono ?_) AllReadyH.nil)
            rintro e v7 ⟨rfl, hb⟩
            have BV := Lib.hid (BV.out.trans (hb.mono BV.out.size))
            have S13 := Lib.hid (S13.out.step hb)
            have S17 := Lib.hid (S17.out.step hb)
            have SR := Lib.hid (SR.out.step hb)
            clear hb
            refine ⟨_, rfl, BV.out, fun _ => ?_⟩
            simp only [Act.put, List.setIfInBounds_toArray, List.set_cons_zero, List.set_cons_succ]
            refine take_at (i := 8) 19 ?_ rfl rfl (by kernel_rfl) (by kernel_rfl) (by kernel_rfl) (fun _ _ _ h => h) (.inl ⟨rfl, ?_⟩) BV.out ?_
            rotate_left 1
            · intro w hSw; go_simp; try with_reducible rfl
            simp only [Act.put, List.setIfInBounds_toArray, List.set_cons_zero, List.set_cons_succ]
            refine take_at (i := 9) 20 undef rfl rfl (by kernel_rfl) (by kernel_rfl) (by kernel_rfl) (fun _ _ _ h => h) (.inr ⟨rfl, rfl⟩) BV.out ?_
            simp only [Act.put, List.setIfInBounds_toArray, List.set_cons_zero, List.set_cons_succ]
            refine take_at (i := 10) 21 undef rfl rfl (by kernel_rfl) (by kernel_rfl) (by kernel_rfl) (fun _ _ _ h => h) (.inr ⟨rfl, rfl⟩) BV.out ?_
            simp only [Act.put, List.setIfInBounds_toArray, List.set_cons_zero, List.set_cons_succ]
            refine take_at (i := 11) 22 undef rfl rfl (by kernel_rfl) (by kernel_rfl) (by kernel_rfl) (fun _ _ _ h => h) (.inr ⟨rfl, rfl⟩) BV.out ?_
            simp only [Act.put, List.setIfInBounds_toArray, List.set_cons_zero, List.set_cons_succ]
            refine take_at (i := 12) 23 undef rfl rfl (by kernel_rfl) (by kernel_rfl) (by kernel_rfl) (fun _ _ _ h => h) (.inr ⟨rfl, rfl⟩) BV.out ?_
            simp only [Act.put, List.setIfInBounds_toArray, List.set_cons_zero, List.set_cons_succ]
            refine take_at (i := 13) 24 undef rfl rfl (by kernel_rfl) (by kernel_rfl) (by kernel_rfl) (fun _ _ _ h => h) (.inr ⟨rfl, rfl⟩) BV.out ?_
            simp only [Act.put, List.setIfInBounds_toArray, List.set_cons_zero, List.set_cons_succ]
            refine take_at (i := 14) 25 ?_ rfl rfl (by kernel_rfl) (by kernel_rfl) (by kernel_rfl) (fun _ _ _ h => h) (.inl ⟨rfl, ?_⟩) BV.out ?_
            rotate_left 1
            · intro w hSw; go_simp; try with_reducible rfl
            simp only [Act.put, List.setIfInBounds_toArray, List.set_cons_zero, List.set_cons_succ]
            refine wpAnyH_done (by kernel_rfl) ?_ _
            have HC := (KEEP.out _ BV.out)
            obtain ⟨c0, c1, c2, c3, c4, c5, c6, c7, c8, d0, d1, d2, d3, d4, d5, d6, d7, d8⟩ := HC
            go_wp2_with fail
            go_meet
            exact ⟨rfl, by first | rfl | (rw [x1]; rfl) | (rw [x1, x2]; rfl), BV.out⟩
        · obtain ⟨v8, hv8⟩ : ∃ x, V1.drew.alloc (.cells (arr2 b a) 25) = x := ⟨_, rfl⟩
          have hb : Below V1.drew.heap.size V1.drew v8 := by rw [← hv8]; exact vstep V1.drew _
          have S17 := Lib.hid (show OLies v8 (.slice (some ⟨V1.drew.heap.size, 0, none⟩) 2 2) [b, a] from by rw [← hv8]; exact two_op V1.drew b a)
          rw [hv8]
          obtain ⟨k8, hk8⟩ : ∃ x, V1.drew.heap.size = x := ⟨_, rfl⟩
          rw [hk8] at S17 ⊢
          have BV := Lib.hid (BV.out.trans (hb.mono BV.out.size))
          clear hb hv8 hk8
          simp only [Act.put, List.setIfInBounds_toArray, List.set_cons_zero, List.set_cons_succ]
          refine wpAnyH_ready (rs := [2]) (by kernel_rfl) (by simp) (br_bslice (i := 2) 13 27 2 _ #[(0, .agg #[.int .i64 a.t, .int .i64 a.r, .int .i64 a.q, .int .i64 a.nt, .int .i64 a.nr, .int .i64 a.pt, .int .i64 a.pr, .string a.nm, .bool a.d]), (1, .agg #[.int .i64 b.t, .int .i64 b.r, .int .i64 b.q, .int .i64 b.nt, .int .i64 b.nr, .int .i64 b.pt, .int .i64 b.pr, .string b.nm, .bool b.d])] _ _ rfl rfl rfl rfl rfl ((fun W => bs_op2 W a b) v8) (BV.out.trans ((vstep v8 _).mono BV.out.size)) (fun _ => ?_) AllReadyH.nil)
          obtain ⟨v9, hv9⟩ : ∃ x, v8.alloc (.cells (arr2 a b) 25) = x := ⟨_, rfl⟩
          have hb : Below v8.heap.size v8 v9 := by rw [← hv9]; exact vstep v8 _
          have S13 := Lib.hid (show OLies v9 (.slice (some ⟨v8.heap.size, 0, none⟩) 2 2) [a, b] from by rw [← hv9]; exact two_op v8 a b)
          rw [hv9]
          obtain ⟨k9, hk9⟩ : ∃ x, v8.heap.size = x := ⟨_, rfl⟩
          rw [hk9] at S13 ⊢
          have BV := Lib.hid (BV.out.trans (hb.mono BV.out.size))
          have S17 := Lib.hid (S17.out.step hb)
          clear hb hv9 hk9
          simp only [Act.put, List.setIfInBounds_toArray, List.set_cons_zero, List.set_cons_succ]
          refine wpAnyH_ready (rs := [3]) (by kernel_rfl) (by simp) (br_call (i := 3) 14 11 #[.slice (some ⟨k9, 0, none⟩) 2 2] rfl rfl rfl (by go_simp) ((SO.out _ _ S13.out).mono ?_) AllReadyH.nil)
          rintro e v10 ⟨r2, rfl, ho, hb⟩
          have BV := Lib.hid (BV.out.trans (hb.mono BV.out.size))
          have S17 := Lib.hid (S17.out.step hb)
          have S13 := Lib.hid (S13.out.step hb)
          have SR := Lib.hid ho
          clear ho
          clear hb
          refine ⟨_, rfl, BV.out, fun _ => ?_⟩
          simp only [Act.put, List.setIfInBounds_toArray, List.set_cons_zero, List.set_cons_succ]
          refine wpAnyH_ready (rs := [7]) (by kernel_rfl) (by simp) (br_call (i := 7) 18 10 #[r2, .slice (some ⟨k8, 0, none⟩) 2 2] rfl rfl rfl (by go_simp) ((HSB.out _ _ _ SR.out S17.out).mono ?_) AllReadyH.nil)
          rintro e v11 ⟨rfl, hb⟩
          have BV := Lib.hid (BV.out.trans (hb.mono BV.out.size))
          have S17 := Lib.hid (S17.out.step hb)
          have S13 := Lib.hid (S13.out.step hb)
          have SR := Lib.hid (SR.out.step hb)
          clear hb
          refine ⟨_, rfl, BV.out, fun _ => ?_⟩
          simp only [Act.put, List.setIfInBounds_toArray, List.set_cons_zero, List.set_cons_succ]
          refine take_at (i := 8) 19 ?_ rfl rfl (by kernel_rfl) (by kernel_rfl) (by kernel_rfl) (fun _ _ _ h => h) (.inl ⟨rfl, ?_⟩) BV.out ?_
          rotate_left 1
          · intro w hSw; go_simp; try with_reducible rfl
          simp only [Act.put, List.setIfInBounds_toArray, List.set_cons_zero, List.set_cons_succ]
          refine take_at (i := 9) 20 undef rfl rfl (by kernel_rfl) (by kernel_rfl) (by kernel_rfl) (fun _ _ _ h => h) (.inr ⟨rfl, rfl⟩) BV.out ?_
          simp only [Act.put, List.setIfInBounds_toArray, List.set_cons_zero, List.set_cons_succ]
          refine take_at (i := 10) 21 undef rfl rfl (by kernel_rfl) (by kernel_rfl) (by kernel_rfl) (fun _ _ _ h => h) (.inr ⟨rfl, rfl⟩) BV.out ?_
          simp only [Act.put, List.setIfInBounds_toArray, List.set_cons_zero, List.set_cons_succ]
          refine take_at (i := 11) 22 undef rfl rfl (by kernel_rfl) (by kernel_rfl) (by kernel_rfl) (fun _ _ _ h => h) (.inr ⟨rfl, rfl⟩) BV.out ?_
          simp only [Act.put, List.setIfInBounds_toArray, List.set_cons_zero, List.set_cons_succ]
          refine take_at (i := 12) 23 undef rfl rfl (by kernel_rfl) (by kernel_rfl) (by kernel_rfl) (fun _ _ _ h => h) (.inr ⟨rfl, rfl⟩) BV.out ?_
          simp only [Act.put, List.setIfInBounds_toArray, List.set_cons_zero, List.set_cons_succ]
          refine take_at (i := 13) 24 undef rfl rfl (by kernel_rfl) (by kernel_rfl) (by kernel_rfl) (fun _ _ _ h => h) (.inr ⟨rfl, rfl⟩) BV.out ?_
          simp only [Act.put, List.setIfInBounds_toArray, List.set_cons_zero, List.set_cons_succ]
          refine take_at (i := 14) 25 ?_ rfl rfl (by kernel_rfl) (by kernel_rfl) (by kernel_rfl) (fun _ _ _ h => h) (.inl ⟨rfl, ?_⟩) BV.out ?_
          rotate_left 1
          · intro w hSw; go_simp; try with_reducible rfl
          simp only [Act.put, List.setIfInBounds_toArray, List.set_cons_zero, List.set_cons_succ]
          refine wpAnyH_done (by kernel_rfl) ?_ _
          have HC := (KEEP.out _ BV.out)
          obtain ⟨c0, c1, c2, c3, c4, c5, c6, c7, c8, d0, d1, d2, d3, d4, d5, d6, d7, d8⟩ := HC
          go_wp2_with fail
          go_meet
          exact ⟨rfl, by first | rfl | (rw [x1]; rfl) | (rw [x1, x2]; rfl), BV.out⟩
      · have HCW := Lib.hid x3
        clear x3
        refine wp_region_held_drew (S := fun w' => Below V1.heap.size V1 w') (by kernel_rfl) (Below.refl _ _).drew (fun hHeld => ?_)
        have BV := Lib.hid (show Below V1.heap.size V1 V1.drew from (Below.refl _ _).drew)
        clear hHeld
        refine take_at (i := 0) 11 (.agg #[.int .i64 a.t, .int .i64 a.r, .int .i64 a.q, .int .i64 a.nt, .int .i64 a.nr, .int .i64 a.pt, .int .i64 a.pr, .string a.nm, .bool a.d]) rfl rfl (by kernel_rfl) (by kernel_rfl) (by kernel_rfl) (fun _ _ _ h => h) (yields_ld (.tmp 2) 25 (.pointer (some ⟨w.heap.size, 0, none⟩)) _ LA.out rfl rfl rfl) BV.out ?_
        simp only [Act.put, List.setIfInBounds_toArray, List.set_cons_zero, List.set_cons_succ]
        refine take_at (i := 1) 12 (.agg #[.int .i64 b.t, .int .i64 b.r, .int .i64 b.q, .int .i64 b.nt, .int .i64 b.nr, .int .i64 b.pt, .int .i64 b.pr, .string b.nm, .bool b.d]) rfl rfl (by kernel_rfl) (by kernel_rfl) (by kernel_rfl) (fun _ _ _ h => h) (yields_ld (.tmp 3) 25 (.pointer (some ⟨w.heap.size + 1, 0, none⟩)) _ LB.out rfl rfl rfl) BV.out ?_
        simp only [Act.put, List.setIfInBounds_toArray, List.set_cons_zero, List.set_cons_succ]
        refine take_at (i := 4) 15 (.agg #[.int .i64 b.t, .int .i64 b.r, .int .i64 b.q, .int .i64 b.nt, .int .i64 b.nr, .int .i64 b.pt, .int .i64 b.pr, .string b.nm, .bool b.d]) rfl rfl (by kernel_rfl) (by kernel_rfl) (by kernel_rfl) (fun _ _ _ h => h) (yields_ld (.tmp 3) 25 (.pointer (some ⟨w.heap.size + 1, 0, none⟩)) _ LB.out rfl rfl rfl) BV.out ?_
        simp only [Act.put, List.setIfInBounds_toArray, List.set_cons_zero, List.set_cons_succ]
        refine take_at (i := 5) 16 (.agg #[.int .i64 a.t, .int .i64 a.r, .int .i64 a.q, .int .i64 a.nt, .int .i64 a.nr, .int .i64 a.pt, .int .i64 a.pr, .string a.nm, .bool a.d]) rfl rfl (by kernel_rfl) (by kernel_rfl) (by kernel_rfl) (fun _ _ _ h => h) (yields_ld (.tmp 2) 25 (.pointer (some ⟨w.heap.size, 0, none⟩)) _ LA.out rfl rfl rfl) BV.out ?_
        simp only [Act.put, List.setIfInBounds_toArray, List.set_cons_zero, List.set_cons_succ]
        refine wpAnyH_ready (rs := [2, 6]) (by kernel_rfl) (by simp) (br_bslice (i := 2) 13 27 2 _ #[(0, .agg #[.int .i64 a.t, .int .i64 a.r, .int .i64 a.q, .int .i64 a.nt, .int .i64 a.nr, .int .i64 a.pt, .int .i64 a.pr, .string a.nm, .bool a.d]), (1, .agg #[.int .i64 b.t, .int .i64 b.r, .int .i64 b.q, .int .i64 b.nt, .int .i64 b.nr, .int .i64 b.pt, .int .i64 b.pr, .string b.nm, .bool b.d])] _ _ rfl rfl rfl rfl rfl ((fun W => bs_op2 W a b) V1.drew) (BV.out.trans ((vstep V1.drew _).mono BV.out.size)) (fun _ => ?_) (br_bslice (i := 6) 17 27 2 _ #[(0, .agg #[.int .i64 b.t, .int .i64 b.r, .int .i64 b.q, .int .i64 b.nt, .int .i64 b.nr, .int .i64 b.pt, .int .i64 b.pr, .string b.nm, .bool b.d]), (1, .agg #[.int .i64 a.t, .int .i64 a.r, .int .i64 a.q, .int .i64 a.nt, .int .i64 a.nr, .int .i64 a.pt, .int .i64 a.pr, .string a.nm, .bool a.d])] _ _ rfl rfl rfl rfl rfl ((fun W => bs_op2 W b a) V1.drew) (BV.out.trans ((vstep V1.drew _).mono BV.out.size)) (fun _ => ?_) AllReadyH.nil))
        · obtain ⟨v1, hv1⟩ : ∃ x, V1.drew.alloc (.cells (arr2 a b) 25) = x := ⟨_, rfl⟩
          have hb : Below V1.drew.heap.size V1.drew v1 := by rw [← hv1]; exact vstep V1.drew _
          have S13 := Lib.hid (show OLies v1 (.slice (some ⟨V1.drew.heap.size, 0, none⟩) 2 2) [a, b] from by rw [← hv1]; exact two_op V1.drew a b)
          rw [hv1]
          obtain ⟨k1, hk1⟩ : ∃ x, V1.drew.heap.size = x := ⟨_, rfl⟩
          rw [hk1] at S13 ⊢
          have BV := Lib.hid (BV.out.trans (hb.mono BV.out.size))
          clear hb hv1 hk1
          simp only [Act.put, List.setIfInBounds_toArray, List.set_cons_zero, List.set_cons_succ]
          refine wpAnyH_ready (rs := [3, 6]) (by kernel_rfl) (by simp) (br_call (i := 3) 14 11 #[.slice (some ⟨k1, 0, none⟩) 2 2] rfl rfl rfl (by go_simp) ((SO.out _ _ S13.out).mono ?_) (br_bslice (i := 6) 17 27 2 _ #[(0, .agg #[.int .i64 b.t, .int .i64 b.r, .int .i64 b.q, .int .i64 b.nt, .int .i64 b.nr, .int .i64 b.pt, .int .i64 b.pr, .string b.nm, .bool b.d]), (1, .agg #[.int .i64 a.t, .int .i64 a.r, .int .i64 a.q, .int .i64 a.nt, .int .i64 a.nr, .int .i64 a.pt, .int .i64 a.pr, .string a.nm, .bool a.d])] _ _ rfl rfl rfl rfl rfl ((fun W => bs_op2 W b a) v1) (BV.out.trans ((vstep v1 _).mono BV.out.size)) (fun _ => ?_) AllReadyH.nil))
          · rintro e v2 ⟨r2, rfl, ho, hb⟩
            have BV := Lib.hid (BV.out.trans (hb.mono BV.out.size))
            have S13 := Lib.hid (S13.out.step hb)
            have SR := Lib.hid ho
            clear ho
            clear hb
            refine ⟨_, rfl, BV.out, fun _ => ?_⟩
            simp only [Act.put, List.setIfInBounds_toArray, List.set_cons_zero, List.set_cons_succ]
            refine wpAnyH_ready (rs := [6]) (by kernel_rfl) (by simp) (br_bslice (i := 6) 17 27 2 _ #[(0, .agg #[.int .i64 b.t, .int .i64 b.r, .int .i64 b.q, .int .i64 b.nt, .int .i64 b.nr, .int .i64 b.pt, .int .i64 b.pr, .string b.nm, .bool b.d]), (1, .agg #[.int .i64 a.t, .int .i64 a.r, .int .i64 a.q, .int .i64 a.nt, .int .i64 a.nr, .int .i64 a.pt, .int .i64 a.pr, .string a.nm, .bool a.d])] _ _ rfl rfl rfl rfl rfl ((fun W => bs_op2 W b a) v2) (BV.out.trans ((vstep v2 _).mono BV.out.size)) (fun _ => ?_) AllReadyH.nil)
            obtain ⟨v3, hv3⟩ : ∃ x, v2.alloc (.cells (arr2 b a) 25) = x := ⟨_, rfl⟩
            have hb : Below v2.heap.size v2 v3 := by rw [← hv3]; exact vstep v2 _
            have S17 := Lib.hid (show OLies v3 (.slice (some ⟨v2.heap.size, 0, none⟩) 2 2) [b, a] from by rw [← hv3]; exact two_op v2 b a)
            rw [hv3]
            obtain ⟨k3, hk3⟩ : ∃ x, v2.heap.size = x := ⟨_, rfl⟩
            rw [hk3] at S17 ⊢
            have BV := Lib.hid (BV.out.trans (hb.mono BV.out.size))
            have S13 := Lib.hid (S13.out.step hb)
            have SR := Lib.hid (SR.out.step hb)
            clear hb hv3 hk3
            simp only [Act.put, List.setIfInBounds_toArray, List.set_cons_zero, List.set_cons_succ]
            refine wpAnyH_ready (rs := [7]) (by kernel_rfl) (by simp) (br_call (i := 7) 18 10 #[r2, .slice (some ⟨k3, 0, none⟩) 2 2] rfl rfl rfl (by go_simp) ((HSB.out _ _ _ SR.out S17.out).mono ?_) AllReadyH.nil)
            rintro e v4 ⟨rfl, hb⟩
            have BV := Lib.hid (BV.out.trans (hb.mono BV.out.size))
            have S13 := Lib.hid (S13.out.step hb)
            have SR := Lib.hid (SR.out.step hb)
            have S17 := Lib.hid (S17.out.step hb)
            clear hb
            refine ⟨_, rfl, BV.out, fun _ => ?_⟩
            simp only [Act.put, List.setIfInBounds_toArray, List.set_cons_zero, List.set_cons_succ]
            refine take_at (i := 8) 19 ?_ rfl rfl (by kernel_rfl) (by kernel_rfl) (by kernel_rfl) (fun _ _ _ h => h) (.inl ⟨rfl, ?_⟩) BV.out ?_
            rotate_left 1
            · intro w hSw; go_simp; try with_reducible rfl
            simp only [Act.put, List.setIfInBounds_toArray, List.set_cons_zero, List.set_cons_succ]
            refine take_at (i := 9) 20 ?_ rfl rfl (by kernel_rfl) (by kernel_rfl) (by kernel_rfl) (fun _ _ _ h => h) (.inl ⟨rfl, ?_⟩) BV.out ?_
            rotate_left 1
            · intro w hSw; go_simp; try with_reducible rfl
            simp only [Act.put, List.setIfInBounds_toArray, List.set_cons_zero, List.set_cons_succ]
            refine take_at (i := 10) 21 (.agg #[.int .i64 a.t, .int .i64 a.r]) rfl rfl (by kernel_rfl) (by kernel_rfl) (by kernel_rfl) (fun _ _ _ h => h) (yields_ld (.tmp 20) 23 (.pointer (some ⟨w.heap.size, 0, none⟩)) _ MA.out rfl rfl rfl) BV.out ?_
            simp only [Act.put, List.setIfInBounds_toArray, List.set_cons_zero, List.set_cons_succ]
            refine take_at (i := 11) 22 ?_ rfl rfl (by kernel_rfl) (by kernel_rfl) (by kernel_rfl) (fun _ _ _ h => h) (.inl ⟨rfl, ?_⟩) BV.out ?_
            rotate_left 1
            · intro w hSw; go_simp; try with_reducible rfl
            simp only [Act.put, List.setIfInBounds_toArray, List.set_cons_zero, List.set_cons_succ]
            refine take_at (i := 12) 23 (.agg #[.int .i64 b.t, .int .i64 b.r]) rfl rfl (by kernel_rfl) (by kernel_rfl) (by kernel_rfl) (fun _ _ _ h => h) (yields_ld (.tmp 22) 23 (.pointer (some ⟨w.heap.size + 1, 0, none⟩)) _ MB.out rfl rfl rfl) BV.out ?_
            simp only [Act.put, List.setIfInBounds_toArray, List.set_cons_zero, List.set_cons_succ]
            refine take_at (i := 13) 24 (.bool true) rfl rfl (by kernel_rfl) (by kernel_rfl) (by kernel_rfl) (fun _ _ _ h => h) (.inl ⟨rfl, fun w hSw => by go_simp⟩) BV.out ?_
            simp only [Act.put, List.setIfInBounds_toArray, List.set_cons_zero, List.set_cons_succ]
            refine take_at (i := 14) 25 ?_ rfl rfl (by kernel_rfl) (by kernel_rfl) (by kernel_rfl) (fun _ _ _ h => h) (.inl ⟨rfl, ?_⟩) BV.out ?_
            rotate_left 1
            · intro w hSw; go_simp; try with_reducible rfl
            simp only [Act.put, List.setIfInBounds_toArray, List.set_cons_zero, List.set_cons_succ]
            refine wpAnyH_done (by kernel_rfl) ?_ _
            have HC := (KEEP.out _ BV.out)
            obtain ⟨c0, c1, c2, c3, c4, c5, c6, c7, c8, d0, d1, d2, d3, d4, d5, d6, d7, d8⟩ := HC
            go_wp2_with fail
            go_meet
            exact ⟨rfl, by first | rfl | (rw [x1]; rfl) | (rw [x1, x2]; rfl), BV.out⟩
          · obtain ⟨v5, hv5⟩ : ∃ x, v1.alloc (.cells (arr2 b a) 25) = x := ⟨_, rfl⟩
            have hb : Below v1.heap.size v1 v5 := by rw [← hv5]; exact vstep v1 _
            have S17 := Lib.hid (show OLies v5 (.slice (some ⟨v1.heap.size, 0, none⟩) 2 2) [b, a] from by rw [← hv5]; exact two_op v1 b a)
            rw [hv5]
            obtain ⟨k5, hk5⟩ : ∃ x, v1.heap.size = x := ⟨_, rfl⟩
            rw [hk5] at S17 ⊢
            have BV := Lib.hid (BV.out.trans (hb.mono BV.out.size))
            have S13 := Lib.hid (S13.out.step hb)
            clear hb hv5 hk5
            simp only [Act.put, List.setIfInBounds_toArray, List.set_cons_zero, List.set_cons_succ]
            refine wpAnyH_ready (rs := [3]) (by kernel_rfl) (by simp) (br_call (i := 3) 14 11 #[.slice (some ⟨k1, 0, none⟩) 2 2] rfl rfl rfl (by go_simp) ((SO.out _ _ S13.out).mono ?_) AllReadyH.nil)
            rintro e v6 ⟨r2, rfl, ho, hb⟩
            have BV := Lib.hid (BV.out.trans (hb.mono BV.out.size))
            have S13 := Lib.hid (S13.out.step hb)
            have S17 := Lib.hid (S17.out.step hb)
            have SR := Lib.hid ho
            clear ho
            clear hb
            refine ⟨_, rfl, BV.out, fun _ => ?_⟩
            simp only [Act.put, List.setIfInBounds_toArray, List.set_cons_zero, List.set_cons_succ]
            refine wpAnyH_ready (rs := [7]) (by kernel_rfl) (by simp) (br_call (i := 7) 18 10 #[r2, .slice (some ⟨k5, 0, none⟩) 2 2] rfl rfl rfl (by go_simp) ((HSB.out _ _ _ SR.out S17.out).mono ?_) AllReadyH.nil)
            rintro e v7 ⟨rfl, hb⟩
            have BV := Lib.hid (BV.out.trans (hb.mono BV.out.size))
            have S13 := Lib.hid (S13.out.step hb)
            have S17 := Lib.hid (S17.out.step hb)
            have SR := Lib.hid (SR.out.step hb)
            clear hb
            refine ⟨_, rfl, BV.out, fun _ => ?_⟩
            simp only [Act.put, List.setIfInBounds_toArray, List.set_cons_zero, List.set_cons_succ]
            refine take_at (i := 8) 19 ?_ rfl rfl (by kernel_rfl) (by kernel_rfl) (by kernel_rfl) (fun _ _ _ h => h) (.inl ⟨rfl, ?_⟩) BV.out ?_
            rotate_left 1
            · intro w hSw; go_simp; try with_reducible rfl
            simp only [Act.put, List.setIfInBounds_toArray, List.set_cons_zero, List.set_cons_succ]
            refine take_at (i := 9) 20 ?_ rfl rfl (by kernel_rfl) (by kernel_rfl) (by kernel_rfl) (fun _ _ _ h => h) (.inl ⟨rfl, ?_⟩) BV.out ?_
            rotate_left 1
            · intro w hSw; go_simp; try with_reducible rfl
            simp only [Act.put, List.setIfInBounds_toArray, List.set_cons_zero, List.set_cons_succ]
            refine take_at (i := 10) 21 (.agg #[.int .i64 a.t, .int .i64 a.r]) rfl rfl (by kernel_rfl) (by kernel_rfl) (by kernel_rfl) (fun _ _ _ h => h) (yields_ld (.tmp 20) 23 (.pointer (some ⟨w.heap.size, 0, none⟩)) _ MA.out rfl rfl rfl) BV.out ?_
            simp only [Act.put, List.setIfInBounds_toArray, List.set_cons_zero, List.set_cons_succ]
            refine take_at (i := 11) 22 ?_ rfl rfl (by kernel_rfl) (by kernel_rfl) (by kernel_rfl) (fun _ _ _ h => h) (.inl ⟨rfl, ?_⟩) BV.out ?_
            rotate_left 1
            · intro w hSw; go_simp; try with_reducible rfl
            simp only [Act.put, List.setIfInBounds_toArray, List.set_cons_zero, List.set_cons_succ]
            refine take_at (i := 12) 23 (.agg #[.int .i64 b.t, .int .i64 b.r]) rfl rfl (by kernel_rfl) (by kernel_rfl) (by kernel_rfl) (fun _ _ _ h => h) (yields_ld (.tmp 22) 23 (.pointer (some ⟨w.heap.size + 1, 0, none⟩)) _ MB.out rfl rfl rfl) BV.out ?_
            simp only [Act.put, List.setIfInBounds_toArray, List.set_cons_zero, List.set_cons_succ]
            refine take_at (i := 13) 24 (.bool true) rfl rfl (by kernel_rfl) (by kernel_rfl) (by kernel_rfl) (fun _ _ _ h => h) (.inl ⟨rfl, fun w hSw => by go_simp⟩) BV.out ?_
            simp only [Act.put, List.setIfInBounds_toArray, List.set_cons_zero, List.set_cons_succ]
            refine take_at (i := 14) 25 ?_ rfl rfl (by kernel_rfl) (by kernel_rfl) (by kernel_rfl) (fun _ _ _ h => h) (.inl ⟨rfl, ?_⟩) BV.out ?_
            rotate_left 1
            · intro w hSw; go_simp; try with_reducible rfl
            simp only [Act.put, List.setIfInBounds_toArray, List.set_cons_zero, List.set_cons_succ]
            refine wpAnyH_done (by kernel_rfl) ?_ _
            have HC := (KEEP.out _ BV.out)
            obtain ⟨c0, c1, c2, c3, c4, c5, c6, c7, c8, d0, d1, d2, d3, d4, d5, d6, d7, d8⟩ := HC
            go_wp2_with fail
            go_meet
            exact ⟨rfl, by first | rfl | (rw [x1]; rfl) | (rw [x1, x2]; rfl), BV.out⟩
        · obtain ⟨v8, hv8⟩ : ∃ x, V1.drew.alloc (.cells (arr2 b a) 25) = x := ⟨_, rfl⟩
          have hb : Below V1.drew.heap.size V1.drew v8 := by rw [← hv8]; exact vstep V1.drew _
          have S17 := Lib.hid (show OLies v8 (.slice (some ⟨V1.drew.heap.size, 0, none⟩) 2 2) [b, a] from by rw [← hv8]; exact two_op V1.drew b a)
          rw [hv8]
          obtain ⟨k8, hk8⟩ : ∃ x, V1.drew.heap.size = x := ⟨_, rfl⟩
          rw [hk8] at S17 ⊢
          have BV := Lib.hid (BV.out.trans (hb.mono BV.out.size))
          clear hb hv8 hk8
          simp only [Act.put, List.setIfInBounds_toArray, List.set_cons_zero, List.set_cons_succ]
          refine wpAnyH_ready (rs := [2]) (by kernel_rfl) (by simp) (br_bslice (i := 2) 13 27 2 _ #[(0, .agg #[.int .i64 a.t, .int .i64 a.r, .int .i64 a.q, .int .i64 a.nt, .int .i64 a.nr, .int .i64 a.pt, .int .i64 a.pr, .string a.nm, .bool a.d]), (1, .agg #[.int .i64 b.t, .int .i64 b.r, .int .i64 b.q, .int .i64 b.nt, .int .i64 b.nr, .int .i64 b.pt, .int .i64 b.pr, .string b.nm, .bool b.d])] _ _ rfl rfl rfl rfl rfl ((fun W => bs_op2 W a b) v8) (BV.out.trans ((vstep v8 _).mono BV.out.size)) (fun _ => ?_) AllReadyH.nil)
          obtain ⟨v9, hv9⟩ : ∃ x, v8.alloc (.cells (arr2 a b) 25) = x := ⟨_, rfl⟩
          have hb : Below v8.heap.size v8 v9 := by rw [← hv9]; exact vstep v8 _
          have S13 := Lib.hid (show OLies v9 (.slice (some ⟨v8.heap.size, 0, none⟩) 2 2) [a, b] from by rw [← hv9]; exact two_op v8 a b)
          rw [hv9]
          obtain ⟨k9, hk9⟩ : ∃ x, v8.heap.size = x := ⟨_, rfl⟩
          rw [hk9] at S13 ⊢
          have BV := Lib.hid (BV.out.trans (hb.mono BV.out.size))
          have S17 := Lib.hid (S17.out.step hb)
          clear hb hv9 hk9
          simp only [Act.put, List.setIfInBounds_toArray, List.set_cons_zero, List.set_cons_succ]
          refine wpAnyH_ready (rs := [3]) (by kernel_rfl) (by simp) (br_call (i := 3) 14 11 #[.slice (some ⟨k9, 0, none⟩) 2 2] rfl rfl rfl (by go_simp) ((SO.out _ _ S13.out).mono ?_) AllReadyH.nil)
          rintro e v10 ⟨r2, rfl, ho, hb⟩
          have BV := Lib.hid (BV.out.trans (hb.mono BV.out.size))
          have S17 := Lib.hid (S17.out.step hb)
          have S13 := Lib.hid (S13.out.step hb)
          have SR := Lib.hid ho
          clear ho
          clear hb
          refine ⟨_, rfl, BV.out, fun _ => ?_⟩
          simp only [Act.put, List.setIfInBounds_toArray, List.set_cons_zero, List.set_cons_succ]
          refine wpAnyH_ready (rs := [7]) (by kernel_rfl) (by simp) (br_call (i := 7) 18 10 #[r2, .slice (some ⟨k8, 0, none⟩) 2 2] rfl rfl rfl (by go_simp) ((HSB.out _ _ _ SR.out S17.out).mono ?_) AllReadyH.nil)
          rintro e v11 ⟨rfl, hb⟩
          have BV := Lib.hid (BV.out.trans (hb.mono BV.out.size))
          have S17 := Lib.hid (S17.out.step hb)
          have S13 := Lib.hid (S13.out.step hb)
          have SR := Lib.hid (SR.out.step hb)
          clear hb
          refine ⟨_, rfl, BV.out, fun _ => ?_⟩
          simp only [Act.put, List.setIfInBounds_toArray, List.set_cons_zero, List.set_cons_succ]
          refine take_at (i := 8) 19 ?_ rfl rfl (by kernel_rfl) (by kernel_rfl) (by kernel_rfl) (fun _ _ _ h => h) (.inl ⟨rfl, ?_⟩) BV.out ?_
          rotate_left 1
          · intro w hSw; go_simp; try with_reducible rfl
          simp only [Act.put, List.setIfInBounds_toArray, List.set_cons_zero, List.set_cons_succ]
          refine take_at (i := 9) 20 ?_ rfl rfl (by kernel_rfl) (by kernel_rfl) (by kernel_rfl) (fun _ _ _ h => h) (.inl ⟨rfl, ?_⟩) BV.out ?_
          rotate_left 1
          · intro w hSw; go_simp; try with_reducible rfl
          simp only [Act.put, List.setIfInBounds_toArray, List.set_cons_zero, List.set_cons_succ]
          refine take_at (i := 10) 21 (.agg #[.int .i64 a.t, .int .i64 a.r]) rfl rfl (by kernel_rfl) (by kernel_rfl) (by kernel_rfl) (fun _ _ _ h => h) (yields_ld (.tmp 20) 23 (.pointer (some ⟨w.heap.size, 0, none⟩)) _ MA.out rfl rfl rfl) BV.out ?_
          simp only [Act.put, List.setIfInBounds_toArray, List.set_cons_zero, List.set_cons_succ]
          refine take_at (i := 11) 22 ?_ rfl rfl (by kernel_rfl) (by kernel_rfl) (by kernel_rfl) (fun _ _ _ h => h) (.inl ⟨rfl, ?_⟩) BV.out ?_
          rotate_left 1
          · intro w hSw; go_simp; try with_reducible rfl
          simp only [Act.put, List.setIfInBounds_toArray, List.set_cons_zero, List.set_cons_succ]
          refine take_at (i := 12) 23 (.agg #[.int .i64 b.t, .int .i64 b.r]) rfl rfl (by kernel_rfl) (by kernel_rfl) (by kernel_rfl) (fun _ _ _ h => h) (yields_ld (.tmp 22) 23 (.pointer (some ⟨w.heap.size + 1, 0, none⟩)) _ MB.out rfl rfl rfl) BV.out ?_
          simp only [Act.put, List.setIfInBounds_toArray, List.set_cons_zero, List.set_cons_succ]
          refine take_at (i := 13) 24 (.bool true) rfl rfl (by kernel_rfl) (by kernel_rfl) (by kernel_rfl) (fun _ _ _ h => h) (.inl ⟨rfl, fun w hSw => by go_simp⟩) BV.out ?_
          simp only [Act.put, List.setIfInBounds_toArray, List.set_cons_zero, List.set_cons_succ]
          refine take_at (i := 14) 25 ?_ rfl rfl (by kernel_rfl) (by kernel_rfl) (by kernel_rfl) (fun _ _ _ h => h) (.inl ⟨rfl, ?_⟩) BV.out ?_
          rotate_left 1
          · intro w hSw; go_simp; try with_reducible rfl
          simp only [Act.put, List.setIfInBounds_toArray, List.set_cons_zero, List.set_cons_succ]
          refine wpAnyH_done (by kernel_rfl) ?_ _
          have HC := (KEEP.out _ BV.out)
          obtain ⟨c0, c1, c2, c3, c4, c5, c6, c7, c8, d0, d1, d2, d3, d4, d5, d6, d7, d8⟩ := HC
          go_wp2_with fail
          go_meet
          exact ⟨rfl, by first | rfl | (rw [x1]; rfl) | (rw [x1, x2]; rfl), BV.out⟩
      · have HCW := Lib.hid x3
        clear x3
        refine wp_region_held_drew (S := fun w' => Below V1.heap.size V1 w') (by kernel_rfl) (Below.refl _ _).drew (fun hHeld => ?_)
        have BV := Lib.hid (show Below V1.heap.size V1 V1.drew from (Below.refl _ _).drew)
        clear hHeld
        refine take_at (i := 0) 11 (.agg #[.int .i64 a.t, .int .i64 a.r, .int .i64 a.q, .int .i64 a.nt, .int .i64 a.nr, .int .i64 a.pt, .int .i64 a.pr, .string a.nm, .bool a.d]) rfl rfl (by kernel_rfl) (by kernel_rfl) (by kernel_rfl) (fun _ _ _ h => h) (yields_ld (.tmp 2) 25 (.pointer (some ⟨w.heap.size, 0, none⟩)) _ LA.out rfl rfl rfl) BV.out ?_
        simp only [Act.put, List.setIfInBounds_toArray, List.set_cons_zero, List.set_cons_succ]
        refine take_at (i := 1) 12 (.agg #[.int .i64 b.t, .int .i64 b.r, .int .i64 b.q, .int .i64 b.nt, .int .i64 b.nr, .int .i64 b.pt, .int .i64 b.pr, .string b.nm, .bool b.d]) rfl rfl (by kernel_rfl) (by kernel_rfl) (by kernel_rfl) (fun _ _ _ h => h) (yields_ld (.tmp 3) 25 (.pointer (some ⟨w.heap.size + 1, 0, none⟩)) _ LB.out rfl rfl rfl) BV.out ?_
        simp only [Act.put, List.setIfInBounds_toArray, List.set_cons_zero, List.set_cons_succ]
        refine take_at (i := 4) 15 (.agg #[.int .i64 b.t, .int .i64 b.r, .int .i64 b.q, .int .i64 b.nt, .int .i64 b.nr, .int .i64 b.pt, .int .i64 b.pr, .string b.nm, .bool b.d]) rfl rfl (by kernel_rfl) (by kernel_rfl) (by kernel_rfl) (fun _ _ _ h => h) (yields_ld (.tmp 3) 25 (.pointer (some ⟨w.heap.size + 1, 0, none⟩)) _ LB.out rfl rfl rfl) BV.out ?_
        simp only [Act.put, List.setIfInBounds_toArray, List.set_cons_zero, List.set_cons_succ]
        refine take_at (i := 5) 16 (.agg #[.int .i64 a.t, .int .i64 a.r, .int .i64 a.q, .int .i64 a.nt, .int .i64 a.nr, .int .i64 a.pt, .int .i64 a.pr, .string a.nm, .bool a.d]) rfl rfl (by kernel_rfl) (by kernel_rfl) (by kernel_rfl) (fun _ _ _ h => h) (yields_ld (.tmp 2) 25 (.pointer (some ⟨w.heap.size, 0, none⟩)) _ LA.out rfl rfl rfl) BV.out ?_
        simp only [Act.put, List.setIfInBounds_toArray, List.set_cons_zero, List.set_cons_succ]
        refine wpAnyH_ready (rs := [2, 6]) (by kernel_rfl) (by simp) (br_bslice (i := 2) 13 27 2 _ #[(0, .agg #[.int .i64 a.t, .int .i64 a.r, .int .i64 a.q, .int .i64 a.nt, .int .i64 a.nr, .int .i64 a.pt, .int .i64 a.pr, .string a.nm, .bool a.d]), (1, .agg #[.int .i64 b.t, .int .i64 b.r, .int .i64 b.q, .int .i64 b.nt, .int .i64 b.nr, .int .i64 b.pt, .int .i64 b.pr, .string b.nm, .bool b.d])] _ _ rfl rfl rfl rfl rfl ((fun W => bs_op2 W a b) V1.drew) (BV.out.trans ((vstep V1.drew _).mono BV.out.size)) (fun _ => ?_) (br_bslice (i := 6) 17 27 2 _ #[(0, .agg #[.int .i64 b.t, .int .i64 b.r, .int .i64 b.q, .int .i64 b.nt, .int .i64 b.nr, .int .i64 b.pt, .int .i64 b.pr, .string b.nm, .bool b.d]), (1, .agg #[.int .i64 a.t, .int .i64 a.r, .int .i64 a.q, .int .i64 a.nt, .int .i64 a.nr, .int .i64 a.pt, .int .i64 a.pr, .string a.nm, .bool a.d])] _ _ rfl rfl rfl rfl rfl ((fun W => bs_op2 W b a) V1.drew) (BV.out.trans ((vstep V1.drew _).mono BV.out.size)) (fun _ => ?_) AllReadyH.nil))
        · obtain ⟨v1, hv1⟩ : ∃ x, V1.drew.alloc (.cells (arr2 a b) 25) = x := ⟨_, rfl⟩
          have hb : Below V1.drew.heap.size V1.drew v1 := by rw [← hv1]; exact vstep V1.drew _
          have S13 := Lib.hid (show OLies v1 (.slice (some ⟨V1.drew.heap.size, 0, none⟩) 2 2) [a, b] from by rw [← hv1]; exact two_op V1.drew a b)
          rw [hv1]
          obtain ⟨k1, hk1⟩ : ∃ x, V1.drew.heap.size = x := ⟨_, rfl⟩
          rw [hk1] at S13 ⊢
          have BV := Lib.hid (BV.out.trans (hb.mono BV.out.size))
          clear hb hv1 hk1
          simp only [Act.put, List.setIfInBounds_toArray, List.set_cons_zero, List.set_cons_succ]
          refine wpAnyH_ready (rs := [3, 6]) (by kernel_rfl) (by simp) (br_call (i := 3) 14 11 #[.slice (some ⟨k1, 0, none⟩) 2 2] rfl rfl rfl (by go_simp) ((SO.out _ _ S13.out).mono ?_) (br_bslice (i := 6) 17 27 2 _ #[(0, .agg #[.int .i64 b.t, .int .i64 b.r, .int .i64 b.q, .int .i64 b.nt, .int .i64 b.nr, .int .i64 b.pt, .int .i64 b.pr, .string b.nm, .bool b.d]), (1, .agg #[.int .i64 a.t, .int .i64 a.r, .int .i64 a.q, .int .i64 a.nt, .int .i64 a.nr, .int .i64 a.pt, .int .i64 a.pr, .string a.nm, .bool a.d])] _ _ rfl rfl rfl rfl rfl ((fun W => bs_op2 W b a) v1) (BV.out.trans ((vstep v1 _).mono BV.out.size)) (fun _ => ?_) AllReadyH.nil))
          · rintro e v2 ⟨r2, rfl, ho, hb⟩
            have BV := Lib.hid (BV.out.trans (hb.mono BV.out.size))
            have S13 := Lib.hid (S13.out.step hb)
            have SR := Lib.hid ho
            clear ho
            clear hb
            refine ⟨_, rfl, BV.out, fun _ => ?_⟩
            simp only [Act.put, List.setIfInBounds_toArray, List.set_cons_zero, List.set_cons_succ]
            refine wpAnyH_ready (rs := [6]) (by kernel_rfl) (by simp) (br_bslice (i := 6) 17 27 2 _ #[(0, .agg #[.int .i64 b.t, .int .i64 b.r, .int .i64 b.q, .int .i64 b.nt, .int .i64 b.nr, .int .i64 b.pt, .int .i64 b.pr, .string b.nm, .bool b.d]), (1, .agg #[.int .i64 a.t, .int .i64 a.r, .int .i64 a.q, .int .i64 a.nt, .int .i64 a.nr, .int .i64 a.pt, .int .i64 a.pr, .string a.nm, .bool a.d])] _ _ rfl rfl rfl rfl rfl ((fun W => bs_op2 W b a) v2) (BV.out.trans ((vstep v2 _).mono BV.out.size)) (fun _ => ?_) AllReadyH.nil)
            obtain ⟨v3, hv3⟩ : ∃ x, v2.alloc (.cells (arr2 b a) 25) = x := ⟨_, rfl⟩
            have hb : Below v2.heap.size v2 v3 := by rw [← hv3]; exact vstep v2 _
            have S17 := Lib.hid (show OLies v3 (.slice (some ⟨v2.heap.size, 0, none⟩) 2 2) [b, a] from by rw [← hv3]; exact two_op v2 b a)
            rw [hv3]
            obtain ⟨k3, hk3⟩ : ∃ x, v2.heap.size = x := ⟨_, rfl⟩
            rw [hk3] at S17 ⊢
            have BV := Lib.hid (BV.out.trans (hb.mono BV.out.size))
            have S13 := Lib.hid (S13.out.step hb)
            have SR := Lib.hid (SR.out.step hb)
            clear hb hv3 hk3
            simp only [Act.put, List.setIfInBounds_toArray, List.set_cons_zero, List.set_cons_succ]
            refine wpAnyH_ready (rs := [7]) (by kernel_rfl) (by simp) (br_call (i := 7) 18 10 #[r2, .slice (some ⟨k3, 0, none⟩) 2 2] rfl rfl rfl (by go_simp) ((HSB.out _ _ _ SR.out S17.out).mono ?_) AllReadyH.nil)
            rintro e v4 ⟨rfl, hb⟩
            have BV := Lib.hid (BV.out.trans (hb.mono BV.out.size))
            have S13 := Lib.hid (S13.out.step hb)
            have SR := Lib.hid (SR.out.step hb)
            have S17 := Lib.hid (S17.out.step hb)
            clear hb
            refine ⟨_, rfl, BV.out, fun _ => ?_⟩
            simp only [Act.put, List.setIfInBounds_toArray, List.set_cons_zero, List.set_cons_succ]
            refine take_at (i := 8) 19 ?_ rfl rfl (by kernel_rfl) (by kernel_rfl) (by kernel_rfl) (fun _ _ _ h => h) (.inl ⟨rfl, ?_⟩) BV.out ?_
            rotate_left 1
            · intro w hSw; go_simp; try with_reducible rfl
            simp only [Act.put, List.setIfInBounds_toArray, List.set_cons_zero, List.set_cons_succ]
            refine take_at (i := 9) 20 undef rfl rfl (by kernel_rfl) (by kernel_rfl) (by kernel_rfl) (fun _ _ _ h => h) (.inr ⟨rfl, rfl⟩) BV.out ?_
            simp only [Act.put, List.setIfInBounds_toArray, List.set_cons_zero, List.set_cons_succ]
            refine take_at (i := 10) 21 undef rfl rfl (by kernel_rfl) (by kernel_rfl) (by kernel_rfl) (fun _ _ _ h => h) (.inr ⟨rfl, rfl⟩) BV.out ?_
            simp only [Act.put, List.setIfInBounds_toArray, List.set_cons_zero, List.set_cons_succ]
            refine take_at (i := 11) 22 undef rfl rfl (by kernel_rfl) (by kernel_rfl) (by kernel_rfl) (fun _ _ _ h => h) (.inr ⟨rfl, rfl⟩) BV.out ?_
            simp only [Act.put, List.setIfInBounds_toArray, List.set_cons_zero, List.set_cons_succ]
            refine take_at (i := 12) 23 undef rfl rfl (by kernel_rfl) (by kernel_rfl) (by kernel_rfl) (fun _ _ _ h => h) (.inr ⟨rfl, rfl⟩) BV.out ?_
            simp only [Act.put, List.setIfInBounds_toArray, List.set_cons_zero, List.set_cons_succ]
            refine take_at (i := 13) 24 undef rfl rfl (by kernel_rfl) (by kernel_rfl) (by kernel_rfl) (fun _ _ _ h => h) (.inr ⟨rfl, rfl⟩) BV.out ?_
            simp only [Act.put, List.setIfInBounds_toArray, List.set_cons_zero, List.set_cons_succ]
            refine take_at (i := 14) 25 ?_ rfl rfl (by kernel_rfl) (by kernel_rfl) (by kernel_rfl) (fun _ _ _ h => h) (.inl ⟨rfl, ?_⟩) BV.out ?_
            rotate_left 1
            · intro w hSw; go_simp; try with_reducible rfl
            simp only [Act.put, List.setIfInBounds_toArray, List.set_cons_zero, List.set_cons_succ]
            refine wpAnyH_done (by kernel_rfl) ?_ _
            have HC := (KEEP.out _ BV.out)
            obtain ⟨c0, c1, c2, c3, c4, c5, c6, c7, c8, d0, d1, d2, d3, d4, d5, d6, d7, d8⟩ := HC
            go_wp2_with fail
            go_meet
            exact ⟨rfl, by first | rfl | (rw [x1]; rfl) | (rw [x1, x2]; rfl), BV.out⟩
          · obtain ⟨v5, hv5⟩ : ∃ x, v1.alloc (.cells (arr2 b a) 25) = x := ⟨_, rfl⟩
            have hb : Below v1.heap.size v1 v5 := by rw [← hv5]; exact vstep v1 _
            have S17 := Lib.hid (show OLies v5 (.slice (some ⟨v1.heap.size, 0, none⟩) 2 2) [b, a] from by rw [← hv5]; exact two_op v1 b a)
            rw [hv5]
            obtain ⟨k5, hk5⟩ : ∃ x, v1.heap.size = x := ⟨_, rfl⟩
            rw [hk5] at S17 ⊢
            have BV := Lib.hid (BV.out.trans (hb.mono BV.out.size))
            have S13 := Lib.hid (S13.out.step hb)
            clear hb hv5 hk5
            simp only [Act.put, List.setIfInBounds_toArray, List.set_cons_zero, List.set_cons_succ]
            refine wpAnyH_ready (rs := [3]) (by kernel_rfl) (by simp) (br_call (i := 3) 14 11 #[.slice (some ⟨k1, 0, none⟩) 2 2] rfl rfl rfl (by go_simp) ((SO.out _ _ S13.out).mono ?_) AllReadyH.nil)
            rintro e v6 ⟨r2, rfl, ho, hb⟩
            have BV := Lib.hid (BV.out.trans (hb.mono BV.out.size))
            have S13 := Lib.hid (S13.out.step hb)
            have S17 := Lib.hid (S17.out.step hb)
            have SR := Lib.hid ho
            clear ho
            clear hb
            refine ⟨_, rfl, BV.out, fun _ => ?_⟩
            simp only [Act.put, List.setIfInBounds_toArray, List.set_cons_zero, List.set_cons_succ]
            refine wpAnyH_ready (rs := [7]) (by kernel_rfl) (by simp) (br_call (i := 7) 18 10 #[r2, .slice (some ⟨k5, 0, none⟩) 2 2] rfl rfl rfl (by go_simp) ((HSB.out _ _ _ SR.out S17.out).mono ?_) AllReadyH.nil)
            rintro e v7 ⟨rfl, hb⟩
            have BV := Lib.hid (BV.out.trans (hb.mono BV.out.size))
            have S13 := Lib.hid (S13.out.step hb)
            have S17 := Lib.hid (S17.out.step hb)
            have SR := Lib.hid (SR.out.step hb)
            clear hb
            refine ⟨_, rfl, BV.out, fun _ => ?_⟩
            simp only [Act.put, List.setIfInBounds_toArray, List.set_cons_zero, List.set_cons_succ]
            refine take_at (i := 8) 19 ?_ rfl rfl (by kernel_rfl) (by kernel_rfl) (by kernel_rfl) (fun _ _ _ h => h) (.inl ⟨rfl, ?_⟩) BV.out ?_
            rotate_left 1
            · intro w hSw; go_simp; try with_reducible rfl
            simp only [Act.put, List.setIfInBounds_toArray, List.set_cons_zero, List.set_cons_succ]
            refine take_at (i := 9) 20 undef rfl rfl (by kernel_rfl) (by kernel_rfl) (by kernel_rfl) (fun _ _ _ h => h) (.inr ⟨rfl, rfl⟩) BV.out ?_
            simp only [Act.put, List.setIfInBounds_toArray, List.set_cons_zero, List.set_cons_succ]
            refine take_at (i := 10) 21 undef rfl rfl (by kernel_rfl) (by kernel_rfl) (by kernel_rfl) (fun _ _ _ h => h) (.inr ⟨rfl, rfl⟩) BV.out ?_
            simp only [Act.put, List.setIfInBounds_toArray, List.set_cons_zero, List.set_cons_succ]
            refine take_at (i := 11) 22 undef rfl rfl (by kernel_rfl) (by kernel_rfl) (by kernel_rfl) (fun _ _ _ h => h) (.inr ⟨rfl, rfl⟩) BV.out ?_
            simp only [Act.put, List.setIfInBounds_toArray, List.set_cons_zero, List.set_cons_succ]
            refine take_at (i := 12) 23 undef rfl rfl (by kernel_rfl) (by kernel_rfl) (by kernel_rfl) (fun _ _ _ h => h) (.inr ⟨rfl, rfl⟩) BV.out ?_
            simp only [Act.put, List.setIfInBounds_toArray, List.set_cons_zero, List.set_cons_succ]
            refine take_at (i := 13) 24 undef rfl rfl (by kernel_rfl) (by kernel_rfl) (by kernel_rfl) (fun _ _ _ h => h) (.inr ⟨rfl, rfl⟩) BV.out ?_
            simp only [Act.put, List.setIfInBounds_toArray, List.set_cons_zero, List.set_cons_succ]
            refine take_at (i := 14) 25 ?_ rfl rfl (by kernel_rfl) (by kernel_rfl) (by kernel_rfl) (fun _ _ _ h => h) (.inl ⟨rfl, ?_⟩) BV.out ?_
            rotate_left 1
            · intro w hSw; go_simp; try with_reducible rfl
            simp only [Act.put, List.setIfInBounds_toArray, List.set_cons_zero, List.set_cons_succ]
            refine wpAnyH_done (by kernel_rfl) ?_ _
            have HC := (KEEP.out _ BV.out)
            obtain ⟨c0, c1, c2, c3, c4, c5, c6, c7, c8, d0, d1, d2, d3, d4, d5, d6, d7, d8⟩ := HC
            go_wp2_with fail
            go_meet
            exact ⟨rfl, by first | rfl | (rw [x1]; rfl) | (rw [x1, x2]; rfl), BV.out⟩
        · obtain ⟨v8, hv8⟩ : ∃ x, V1.drew.alloc (.cells (arr2 b a) 25) = x := ⟨_, rfl⟩
          have hb : Below V1.drew.heap.size V1.drew v8 := by rw [← hv8]; exact vstep V1.drew _
          have S17 := Lib.hid (show OLies v8 (.slice (some ⟨V1.drew.heap.size, 0, none⟩) 2 2) [b, a] from by rw [← hv8]; exact two_op V1.drew b a)
          rw [hv8]
          obtain ⟨k8, hk8⟩ : ∃ x, V1.drew.heap.size = x := ⟨_, rfl⟩
          rw [hk8] at S17 ⊢
          have BV := Lib.hid (BV.out.trans (hb.mono BV.out.size))
          clear hb hv8 hk8
          simp only [Act.put, List.setIfInBounds_toArray, List.set_cons_zero, List.set_cons_succ]
          refine wpAnyH_ready (rs := [2]) (by kernel_rfl) (by simp) (br_bslice (i := 2) 13 27 2 _ #[(0, .agg #[.int .i64 a.t, .int .i64 a.r, .int .i64 a.q, .int .i64 a.nt, .int .i64 a.nr, .int .i64 a.pt, .int .i64 a.pr, .string a.nm, .bool a.d]), (1, .agg #[.int .i64 b.t, .int .i64 b.r, .int .i64 b.q, .int .i64 b.nt, .int .i64 b.nr, .int .i64 b.pt, .int .i64 b.pr, .string b.nm, .bool b.d])] _ _ rfl rfl rfl rfl rfl ((fun W => bs_op2 W a b) v8) (BV.out.trans ((vstep v8 _).mono BV.out.size)) (fun _ => ?_) AllReadyH.nil)
          obtain ⟨v9, hv9⟩ : ∃ x, v8.alloc (.cells (arr2 a b) 25) = x := ⟨_, rfl⟩
          have hb : Below v8.heap.size v8 v9 := by rw [← hv9]; exact vstep v8 _
          have S13 := Lib.hid (show OLies v9 (.slice (some ⟨v8.heap.size, 0, none⟩) 2 2) [a, b] from by rw [← hv9]; exact two_op v8 a b)
          rw [hv9]
          obtain ⟨k9, hk9⟩ : ∃ x, v8.heap.size = x := ⟨_, rfl⟩
          rw [hk9] at S13 ⊢
          have BV := Lib.hid (BV.out.trans (hb.mono BV.out.size))
          have S17 := Lib.hid (S17.out.step hb)
          clear hb hv9 hk9
          simp only [Act.put, List.setIfInBounds_toArray, List.set_cons_zero, List.set_cons_succ]
          refine wpAnyH_ready (rs := [3]) (by kernel_rfl) (by simp) (br_call (i := 3) 14 11 #[.slice (some ⟨k9, 0, none⟩) 2 2] rfl rfl rfl (by go_simp) ((SO.out _ _ S13.out).mono ?_) AllReadyH.nil)
          rintro e v10 ⟨r2, rfl, ho, hb⟩
          have BV := Lib.hid (BV.out.trans (hb.mono BV.out.size))
          have S17 := Lib.hid (S17.out.step hb)
          have S13 := Lib.hid (S13.out.step hb)
          have SR := Lib.hid ho
          clear ho
          clear hb
          refine ⟨_, rfl, BV.out, fun _ => ?_⟩
          simp only [Act.put, List.setIfInBounds_toArray, List.set_cons_zero, List.set_cons_succ]
          refine wpAnyH_ready (rs := [7]) (by kernel_rfl) (by simp) (br_call (i := 7) 18 10 #[r2, .slice (some ⟨k8, 0, none⟩) 2 2] rfl rfl rfl (by go_simp) ((HSB.out _ _ _ SR.out S17.out).mono ?_) AllReadyH.nil)
          rintro e v11 ⟨rfl, hb⟩
          have BV := Lib.hid (BV.out.trans (hb.mono BV.out.size))
          have S17 := Lib.hid (S17.out.step hb)
          have S13 := Lib.hid (S13.out.step hb)
          have SR := Lib.hid (SR.out.step hb)
          clear hb
          refine ⟨_, rfl, BV.out, fun _ => ?_⟩
          simp only [Act.put, List.setIfInBounds_toArray, List.set_cons_zero, List.set_cons_succ]
          refine take_at (i := 8) 19 ?_ rfl rfl (by kernel_rfl) (by kernel_rfl) (by kernel_rfl) (fun _ _ _ h => h) (.inl ⟨rfl, ?_⟩) BV.out ?_
          rotate_left 1
          · intro w hSw; go_simp; try with_reducible rfl
          simp only [Act.put, List.setIfInBounds_toArray, List.set_cons_zero, List.set_cons_succ]
          refine take_at (i := 9) 20 undef rfl rfl (by kernel_rfl) (by kernel_rfl) (by kernel_rfl) (fun _ _ _ h => h) (.inr ⟨rfl, rfl⟩) BV.out ?_
          simp only [Act.put, List.setIfInBounds_toArray, List.set_cons_zero, List.set_cons_succ]
          refine take_at (i := 10) 21 undef rfl rfl (by kernel_rfl) (by kernel_rfl) (by kernel_rfl) (fun _ _ _ h => h) (.inr ⟨rfl, rfl⟩) BV.out ?_
          simp only [Act.put, List.setIfInBounds_toArray, List.set_cons_zero, List.set_cons_succ]
          refine take_at (i := 11) 22 undef rfl rfl (by kernel_rfl) (by kernel_rfl) (by kernel_rfl) (fun _ _ _ h => h) (.inr ⟨rfl, rfl⟩) BV.out ?_
          simp only [Act.put, List.setIfInBounds_toArray, List.set_cons_zero, List.set_cons_succ]
          refine take_at (i := 12) 23 undef rfl rfl (by kernel_rfl) (by kernel_rfl) (by kernel_rfl) (fun _ _ _ h => h) (.inr ⟨rfl, rfl⟩) BV.out ?_
          simp only [Act.put, List.setIfInBounds_toArray, List.set_cons_zero, List.set_cons_succ]
          refine take_at (i := 13) 24 undef rfl rfl (by kernel_rfl) (by kernel_rfl) (by kernel_rfl) (fun _ _ _ h => h) (.inr ⟨rfl, rfl⟩) BV.out ?_
          simp only [Act.put, List.setIfInBounds_toArray, List.set_cons_zero, List.set_cons_succ]
          refine take_at (i := 14) 25 ?_ rfl rfl (by kernel_rfl) (by kernel_rfl) (by kernel_rfl) (fun _ _ _ h => h) (.inl ⟨rfl, ?_⟩) BV.out ?_
          rotate_left 1
          · intro w hSw; go_simp; try with_reducible rfl
          simp only [Act.put, List.setIfInBounds_toArray, List.set_cons_zero, List.set_cons_succ]
          refine wpAnyH_done (by kernel_rfl) ?_ _
          have HC := (KEEP.out _ BV.out)
          obtain ⟨c0, c1, c2, c3, c4, c5, c6, c7, c8, d0, d1, d2, d3, d4, d5, d6, d7, d8⟩ := HC
          go_wp2_with fail
          go_meet
          exact ⟨rfl, by first | rfl | (rw [x1]; rfl) | (rw [x1, x2]; rfl), BV.out⟩
    case rest =>
      obtain ⟨rfl, htv, hbw⟩ := hcut
      have BC := Lib.hid hbw
      have W2 := WANT.out _ rfl
      obtain ⟨tq, htq⟩ : ∃ x, (sameO sl [b, a] && !(a.t == b.t && a.r == b.r)) = x := ⟨_, rfl⟩
      rw [htq] at htv
      subst htv
      have W3 : (∃ x1 : (a.t == b.t) = true, (a.r == b.r) = true ∧ tq = false ∧ cw = 0) ∨ (((a.t == b.t) = false ∨ ((a.t == b.t) = true ∧ (a.r == b.r) = false)) ∧ ((tq = true ∧ cw = 1) ∨ (tq = false ∧ cw = -1))) := by
        rcases W2 with ⟨h1, h2, h3⟩ | ⟨h1, h2, h3⟩ | ⟨h1, h2, h3⟩
        · exact .inl ⟨beqb_ _ _ h1, beqb_ _ _ h2, by rw [← htq, beqb_ _ _ h1, beqb_ _ _ h2]; simp, h3⟩
        · exact .inr ⟨no2 h1, .inl ⟨by rw [← htq, h2]; rcases no2 h1 with e | ⟨e, f⟩ <;> simp [*], h3⟩⟩
        · exact .inr ⟨no2 h1, .inr ⟨by rw [← htq, h2]; rfl, h3⟩⟩
      have W4 := Lib.hid W3
      clear W2 W3 htq WANT SM SO
      go_upto_if 25 with (fail)
      go_cut [5] from 26 to 30 (fun wv wx => wv = .int .i64 cw ∧ wx = wc)
      case first =>
        obtain ⟨c0, c1, c2, c3, c4, c5, c6, c7, c8, d0, d1, d2, d3, d4, d5, d6, d7, d8⟩ := KEEP.out _ BC.out
        rcases W4.out with ⟨x1, x2, rfl, x3⟩ | ⟨x1 | ⟨x1, x2⟩, ⟨rfl, x3⟩ | ⟨rfl, x3⟩⟩
        all_goals
          have HCW := Lib.hid x3
          clear x3 W4
          go_wp2_with fail
          go_meet
          exact ⟨by rw [HCW.out], rfl⟩
      case rest =>
      obtain ⟨rfl, rfl⟩ := hcut
      clear W4
      have KL := Lib.hid (fun x : Later wc => (KEEP.out x.w (hbw.trans (x.below.mono hbw.size))))
      clear hbw
      have g0 := fun x : Later wc => (KL.out x).1
      have g1 := fun x : Later wc => (KL.out x).2.1
      have g2 := fun x : Later wc => (KL.out x).2.2.1
      have g3 := fun x : Later wc => (KL.out x).2.2.2.1
      have g4 := fun x : Later wc => (KL.out x).2.2.2.2.1
      have g5 := fun x : Later wc => (KL.out x).2.2.2.2.2.1
      have g6 := fun x : Later wc => (KL.out x).2.2.2.2.2.2.1
      have g7 := fun x : Later wc => (KL.out x).2.2.2.2.2.2.2.1
      have g8 := fun x : Later wc => (KL.out x).2.2.2.2.2.2.2.2.1
      have h0 := fun x : Later wc => (KL.out x).2.2.2.2.2.2.2.2.2.1
      have h1 := fun x : Later wc => (KL.out x).2.2.2.2.2.2.2.2.2.2.1
      have h2 := fun x : Later wc => (KL.out x).2.2.2.2.2.2.2.2.2.2.2.1
      have h3 := fun x : Later wc => (KL.out x).2.2.2.2.2.2.2.2.2.2.2.2.1
      have h4 := fun x : Later wc => (KL.out x).2.2.2.2.2.2.2.2.2.2.2.2.2.1
      have h5 := fun x : Later wc => (KL.out x).2.2.2.2.2.2.2.2.2.2.2.2.2.2.1
      have h6 := fun x : Later wc => (KL.out x).2.2.2.2.2.2.2.2.2.2.2.2.2.2.2.1
      have h7 := fun x : Later wc => (KL.out x).2.2.2.2.2.2.2.2.2.2.2.2.2.2.2.2.1
      have h8 := fun x : Later wc => (KL.out x).2.2.2.2.2.2.2.2.2.2.2.2.2.2.2.2.2
      have LRR := Lib.hid (fun x : Later wc => RR.out x.w (BC.out.trans (x.below.mono BC.out.size)))
      have LRQ := Lib.hid (fun x : Later wc => RQ.out x.w (BC.out.trans (x.below.mono BC.out.size)))
      have LKK := Lib.hid (fun x : Later wc => KK.out x.w (BC.out.trans (x.below.mono BC.out.size)))
      have LKQ := Lib.hid (fun x : Later wc => KQ.out x.w (BC.out.trans (x.below.mono BC.out.size)))
      have LCC := Lib.hid (fun x : Later wc => CC.out x.w (BC.out.trans (x.below.mono BC.out.size)))
      have LTT := Lib.hid (fun x : Later wc => TT.out x.w (BC.out.trans (x.below.mono BC.out.size)))
      have LTQ := Lib.hid (fun x : Later wc => TQ.out x.w (BC.out.trans (x.below.mono BC.out.size)))
      have LAL := Lib.hid (fun x : Later wc => AL.out x.w (BC.out.trans (x.below.mono BC.out.size)))
      have XB := Lib.hid X1.out.bel
      clear RR RQ KK KQ CC TT TQ AL bs1 bs2
      generalize rB a.t a.r a.q a.nt a.nr a.pt a.pr a.nm = rb at *
      generalize kindI a.t a.r a.nt a.nr a.pt a.pr = kd at *
      generalize textO a.t a.r a.q a.nt a.nr a.pt a.pr a.nm a.d = tx at *
      have b1 : (rb == rb) = true := by cases rb <;> rfl
      have b2 : (tx.toList == tx.toList) = true := tl_eq rfl
      go_upto_region 8 with (fail)
      refine wp_region_later (by kernel_rfl) (by kernel_rfl) ?_
      repeat (go_big_quiet_step (first
        | (go_at_call 12; with_reducible exact later_call (LRR.out _))
        | (go_at_call 13; with_reducible exact later_call (LRQ.out _))
        | (go_at_call 14; with_reducible exact later_call (LKK.out _))
        | (go_at_call 15; with_reducible exact later_call (LKQ.out _))
        | (go_at_call 16; with_reducible exact later_call (LCC.out _))
        | (go_at_call 17; with_reducible exact later_call (LTT.out _))
        | (go_at_call 18; with_reducible exact later_call (LTQ.out _))
        | (go_at_call 9; with_reducible exact later_call (LAL.out _))))
      refine wpQuiet_nil ?_
      rintro _ ⟨xl, rfl⟩
      have X5 := Lib.hid (XB.out.trans ((BC.out.trans (xl.below.mono BC.out.size)).mono XB.out.size))
      generalize xl.w = w4 at *
      go_wp2
      go_returns
      exact ⟨rfl, X5.out⟩
end Go.Proofs.YtifeakmbeaflgaaDoor
