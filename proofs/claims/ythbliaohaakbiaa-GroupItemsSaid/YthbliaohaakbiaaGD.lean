/- Groups compared. -/
import Derived.Test.YthbliaohaakbiaaGC
set_option linter.unusedVariables false
set_option linter.unusedSimpArgs false
set_option maxRecDepth 100000
namespace Go.Proofs.Ythbliaohaakbiaa
open Go.RowKit Go.Sort

set_option maxHeartbeats 1600000 in
theorem cmpfunc_one (w : World) (u v : Value) (p q : Sp) (hu : LiesK encS 2 w u [p]) (hv : LiesK encS 2 w v [q]) :
    Calls Try.prog 25 #[u, v, .func (.func 22) #[] #[]] w fun e w' => e = .returned (.int .i64 (cmpS p q)) ∧ Grew w w' := by
  have HC := Lib.hid (fun W => cmp_st W p q)
  obtain ⟨c, hc⟩ : ∃ c, cmpS p q = c := ⟨_, rfl⟩
  rw [hc] at HC ⊢
  clear hc
  have H1 := Lib.hid hu
  have H2 := Lib.hid hv
  obtain ⟨a1, c1, rfl⟩ := hu.shape
  obtain ⟨a2, c2, rfl⟩ := hv.shape
  obtain ⟨p1, p2⟩ := p
  obtain ⟨q1, q2⟩ := q
  rw [show [(p1, p2)].length = 1 from rfl] at H1 ⊢
  rw [show [(q1, q2)].length = 1 from rfl] at H2 ⊢
  dsimp only at HC
  clear hu hv
  go_enter Try.func25, Try.ntmps25
  go_wp2_with fail
  go_loopw [13] (fun kv wr => ∃ i : Nat, kv = .int .i64 i ∧ Hid (Grew w wr) ∧ (i = 0 ∨ (i = 1 ∧ Hid (c = 0)))) (fun kv _ => 1 - (intOf kv).toNat)
  case atStart => exact ⟨0, rfl, Lib.hid (Grew.refl _), .inl rfl⟩
  case round =>
    obtain ⟨i, rfl, hG, hi⟩ := hrel
    rcases hi with rfl | ⟨rfl, hz⟩
    · obtain ⟨g, o, x, rfl, hx, _, d0, d1⟩ := (H1.out.step hG.out.below).st (i := 0) (by omega)
      obtain ⟨g', o', x', rfl, hx', hg', e0, e1⟩ := (H2.out.step hG.out.below).st (i := 0) (by omega)
      cases hx
      cases hx'
      simp only [Nat.zero_mul, Nat.add_zero] at d0 d1 e0 e1
      have G1 := Lib.hid (((hG.out).alloc (.cells #[.int .i64 p1, .int .i64 p2] 39)).alloc (.cells #[.int .i64 q1, .int .i64 q2] 39))
      by_cases hz : c = 0
      · have HZ := Lib.hid hz
        have t1 : (c != 0) = false := by simp [hz]
        clear hz
        go_wp2_with (go_at_call 22; refine (HC.out _).mono ?_; rintro e w' ⟨rfl, hg⟩; have G2 := Lib.hid (G1.out.trans hg); clear hg)
        go_roundw
        case rel => exact ⟨1, by go_num, G2, .inr ⟨rfl, HZ⟩⟩
        case measure => simp [intOf]
      · have t1 : (c != 0) = true := by simp [hz]
        clear hz
        go_wp2_with (go_at_call 22; refine (HC.out _).mono ?_; rintro e w' ⟨rfl, hg⟩; have G2 := Lib.hid (G1.out.trans hg); clear hg)
        go_returns
        exact ⟨rfl, G2.out⟩
    · have HZ := Lib.hid hz.out
      clear hz
      go_wp2
      go_returns
      exact ⟨by rw [HZ.out]; rfl, hG.out⟩
def cmpG (a b : ByteArray × List Sp) : Int := if a.1 = b.1 then cmpS (h1 a.2) (h1 b.2) else cmpT a.1 b.1
abbrev gvl (n : ByteArray) (d : Bool) (v : Value) : Value := .agg #[.string n, .bool d, v]
set_option maxHeartbeats 3200000 in
theorem cmp_gr (w : World) (n : ByteArray) (d : Bool) (v : Value) (l : List Sp) (n' : ByteArray) (d' : Bool) (v' : Value) (l' : List Sp) (h : LiesK encS 2 w v l) (hne : l ≠ []) (h' : LiesK encS 2 w v' l') (hne' : l' ≠ []) :
    Calls Try.prog 11 #[gvl n d v, gvl n' d' v'] w fun e w' => e = .returned (.int .i64 (cmpG (n, l) (n', l'))) ∧ Grew w w' := by
  unfold cmpG
  dsimp only
  obtain ⟨a1, c1, rfl⟩ := h.shape
  obtain ⟨a2, c2, rfl⟩ := h'.shape
  have G1 := ((Grew.refl w).alloc (.cells #[.string n, .bool d, .slice a1 l.length c1] 32)).alloc (.cells #[.string n', .bool d', .slice a2 l'.length c2] 32)
  have N1 := (heap_alloc_new w (.cells #[.string n, .bool d, .slice a1 l.length c1] 32))
  have N2 := (heap_alloc_new (w.alloc (.cells #[.string n, .bool d, .slice a1 l.length c1] 32)) (.cells #[.string n', .bool d', .slice a2 l'.length c2] 32))
  rw [World.size_alloc] at N2
  have N1 := ((vstep (w.alloc (.cells #[.string n, .bool d, .slice a1 l.length c1] 32)) (.cells #[.string n', .bool d', .slice a2 l'.length c2] 32)).block _ (lt_of_block N1)).trans N1
  have k1 : 1 ≤ l.length ∧ l.length ≤ c1 ∧ c1 ≤ maxLen := by
    obtain ⟨_, _, e, h1, h2, _⟩ := h
    injection e with _ _ e3
    subst e3
    exact ⟨by cases l with | nil => exact absurd rfl hne | cons => simp, h1, h2⟩
  have k2 : 1 ≤ l'.length ∧ l'.length ≤ c2 ∧ c2 ≤ maxLen := by
    obtain ⟨_, _, e, h1, h2, _⟩ := h'
    injection e with _ _ e3
    subst e3
    exact ⟨by cases l' with | nil => exact absurd rfl hne' | cons => simp, h1, h2⟩
  have HF := Lib.hid (fun W => first_any W n d a1 c1 l.length k1.1 k1.2.1 k1.2.2)
  have HF' := Lib.hid (fun W => first_any W n' d' a2 c2 l'.length k2.1 k2.2.1 k2.2.2)
  have CF := Lib.hid (fun W (g : Grew w W) => cmpfunc_one W _ _ (h1 l) (h1 l') (first_lies (h.step g.below) hne) (first_lies (h'.step g.below) hne'))
  have HN := Lib.hid hne
  obtain ⟨W0, hW0⟩ : ∃ y, (w.alloc (.cells #[.string n, .bool d, .slice a1 l.length c1] 32)).alloc (.cells #[.string n', .bool d', .slice a2 l'.length c2] 32) = y := ⟨_, rfl⟩
  rw [hW0] at G1 N1 N2
  have G := Lib.hid G1
  have M1 := Lib.hid N1
  have M2 := Lib.hid N2
  have HW := Lib.hid hW0
  have L1 := Lib.hid h
  have L2 := Lib.hid h'
  clear h h' hne hne' N1 N2 G1 hW0 k1 k2
  by_cases e : n = n'
  · rw [if_pos e]
    have t1 : (n.toList == n'.toList) = true := tl_eq e
    clear e
    go_enter Try.func11, Try.ntmps11
    go_upto_region 1 with (fail)
    rw [HW.out]
    have C1 := Lib.hid (fun W (g : Grew W0 W) => show W.cell? ⟨w.heap.size, 0, none⟩ = some (.string n) ∧ W.cell? ⟨w.heap.size, 1, none⟩ = some (.bool d) ∧ W.cell? ⟨w.heap.size, 2, none⟩ = some (.slice a1 l.length c1) from by
      have := (g.below.block _ (lt_of_block M1.out)).trans M1.out
      refine ⟨?_, ?_, ?_⟩ <;> (rw [cell_of_row _ _ _ _ _ _ this]; rfl))
    have C2 := Lib.hid (fun W (g : Grew W0 W) => show W.cell? ⟨w.heap.size + 1, 0, none⟩ = some (.string n') ∧ W.cell? ⟨w.heap.size + 1, 1, none⟩ = some (.bool d') ∧ W.cell? ⟨w.heap.size + 1, 2, none⟩ = some (.slice a2 l'.length c2) from by
      have := (g.below.block _ (lt_of_block M2.out)).trans M2.out
      refine ⟨?_, ?_, ?_⟩ <;> (rw [cell_of_row _ _ _ _ _ _ this]; rfl))
    obtain ⟨x0, x1, x2⟩ := C1.out W0 (Grew.refl _)
    obtain ⟨f0, f1, f2⟩ := C2.out W0 (Grew.refl _)
    go_upto_region 3 with (fail)
    clear x0 x1 x2 f0 f1 f2
    have x0 := fun z : LaterG W0 => (C1.out z.w z.grew).1
    have x1 := fun z : LaterG W0 => (C1.out z.w z.grew).2.1
    have x2 := fun z : LaterG W0 => (C1.out z.w z.grew).2.2
    have f0 := fun z : LaterG W0 => (C2.out z.w z.grew).1
    have f1 := fun z : LaterG W0 => (C2.out z.w z.grew).2.1
    have f2 := fun z : LaterG W0 => (C2.out z.w z.grew).2.2
    refine wp_region_laterG (by kernel_rfl) (by kernel_rfl) ?_
    repeat (go_big_quiet_step (first | (go_at_call 26; with_reducible exact laterG_call (HF.out _)) | (go_at_call 26; with_reducible exact laterG_call (HF'.out _)) | (go_at_call 25; with_reducible exact laterG_call (CF.out _ (G.out.trans (LaterG.grew _))))))
    refine wpQuiet_nil ?_
    rintro _ ⟨xl, rfl⟩
    have G2 := Lib.hid (G.out.trans xl.grew)
    generalize xl.w = w1 at *
    clear x0 x1 x2 f0 f1 f2
    go_wp2
    go_returns
    exact ⟨rfl, G2.out⟩
  · rw [if_neg e]
    have t1 : (n.toList == n'.toList) = false := tl_ne e
    clear e
    have HC := fun W => cmp_str W n n'
    go_enter Try.func11, Try.ntmps11
    go_upto_region 1 with (fail)
    rw [HW.out]
    have c0 : W0.cell? ⟨w.heap.size, 0, none⟩ = some (.string n) := by rw [cell_of_row _ _ _ _ _ _ M1.out]; rfl
    have f0 : W0.cell? ⟨w.heap.size + 1, 0, none⟩ = some (.string n') := by rw [cell_of_row _ _ _ _ _ _ M2.out]; rfl
    go_wp2_with (go_at_call 24; refine (HC _).mono ?_; rintro e w' ⟨rfl, rfl⟩)
    go_returns
    exact ⟨rfl, G.out⟩
end Go.Proofs.Ythbliaohaakbiaa
