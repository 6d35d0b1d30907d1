/- slices.Clone over steps; Cut of a tree. -/
import Derived.Test.YtkmeceoilighiaaED
set_option linter.unusedVariables false
set_option linter.unusedSimpArgs false
set_option maxRecDepth 100000
namespace Go.Proofs.Ytkmeceoilighiaa
open Go.RowKit Go.Shelf Go.Lib
open Tb (Rw setF dropF getF aboveF Rise TabI TM LiesK TOut)

theorem eqn75 (W : World) : (binOp BinOp.eql 75 (.slice none 0 0) (.slice none 0 0)).run Try.prog W = .ok (.bool true) W := by kernel_rfl
theorem eqs75 (W : World) (a : Addr) (n c : Nat) : (binOp BinOp.eql 75 (.slice (some a) n c) (.slice none 0 0)).run Try.prog W = .ok (.bool false) W := by kernel_rfl
set_option maxHeartbeats 1600000 in
theorem cloneS_any (w : World) (A : Option Addr) (n c : Nat) (S : List Stp) (h : LiesK stc1 15 w (.slice A n c) S) (hl : S.length ≤ 100000) :
    Calls Try.prog 52 #[.slice A n c] w fun e w' => ∃ v, e = .returned v ∧ w'.ownsRow w.heap.size 89 15 v S.length (S.flatMap stc1) ∧ Below w.heap.size w w' := by
  obtain ⟨i0, hi0, hz0, hs0, hb0⟩ := info_parts info89
  obtain ⟨ao, cap, e, h1, h2, h3, h4⟩ := id h
  injection e with e1 e2 e3
  subst e1 e2 e3
  cases A with
  | none =>
    obtain ⟨rfl, rfl⟩ := h3 rfl
    clear h h4
    have q75 := eqn75
    go_enter Try.func52, Try.ntmps52
    go_wp2
    go_returns
    exact ⟨_, rfl, World.ownsRow_nil _ _ _ _, Below.refl _ _⟩
  | some ad =>
    have B1 := Lib.hid (pl_vstep w (.cells #[] 89))
    have SR := Lib.hid ((h.step B1.out).src (P := Try.prog) (t := 75) (e := 89) Try.u75 stc1_len (by decide) stc1_one)
    have O1 := Lib.hid (show (w.alloc (.cells #[] 89)).ownsRow w.heap.size 89 15 (.slice (some ⟨w.heap.size, 0, none⟩) 0 0) 0 [] from World.ownsRow_lit (base := w.heap.size) (e := 89) (size := 15) w #[] 0 (Nat.le_refl _) (by unfold maxLen; omega) rfl)
    have LN := Lib.hid hl
    clear h h3 h4 h1
    have q75 := fun W => eqs75 W ad S.length c
    go_enter Try.func52, Try.ntmps52
    go_wp2_with (at_builtin; refine Tb.wpList_append_src_own rfl (.tmp 5) (.tmp 6) 75 75 rfl w.heap.size 89 i0 _ 15 128 Try.u75 hi0 hz0 hs0 hb0 rfl (by decide) _ _ [] rfl O1.out _ S.length _ rfl SR.out (by have := LN.out; unfold maxLen; omega) (by have := LN.out; omega) (by simp) ?_; intro v' w' r1 r2 r3; have R1 := Lib.hid r1; have R2 := Lib.hid r2; clear r1 r2 r3)
    go_returns
    have r1 := R1.out
    rw [Nat.zero_add, List.nil_append] at r1
    exact ⟨_, rfl, r1, B1.out.grown R2.out (by simp) (fun k e => by cases e; exact Nat.le_refl _)⟩
theorem lies_log {w : World} {B p q mb : Nat} {T0 : List Rw} {ft fr : Int} {L : List O} {la : Option Addr} {lc : Nat} (h : TreeI w B p q mb T0 ft fr L la lc) : LiesK stc1 15 w (.slice la L.length lc) (stepsF T0 L) := by
  have := h.log
  rw [← steps_len L T0] at this
  have h2 := Tb.own_liesK stc1_len this
  rw [steps_len] at h2
  exact h2
theorem steps_drop (T : List Rw) (L : List O) (k : Nat) : (stepsF T L).drop k = stepsF (playF T (L.take k)) (L.drop k) := by
  by_cases h : k ≤ L.length
  · conv => lhs; rw [← List.take_append_drop k L, steps_append]
    have e : (stepsF T (L.take k)).length = k := by rw [steps_len, List.length_take]; omega
    rw [List.drop_append_of_le_length (by omega), List.drop_eq_nil_of_le (by omega), List.nil_append]
  · rw [List.drop_eq_nil_of_le (by rw [steps_len]; omega), List.drop_eq_nil_of_le (by omega)]; rfl
theorem play_take (T : List Rw) (L : List O) (k : Nat) : playF (playF T (L.take k)) (L.drop k) = playF T L := by rw [← play_append, List.take_append_drop]
theorem TreeI.setBox {w w' : World} {B p q mb : Nat} {T0 T1 : List Rw} {ft fr ft' fr' : Int} {L L' : List O} {la la' : Option Addr} {lc lc' : Nat} (h : TreeI w B p q mb T0 ft fr L la lc) (hf : w.grownBy w' (some p)) (hb : w'.heap[p]? = some (.cells #[pv q, .int .i64 ft', .int .i64 fr', .slice la' L'.length lc'] 79 (0, 0)))
    (hp : playF T1 L' = playF T0 L) (hlog : w'.ownsRow B 89 15 (.slice la' L'.length lc') L'.length (stc (stepsF T1 L'))) (hr : Rise T1) (hne : p ≠ q ∧ p ≠ mb) : TreeI w' B p q mb T1 ft' fr' L' la' lc' :=
  ⟨hb, by rw [hp]; exact h.tab.grown hf (fun e => hne.1 (by injection e with e; exact e.symm)) (fun e => hne.2 (by injection e with e; exact e.symm)), hlog, h.lo, hr⟩
theorem setc_far {w : World} {p j : Nat} (v : Value) : w.grownBy (w.setCell ⟨p, j, none⟩ v) (some p) := ⟨rfl, rfl, rfl, by simp [World.setCell], fun k _ hk => Below.heap_setCell _ _ _ _ (fun e => hk (by rw [e]))⟩
/-- What Cut lets go. -/
def cutK (ft fr : Int) (L : List O) (t r : Int) : Nat := if St.cmpS t r ft fr ≤ 0 then 0 else posF L t r + (if hasO L t r = true then 1 else 0)
theorem cutK_le (ft fr : Int) {L : List O} (h : RiseO L) (t r : Int) : cutK ft fr L t r ≤ L.length := by
  unfold cutK
  split
  · omega
  · have h1 := pos_le L t r
    split
    · rename_i hh
      rcases Nat.lt_or_ge (posF L t r) L.length with h2 | h2
      · omega
      · rw [has_end h (by omega)] at hh; cases hh
    · omega
set_option maxHeartbeats 3200000 in
theorem cut_any (w : World) (B p q mb : Nat) (T0 : List Rw) (ft fr : Int) (L : List O) (la : Option Addr) (lc : Nat) (h : TreeI w B p q mb T0 ft fr L la lc) (hu : RiseO L) (hl : L.length ≤ 100000) (hne : p ≠ q ∧ p ≠ mb) (t r : Int) :
    Calls Try.prog 14 #[pv p, .agg #[.int .i64 t, .int .i64 r]] w fun e w' => e = .returned (.int .i64 (cutK ft fr L t r : Nat)) ∧
      ((St.cmpS t r ft fr ≤ 0 ∧ Below w.heap.size w w') ∨ (¬ St.cmpS t r ft fr ≤ 0 ∧ w.grownBy w' (some p) ∧ ∃ la' lc', TreeI w' B p q mb (playF T0 (L.take (cutK ft fr L t r))) t r (L.drop (cutK ft fr L t r)) la' lc')) := by
  have hb := pl_vstep w (.cells #[.int .i64 t, .int .i64 r] 24)
  have HB := Lib.hid hb
  have NS := Lib.hid (fun w1 hb => @SB.new w w1 t r (some ⟨q, 0, none⟩) ft fr la L.length lc hb)
  have H := Lib.hid (h.haveL.step hb)
  have CM := Lib.hid (fun W => St.compare_any W t r ft fr)
  have HS := Lib.hid (lies_log h)
  have ep : (stepsF T0 L).map (·.o) = L := steps_o L T0
  have PL := Lib.hid (fun W (hW : Below w.heap.size w W) => place_of W (some ⟨q, 0, none⟩) ft fr la L.length lc (stepsF T0 L) t r ((lies_log h).step hW) (by rw [ep]; exact hu) (by rw [steps_len]; exact hl))
  rw [ep] at PL
  have HT := Lib.hid h
  have CK := Lib.hid (show cutK ft fr L t r = if St.cmpS t r ft fr ≤ 0 then 0 else posF L t r + (if hasO L t r = true then 1 else 0) from rfl)
  have CL := Lib.hid (cutK_le ft fr hu t r)
  have GX := Lib.hid (fun k (W : World) (hW : Below w.heap.size w W) (hk : k ≤ L.length) => slice_tailK Try.u75 run_size89 ((lies_log h).step hW) hk)
  obtain ⟨ps, hps⟩ : ∃ z, posF L t r = z := ⟨_, rfl⟩
  obtain ⟨hs, hhs⟩ : ∃ z, hasO L t r = z := ⟨_, rfl⟩
  obtain ⟨cz, hcz⟩ : ∃ z, St.cmpS t r ft fr = z := ⟨_, rfl⟩
  obtain ⟨ck, hck⟩ : ∃ z, cutK ft fr L t r = z := ⟨_, rfl⟩
  rw [hps, hhs] at PL CK
  rw [hcz] at CM CK ⊢
  rw [hck] at CK CL ⊢
  clear hb h hu hps hhs hcz hck ep
  go_enter Try.func14, Try.ntmps14
  go_wp2_with fail
  refine (H.out _ (Below.refl _ _)).mono ?_
  rintro e w1 ⟨rfl, hb⟩
  have K := Lib.hid (NS.out w1 hb)
  clear hb
  go_upto_region 2 with (fail)
  generalize w1.alloc (.cells #[.pointer (some ⟨q, 0, none⟩), .int .i64 ft, .int .i64 fr, .slice la L.length lc] 77) = w2 at K ⊢
  obtain ⟨k, hk⟩ : ∃ z, w1.heap.size = z := ⟨_, rfl⟩
  rw [hk] at K ⊢
  clear hk
  obtain ⟨⟨s0, s1⟩, g0, g1, g2, g3⟩ := K.out.cells
  go_wp2_with fail
  refine (CM.out w2).mono ?_
  rintro e w3 ⟨rfl, hb⟩
  have K3 := Lib.hid (K.out.step hb)
  clear hb s0 s1 g0 g1 g2 g3 K
  obtain ⟨⟨s0, s1⟩, g0, g1, g2, g3⟩ := K3.out.cells
  by_cases hz : cz ≤ 0
  · have hd : decide (cz ≤ 0) = true := decide_eq_true hz
    have E := Lib.hid (show ck = 0 by rw [CK.out, if_pos hz])
    have HZ := Lib.hid hz
    clear hz
    go_wp2
    go_returns
    exact ⟨by rw [E.out]; rfl, .inl ⟨HZ.out, K3.out.bel⟩⟩
  · have hd : decide (cz ≤ 0) = false := decide_eq_false hz
    have E := Lib.hid (show ck = ps + (if hs = true then 1 else 0) by rw [CK.out, if_neg hz])
    have HZ := Lib.hid hz
    clear hz
    go_wp2_with fail
    refine (PL.out w3 K3.out.bel).mono ?_
    rintro e w4 ⟨rfl, hb⟩
    have K4 := Lib.hid (K3.out.step hb)
    clear hb s0 s1 g0 g1 g2 g3 K3
    obtain ⟨⟨s0, s1⟩, g0, g1, g2, g3⟩ := K4.out.cells
    obtain ⟨A, hsl, hA⟩ := GX.out ck w4 K4.out.bel CL.out
    have CN := Lib.hid (fun W (hW : Below w4.heap.size w4 W) => cloneS_any W A (L.length - ck) (lc - ck) ((stepsF T0 L).drop ck) (hA.step hW) (by rw [List.length_drop, steps_len]; omega))
    have hck0 : (ck : Int) ≤ (L.length : Int) := by have := CL.out; omega
    have hps9 : ps + (if hs = true then 1 else 0) = ck := E.out.symm
    clear hA
    have w4p := K4.out.bel
    have TB := Lib.hid (fun W (hW : Below w4.heap.size w4 W) => (HT.out.step (w4p.trans (hW.mono w4p.size))))
    have hRl : ((stepsF T0 L).drop ck).length = (L.drop ck).length := by rw [List.length_drop, List.length_drop, steps_len]
    have HRL := Lib.hid hRl
    have HLD := Lib.hid (show (L.drop ck).length = L.length - ck from List.length_drop)
    clear hRl w4p
    rcases Bool.eq_false_or_eq_true hs with rfl | rfl
    · have hp1 : (ps : Int) + 1 = (ck : Int) := by simp at hps9; omega
      have hw1 : wrap64 ((ps : Int) + 1) = (ck : Int) := by unfold wrap64; omega
      clear hps9
      go_upto_region 7 with (fail)
      go_wp2_with fail
      refine (CN.out w4 (Below.refl _ _)).mono ?_
      rintro e w5 ⟨v, rfl, hv, hb⟩
      have K5 := Lib.hid (K4.out.step hb)
      have T5 := Lib.hid (TB.out w5 hb)
      obtain ⟨va, vc, rfl⟩ := Tb.own_shapeK hv
      rw [HRL.out] at hv
      have O5 := Lib.hid hv
      clear hb hv s0 s1 g0 g1 g2 g3
      obtain ⟨⟨s0, s1⟩, g0, g1, g2, g3⟩ := K5.out.cells
      obtain ⟨b0, b1, b2, b3⟩ := box4 T5.out.box
      have f3 := frozen_of_row (j := 3) _ _ _ _ T5.out.box
      rw [HRL.out]
      have hpl := HT.out.plt
      have R6 := Lib.hid (Ve.row_setC (j := 3) (u := .slice va (L.length - ck) vc) T5.out.box)
      have G6 := Lib.hid (setc_far (w := w5) (p := p) (j := 3) (.slice va (L.length - ck) vc))
      have S6 := Lib.hid ((G6.out.block _ (pl_lt K5.out.st) (fun e => by injection e with e; omega)).trans K5.out.st)
      go_upto_region 8 with (fail)
      change Code.wp _ _ _ _ (w5.setCell ⟨p, 3, none⟩ (.slice va (L.length - ck) vc))
      generalize w5.setCell ⟨p, 3, none⟩ (.slice va (L.length - ck) vc) = w6 at R6 G6 S6 ⊢
      clear s0 s1 g0 g1 g2 g3 b0 b1 b2 b3 f3
      have s0 : w6.cell? ⟨w.heap.size, 0, none⟩ = some (.int .i64 t) := by rw [cell_of_row _ _ _ _ _ _ S6.out]; rfl
      have s1 : w6.cell? ⟨w.heap.size, 1, none⟩ = some (.int .i64 r) := by rw [cell_of_row _ _ _ _ _ _ S6.out]; rfl
      have b1 : w6.cell? ⟨p, 1, none⟩ = some (.int .i64 ft) := by rw [cell_of_row _ _ _ _ _ _ R6.out]; rfl
      have b2 : w6.cell? ⟨p, 2, none⟩ = some (.int .i64 fr) := by rw [cell_of_row _ _ _ _ _ _ R6.out]; rfl
      have f1 := frozen_of_row (j := 1) _ _ _ _ R6.out
      have f2 := frozen_of_row (j := 2) _ _ _ _ R6.out
      have R7 := Lib.hid (Ve.row_setC (j := 2) (u := .int .i64 r) (Ve.row_setC (j := 1) (u := .int .i64 t) R6.out))
      have G7 := Lib.hid ((G6.out.andThen (setc_far (j := 1) (.int .i64 t)) (fun j e => Or.inr e)).andThen (setc_far (j := 2) (.int .i64 r)) (fun j e => Or.inr e))
      go_upto_region 9 with (fail)
      change Code.wp _ _ _ _ ((w6.setCell ⟨p, 1, none⟩ (.int .i64 t)).setCell ⟨p, 2, none⟩ (.int .i64 r))
      generalize (w6.setCell ⟨p, 1, none⟩ (.int .i64 t)).setCell ⟨p, 2, none⟩ (.int .i64 r) = w7 at R7 G7 ⊢
      clear s0 s1 b1 b2 f1 f2
      go_wp2
      go_returns
      have hb5 := K5.out.bel
      refine ⟨by first | rfl | (congr 2; omega), .inr ⟨by have := HZ.out; omega, (Tb.below_grown hb5 (some p)).andThen G7.out (fun j e => Or.inr e), va, vc, T5.out.setBox G7.out (by rw [HLD.out]; exact R7.out) (play_take T0 L ck) ?_ (play_rise _ T5.out.r0) hne⟩⟩
      have ho := O5.out
      rw [steps_drop] at ho
      have ho2 := ho.kept G7.out (by
        rcases ho.lt with hlt
        cases hq : (Value.slice va (L.drop ck).length vc).ownBlock with
        | none => exact .inl rfl
        | some j => exact .inr (fun e => by injection e with e; have := (hlt j hq).1; have := K4.out.bel.size; omega))
      exact Ve.own_less ho2 (by have := HT.out.lo; have := K4.out.bel.size; omega)
    · have hp1 : ps = ck := by simpa using hps9
      subst hp1
      clear hps9
      go_upto_region 7 with (fail)
      go_wp2_with fail
      refine (CN.out w4 (Below.refl _ _)).mono ?_
      rintro e w5 ⟨v, rfl, hv, hb⟩
      have K5 := Lib.hid (K4.out.step hb)
      have T5 := Lib.hid (TB.out w5 hb)
      obtain ⟨va, vc, rfl⟩ := Tb.own_shapeK hv
      rw [HRL.out] at hv
      have O5 := Lib.hid hv
      clear hb hv s0 s1 g0 g1 g2 g3
      obtain ⟨⟨s0, s1⟩, g0, g1, g2, g3⟩ := K5.out.cells
      obtain ⟨b0, b1, b2, b3⟩ := box4 T5.out.box
      have f3 := frozen_of_row (j := 3) _ _ _ _ T5.out.box
      rw [HRL.out]
      have hpl := HT.out.plt
      have R6 := Lib.hid (Ve.row_setC (j := 3) (u := .slice va (L.length - ps) vc) T5.out.box)
      have G6 := Lib.hid (setc_far (w := w5) (p := p) (j := 3) (.slice va (L.length - ps) vc))
      have S6 := Lib.hid ((G6.out.block _ (pl_lt K5.out.st) (fun e => by injection e with e; omega)).trans K5.out.st)
      go_upto_region 8 with (fail)
      change Code.wp _ _ _ _ (w5.setCell ⟨p, 3, none⟩ (.slice va (L.length - ps) vc))
      generalize w5.setCell ⟨p, 3, none⟩ (.slice va (L.length - ps) vc) = w6 at R6 G6 S6 ⊢
      clear s0 s1 g0 g1 g2 g3 b0 b1 b2 b3 f3
      have s0 : w6.cell? ⟨w.heap.size, 0, none⟩ = some (.int .i64 t) := by rw [cell_of_row _ _ _ _ _ _ S6.out]; rfl
      have s1 : w6.cell? ⟨w.heap.size, 1, none⟩ = some (.int .i64 r) := by rw [cell_of_row _ _ _ _ _ _ S6.out]; rfl
      have b1 : w6.cell? ⟨p, 1, none⟩ = some (.int .i64 ft) := by rw [cell_of_row _ _ _ _ _ _ R6.out]; rfl
      have b2 : w6.cell? ⟨p, 2, none⟩ = some (.int .i64 fr) := by rw [cell_of_row _ _ _ _ _ _ R6.out]; rfl
      have f1 := frozen_of_row (j := 1) _ _ _ _ R6.out
      have f2 := frozen_of_row (j := 2) _ _ _ _ R6.out
      have R7 := Lib.hid (Ve.row_setC (j := 2) (u := .int .i64 r) (Ve.row_setC (j := 1) (u := .int .i64 t) R6.out))
      have G7 := Lib.hid ((G6.out.andThen (setc_far (j := 1) (.int .i64 t)) (fun j e => Or.inr e)).andThen (setc_far (j := 2) (.int .i64 r)) (fun j e => Or.inr e))
      go_upto_region 9 with (fail)
      change Code.wp _ _ _ _ ((w6.setCell ⟨p, 1, none⟩ (.int .i64 t)).setCell ⟨p, 2, none⟩ (.int .i64 r))
      generalize (w6.setCell ⟨p, 1, none⟩ (.int .i64 t)).setCell ⟨p, 2, none⟩ (.int .i64 r) = w7 at R7 G7 ⊢
      clear s0 s1 b1 b2 f1 f2
      go_wp2
      go_returns
      have hb5 := K5.out.bel
      refine ⟨by first | rfl | (congr 2; omega), .inr ⟨by have := HZ.out; omega, (Tb.below_grown hb5 (some p)).andThen G7.out (fun j e => Or.inr e), va, vc, T5.out.setBox G7.out (by rw [HLD.out]; exact R7.out) (play_take T0 L ps) ?_ (play_rise _ T5.out.r0) hne⟩⟩
      have ho := O5.out
      rw [steps_drop] at ho
      have ho2 := ho.kept G7.out (by
        rcases ho.lt with hlt
        cases hq : (Value.slice va (L.drop ps).length vc).ownBlock with
        | none => exact .inl rfl
        | some j => exact .inr (fun e => by injection e with e; have := (hlt j hq).1; have := K4.out.bel.size; omega))
      exact Ve.own_less ho2 (by have := HT.out.lo; have := K4.out.bel.size; omega)
end Go.Proofs.Ytkmeceoilighiaa
