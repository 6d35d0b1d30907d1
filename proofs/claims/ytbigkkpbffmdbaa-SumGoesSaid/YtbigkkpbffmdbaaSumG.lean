/- SumGoes, walked. -/
import Derived.Test.YtbigkkpbffmdbaaSumW
set_option linter.unusedVariables false
namespace Go.Proofs.Ytbigkkpbffmdbaa
open Go.RowKit

theorem rows_two {W3 : World} {va vb : Value} {a b : List Nat} {g : Nat} {t : TypeId} (ha : Lies W3 va a) (hb : Lies W3 vb b) (ba : Byt a) (bb : Byt b) (hg : W3.heap[g]? = some (.cells #[va, vb] t (0, 0))) :
    Rows2 W3 (.slice (some ⟨g, 0, none⟩) 2 2) [(va, a), (vb, b)] := by
  refine ⟨some ⟨g, 0, none⟩, 2, rfl, (fun e => by cases e), fun b hb => ?_, fun p hp => ?_⟩
  · cases hb
    refine ⟨g, 0, rfl, (Array.getElem?_eq_some_iff.1 hg).1, fun j p hj => ?_⟩
    match j, hj with
    | 0, hj => rw [cell_of_row _ _ _ _ _ _ hg]; injection hj with hj; subst hj; rfl
    | 1, hj => rw [cell_of_row _ _ _ _ _ _ hg]; injection hj with hj; subst hj; rfl
    | j + 2, hj => simp at hj
  · rcases List.mem_cons.1 hp with rfl | hp
    · exact ⟨ha, ba⟩
    · rcases List.mem_cons.1 hp with rfl | hp
      · exact ⟨hb, bb⟩
      · cases hp

set_option maxRecDepth 100000 in
set_option maxHeartbeats 800000 in
theorem goes_far (w : World) (va vb : Value) (a b : List Nat) (ha : Lies w va a) (hb : Lies w vb b) (hl : 1000 < a.length ∨ 1000 < b.length) :
    Calls Try.prog 4 #[va, vb] w fun e w' => e = .returned (.bool true) ∧ Below w.heap.size w w' := by
  have hlm : a.length ≤ maxLen := by obtain ⟨_, _, _, g1, g2, _⟩ := ha; omega
  have hlm2 : b.length ≤ maxLen := by obtain ⟨_, _, _, g1, g2, _⟩ := hb; omega
  unfold maxLen at hlm hlm2
  obtain ⟨aa, ac, rfl, _⟩ := ha
  obtain ⟨ba, bc, rfl, _⟩ := hb
  by_cases h1 : 1000 < a.length
  · go_enter Try.func4, Try.ntmps4
    go_wp2_with fail
    refine (awake_any _).mono ?_
    rintro e w1 ⟨rfl, hb1⟩
    have B1 := Lib.hid hb1
    clear hb1
    go_wp2
    go_returns
    exact ⟨rfl, B1.out⟩
  · have h2 : 1000 < b.length := by omega
    clear hl
    go_enter Try.func4, Try.ntmps4
    go_wp2_with fail
    refine (awake_any _).mono ?_
    rintro e w1 ⟨rfl, hb1⟩
    have B1 := Lib.hid hb1
    clear hb1
    go_wp2
    go_returns
    exact ⟨rfl, B1.out⟩

set_option maxRecDepth 100000 in
set_option maxHeartbeats 3200000 in
theorem goes_near (w : World) (va vb : Value) (a b : List Nat) (ha : Lies w va a) (hb : Lies w vb b) (bya : Byt a) (byb : Byt b) (la : a.length ≤ 1000) (lb : b.length ≤ 1000) :
    Calls Try.prog 4 #[va, vb] w fun e w' => e = .returned (.bool true) ∧ Below w.heap.size w w' := by
  obtain ⟨i0, hi, hz0, hz1, hz2⟩ := info_parts Try.info5
  have HA := Lib.hid ha
  have HB := Lib.hid hb
  have YA := Lib.hid bya
  have YB := Lib.hid byb
  have SA := Lib.hid ha.src
  have E0 : more 0 [] = 0 := more_nil 0 (by omega)
  have M0 := more_lt 0 a
  have YC := Lib.hid (bya.append byb)
  have S1 := Lib.hid (fun W (hW : Below w.heap.size w W) => seal_any W va a (ha.later hW) bya (by omega))
  have ES : (if true = true then (seal' a).take ((seal' a).length - 4) else []) = a := by
    rw [if_pos rfl, seal_length, show a.length + 4 - 4 = a.length by omega]
    unfold seal'
    exact List.take_left
  have OP := Lib.hid (fun W r (hr : Lies W r (seal' a)) => open_any W r (seal' a) hr (seal_byt bya) (by rw [seal_length]; omega) true (by simp [sealed_seal]))
  rw [ES] at OP
  have O1 := Lib.hid (fun W v (hr : Lies W v (a ++ b)) => of_any W v (a ++ b) hr YC.out)
  have O2 := Lib.hid (fun W (hW : Below w.heap.size w W) => of_any W va a (ha.later hW) bya)
  have M1 := Lib.hid (fun W (hW : Below w.heap.size w W) => more_any W (more 0 a) vb b M0 (hb.later hW) byb)
  rw [more_append 0 a b bya] at M1
  have R1 := Lib.hid (fun (W : World) (g : Nat) (hW : Below w.heap.size w W) (hg : W.heap[g]? = some (Obj.cells #[va, vb] 22 (0, 0))) => runs_any W _ _ (rows_two (ha.later hW) (hb.later hW) bya byb hg) (by simp))
  have EC : cats [(va, a), (vb, b)] = a ++ b := by unfold cats; simp
  rw [EC] at R1
  have R0 := Lib.hid (fun W => runs_any W (.slice none 0 0) [] ⟨none, 0, rfl, fun _ => rfl, (fun b hb => by cases hb), fun p hp => by cases hp⟩ (by simp))
  rw [show cats [] = [] from rfl, E0] at R0
  generalize seal' a = sa at *
  generalize hm2 : more 0 (a ++ b) = m2 at *
  generalize hm1 : more 0 a = m1 at *
  have t1 := beqb_ (m2 : Int) (m2 : Int) rfl
  have hl2 : (a ++ b).length = a.length + b.length := List.length_append
  obtain ⟨aa, ac, rfl, _⟩ := ha
  obtain ⟨ba, bc, rfl, _⟩ := hb
  clear bya byb EC ES E0 hm1 hm2 M0 hl2
  go_enter Try.func4, Try.ntmps4
  go_wp2_with (first
    | (at_builtin; refine wpList_append_src_own rfl (.tmp 18) (.tmp 19) 22 22 rfl w.heap.size 5 i0 (.int .u8 0) 1 1 Try.underlying22 hi hz0 hz1 hz2 rfl (by decide) _ 0 [] rfl (World.ownsRow_nil _ _ _ _) _ a.length (u8s a) rfl SA.out (by unfold maxLen; omega) (by omega) (by omega) ?_; intro v3 w3 hown hgr hspr; rw [Nat.zero_add, List.nil_append] at hown; have K := Lib.hid (And.intro hown ((Below.refl w.heap.size w).grown hgr (Nat.le_refl _) (fun k hk => by simp [Act.eval, Value.ownBlock] at hk))); clear hown hgr hspr; have SB := Lib.hid (HB.out.later K.out.2).src; have hw3 := K.out.2.size)
    | (at_builtin; refine wpList_append_src_own rfl (.tmp 20) (.tmp 21) 22 22 rfl w.heap.size 5 i0 (.int .u8 0) 1 1 Try.underlying22 hi hz0 hz1 hz2 rfl (by decide) _ _ _ rfl K.out.1 _ b.length (u8s b) rfl SB.out (by unfold maxLen; omega) (by omega) (by omega) ?_; intro v4 w4 hown hgr hspr; have K2 := Lib.hid (And.intro hown (K.out.2.grown hgr hw3 (fun k hk => (K.out.1.lt k hk).1))); clear hown hgr hspr))
  have LV : Lies w4 v4 (a ++ b) := own_lies (by rw [List.length_append, u8s_append]; exact K2.out.1)
  have B4 := Lib.hid K2.out.2
  obtain ⟨va4, vc4, rfl⟩ := own_shape K2.out.1
  have V4 := Lib.hid LV
  clear LV
  refine (S1.out _ B4.out).mono ?_
  rintro e w5 ⟨r1, rfl, ho⟩
  have B5 := Lib.hid (B4.out.trans (ho.2.mono B4.out.size))
  have V5 := Lib.hid (V4.out.later ho.2)
  have L1 := Lib.hid (own_lies ho.1)
  obtain ⟨r1a, r1c, rfl⟩ := own_shape ho.1
  clear ho
  go_wp2_with fail
  refine (OP.out _ _ L1.out).mono ?_
  rintro e w6 ⟨r2, rfl, ho⟩
  have B6 := Lib.hid (B5.out.trans (ho.2.mono B5.out.size))
  have V6 := Lib.hid (V5.out.later ho.2)
  have X6 := Lib.hid (own_lies ho.1)
  obtain ⟨r2a, r2c, rfl⟩ := own_shape ho.1
  clear ho
  go_wp2_with fail
  refine (O1.out _ _ V6.out).mono ?_
  rintro e w7 ⟨rfl, hb7⟩
  have B7 := Lib.hid (B6.out.trans (hb7.mono B6.out.size))
  have X7 := Lib.hid (X6.out.later hb7)
  clear hb7
  go_wp2_with fail
  refine (O2.out _ B7.out).mono ?_
  rintro e w8 ⟨rfl, hb8⟩
  have B8 := Lib.hid (B7.out.trans (hb8.mono B7.out.size))
  have X8 := Lib.hid (X7.out.later hb8)
  clear hb8
  go_wp2_with fail
  refine (M1.out _ B8.out).mono ?_
  rintro e w9 ⟨rfl, hb9⟩
  have B9 := Lib.hid (B8.out.trans (hb9.mono B8.out.size))
  have X9 := Lib.hid (X8.out.later hb9)
  clear hb9
  have hnb : Below w9.heap.size w9 (w9.alloc (.cells #[.slice aa a.length ac, .slice ba b.length bc] 22)) := (Below.refl _ _).alloc (Nat.le_refl _) _
  have BA := Lib.hid (B9.out.trans (hnb.mono B9.out.size))
  have XA := Lib.hid (X9.out.later hnb)
  have RR := Lib.hid (R1.out _ _ BA.out (heap_alloc_new w9 _))
  clear hnb
  go_wp2_with fail
  refine RR.out.mono ?_
  rintro e wb ⟨rfl, hbb⟩
  have BB := Lib.hid (BA.out.trans (hbb.mono BA.out.size))
  have XB := Lib.hid (XA.out.later hbb)
  clear hbb
  go_wp2_with fail
  refine (R0.out _).mono ?_
  rintro e wc ⟨rfl, hbc⟩
  have BC := Lib.hid (BB.out.trans (hbc.mono BB.out.size))
  have XC := Lib.hid (XB.out.later hbc)
  have SM := Lib.hid (same_any _ _ _ a XC.out (HA.out.later BC.out))
  clear hbc
  go_wp2_with fail
  refine SM.out.mono ?_
  rintro e wd ⟨rfl, hbd⟩
  have BD := Lib.hid (BC.out.trans (hbd.mono BC.out.size))
  clear hbd
  go_wp2_with fail
  refine (awake_any _).mono ?_
  rintro e we ⟨rfl, hbe⟩
  have BE := Lib.hid (BD.out.trans (hbe.mono BD.out.size))
  clear hbe
  go_wp2
  go_returns
  exact ⟨rfl, BE.out⟩

theorem goes_all (w : World) (va vb : Value) (a b : List Nat) (ha : Lies w va a) (hb : Lies w vb b) (bya : Byt a) (byb : Byt b) :
    Calls Try.prog 4 #[va, vb] w fun e w' => e = .returned (.bool true) ∧ Below w.heap.size w w' := by
  by_cases h : 1000 < a.length ∨ 1000 < b.length
  · exact goes_far w va vb a b ha hb h
  · exact goes_near w va vb a b ha hb bya byb (by omega) (by omega)
end Go.Proofs.Ytbigkkpbffmdbaa
