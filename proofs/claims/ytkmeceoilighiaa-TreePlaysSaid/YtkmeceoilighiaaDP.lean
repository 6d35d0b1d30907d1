/- do, walked. Made by gendp14.py. -/
import Derived.Test.YtkmeceoilighiaaDO
import Derived.Test.YtkmeceoilighiaaVE
set_option linter.unusedVariables false
set_option linter.unusedSimpArgs false
set_option maxRecDepth 100000
namespace Go.Proofs.Ytkmeceoilighiaa
open Go.RowKit Go.Shelf
open Tb (Rw setF dropF getF aboveF Rise TabI TM LiesK TOut)

theorem eqC {x y : Int} : (decide (x = y)) = (x == y) := by
  by_cases h : x = y <;> simp [h]
set_option maxHeartbeats 3200000 in
theorem do_any (w : World) (p b : Nat) (T : List Rw) (h : TabI w p b T) (hl : T.length < 100000) (o : O) (ho : OkO o) :
    Calls Try.prog 47 #[pv p, oV o] w fun e w' => e = .returned (stV (stepF T o)) ∧ TOut w w' p b (doF T o) := by
  have D0 := Lib.hid (DoI.start h o (S0 O0) (S0 o))
  have HO := Lib.hid ho
  have SP := Lib.hid (show stepF T o = if skipF T o = true then S0 o else ⟨o, true, (getF T o.nt o.nr).isSome, (wasF T o.nt o.nr).pt, (wasF T o.nt o.nr).pr, (wasF T o.nt o.nr).nm, (wasF T o.nt o.nr).d⟩ from rfl)
  have DF := Lib.hid (show doF T o = if skipF T o = true then T else setF T (rwO o) from rfl)
  have SK := Lib.hid (show skipF T o = (decide (o.nt = o.pt ∧ o.nr = o.pr) || aboveF T o.nt o.nr T.length o.pt o.pr) from rfl)
  have CV : ∀ (W : World) (x : Stp), W.heap[w.heap.size + 1]? = some (.cells (stCells x) 89 (0, 0)) → ∀ (j : Nat) (v : Value), (stCells x)[j]? = some v → W.cell? ⟨w.heap.size + 1, j, none⟩ = some v := fun W x hh j v hv => by rw [cell_of_row _ _ _ _ _ _ hh]; exact hv
  have CV := Lib.hid CV
  clear h ho
  by_cases hq : o.nt = o.pt ∧ o.nr = o.pr
  · have E1 := Lib.hid (show stepF T o = S0 o by rw [SP.out, if_pos (by rw [SK.out, decide_eq_true hq]; rfl)])
    have E2 := Lib.hid (show doF T o = T by rw [DF.out, if_pos (by rw [SK.out, decide_eq_true hq]; rfl)])
    obtain ⟨u1, u2⟩ := yes2 hq
    clear hq
    rw [E1.out, E2.out]
    clear E1 E2 SP DF SK
    obtain ⟨t, r, q, nt, nr, pt, pr, nm, d⟩ := o
    unfold oV oCells
    dsimp only at *
    go_enter Try.func47, Try.ntmps47
    go_upto_region 2 with (fail)
    change Code.wp _ _ _ _ (((w.alloc (.cells (oCells ⟨t, r, q, nt, nr, pt, pr, nm, d⟩) 34)).alloc (.cells (stCells (S0 O0)) 89)).alloc (.cells (stCells (S0 ⟨t, r, q, nt, nr, pt, pr, nm, d⟩)) 89))
    have D1 := Lib.hid D0.out
    generalize (((w.alloc (.cells (oCells ⟨t, r, q, nt, nr, pt, pr, nm, d⟩) 34)).alloc (.cells (stCells (S0 O0)) 89)).alloc (.cells (stCells (S0 ⟨t, r, q, nt, nr, pt, pr, nm, d⟩)) 89)) = W0 at D1 ⊢
    clear D0
    have oc0 : ∀ (j : Nat) (v : Value), (oCells ⟨t, r, q, nt, nr, pt, pr, nm, d⟩)[j]? = some v → W0.cell? ⟨w.heap.size, j, none⟩ = some v := fun j v hv => (cell_of_row _ _ _ _ _ _ D1.out.b3).trans hv
    have c3 := oc0 3 (.int .i64 nt) rfl; have c4 := oc0 4 (.int .i64 nr) rfl; have c5 := oc0 5 (.int .i64 pt) rfl; have c6 := oc0 6 (.int .i64 pr) rfl; have c7 := oc0 7 (.string nm) rfl; have c8 := oc0 8 (.bool d) rfl
    clear oc0
    go_upto_region 3 with (fail)
    clear c3 c4 c5 c6 c7 c8
    go_wp2_with (first
      | (refine Ve.wpList_load_arr rfl (.tmp 5) 89 rfl (.pointer (some ⟨w.heap.size + 1 + 1, 0, none⟩)) (stV (S0 ⟨t, r, q, nt, nr, pt, pr, nm, d⟩)) rfl (ldS (cells15 D1.out.b5)) ?_)
      | (refine wpList_st15 rfl (.tmp 4) (.tmp 21) 89 rfl (.pointer (some ⟨w.heap.size + 1, 0, none⟩)) (stV (S0 ⟨t, r, q, nt, nr, pt, pr, nm, d⟩)) rfl rfl _ (stS D1.out.b4) ?_))
    have DZ := Lib.hid (D1.out.set4 (S0 ⟨t, r, q, nt, nr, pt, pr, nm, d⟩))
    generalize W0.setRow (w.heap.size + 1) (stCells (S0 ⟨t, r, q, nt, nr, pt, pr, nm, d⟩)) = WZ at *
    have z := CV.out WZ _ DZ.out.b4
    have d0 := z 0 (.int .i64 t) rfl; have d1 := z 1 (.int .i64 r) rfl; have d2 := z 2 (.int .i64 q) rfl; have d3 := z 3 (.int .i64 nt) rfl; have d4 := z 4 (.int .i64 nr) rfl; have d5 := z 5 (.int .i64 pt) rfl; have d6 := z 6 (.int .i64 pr) rfl; have d7 := z 7 (.string nm) rfl; have d8 := z 8 (.bool d) rfl; have d9 := z 9 (.bool false) rfl; have d10 := z 10 (.bool false) rfl; have d11 := z 11 (.int .i64 0) rfl; have d12 := z 12 (.int .i64 0) rfl; have d13 := z 13 (.string ⟨#[]⟩) rfl; have d14 := z 14 (.bool false) rfl
    clear z
    refine bodyPost_ret (by simp [results, Try.results47, go_sem, d0, d1, d2, d3, d4, d5, d6, d7, d8, d9, d10, d11, d12, d13, d14]; try rfl) rfl ?_
    exact ⟨rfl, DZ.out.tab, DZ.out.grow⟩

  · have hn := no2 hq
    have SK2 := Lib.hid (show skipF T o = aboveF T o.nt o.nr T.length o.pt o.pr from by rw [SK.out, decide_eq_false hq]; rfl)
    have AB := Lib.hid (fun W (ht : TabI W p b T) => Tb.above_any W p b T ht (by omega) o.nt o.nr o.pt o.pr HO.out.pt HO.out.pr)
    obtain ⟨ab, hab⟩ : ∃ z, aboveF T o.nt o.nr T.length o.pt o.pr = z := ⟨_, rfl⟩
    rw [hab] at SK2 AB
    clear hq SK hab
    cases ab with
    | true =>
      have E1 := Lib.hid (show stepF T o = S0 o by rw [SP.out, if_pos SK2.out])
      have E2 := Lib.hid (show doF T o = T by rw [DF.out, if_pos SK2.out])
      rw [E1.out, E2.out]
      clear E1 E2 SP DF SK2
      obtain ⟨t, r, q, nt, nr, pt, pr, nm, d⟩ := o
      unfold oV oCells
      dsimp only at *
      go_enter Try.func47, Try.ntmps47
      go_upto_region 2 with (fail)
      change Code.wp _ _ _ _ (((w.alloc (.cells (oCells ⟨t, r, q, nt, nr, pt, pr, nm, d⟩) 34)).alloc (.cells (stCells (S0 O0)) 89)).alloc (.cells (stCells (S0 ⟨t, r, q, nt, nr, pt, pr, nm, d⟩)) 89))
      have D1 := Lib.hid D0.out
      generalize (((w.alloc (.cells (oCells ⟨t, r, q, nt, nr, pt, pr, nm, d⟩) 34)).alloc (.cells (stCells (S0 O0)) 89)).alloc (.cells (stCells (S0 ⟨t, r, q, nt, nr, pt, pr, nm, d⟩)) 89)) = W0 at D1 ⊢
      clear D0
      have oc0 : ∀ (j : Nat) (v : Value), (oCells ⟨t, r, q, nt, nr, pt, pr, nm, d⟩)[j]? = some v → W0.cell? ⟨w.heap.size, j, none⟩ = some v := fun j v hv => (cell_of_row _ _ _ _ _ _ D1.out.b3).trans hv
      have c3 := oc0 3 (.int .i64 nt) rfl; have c4 := oc0 4 (.int .i64 nr) rfl; have c5 := oc0 5 (.int .i64 pt) rfl; have c6 := oc0 6 (.int .i64 pr) rfl; have c7 := oc0 7 (.string nm) rfl; have c8 := oc0 8 (.bool d) rfl
      clear oc0
      rcases hn with n1 | ⟨n1, n2⟩
      all_goals
        go_wp2_with fail
        refine (AB.out W0 D1.out.tab).mono ?_
        rintro e w4 ⟨rfl, hb⟩
        have D2 := Lib.hid (D1.out.step hb)
        clear hb D1 c3 c4 c5 c6 c7 c8
        go_upto_region 3 with (fail)
        go_wp2_with (first
          | (refine Ve.wpList_load_arr rfl (.tmp 5) 89 rfl (.pointer (some ⟨w.heap.size + 1 + 1, 0, none⟩)) (stV (S0 ⟨t, r, q, nt, nr, pt, pr, nm, d⟩)) rfl (ldS (cells15 D2.out.b5)) ?_)
          | (refine wpList_st15 rfl (.tmp 4) (.tmp 21) 89 rfl (.pointer (some ⟨w.heap.size + 1, 0, none⟩)) (stV (S0 ⟨t, r, q, nt, nr, pt, pr, nm, d⟩)) rfl rfl _ (stS D2.out.b4) ?_))
        have DZ := Lib.hid (D2.out.set4 (S0 ⟨t, r, q, nt, nr, pt, pr, nm, d⟩))
        generalize w4.setRow (w.heap.size + 1) (stCells (S0 ⟨t, r, q, nt, nr, pt, pr, nm, d⟩)) = WZ at *
        have z := CV.out WZ _ DZ.out.b4
        have d0 := z 0 (.int .i64 t) rfl; have d1 := z 1 (.int .i64 r) rfl; have d2 := z 2 (.int .i64 q) rfl; have d3 := z 3 (.int .i64 nt) rfl; have d4 := z 4 (.int .i64 nr) rfl; have d5 := z 5 (.int .i64 pt) rfl; have d6 := z 6 (.int .i64 pr) rfl; have d7 := z 7 (.string nm) rfl; have d8 := z 8 (.bool d) rfl; have d9 := z 9 (.bool false) rfl; have d10 := z 10 (.bool false) rfl; have d11 := z 11 (.int .i64 0) rfl; have d12 := z 12 (.int .i64 0) rfl; have d13 := z 13 (.string ⟨#[]⟩) rfl; have d14 := z 14 (.bool false) rfl
        clear z
        refine bodyPost_ret (by simp [results, Try.results47, go_sem, d0, d1, d2, d3, d4, d5, d6, d7, d8, d9, d10, d11, d12, d13, d14]; try rfl) rfl ?_
        exact ⟨rfl, DZ.out.tab, DZ.out.grow⟩

    | false =>
      have hns : ¬ skipF T o = true := by rw [SK2.out]; simp
      have E2 := Lib.hid (show doF T o = setF T (rwO o) by rw [DF.out, if_neg hns])
      have GT := Lib.hid (fun W (ht : TabI W p b T) => Tb.get_any W p b T ht o.nt o.nr HO.out.nt HO.out.nr)
      have ST := Lib.hid (fun W (ht : TabI W p b T) => Tb.set_any W p b T ht (by omega) (rwO o) ⟨HO.out.nt, HO.out.nr, HO.out.pt, HO.out.pr⟩)
      have hgv : Tb.gv T o.nt o.nr = .agg #[.int .i64 (wasF T o.nt o.nr).pt, .int .i64 (wasF T o.nt o.nr).pr, .string (wasF T o.nt o.nr).nm, .bool (wasF T o.nt o.nr).d] := by
        unfold Tb.gv wasF
        cases getF T o.nt o.nr <;> rfl
      have E1 := SP.out
      rw [if_neg hns] at E1
      obtain ⟨a1, ha1⟩ : ∃ z, (wasF T o.nt o.nr).pt = z := ⟨_, rfl⟩
      obtain ⟨a2, ha2⟩ : ∃ z, (wasF T o.nt o.nr).pr = z := ⟨_, rfl⟩
      obtain ⟨a3, ha3⟩ : ∃ z, (wasF T o.nt o.nr).nm = z := ⟨_, rfl⟩
      obtain ⟨a4, ha4⟩ : ∃ z, (wasF T o.nt o.nr).d = z := ⟨_, rfl⟩
      obtain ⟨ok, hok⟩ : ∃ z, (getF T o.nt o.nr).isSome = z := ⟨_, rfl⟩
      rw [ha1, ha2, ha3, ha4] at hgv E1
      rw [hok] at E1
      simp only [hgv, hok] at GT
      rw [E1, E2.out]
      clear E1 E2 SP DF SK2 hns ha1 ha2 ha3 ha4 hok hgv
      obtain ⟨t, r, q, nt, nr, pt, pr, nm, d⟩ := o
      unfold oV oCells
      dsimp only at *
      go_enter Try.func47, Try.ntmps47
      go_upto_region 2 with (fail)
      change Code.wp _ _ _ _ (((w.alloc (.cells (oCells ⟨t, r, q, nt, nr, pt, pr, nm, d⟩) 34)).alloc (.cells (stCells (S0 O0)) 89)).alloc (.cells (stCells (S0 ⟨t, r, q, nt, nr, pt, pr, nm, d⟩)) 89))
      have D1 := Lib.hid D0.out
      generalize (((w.alloc (.cells (oCells ⟨t, r, q, nt, nr, pt, pr, nm, d⟩) 34)).alloc (.cells (stCells (S0 O0)) 89)).alloc (.cells (stCells (S0 ⟨t, r, q, nt, nr, pt, pr, nm, d⟩)) 89)) = W0 at D1 ⊢
      clear D0
      have oc0 : ∀ (j : Nat) (v : Value), (oCells ⟨t, r, q, nt, nr, pt, pr, nm, d⟩)[j]? = some v → W0.cell? ⟨w.heap.size, j, none⟩ = some v := fun j v hv => (cell_of_row _ _ _ _ _ _ D1.out.b3).trans hv
      have c3 := oc0 3 (.int .i64 nt) rfl; have c4 := oc0 4 (.int .i64 nr) rfl; have c5 := oc0 5 (.int .i64 pt) rfl; have c6 := oc0 6 (.int .i64 pr) rfl; have c7 := oc0 7 (.string nm) rfl; have c8 := oc0 8 (.bool d) rfl
      clear oc0
      rcases hn with n1 | ⟨n1, n2⟩
      all_goals
        go_wp2_with fail
        refine (AB.out W0 D1.out.tab).mono ?_
        rintro e w4 ⟨rfl, hb⟩
        have D2 := Lib.hid (D1.out.step hb)
        clear hb D1 c3 c4 c5 c6 c7 c8
        go_upto_region 4 with (fail)
        go_wp2_with (first
          | (refine wpList_st15 rfl (.tmp 22) (.const (.bool true)) 4 rfl (.pointer (some ⟨w.heap.size + 1 + 1, 9, none⟩)) (.bool true) rfl rfl _ (stF4 (s' := ⟨⟨t, r, q, nt, nr, pt, pr, nm, d⟩, true, false, 0, 0, ⟨#[]⟩, false⟩) D2.out.b5 (by omega) rfl) ?_; have D3 := Lib.hid (D2.out.set5 ⟨⟨t, r, q, nt, nr, pt, pr, nm, d⟩, true, false, 0, 0, ⟨#[]⟩, false⟩); generalize w4.setRow (w.heap.size + 1 + 1) (stCells ⟨⟨t, r, q, nt, nr, pt, pr, nm, d⟩, true, false, 0, 0, ⟨#[]⟩, false⟩) = w5 at D3 ⊢; have oc0 : ∀ (j : Nat) (v : Value), (oCells ⟨t, r, q, nt, nr, pt, pr, nm, d⟩)[j]? = some v → w5.cell? ⟨w.heap.size, j, none⟩ = some v := fun j v hv => (cell_of_row _ _ _ _ _ _ D3.out.b3).trans hv; have c3 := oc0 3 (.int .i64 nt) rfl; have c4 := oc0 4 (.int .i64 nr) rfl; have c5 := oc0 5 (.int .i64 pt) rfl; have c6 := oc0 6 (.int .i64 pr) rfl; have c7 := oc0 7 (.string nm) rfl; have c8 := oc0 8 (.bool d) rfl; clear oc0))
        refine (GT.out w5 D3.out.tab).mono ?_
        rintro e w6 ⟨rfl, hb⟩
        have D4 := Lib.hid (D3.out.step hb)
        clear hb c3 c4 c5 c6 c7 c8
        go_wp2_with (first
          | (refine wpList_st15 rfl (.tmp 30) (.tmp 28) 69 rfl (.pointer (some ⟨w.heap.size + 1 + 1, 11, none⟩)) (.agg #[.int .i64 a1, .int .i64 a2, .string a3, .bool a4]) rfl rfl _ (stF69 D4.out.b5 a1 a2 a3 a4) ?_; have D5 := Lib.hid (D4.out.set5 ⟨⟨t, r, q, nt, nr, pt, pr, nm, d⟩, true, false, a1, a2, a3, a4⟩); change wpList _ _ _ _ _ (w6.setRow (w.heap.size + 1 + 1) (stCells ⟨⟨t, r, q, nt, nr, pt, pr, nm, d⟩, true, false, a1, a2, a3, a4⟩)); generalize w6.setRow (w.heap.size + 1 + 1) (stCells ⟨⟨t, r, q, nt, nr, pt, pr, nm, d⟩, true, false, a1, a2, a3, a4⟩) = w7 at D5 ⊢)
          | (refine wpList_st15 rfl (.tmp 31) (.tmp 29) 4 rfl (.pointer (some ⟨w.heap.size + 1 + 1, 10, none⟩)) (.bool ok) rfl rfl _ (stF4 (s' := ⟨⟨t, r, q, nt, nr, pt, pr, nm, d⟩, true, ok, a1, a2, a3, a4⟩) D5.out.b5 (by omega) rfl) ?_; have D6 := Lib.hid (D5.out.set5 ⟨⟨t, r, q, nt, nr, pt, pr, nm, d⟩, true, ok, a1, a2, a3, a4⟩); generalize w7.setRow (w.heap.size + 1 + 1) (stCells ⟨⟨t, r, q, nt, nr, pt, pr, nm, d⟩, true, ok, a1, a2, a3, a4⟩) = w8 at D6 ⊢; have oc0 : ∀ (j : Nat) (v : Value), (oCells ⟨t, r, q, nt, nr, pt, pr, nm, d⟩)[j]? = some v → w8.cell? ⟨w.heap.size, j, none⟩ = some v := fun j v hv => (cell_of_row _ _ _ _ _ _ D6.out.b3).trans hv; have c3 := oc0 3 (.int .i64 nt) rfl; have c4 := oc0 4 (.int .i64 nr) rfl; have c5 := oc0 5 (.int .i64 pt) rfl; have c6 := oc0 6 (.int .i64 pr) rfl; have c7 := oc0 7 (.string nm) rfl; have c8 := oc0 8 (.bool d) rfl; clear oc0))
        refine (ST.out w8 D6.out.tab).mono ?_
        rintro e w9 ⟨rfl, hb⟩
        have D7 := Lib.hid (D6.out.turn hb)
        clear hb c3 c4 c5 c6 c7 c8
        go_wp2_with (first
          | (refine Ve.wpList_load_arr rfl (.tmp 5) 89 rfl (.pointer (some ⟨w.heap.size + 1 + 1, 0, none⟩)) (stV (⟨⟨t, r, q, nt, nr, pt, pr, nm, d⟩, true, ok, a1, a2, a3, a4⟩)) rfl (ldS (cells15 D7.out.b5)) ?_)
          | (refine wpList_st15 rfl (.tmp 4) (.tmp 43) 89 rfl (.pointer (some ⟨w.heap.size + 1, 0, none⟩)) (stV (⟨⟨t, r, q, nt, nr, pt, pr, nm, d⟩, true, ok, a1, a2, a3, a4⟩)) rfl rfl _ (stS D7.out.b4) ?_))
        have DZ := Lib.hid (D7.out.set4 (⟨⟨t, r, q, nt, nr, pt, pr, nm, d⟩, true, ok, a1, a2, a3, a4⟩))
        generalize w9.setRow (w.heap.size + 1) (stCells (⟨⟨t, r, q, nt, nr, pt, pr, nm, d⟩, true, ok, a1, a2, a3, a4⟩)) = WZ at *
        have z := CV.out WZ _ DZ.out.b4
        have d0 := z 0 (.int .i64 t) rfl; have d1 := z 1 (.int .i64 r) rfl; have d2 := z 2 (.int .i64 q) rfl; have d3 := z 3 (.int .i64 nt) rfl; have d4 := z 4 (.int .i64 nr) rfl; have d5 := z 5 (.int .i64 pt) rfl; have d6 := z 6 (.int .i64 pr) rfl; have d7 := z 7 (.string nm) rfl; have d8 := z 8 (.bool d) rfl; have d9 := z 9 (.bool true) rfl; have d10 := z 10 (.bool ok) rfl; have d11 := z 11 (.int .i64 a1) rfl; have d12 := z 12 (.int .i64 a2) rfl; have d13 := z 13 (.string a3) rfl; have d14 := z 14 (.bool a4) rfl
        clear z
        refine bodyPost_ret (by simp [results, Try.results47, go_sem, d0, d1, d2, d3, d4, d5, d6, d7, d8, d9, d10, d11, d12, d13, d14]; try rfl) rfl ?_
        exact ⟨rfl, DZ.out.tab, DZ.out.grow⟩

end Go.Proofs.Ytkmeceoilighiaa
