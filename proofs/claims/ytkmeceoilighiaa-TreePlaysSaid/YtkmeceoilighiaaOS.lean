/- The reference's Sorted. Picked out of stage07 (OH, OL, OL2). -/
import Derived.Test.YtkmeceoilighiaaOT

set_option linter.unusedVariables false
set_option linter.unusedSimpArgs false
set_option maxRecDepth 100000
namespace Go.Proofs.Ytkmeceoilighiaa
open Go.RowKit
theorem own_below {w w' : World} {E e size n : Nat} {v : Value} {xs : List Value} (h : w.ownsRow E e size v n xs) (hb : Below w.heap.size w w') : w'.ownsRow E e size v n xs :=
  h.kept (row := none) ⟨hb.os, hb.tape, hb.output, hb.size, fun k hk _ => hb.block k hk⟩ (by cases h : v.ownBlock <;> simp)
set_option maxRecDepth 100000 in
theorem one_op (W : World) (o : O) : OLies (W.alloc (.cells #[.int .i64 o.t, .int .i64 o.r, .int .i64 o.q, .int .i64 o.nt, .int .i64 o.nr, .int .i64 o.pt, .int .i64 o.pr, .string o.nm, .bool o.d] 34)) (.slice (some ⟨W.heap.size, 0, none⟩) 1 1) [o] := by
  refine ⟨_, 1, rfl, Nat.le_refl _, by unfold maxLen; omega, (fun h => by cases h), fun b hb _ => ?_⟩
  cases hb
  refine ⟨W.heap.size, 0, rfl, by simp, fun j p hj i u hi => ?_⟩
  have hj0 : j = 0 := by
    have := (List.getElem?_eq_some_iff.1 hj).1
    simp at this
    exact this
  subst hj0
  injection hj with hj
  subst hj
  rw [cell_of_row _ _ _ _ _ _ (heap_alloc_new W _), show 0 + 0 * 9 + i = i by omega]
  have h := hi
  unfold oc at h
  rw [Array.getElem?_toList] at h
  exact h
theorem bs_op (W : World) (o : O) : (Instr.buildSlice 30 1 #[(0, .agg #[.int .i64 o.t, .int .i64 o.r, .int .i64 o.q, .int .i64 o.nt, .int .i64 o.nr, .int .i64 o.pt, .int .i64 o.pr, .string o.nm, .bool o.d])]).run Try.prog W = .ok (.slice (some ⟨W.heap.size, 0, none⟩) 1 1) (W.alloc (.cells #[.int .i64 o.t, .int .i64 o.r, .int .i64 o.q, .int .i64 o.nt, .int .i64 o.nr, .int .i64 o.pt, .int .i64 o.pr, .string o.nm, .bool o.d] 34)) := by go_simp

def lessO (x y : O) : Bool := St.lessB x.t x.r y.t y.r
def stepO (x : O) (s : List O × Bool) (y : O) : List O × Bool := ((if !s.2 && lessO x y then s.1 ++ [x] else s.1) ++ [y], s.2 || lessO x y)
def foldO (x : O) (u : List O) : List O × Bool := u.foldl (stepO x) ([], false)
def insO (x : O) (u : List O) : List O := if (foldO x u).2 then (foldO x u).1 else (foldO x u).1 ++ [x]
def srtO (l : List O) : List O := l.foldl (fun u x => insO x u) []
theorem foldO_snoc (x : O) (u : List O) (j : Nat) (y : O) (h : u[j]? = some y) : foldO x (u.take (j + 1)) = stepO x (foldO x (u.take j)) y := by
  obtain ⟨hlt, e⟩ := List.getElem?_eq_some_iff.1 h
  unfold foldO
  rw [List.take_succ_eq_append_getElem hlt, List.foldl_append, e]
  rfl
theorem srtO_snoc (l : List O) (i : Nat) (x : O) (h : l[i]? = some x) : srtO (l.take (i + 1)) = insO x (srtO (l.take i)) := by
  obtain ⟨hlt, e⟩ := List.getElem?_eq_some_iff.1 h
  unfold srtO
  rw [List.take_succ_eq_append_getElem hlt, List.foldl_append, e]
  rfl
theorem foldO_len (x : O) : ∀ (u : List O) (s : List O × Bool), (u.foldl (stepO x) s).1.length + (if (u.foldl (stepO x) s).2 then 0 else 1) = s.1.length + u.length + (if s.2 then 0 else 1)
  | [], s => rfl
  | y :: u, s => by
    rw [List.foldl_cons, foldO_len x u (stepO x s y)]
    unfold stepO
    cases s.2 <;> cases lessO x y <;> simp <;> omega
theorem insO_len (x : O) (u : List O) : (insO x u).length = u.length + 1 := by
  have := foldO_len x u ([], false)
  unfold insO foldO
  cases h : (List.foldl (stepO x) ([], false) u).2 <;> rw [h] at this <;> simp at this ⊢ <;> omega
theorem foldO_le (x : O) (u : List O) : (foldO x u).1.length ≤ u.length + 1 := by
  have := foldO_len x u ([], false)
  unfold foldO
  simp at this
  omega
theorem srtO_len (l : List O) : (srtO l).length = l.length := by
  have : ∀ (l u : List O), (l.foldl (fun u x => insO x u) u).length = u.length + l.length := by
    intro l
    induction l with
    | nil => intro u; simp
    | cons x l ih => intro u; rw [List.foldl_cons, ih, insO_len, List.length_cons]; omega
  have h := this l []
  unfold srtO
  simpa using h
theorem push_own {w3 w4 : World} {E : Nat} {v v' : Value} {m : List O} {o : O} {ob : Obj} (ho : w3.ownsRow E 34 9 v m.length (cs9 m)) (hE : E ≤ w3.heap.size) (hown : w4.ownsRow E 34 9 v' (m.length + 1) (cs9 m ++ cs9 [o])) (hgr : (w3.alloc ob).grownBy w4 v.ownBlock) : w4.ownsRow E 34 9 v' (m ++ [o]).length (cs9 (m ++ [o])) ∧ Below E w3 w4 :=
  ⟨by rw [List.length_append, cs9_append]; exact hown, ((Below.refl E w3).alloc hE _).trans ((Below.refl E _).grown hgr (Nat.le_trans hE (vstep w3 ob).size) (fun k hk => (ho.lt k hk).1))⟩
theorem OLies.keep {w w' : World} {E : Nat} {v : Value} {l : List O} (h : OLies w v l) (hb : Below E w w') (hE : w.heap.size ≤ E) : OLies w' v l := by
  obtain ⟨ao, cap, rfl, hn, hm, h0, hc⟩ := h
  refine ⟨ao, cap, rfl, hn, hm, h0, fun b hbb hne => ?_⟩
  obtain ⟨g, k, rfl, hk, hc⟩ := hc b hbb hne
  exact ⟨g, k, rfl, Nat.lt_of_lt_of_le hk hb.size, fun j p hj i u hi => (hb.cell (p := ⟨g, k + j * 9 + i, none⟩) (Nat.lt_of_lt_of_le hk hE)).trans (hc j p hj i u hi)⟩

theorem at_later {w : World} {g k : Nat} {o : O} (hg : g < w.heap.size) (h : w.cell? ⟨g, k, none⟩ = some (.int .i64 o.t) ∧ w.cell? ⟨g, k + 1, none⟩ = some (.int .i64 o.r)) : (∀ x : Later w, x.w.cell? ⟨g, k, none⟩ = some (.int .i64 o.t)) ∧ (∀ x : Later w, x.w.cell? ⟨g, k + 1, none⟩ = some (.int .i64 o.r)) :=
  ⟨fun x => (x.below.cell (p := ⟨g, k, none⟩) hg).trans h.1, fun x => (x.below.cell (p := ⟨g, k + 1, none⟩) hg).trans h.2⟩
/-- What is handed back lies in new blocks. -/
def Frs (n : Nat) (W : World) (v : Value) : Prop := ∀ k, v.ownBlock = some k → n ≤ k ∧ k < W.heap.size
theorem own_frs {m : Nat} {W : World} {E e z n : Nat} {v : Value} {xs : List Value} (h : W.ownsRow E e z v n xs) (hE : m ≤ E) : Frs m W v := fun k e => ⟨Nat.le_trans hE (h.lt k e).1, (h.lt k e).2⟩
theorem Frs.step {n : Nat} {W W' : World} {v : Value} (h : Frs n W v) (hb : Below W.heap.size W W') : Frs n W' v := fun k e => ⟨(h k e).1, Nat.lt_of_lt_of_le (h k e).2 hb.size⟩
set_option maxRecDepth 100000 in
set_option maxHeartbeats 12800000 in
theorem rsorted_any (w : World) (v : Value) (l : List O) (h : OLies w v l) (hl : l.length ≤ 100) :
    Calls Try.prog 50 #[v] w fun e w' => ∃ r, e = .returned r ∧ OLies w' r (srtO l) ∧ Below w.heap.size w w' ∧ Frs w.heap.size w' r := by
  obtain ⟨i0, hi9, hz0, hz1, hz2⟩ := info_parts info25
  have H := Lib.hid h
  obtain ⟨ao, cap, rfl⟩ := h.shape
  clear h
  go_enter Try.func50, Try.ntmps50
  go_wp2
  go_loopw [3, 4] (fun ov kv wr => ∃ i : Nat, kv = .int .i64 i ∧ i ≤ l.length ∧ Hid (OLies wr ov (srtO (l.take i)) ∧ Below w.heap.size w wr ∧ Frs w.heap.size wr ov)) (fun _ kv _ => l.length - (intOf kv).toNat)
  case atStart => exact ⟨0, rfl, Nat.zero_le _, Lib.hid ⟨by simpa [srtO] using OLies.nil w, Below.refl _ _, fun k e => by cases e⟩⟩
  case round =>
    obtain ⟨i, rfl, hi, hI⟩ := hrel
    obtain ⟨oa, oc, hov⟩ := hI.out.1.shape
    subst hov
    have LU := Lib.hid (show (srtO (l.take i)).length = i from by rw [srtO_len, List.length_take]; omega)
    by_cases hlt : i < l.length
    · have HU := Lib.hid hI.out.1
      have HB := Lib.hid hI.out.2.1
      have HL := Lib.hid (H.out.step hI.out.2.1)
      obtain ⟨g, o, x, rfl, hx, hg, hc⟩ := (H.out.step hI.out.2.1).at' hlt
      have HX := Lib.hid hx
      have SS := Lib.hid (srtO_snoc l i x hx)
      clear hx hg hc hI H
      generalize srtO (l.take i) = u at *
      have LE := Lib.hid (show u.length ≤ 100 from by have := LU.out; omega)
      have hul := HU.out.len
      generalize wr = wo at *
      go_wp2_with fail
      go_loopw [5, 6, 7] (fun nv dv kv wi => ∃ j : Nat, kv = .int .i64 j ∧ j ≤ u.length ∧ dv = .bool (foldO x (u.take j)).2 ∧ Hid (wi.ownsRow wo.heap.size 34 9 nv (foldO x (u.take j)).1.length (cs9 (foldO x (u.take j)).1) ∧ Below wo.heap.size wo wi)) (fun _ _ kv _ => u.length - (intOf kv).toNat)
      case atStart => exact ⟨0, rfl, Nat.zero_le _, rfl, Lib.hid ⟨World.ownsRow_nil _ _ _ _, Below.refl _ _⟩⟩
      case round =>
        obtain ⟨j, rfl, hj, rfl, hJ⟩ := hrel
        obtain ⟨na, nc, hnv⟩ := Ve.own_shape hJ.out.1
        subst hnv
        have OW := Lib.hid hJ.out.1
        have BW := Lib.hid hJ.out.2
        have LF := Lib.hid (show (foldO x (u.take j)).1.length ≤ 101 from by have := foldO_le x (u.take j); have := LE.out; rw [List.length_take] at *; omega)
        by_cases hju : j < u.length
        · obtain ⟨gy, oy, y, e1, hy, hgy, hcy⟩ := (HU.out.keep BW.out (Nat.le_refl _)).at' hju
          subst e1
          obtain ⟨gx, ox, x', e2, hx', hgx, hcx⟩ := (HL.out.keep BW.out (Nat.le_refl _)).at' hlt
          injection e2 with e2
          injection e2 with e2 e3
          subst e2 e3
          rw [HX.out] at hx'
          injection hx' with hx'
          subst hx'
          have SJ := Lib.hid (foldO_snoc x u j y hy)
          have YE := Lib.hid (fun (y' : O) {h : j < u.length} (e : u[j] = y') => show y' = y from by have := (List.getElem?_eq_some_iff.1 hy).2; rw [← e, ← this])
          obtain ⟨ex0, ex1⟩ := at_later hgx ⟨hcx.1, hcx.2.1⟩
          obtain ⟨ey0, ey1⟩ := at_later hgy ⟨hcy.1, hcy.2.1⟩
          have HLX := Lib.hid (fun W (hb : Below wr.heap.size wr W) => (HL.out.keep (BW.out.trans (hb.mono BW.out.size)) (Nat.le_refl _)).at' hlt)
          have HLY := Lib.hid (fun W (hb : Below wr.heap.size wr W) => (HU.out.keep (BW.out.trans (hb.mono BW.out.size)) (Nat.le_refl _)).at' hju)
          have CX := Lib.hid hcx
          have CY := Lib.hid hcy
          have GX := Lib.hid hgx
          have GY := Lib.hid hgy
          have LC := Lib.hid (fun X : Later wr => St.less_any X.w x.t x.r y.t y.r)
          clear hJ hy hgy hcy hgx hcx
          have EL : St.lessB x.t x.r y.t y.r = lessO x y := rfl
          rw [EL] at LC
          clear EL
          generalize foldO x (u.take j) = s at *
          obtain ⟨m, dn⟩ := s
          dsimp only at OW LF
          cases dn with
          | true =>
            go_upto_region 10 with (fail)
            refine wp_region_later (by kernel_rfl) (by kernel_rfl) ?_
            repeat (go_big_quiet_step (first
              | (go_at_call 38; with_reducible exact later_call (LC.out _))))
            refine wpQuiet_nil ?_
            rintro _ ⟨xl, rfl⟩
            have X4 := Lib.hid xl.below
            have OW4 := Lib.hid (own_below OW.out xl.below)
            have BW4 := Lib.hid (BW.out.trans (xl.below.mono BW.out.size))
            clear ex0 ex1 ey0 ey1
            generalize xl.w = w4 at *
            have yC := CY.out
            obtain ⟨y0, y1, y2, y3, y4, y5, y6, y7, y8⟩ := yC
            have y0 := (X4.out.cell (p := ⟨gy, oy + j * 9, none⟩) GY.out).trans y0
            have y1 := (X4.out.cell (p := ⟨gy, oy + j * 9 + 1, none⟩) GY.out).trans y1
            have y2 := (X4.out.cell (p := ⟨gy, oy + j * 9 + 2, none⟩) GY.out).trans y2
            have y3 := (X4.out.cell (p := ⟨gy, oy + j * 9 + 3, none⟩) GY.out).trans y3
            have y4 := (X4.out.cell (p := ⟨gy, oy + j * 9 + 4, none⟩) GY.out).trans y4
            have y5 := (X4.out.cell (p := ⟨gy, oy + j * 9 + 5, none⟩) GY.out).trans y5
            have y6 := (X4.out.cell (p := ⟨gy, oy + j * 9 + 6, none⟩) GY.out).trans y6
            have y7 := (X4.out.cell (p := ⟨gy, oy + j * 9 + 7, none⟩) GY.out).trans y7
            have y8 := (X4.out.cell (p := ⟨gy, oy + j * 9 + 8, none⟩) GY.out).trans y8
            have OX5 := Lib.hid (own_below OW4.out (vstep w4 (.cells #[.int .i64 y.t, .int .i64 y.r, .int .i64 y.q, .int .i64 y.nt, .int .i64 y.nr, .int .i64 y.pt, .int .i64 y.pr, .string y.nm, .bool y.d] 34)))
            have bso5 := bs_op w4 y
            have SR5 := Lib.hid (one_op w4 y).src
            have Q5 := Lib.hid (And.intro (show (m).length + 1 ≤ maxLen from by have := LF.out; unfold maxLen; (try simp only [List.length_append, List.length_cons, List.length_nil]); omega) (And.intro (show ((m).length + 1) * 80 ≤ 140737488355328 from by have := LF.out; (try simp only [List.length_append, List.length_cons, List.length_nil]); omega) (show wo.heap.size ≤ (w4.alloc (.cells #[.int .i64 y.t, .int .i64 y.r, .int .i64 y.q, .int .i64 y.nt, .int .i64 y.nr, .int .i64 y.pt, .int .i64 y.pr, .string y.nm, .bool y.d] 34)).heap.size from Nat.le_trans BW4.out.size (vstep w4 (.cells #[.int .i64 y.t, .int .i64 y.r, .int .i64 y.q, .int .i64 y.nt, .int .i64 y.nr, .int .i64 y.pt, .int .i64 y.pr, .string y.nm, .bool y.d] 34)).size)))
            have FIN := Lib.hid (show stepO x (m, true) y = (m ++ [y], true) from by unfold stepO; simp)
            go_wp2_with (at_builtin; refine Wi.wpList_append_src_own rfl (.tmp 42) (.tmp 47) 30 30 rfl wo.heap.size 34 i0 (oV O0) 9 80 Try.u27 hi9 hz0 hz1 hz2 rfl (by decide) _ _ _ rfl OX5.out _ 1 (cs9 [y]) rfl SR5.out Q5.out.1 Q5.out.2.1 Q5.out.2.2 ?_; intro v5 w5 hown hgr hsp; obtain ⟨va5, vc5, rfl⟩ := Ve.own_shape hown; have P5 := Lib.hid (push_own OW4.out BW4.out.size hown hgr); clear hown hgr hsp)
            have R := Lib.hid (show Value.bool true = .bool (foldO x (u.take (j + 1))).2 ∧ (w5.ownsRow wo.heap.size 34 9 (.slice va5 (m.length + 1) vc5) (foldO x (u.take (j + 1))).1.length (cs9 (foldO x (u.take (j + 1))).1) ∧ Below wo.heap.size wo w5) from by
              rw [SJ.out, FIN.out]
              exact ⟨rfl, P5.out.1, BW4.out.trans P5.out.2⟩)
            go_roundw
            case rel => exact ⟨j + 1, by go_num, by omega, R.out.1, Lib.hid R.out.2⟩
            case measure => simp [intOf]; omega
          | false =>
            cases hlo : lessO x y with
            | false =>
              rw [hlo] at LC
              have FIN := Lib.hid (show stepO x (m, false) y = (m ++ [y], false) from by unfold stepO; simp [hlo])
              clear hlo
              go_upto_region 10 with (fail)
              refine wp_region_later (by kernel_rfl) (by kernel_rfl) ?_
              repeat (go_big_quiet_step (first
                | (go_at_call 38; with_reducible exact later_call (LC.out _))))
              refine wpQuiet_nil ?_
              rintro _ ⟨xl, rfl⟩
              have X4 := Lib.hid xl.below
              have OW4 := Lib.hid (own_below OW.out xl.below)
              have BW4 := Lib.hid (BW.out.trans (xl.below.mono BW.out.size))
              clear ex0 ex1 ey0 ey1
              generalize xl.w = w4 at *
              have yC := CY.out
              obtain ⟨y0, y1, y2, y3, y4, y5, y6, y7, y8⟩ := yC
              have y0 := (X4.out.cell (p := ⟨gy, oy + j * 9, none⟩) GY.out).trans y0
              have y1 := (X4.out.cell (p := ⟨gy, oy + j * 9 + 1, none⟩) GY.out).trans y1
              have y2 := (X4.out.cell (p := ⟨gy, oy + j * 9 + 2, none⟩) GY.out).trans y2
              have y3 := (X4.out.cell (p := ⟨gy, oy + j * 9 + 3, none⟩) GY.out).trans y3
              have y4 := (X4.out.cell (p := ⟨gy, oy + j * 9 + 4, none⟩) GY.out).trans y4
              have y5 := (X4.out.cell (p := ⟨gy, oy + j * 9 + 5, none⟩) GY.out).trans y5
              have y6 := (X4.out.cell (p := ⟨gy, oy + j * 9 + 6, none⟩) GY.out).trans y6
              have y7 := (X4.out.cell (p := ⟨gy, oy + j * 9 + 7, none⟩) GY.out).trans y7
              have y8 := (X4.out.cell (p := ⟨gy, oy + j * 9 + 8, none⟩) GY.out).trans y8
              have OX5 := Lib.hid (own_below OW4.out (vstep w4 (.cells #[.int .i64 y.t, .int .i64 y.r, .int .i64 y.q, .int .i64 y.nt, .int .i64 y.nr, .int .i64 y.pt, .int .i64 y.pr, .string y.nm, .bool y.d] 34)))
              have bso5 := bs_op w4 y
              have SR5 := Lib.hid (one_op w4 y).src
              have Q5 := Lib.hid (And.intro (show (m).length + 1 ≤ maxLen from by have := LF.out; unfold maxLen; (try simp only [List.length_append, List.length_cons, List.length_nil]); omega) (And.intro (show ((m).length + 1) * 80 ≤ 140737488355328 from by have := LF.out; (try simp only [List.length_append, List.length_cons, List.length_nil]); omega) (show wo.heap.size ≤ (w4.alloc (.cells #[.int .i64 y.t, .int .i64 y.r, .int .i64 y.q, .int .i64 y.nt, .int .i64 y.nr, .int .i64 y.pt, .int .i64 y.pr, .string y.nm, .bool y.d] 34)).heap.size from Nat.le_trans BW4.out.size (vstep w4 (.cells #[.int .i64 y.t, .int .i64 y.r, .int .i64 y.q, .int .i64 y.nt, .int .i64 y.nr, .int .i64 y.pt, .int .i64 y.pr, .string y.nm, .bool y.d] 34)).size)))
              go_wp2_with (at_builtin; refine Wi.wpList_append_src_own rfl (.tmp 42) (.tmp 47) 30 30 rfl wo.heap.size 34 i0 (oV O0) 9 80 Try.u27 hi9 hz0 hz1 hz2 rfl (by decide) _ _ _ rfl OX5.out _ 1 (cs9 [y]) rfl SR5.out Q5.out.1 Q5.out.2.1 Q5.out.2.2 ?_; intro v5 w5 hown hgr hsp; obtain ⟨va5, vc5, rfl⟩ := Ve.own_shape hown; have P5 := Lib.hid (push_own OW4.out BW4.out.size hown hgr); clear hown hgr hsp)
              have R := Lib.hid (show Value.bool false = .bool (foldO x (u.take (j + 1))).2 ∧ (w5.ownsRow wo.heap.size 34 9 (.slice va5 (m.length + 1) vc5) (foldO x (u.take (j + 1))).1.length (cs9 (foldO x (u.take (j + 1))).1) ∧ Below wo.heap.size wo w5) from by
                rw [SJ.out, FIN.out]
                exact ⟨rfl, P5.out.1, BW4.out.trans P5.out.2⟩)
              go_roundw
              case rel => exact ⟨j + 1, by go_num, by omega, R.out.1, Lib.hid R.out.2⟩
              case measure => simp [intOf]; omega
            | true =>
              rw [hlo] at LC
              have FIN := Lib.hid (show stepO x (m, false) y = ((m ++ [x]) ++ [y], true) from by unfold stepO; simp [hlo])
              clear hlo
              go_upto_region 10 with (fail)
              refine wp_region_later (by kernel_rfl) (by kernel_rfl) ?_
              repeat (go_big_quiet_step (first
                | (go_at_call 38; with_reducible exact later_call (LC.out _))))
              refine wpQuiet_nil ?_
              rintro _ ⟨xl, rfl⟩
              have X4 := Lib.hid xl.below
              have OW4 := Lib.hid (own_below OW.out xl.below)
              have BW4 := Lib.hid (BW.out.trans (xl.below.mono BW.out.size))
              clear ex0 ex1 ey0 ey1
              generalize xl.w = w4 at *
              have xC := CX.out
              obtain ⟨x0, x1, x2, x3, x4, x5, x6, x7, x8⟩ := xC
              have x0 := (X4.out.cell (p := ⟨g, o + i * 9, none⟩) GX.out).trans x0
              have x1 := (X4.out.cell (p := ⟨g, o + i * 9 + 1, none⟩) GX.out).trans x1
              have x2 := (X4.out.cell (p := ⟨g, o + i * 9 + 2, none⟩) GX.out).trans x2
              have x3 := (X4.out.cell (p := ⟨g, o + i * 9 + 3, none⟩) GX.out).trans x3
              have x4 := (X4.out.cell (p := ⟨g, o + i * 9 + 4, none⟩) GX.out).trans x4
              have x5 := (X4.out.cell (p := ⟨g, o + i * 9 + 5, none⟩) GX.out).trans x5
              have x6 := (X4.out.cell (p := ⟨g, o + i * 9 + 6, none⟩) GX.out).trans x6
              have x7 := (X4.out.cell (p := ⟨g, o + i * 9 + 7, none⟩) GX.out).trans x7
              have x8 := (X4.out.cell (p := ⟨g, o + i * 9 + 8, none⟩) GX.out).trans x8
              have yC := CY.out
              obtain ⟨y0, y1, y2, y3, y4, y5, y6, y7, y8⟩ := yC
              have y0 := (X4.out.cell (p := ⟨gy, oy + j * 9, none⟩) GY.out).trans y0
              have y1 := (X4.out.cell (p := ⟨gy, oy + j * 9 + 1, none⟩) GY.out).trans y1
              have y2 := (X4.out.cell (p := ⟨gy, oy + j * 9 + 2, none⟩) GY.out).trans y2
              have y3 := (X4.out.cell (p := ⟨gy, oy + j * 9 + 3, none⟩) GY.out).trans y3
              have y4 := (X4.out.cell (p := ⟨gy, oy + j * 9 + 4, none⟩) GY.out).trans y4
              have y5 := (X4.out.cell (p := ⟨gy, oy + j * 9 + 5, none⟩) GY.out).trans y5
              have y6 := (X4.out.cell (p := ⟨gy, oy + j * 9 + 6, none⟩) GY.out).trans y6
              have y7 := (X4.out.cell (p := ⟨gy, oy + j * 9 + 7, none⟩) GY.out).trans y7
              have y8 := (X4.out.cell (p := ⟨gy, oy + j * 9 + 8, none⟩) GY.out).trans y8
              have OX5 := Lib.hid (own_below OW4.out (vstep w4 (.cells #[.int .i64 x.t, .int .i64 x.r, .int .i64 x.q, .int .i64 x.nt, .int .i64 x.nr, .int .i64 x.pt, .int .i64 x.pr, .string x.nm, .bool x.d] 34)))
              have bso5 := bs_op w4 x
              have SR5 := Lib.hid (one_op w4 x).src
              have Q5 := Lib.hid (And.intro (show (m).length + 1 ≤ maxLen from by have := LF.out; unfold maxLen; (try simp only [List.length_append, List.length_cons, List.length_nil]); omega) (And.intro (show ((m).length + 1) * 80 ≤ 140737488355328 from by have := LF.out; (try simp only [List.length_append, List.length_cons, List.length_nil]); omega) (show wo.heap.size ≤ (w4.alloc (.cells #[.int .i64 x.t, .int .i64 x.r, .int .i64 x.q, .int .i64 x.nt, .int .i64 x.nr, .int .i64 x.pt, .int .i64 x.pr, .string x.nm, .bool x.d] 34)).heap.size from Nat.le_trans BW4.out.size (vstep w4 (.cells #[.int .i64 x.t, .int .i64 x.r, .int .i64 x.q, .int .i64 x.nt, .int .i64 x.nr, .int .i64 x.pt, .int .i64 x.pr, .string x.nm, .bool x.d] 34)).size)))
              have W45 := Lib.hid (vstep w4 (.cells #[.int .i64 x.t, .int .i64 x.r, .int .i64 x.q, .int .i64 x.nt, .int .i64 x.nr, .int .i64 x.pt, .int .i64 x.pr, .string x.nm, .bool x.d] 34))
              go_upto_region 12 with (at_builtin; refine Wi.wpList_append_src_own rfl (.tmp 35) (.tmp 40) 30 30 rfl wo.heap.size 34 i0 (oV O0) 9 80 Try.u27 hi9 hz0 hz1 hz2 rfl (by decide) _ _ _ rfl OX5.out _ 1 (cs9 [x]) rfl SR5.out Q5.out.1 Q5.out.2.1 Q5.out.2.2 ?_; intro v5 w5 hown hgr hsp; obtain ⟨va5, vc5, rfl⟩ := Ve.own_shape hown; have P5 := Lib.hid (push_own OW4.out BW4.out.size hown hgr); clear hown hgr hsp)
              obtain ⟨m2, hm2⟩ : ∃ z, m ++ [x] = z := ⟨_, rfl⟩
              have Z := Lib.hid (show m2.length = m.length + 1 from by rw [← hm2]; simp)
              have OW5 := Lib.hid P5.out.1
              have BW5 := Lib.hid (BW4.out.trans P5.out.2)
              rw [hm2, ← Z.out] at OW5
              rw [hm2] at FIN
              have LF := Lib.hid (show m2.length ≤ 102 from by have := LF.out; have := Z.out; omega)
              clear hm2
              have HY := (HU.out.keep BW5.out (Nat.le_refl _)).at' hju
              obtain ⟨gy', oy', y', e1, hy', hgy', z0, z1, z2, z3, z4, z5, z6, z7, z8⟩ := HY
              injection e1 with e1
              injection e1 with e1 e2
              subst e1 e2
              have HYX := Lib.hid (List.getElem?_eq_some_iff.1 hy')
              clear hy' hgy' x0 x1 x2 x3 x4 x5 x6 x7 x8 y0 y1 y2 y3 y4 y5 y6 y7 y8
              rw [← Z.out]
              have OX6 := Lib.hid (own_below OW5.out (vstep w5 (.cells #[.int .i64 y'.t, .int .i64 y'.r, .int .i64 y'.q, .int .i64 y'.nt, .int .i64 y'.nr, .int .i64 y'.pt, .int .i64 y'.pr, .string y'.nm, .bool y'.d] 34)))
              have bso6 := bs_op w5 y'
              have SR6 := Lib.hid (one_op w5 y').src
              have Q6 := Lib.hid (And.intro (show (m2).length + 1 ≤ maxLen from by have := LF.out; unfold maxLen; (try simp only [List.length_append, List.length_cons, List.length_nil]); omega) (And.intro (show ((m2).length + 1) * 80 ≤ 140737488355328 from by have := LF.out; (try simp only [List.length_append, List.length_cons, List.length_nil]); omega) (show wo.heap.size ≤ (w5.alloc (.cells #[.int .i64 y'.t, .int .i64 y'.r, .int .i64 y'.q, .int .i64 y'.nt, .int .i64 y'.nr, .int .i64 y'.pt, .int .i64 y'.pr, .string y'.nm, .bool y'.d] 34)).heap.size from Nat.le_trans BW5.out.size (vstep w5 (.cells #[.int .i64 y'.t, .int .i64 y'.r, .int .i64 y'.q, .int .i64 y'.nt, .int .i64 y'.nr, .int .i64 y'.pt, .int .i64 y'.pr, .string y'.nm, .bool y'.d] 34)).size)))
              go_wp2_with (at_builtin; refine Wi.wpList_append_src_own rfl (.tmp 42) (.tmp 47) 30 30 rfl wo.heap.size 34 i0 (oV O0) 9 80 Try.u27 hi9 hz0 hz1 hz2 rfl (by decide) _ _ _ rfl OX6.out _ 1 (cs9 [y']) rfl SR6.out Q6.out.1 Q6.out.2.1 Q6.out.2.2 ?_; intro v6 w6 hown hgr hsp; obtain ⟨va6, vc6, rfl⟩ := Ve.own_shape hown; have P6 := Lib.hid (push_own OW5.out BW5.out.size hown hgr); clear hown hgr hsp)
              have R := Lib.hid (show Value.bool true = .bool (foldO x (u.take (j + 1))).2 ∧ (w6.ownsRow wo.heap.size 34 9 (.slice va6 (m2.length + 1) vc6) (foldO x (u.take (j + 1))).1.length (cs9 (foldO x (u.take (j + 1))).1) ∧ Below wo.heap.size wo w6) from by
                have e : y' = y := YE.out _ HYX.out.2
                subst e
                rw [SJ.out, FIN.out]
                exact ⟨rfl, P6.out.1, BW5.out.trans P6.out.2⟩)
              go_roundw
              case rel => exact ⟨j + 1, by go_num, by omega, R.out.1, Lib.hid R.out.2⟩
              case measure => simp [intOf]; omega
        · have ST := Lib.hid (show foldO x (u.take j) = foldO x u from by rw [List.take_of_length_le (by omega)])
          rw [ST.out] at OW LF ⊢
          clear hJ
          have INS := Lib.hid (show insO x u = if (foldO x u).2 then (foldO x u).1 else (foldO x u).1 ++ [x] from rfl)
          obtain ⟨gx, ox, x', e2, hx', hgx, hcx⟩ := (HL.out.keep BW.out (Nat.le_refl _)).at' hlt
          injection e2 with e2
          injection e2 with e2 e3
          subst e2 e3
          rw [HX.out] at hx'
          injection hx' with hx'
          subst hx'
          have CX := Lib.hid hcx
          clear hgx hcx
          generalize foldO x u = s at *
          obtain ⟨m, dn⟩ := s
          dsimp only at OW LF
          cases dn with
          | true =>
            have FIN := Lib.hid (show OLies wr (.slice na m.length nc) (srtO (l.take (i + 1))) ∧ Below w.heap.size w wr ∧ Frs w.heap.size wr (.slice na m.length nc) from by
              rw [SS.out, INS.out]
              exact ⟨own_olies OW.out, HB.out.trans (BW.out.mono HB.out.size), own_frs OW.out HB.out.size⟩)
            go_wp2
            go_roundw
            case rel => exact ⟨i + 1, by go_num, by omega, FIN⟩
            case measure => simp [intOf]; omega
          | false =>
            obtain ⟨x0, x1, x2, x3, x4, x5, x6, x7, x8⟩ := CX.out
            have OX5 := Lib.hid (own_below OW.out (vstep wr (.cells #[.int .i64 x.t, .int .i64 x.r, .int .i64 x.q, .int .i64 x.nt, .int .i64 x.nr, .int .i64 x.pt, .int .i64 x.pr, .string x.nm, .bool x.d] 34)))
            have bso5 := bs_op wr x
            have SR5 := Lib.hid (one_op wr x).src
            have Q5 := Lib.hid (And.intro (show (m).length + 1 ≤ maxLen from by have := LF.out; unfold maxLen; (try simp only [List.length_append, List.length_cons, List.length_nil]); omega) (And.intro (show ((m).length + 1) * 80 ≤ 140737488355328 from by have := LF.out; (try simp only [List.length_append, List.length_cons, List.length_nil]); omega) (show wo.heap.size ≤ (wr.alloc (.cells #[.int .i64 x.t, .int .i64 x.r, .int .i64 x.q, .int .i64 x.nt, .int .i64 x.nr, .int .i64 x.pt, .int .i64 x.pr, .string x.nm, .bool x.d] 34)).heap.size from Nat.le_trans BW.out.size (vstep wr (.cells #[.int .i64 x.t, .int .i64 x.r, .int .i64 x.q, .int .i64 x.nt, .int .i64 x.nr, .int .i64 x.pt, .int .i64 x.pr, .string x.nm, .bool x.d] 34)).size)))
            go_wp2_with (at_builtin; refine Wi.wpList_append_src_own rfl (.tmp 51) (.tmp 56) 30 30 rfl wo.heap.size 34 i0 (oV O0) 9 80 Try.u27 hi9 hz0 hz1 hz2 rfl (by decide) _ _ _ rfl OX5.out _ 1 (cs9 [x]) rfl SR5.out Q5.out.1 Q5.out.2.1 Q5.out.2.2 ?_; intro v5 w5 hown hgr hsp; obtain ⟨va5, vc5, rfl⟩ := Ve.own_shape hown; have P5 := Lib.hid (push_own OW.out BW.out.size hown hgr); clear hown hgr hsp)
            have FIN := Lib.hid (show OLies w5 (.slice va5 (m.length + 1) vc5) (srtO (l.take (i + 1))) ∧ Below w.heap.size w w5 ∧ Frs w.heap.size w5 (.slice va5 (m.length + 1) vc5) from by
              rw [SS.out, INS.out]
              exact ⟨own_olies P5.out.1, HB.out.trans ((BW.out.trans P5.out.2).mono HB.out.size), own_frs P5.out.1 HB.out.size⟩)
            go_roundw
            case rel => exact ⟨i + 1, by go_num, by omega, FIN⟩
            case measure => simp [intOf]; omega
    · have FIN := Lib.hid (show OLies wr (.slice oa (srtO (l.take i)).length oc) (srtO l) ∧ Below w.heap.size w wr ∧ Frs w.heap.size wr (.slice oa (srtO (l.take i)).length oc) from by
        have h := hI.out
        rw [show l.take i = l from List.take_of_length_le (by omega)] at h ⊢
        exact h)
      clear hI
      go_wp2
      go_returns
      exact ⟨_, rfl, FIN.out⟩
end Go.Proofs.Ytkmeceoilighiaa
