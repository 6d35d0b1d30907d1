/- Add of a tree, walked. Made by geneh14.py. -/
import Derived.Test.YtkmeceoilighiaaEG
import Derived.Test.YtkmeceoilighiaaRL
set_option linter.unusedVariables false
set_option linter.unusedSimpArgs false
set_option maxRecDepth 100000
namespace Go.Proofs.Ytkmeceoilighiaa
open Go.RowKit Go.Shelf Go.Lib
open Tb (Rw setF dropF getF aboveF Rise TabI TM LiesK TOut Sprung)

theorem AddI.elt {w W : World} {B p q mb k6 g cap : Nat} {T : List Rw} {ft fr : Int} {la : Option Addr} {n lc : Nat} {R : List Stp} {o : O} (h : AddI w W B p q mb k6 g cap T ft fr la n lc R o) {i : Nat} {s : Stp} (hs : R[i]? = some s) : ∀ r u, (stc1 s)[r]? = some u → W.cell? ⟨g, i * 15 + r, none⟩ = some u := fun r u hu => by
  obtain ⟨Z, h1, _⟩ := h.row
  rw [cell_of_row _ _ _ _ _ _ h1]
  simp only [List.getElem?_toArray]
  have := stc_at hs hu
  rw [List.getElem?_append_left (List.getElem?_eq_some_iff.1 this).1]
  exact this
theorem ix75 {g n c i : Nat} (hi : i < n) (W : World) : (Instr.indexAt 75 (.slice (some ⟨g, 0, none⟩) n c) (.int .i64 (i : Int))).run Try.prog W = .ok (.pointer (some ⟨g, i * 15, none⟩)) W := by
  have h0 : (0 : Int) ≤ (i : Int) := by omega
  have h1 : (i : Int) < (n : Int) := by omega
  go_simp
/-- What stands throughout a round's call and store. -/
def AS (w : World) (B p q mb k6 g cap : Nat) (ft fr : Int) (la : Option Addr) (n lc : Nat) (o : O) (k10 : Nat) (s : Stp) (W : World) : Prop := (∃ T R, AddI w W B p q mb k6 g cap T ft fr la n lc R o) ∧ W.heap[k10]? = some (.cells (stCells s) 89 (0, 0))
theorem AS.ld1 {w W : World} {B p q mb k6 g cap : Nat} {ft fr : Int} {la : Option Addr} {n lc : Nat} {o : O} {k10 : Nat} {s : Stp} (h : AS w B p q mb k6 g cap ft fr la n lc o k10 s W) : (Instr.loadAt 75 (.pointer (some ⟨p, 3, none⟩))).run Try.prog W = .ok (.slice (some ⟨g, 0, none⟩) (n + 1) cap) W := by
  obtain ⟨⟨T, R, h⟩, _⟩ := h
  obtain ⟨_, _, _, b3⟩ := box4 h.box
  clear h
  go_simp
theorem AS.ld2 {w W : World} {B p q mb k6 g cap : Nat} {ft fr : Int} {la : Option Addr} {n lc : Nat} {o : O} {k10 : Nat} {s : Stp} (h : AS w B p q mb k6 g cap ft fr la n lc o k10 s W) : (Instr.loadAt 60 (.pointer (some ⟨k6, 0, none⟩))).run Try.prog W = .ok (pv q) W := by
  obtain ⟨⟨T, R, h⟩, _⟩ := h
  obtain ⟨b0, _, _, _⟩ := box77 h.b6
  clear h
  go_simp
theorem AS.ld3 {w W : World} {B p q mb k6 g cap : Nat} {ft fr : Int} {la : Option Addr} {n lc : Nat} {o : O} {k10 : Nat} {s : Stp} (h : AS w B p q mb k6 g cap ft fr la n lc o k10 s W) : (Instr.loadAt 34 (.pointer (some ⟨k10, 0, none⟩))).run Try.prog W = .ok (oV s.o) W := by
  obtain ⟨_, h⟩ := h
  have c : ∀ (j : Nat) (v : Value), (stCells s)[j]? = some v → W.cell? ⟨k10, j, none⟩ = some v := fun j v hv => (cell_of_row _ _ _ _ _ _ h).trans hv
  have d0 := c 0 (.int .i64 s.o.t) rfl; have d1 := c 1 (.int .i64 s.o.r) rfl; have d2 := c 2 (.int .i64 s.o.q) rfl; have d3 := c 3 (.int .i64 s.o.nt) rfl; have d4 := c 4 (.int .i64 s.o.nr) rfl
  have d5 := c 5 (.int .i64 s.o.pt) rfl; have d6 := c 6 (.int .i64 s.o.pr) rfl; have d7 := c 7 (.string s.o.nm) rfl; have d8 := c 8 (.bool s.o.d) rfl
  clear c h
  go_simp
  rfl
theorem old_o (T0 : List Rw) (L : List O) (k : Nat) (o : O) : ((stepsF T0 L).take k ++ S0 o :: (stepsF T0 L).drop k).map (·.o) = L.take k ++ o :: L.drop k := by
  rw [List.map_append, List.map_cons, List.map_take, List.map_drop, steps_o]
  rfl
theorem old_take {T0 : List Rw} {L : List O} {k : Nat} (hk : k ≤ L.length) (o : O) : (stepsF T0 (L.take k ++ o :: L.drop k)).take k = ((stepsF T0 L).take k ++ S0 o :: (stepsF T0 L).drop k).take k := by
  have e1 : (stepsF T0 (L.take k)).length = k := by rw [steps_len, List.length_take]; omega
  have e2 : ((stepsF T0 L).take k).length = k := by rw [List.length_take, steps_len]; omega
  have e3 : (stepsF T0 L).take k = stepsF T0 (L.take k) := by
    conv => lhs; rw [← List.take_append_drop k L, steps_append]
    rw [List.take_append_of_le_length (by omega), List.take_of_length_le (by omega)]
  rw [steps_append]
  exact (List.take_left' e1).trans (e3.symm.trans (List.take_left' e2).symm)
/-- One element of the row laid anew. -/
theorem AddI.setK {w W : World} {B p q mb k6 g cap : Nat} {T : List Rw} {ft fr : Int} {la : Option Addr} {n lc : Nat} {R R' : List Stp} {o : O} (h : AddI w W B p q mb k6 g cap T ft fr la n lc R o) (i : Nat) (x : Stp) (hi : i < n + 1) (hl : R'.length = n + 1)
    (hR : ∀ Z : List Value, (stc R ++ Z).take (i * 15) ++ stc1 x ++ (stc R ++ Z).drop (i * 15 + 15) = stc R' ++ Z) :
    ∃ W', (Instr.storeAt 89 (.pointer (some ⟨g, i * 15, none⟩)) (stV x)).run Try.prog W = .ok () W' ∧ AddI w W' B p q mb k6 g cap T ft fr la n lc R' o ∧ ∀ k, k ≠ g → W'.heap[k]? = W.heap[k]? := by
  obtain ⟨Z, h1, h2⟩ := h.row
  have hlen := h.len
  have hs := stR (x := x) h1 (o := i * 15) (by rw [h2]; omega)
  refine ⟨_, hs, ?_, fun k hk => setRow_other W g k _ hk⟩
  rw [hR Z]
  have hg := setRow_grown W g (stc R' ++ Z).toArray
  have hm := h.tab.map
  refine ⟨h.far.trans (Far.of_grown (P := fun k => k = g) hg (fun k e => by injection e with e; exact e.symm)) (fun k hk e => ?_), (setRow_other W g _ _ (cell_ne h.b3 h1 (by decide))).trans h.b3, (setRow_other W g _ _ (cell_ne h.b6 h1 (by decide))).trans h.b6, (setRow_other W g _ _ (cell_ne h.box h1 (by decide))).trans h.box, TabI.setRow h.tab (cell_ne h.tab.box h1 (by decide)) (fun e => map_ne h1 hm e.symm) _, ⟨Z, setRow_heap W g _ _ 89 _ h1, ?_⟩, ⟨hl, hlen.2⟩, h.gb⟩
  · rcases h.gb with hq | hq
    · exact .inr (.inr (by rw [e]; exact hq))
    · omega
  · rw [List.length_append, stc_len, hl]
    rw [List.length_append, stc_len, hlen.1] at h2
    exact h2
theorem wrap_nat {j n : Nat} (h : j < n) (hn : n ≤ 100000) : wrap64 ((j : Int) + 1) = (j : Int) + 1 := by unfold wrap64; omega
theorem meas_nat {j m : Nat} (h : j < m) : m - (intOf (.int .i64 ((j : Int) + 1))).toNat < m - (intOf (.int .i64 (j : Int))).toNat := by simp [intOf]; omega
theorem putIns (S : List Stp) (k : Nat) (x : Stp) : (stc S).take (k * 15) ++ stc1 x ++ (stc S).drop (k * 15) = stc (S.take k ++ x :: S.drop k) := by
  have e : ∀ (S : List Stp) (k : Nat), (stc S).take (k * 15) = stc (S.take k) ∧ (stc S).drop (k * 15) = stc (S.drop k) := by
    intro S
    induction S with
    | nil => intro k; constructor <;> (unfold stc; simp)
    | cons a S ih =>
      intro k
      cases k with
      | zero => constructor <;> (unfold stc; simp)
      | succ k =>
        have hl : (stc1 a).length = 15 := rfl
        have h1 : (k + 1) * 15 = (stc1 a).length + k * 15 := by omega
        rw [stc_cons, h1, List.take_length_add_append, List.drop_length_add_append, (ih k).1, (ih k).2, List.take_succ_cons, List.drop_succ_cons, stc_cons]
        exact ⟨rfl, rfl⟩
  rw [(e S k).1, (e S k).2, stc_append, stc_cons, List.append_assoc]
set_option maxHeartbeats 6400000 in
theorem add_any (w : World) (B p q mb : Nat) (T0 : List Rw) (ft fr : Int) (L : List O) (la : Option Addr) (lc : Nat) (h : TreeI w B p q mb T0 ft fr L la lc) (hu : RiseO L) (hok : OkL L) (hokT : OkT T0) (hl : T0.length + L.length < 10000) (hB : B ≤ w.heap.size) (o : O) (ho : OkO o) (hz : o.nm.size ≤ 9223372036854775807) :
    Calls Try.prog 11 #[pv p, oV o] w fun e w' => e = .returned (.tuple #[.int .i64 (addN ft fr L o), .int .i64 (addE ft fr L o)]) ∧
      ((addE ft fr L o ≠ 0 ∧ Below w.heap.size w w') ∨ (addE ft fr L o = 0 ∧ Far (HasT p mb la) w w' ∧ ∃ g lc', TreeI w' B p q mb T0 ft fr (putO L o) (some ⟨g, 0, none⟩) lc' ∧ ((lgV la 0 0).ownBlock = some g ∨ w.heap.size ≤ g))) := by
  have hb := pl_vstep w (.cells (oCells o) 34)
  have NS := Lib.hid (fun w1 hb => @AB.new w w1 o q ft fr la L.length lc hb)
  have H := Lib.hid (h.haveL.step hb)
  have RT := Lib.hid (fun W => right_big W o.t o.r o.q o.nt o.nr o.pt o.pr o.nm o.d hz)
  have CM := Lib.hid (fun W => St.compare_any W o.t o.r ft fr)
  have HT := Lib.hid h
  have HO := Lib.hid ho
  have ep : (stepsF T0 L).map (·.o) = L := steps_o L T0
  have PL := Lib.hid (fun W (hW : Below w.heap.size w W) => place_of W (some ⟨q, 0, none⟩) ft fr la L.length lc (stepsF T0 L) o.t o.r ((lies_log h).step hW) (by rw [ep]; exact hu) (by rw [steps_len]; omega))
  rw [ep] at PL
  have EE : addE ft fr L o = if rO o = false then 2 else if St.cmpS o.t o.r ft fr ≤ 0 then 11 else if hasO L o.t o.r = true then 9 else 0 := rfl
  have EN : addN ft fr L o = if addE ft fr L o = 0 then ((L.length - posF L o.t o.r : Nat) : Int) else 0 := rfl
  have RB : rO o = rB o.t o.r o.q o.nt o.nr o.pt o.pr o.nm := rfl
  have PQ := Lib.hid (show putO L o = L.take (posF L o.t o.r) ++ o :: L.drop (posF L o.t o.r) from rfl)
  have hpl := pos_le L o.t o.r
  obtain ⟨k, hk⟩ : ∃ z, posF L o.t o.r = z := ⟨_, rfl⟩
  obtain ⟨hs, hhs⟩ : ∃ z, hasO L o.t o.r = z := ⟨_, rfl⟩
  obtain ⟨cz, hcz⟩ : ∃ z, St.cmpS o.t o.r ft fr = z := ⟨_, rfl⟩
  obtain ⟨rb, hrb⟩ : ∃ z, rB o.t o.r o.q o.nt o.nr o.pt o.pr o.nm = z := ⟨_, rfl⟩
  rw [hk] at PL EN PQ hpl
  rw [hhs] at PL EE
  rw [hcz] at CM EE
  rw [hrb] at RT RB
  rw [RB] at EE
  obtain ⟨er, her⟩ : ∃ z, addE ft fr L o = z := ⟨_, rfl⟩
  obtain ⟨en, hen⟩ : ∃ z, addN ft fr L o = z := ⟨_, rfl⟩
  rw [her] at EE EN ⊢
  rw [hen] at EN ⊢
  have EE := Lib.hid EE
  have EN := Lib.hid EN
  clear hb h hu ho ep RB hk hhs hcz hrb her hen
  obtain ⟨t, r, sq, nt, nr, pt, pr, nm, d⟩ := o
  unfold oV
  unfold oCells at NS H ⊢
  dsimp only at *
  go_enter Try.func11, Try.ntmps11
  go_wp2_with fail
  refine (H.out _ (Below.refl _ _)).mono ?_
  rintro e w1 ⟨rfl, hb⟩
  have K := Lib.hid (NS.out w1 hb)
  clear hb
  go_upto_region 2 with (fail)
  generalize w1.alloc (.cells #[pv q, .int .i64 ft, .int .i64 fr, .slice la L.length lc] 77) = w2 at K ⊢
  obtain ⟨k6, hk6⟩ : ∃ z, w1.heap.size = z := ⟨_, rfl⟩
  rw [hk6] at K ⊢
  clear hk6
  obtain ⟨o0, o1, o2, o3, o4, o5, o6, o7, o8⟩ := cell9 K.out.b3
  obtain ⟨g0, g1, g2, g3⟩ := box77 K.out.b6
  go_wp2_with fail
  refine (RT.out w2).mono ?_
  rintro e w3 ⟨rfl, hb⟩
  have K3 := Lib.hid (K.out.step hb)
  clear hb K o0 o1 o2 o3 o4 o5 o6 o7 o8 g0 g1 g2 g3
  obtain ⟨o0, o1, o2, o3, o4, o5, o6, o7, o8⟩ := cell9 K3.out.b3
  obtain ⟨g0, g1, g2, g3⟩ := box77 K3.out.b6
  cases rb with
  | false =>
    have E := Lib.hid (show er = 2 by rw [EE.out, if_pos rfl])
    have N := Lib.hid (show en = 0 by rw [EN.out, if_neg (by rw [E.out]; decide)])
    go_wp2
    go_returns
    refine ⟨by rw [E.out, N.out]; rfl, .inl ⟨by rw [E.out]; decide, K3.out.bel⟩⟩
  | true =>
    have EE := Lib.hid (show er = if cz ≤ 0 then 11 else if hs = true then 9 else 0 by rw [EE.out, if_neg (by decide)])
    go_wp2_with fail
    refine (CM.out w3).mono ?_
    rintro e w4 ⟨rfl, hb⟩
    have K4 := Lib.hid (K3.out.step hb)
    clear hb K3 o0 o1 o2 o3 o4 o5 o6 o7 o8 g0 g1 g2 g3
    obtain ⟨o0, o1, o2, o3, o4, o5, o6, o7, o8⟩ := cell9 K4.out.b3
    obtain ⟨g0, g1, g2, g3⟩ := box77 K4.out.b6
    by_cases hz : cz ≤ 0
    · have hd : decide (cz ≤ 0) = true := decide_eq_true hz
      have E := Lib.hid (show er = 11 by rw [EE.out, if_pos hz])
      have N := Lib.hid (show en = 0 by rw [EN.out, if_neg (by rw [E.out]; decide)])
      clear hz
      go_wp2
      go_returns
      refine ⟨by rw [E.out, N.out]; rfl, .inl ⟨by rw [E.out]; decide, K4.out.bel⟩⟩
    · have hd : decide (cz ≤ 0) = false := decide_eq_false hz
      have EE := Lib.hid (show er = if hs = true then 9 else 0 by rw [EE.out, if_neg hz])
      clear hz
      go_wp2_with fail
      refine (PL.out w4 K4.out.bel).mono ?_
      rintro e w5 ⟨rfl, hb⟩
      have K5 := Lib.hid (K4.out.step hb)
      clear hb K4 o0 o1 o2 o3 o4 o5 o6 o7 o8 g0 g1 g2 g3
      obtain ⟨o0, o1, o2, o3, o4, o5, o6, o7, o8⟩ := cell9 K5.out.b3
      obtain ⟨g0, g1, g2, g3⟩ := box77 K5.out.b6
      cases hs with
      | true =>
        have E := Lib.hid (show er = 9 by rw [EE.out, if_pos rfl])
        have N := Lib.hid (show en = 0 by rw [EN.out, if_neg (by rw [E.out]; decide)])
        go_wp2
        go_returns
        refine ⟨by rw [E.out, N.out]; rfl, .inl ⟨by rw [E.out]; decide, K5.out.bel⟩⟩
      | false =>
        have E := Lib.hid (show er = 0 by rw [EE.out, if_neg (by decide)])
        have N := Lib.hid (show en = (L.length : Int) - (k : Int) by rw [EN.out, if_pos E.out]; omega)
        clear EE EN
        have t5 := Lib.hid (HT.out.step K5.out.bel)
        have hplay := play_len L T0
        have hbk : ((stepsF T0 L).drop k).foldr undoF (playF T0 L) = playF T0 (L.take k) := by
          rw [steps_drop, ← play_take T0 L k]
          exact back_play (L.drop k) (play_rise _ HT.out.r0)
        have BK := Lib.hid (back_any w5 q mb (playF T0 L) (some ⟨q, 0, none⟩) ft fr la L.length lc k (stepsF T0 L) t5.out.tab (lies_log t5.out) hpl (by rw [steps_len]; omega) (steps_ok L hokT hok))
        rw [hbk] at BK
        clear hbk hplay
        go_wp2_with fail
        refine BK.out.mono ?_
        rintro e w6 ⟨rfl, hto⟩
        have A6 := Lib.hid (AC.of HT.out K5.out hto)
        clear hto K5 BK t5 o0 o1 o2 o3 o4 o5 o6 o7 o8 g0 g1 g2 g3
        obtain ⟨o0, o1, o2, o3, o4, o5, o6, o7, o8⟩ := cell9 A6.out.b3
        obtain ⟨g0, g1, g2, g3⟩ := box77 A6.out.b6
        go_upto_region 12 with (fail)
        go_cut [38] from 11 (fun _ wx => ∃ g cap, Hid (AddI w wx B p q mb k6 g cap (playF T0 (L.take k)) ft fr la L.length lc ((stepsF T0 L).take k ++ S0 ⟨t, r, sq, nt, nr, pt, pr, nm, d⟩ :: (stepsF T0 L).drop k) ⟨t, r, sq, nt, nr, pt, pr, nm, d⟩))
        case first =>
          have A7 := Lib.hid (A6.out.step (pl_vstep w6 (.cells (stCells (S0 ⟨t, r, sq, nt, nr, pt, pr, nm, d⟩)) 89)))
          have V7 := Lib.hid (heap_alloc_new w6 (.cells (stCells (S0 ⟨t, r, sq, nt, nr, pt, pr, nm, d⟩)) 89))
          obtain ⟨w7, hw7⟩ : ∃ z, w6.alloc (.cells (stCells (S0 ⟨t, r, sq, nt, nr, pt, pr, nm, d⟩)) 89) = z := ⟨_, rfl⟩
          rw [hw7] at A7 V7
          have HW7 := Lib.hid hw7
          have IS := Lib.hid (insert_any w7 B (.slice la L.length lc) L.length k (stc (stepsF T0 L)) (stc1 (S0 ⟨t, r, sq, nt, nr, pt, pr, nm, d⟩)) A7.out.log hpl (by omega) w6.heap.size V7.out rfl (fun e => by have := own_lt A6.out.log _ e; omega) (fun u hu => stc_one _ u hu) (stc1_one _) (by have := A7.out.far.size; omega))
          clear hw7
          rw [putIns] at IS
          go_wp2_with (first | (refine wpList_bs rfl 75 (.tmp 43) rfl (stV (S0 ⟨t, r, sq, nt, nr, pt, pr, nm, d⟩)) rfl _ _ (bs89 w6 _) ?_; rw [HW7.out]))
          refine IS.out.mono ?_
          rintro e w8 ⟨v', rfl, hv, hgr, hsp⟩
          obtain ⟨g, cap, rfl, hbx, hai⟩ := A7.out.ins (R := (stepsF T0 L).take k ++ S0 ⟨t, r, sq, nt, nr, pt, pr, nm, d⟩ :: (stepsF T0 L).drop k) hv hgr hsp (by simp [steps_len]; omega) HT.out.plt
          have A9 := Lib.hid hai
          obtain ⟨b0, b1, b2, b3⟩ := box4 hbx
          have f3 := frozen_of_row (j := 3) _ _ _ _ hbx
          clear hv hgr hsp hbx hai IS A6 A7 V7 HW7 o0 o1 o2 o3 o4 o5 o6 o7 o8 g0 g1 g2 g3
          go_wp2_with fail
          go_meet
          exact ⟨g, cap, A9⟩
        clear A6 o0 o1 o2 o3 o4 o5 o6 o7 o8 g0 g1 g2 g3
        obtain ⟨g, cap, A9⟩ := hcut
        have hMl : (L.take k ++ (⟨t, r, sq, nt, nr, pt, pr, nm, d⟩ : O) :: L.drop k).length = L.length + 1 := by simp; omega
        have hOo := old_o T0 L k ⟨t, r, sq, nt, nr, pt, pr, nm, d⟩
        have hOt := old_take (T0 := T0) hpl ⟨t, r, sq, nt, nr, pt, pr, nm, d⟩
        have hMt : (L.take k ++ (⟨t, r, sq, nt, nr, pt, pr, nm, d⟩ : O) :: L.drop k).take k = L.take k := by rw [List.take_append_of_le_length (by rw [List.length_take]; omega), List.take_of_length_le (by rw [List.length_take]; omega)]
        have hMok : OkL (L.take k ++ (⟨t, r, sq, nt, nr, pt, pr, nm, d⟩ : O) :: L.drop k) := fun x hx => by
          rcases List.mem_append.1 hx with hx | hx
          · exact hok x (List.mem_of_mem_take hx)
          · rcases List.mem_cons.1 hx with rfl | hx
            · exact HO.out
            · exact hok x (List.mem_of_mem_drop hx)
        obtain ⟨M, hM⟩ : ∃ z, L.take k ++ (⟨t, r, sq, nt, nr, pt, pr, nm, d⟩ : O) :: L.drop k = z := ⟨_, rfl⟩
        obtain ⟨Old, hOld⟩ : ∃ z, (stepsF T0 L).take k ++ S0 ⟨t, r, sq, nt, nr, pt, pr, nm, d⟩ :: (stepsF T0 L).drop k = z := ⟨_, rfl⟩
        rw [hM] at hMl hOo hOt hMt hMok PQ
        rw [hOld] at A9 hOo hOt
        have hOl : Old.length = M.length := by rw [← hOo, List.length_map]
        have J0 := Lib.hid (show AddI w wc B p q mb k6 g cap (playF T0 (M.take (k + 0))) ft fr la L.length lc (rowF T0 M Old (k + 0)) ⟨t, r, sq, nt, nr, pt, pr, nm, d⟩ from by rw [Nat.add_zero, row_start hOt, hMt]; exact A9.out)
        have SLE : ∀ W, (Instr.slice 75 (.slice (some ⟨g, 0, none⟩) (L.length + 1) cap) (some (.int .i64 (k : Int))) none none).run Try.prog W = .ok (.slice (some ⟨g, k * 15, none⟩) (L.length + 1 - k) (cap - k)) W := fun W => by
          have hcl := A9.out.len
          rw [run_slice_l (P := Try.prog) (ht := Try.u75) (h0 := by omega) (h1 := by omega), (show (Go.sizeOf (Try.prog.elem 75)).run Try.prog W = .ok 15 W from run_size89 W)]
          show Result.ok (Value.slice (if cap = k then _ else _) _ _) W = _
          rw [if_neg (by omega)]
          show Result.ok (Value.slice (some ((⟨g, 0, none⟩ : Addr).add (k * 15))) _ _) W = _
          rw [Tb.rk_addr, Nat.zero_add]
          rfl
        obtain ⟨_, _, _, b3⟩ := box4 A9.out.box
        have hMOK := Lib.hid hMok
        have HOO := Lib.hid hOo
        have HOL := Lib.hid hOl
        have hcap := A9.out.len.2
        clear hM hOld hOt hMt hMok hOo A9 hok
        have hmn : ((L.length + 1 : Nat) : Int) = (L.length : Int) + 1 := by omega
        go_wp2
        go_loopw [57] (fun jv wr => ∃ j : Nat, jv = .int .i64 j ∧ j ≤ L.length + 1 - k ∧ Hid (AddI w wr B p q mb k6 g cap (playF T0 (M.take (k + j))) ft fr la L.length lc (rowF T0 M Old (k + j)) ⟨t, r, sq, nt, nr, pt, pr, nm, d⟩)) (fun jv _ => (L.length + 1 - k) - (intOf jv).toNat)
        case atStart => exact ⟨0, rfl, Nat.zero_le _, J0⟩
        case round =>
          obtain ⟨j, rfl, hj, J⟩ := hrel
          by_cases hlt : j < L.length + 1 - k
          · have HLT := Lib.hid hlt
            have HW9 := Lib.hid (wrap_nat hlt (show L.length + 1 - k ≤ 100000 by omega))
            have HMS := Lib.hid (meas_nat hlt)
            have hd : decide ((j : Int) < ((L.length + 1 - k : Nat) : Int)) = true := decide_eq_true (by omega)
            have hj0 : (0 : Int) ≤ (j : Int) := by omega
            have hj1 : (j : Int) < ((L.length + 1 - k : Nat) : Int) := by omega
            obtain ⟨o1, ho1⟩ : ∃ z, M[k + j]? = some z := ⟨_, List.getElem?_eq_getElem (by omega)⟩
            obtain ⟨s1, hs1⟩ : ∃ z, Old[k + j]? = some z := ⟨_, List.getElem?_eq_getElem (by rw [HOL.out]; omega)⟩
            have hso : s1.o = o1 := by
              have := congrArg (fun l => l[k + j]?) HOO.out
              simp only [List.getElem?_map, hs1, ho1] at this
              simpa using this
            have E1 := J.out.elt ((row_at HOL.out (show k + j < M.length by omega)).trans hs1)
            have LX := Lib.hid (@ldS wr g (k * 15 + j * 15) s1 (fun i u hu => by rw [show k * 15 + j * 15 + i = (k + j) * 15 + i by omega]; exact E1 i u hu))
            have O1 := Lib.hid (hMOK.out o1 (List.mem_of_getElem? ho1))
            have HP := Lib.hid (play_snoc T0 ho1)
            have HS := Lib.hid (fun Z => row_set (T0 := T0) HOL.out ho1 Z)
            have HRL := Lib.hid (row_len (T0 := T0) HOL.out (show k + j + 1 ≤ M.length by omega))
            have HPL := Lib.hid (show (playF T0 (M.take (k + j))).length < 100000 from by have := play_len (M.take (k + j)) T0; rw [List.length_take] at this; omega)
            subst hso
            obtain ⟨T1, hT1⟩ : ∃ z, playF T0 (M.take (k + j)) = z := ⟨_, rfl⟩
            rw [hT1] at J HP HPL HS
            clear E1 ho1 hs1 hT1
            obtain ⟨⟨t1, r1, q1, nt1, nr1, pt1, pr1, nm1, d1⟩, did1, had1, wt1, wr1, wn1, wd1⟩ := s1
            unfold stV stCells at LX
            dsimp only at *
            go_upto_region 16 with (first
              | (refine Ve.wpList_load_arr rfl (.tmp 60) 89 rfl (.pointer (some ⟨g, k * 15 + j * 15, none⟩)) _ rfl LX.out ?_))
            have A11 := Lib.hid (J.out.step (pl_vstep wr (.cells (stCells ⟨⟨t1, r1, q1, nt1, nr1, pt1, pr1, nm1, d1⟩, did1, had1, wt1, wr1, wn1, wd1⟩) 89)))
            have N11 := Lib.hid (heap_alloc_new wr (.cells (stCells ⟨⟨t1, r1, q1, nt1, nr1, pt1, pr1, nm1, d1⟩, did1, had1, wt1, wr1, wn1, wd1⟩) 89))
            change Code.wp _ _ _ _ (wr.alloc (.cells (stCells ⟨⟨t1, r1, q1, nt1, nr1, pt1, pr1, nm1, d1⟩, did1, had1, wt1, wr1, wn1, wd1⟩) 89))
            obtain ⟨k10, hk10⟩ : ∃ z, wr.heap.size = z := ⟨_, rfl⟩
            have hgk : g < k10 := by
              rw [← hk10]
              obtain ⟨Z, h1, _⟩ := J.out.row
              exact pl_lt h1
            rw [hk10] at N11 ⊢
            generalize wr.alloc (.cells (stCells ⟨⟨t1, r1, q1, nt1, nr1, pt1, pr1, nm1, d1⟩, did1, had1, wt1, wr1, wn1, wd1⟩) 89) = w11 at A11 N11 ⊢
            clear hk10 LX J
            have hkjn : k + j < L.length + 1 := by omega
            obtain ⟨kj, hkj⟩ : ∃ z, k + j = z := ⟨_, rfl⟩
            rw [hkj] at hkjn
            have hkj0 : (k : Int) + (j : Int) = (kj : Int) := by omega
            have hkj1 : (0 : Int) ≤ (kj : Int) := by omega
            have hkj2 : (kj : Int) < (L.length : Int) + 1 := by omega
            have hkj5 : IntKind.i64.wrap (kj : Int) = (kj : Int) := by rw [IntKind.wrap_i64]; omega
            have hkj3 : IntKind.i64.wrap ((k : Int) + (j : Int)) = (kj : Int) := by rw [IntKind.wrap_i64]; omega
            have hkj4 : wrap64 ((k : Int) + (j : Int)) = (kj : Int) := by unfold wrap64; omega
            rw [hkj] at A11 HS HRL
            have AA := Lib.hid (show AddI w w11.drew B p q mb k6 g cap T1 ft fr la L.length lc (rowF T0 M Old kj) ⟨t, r, sq, nt, nr, pt, pr, nm, d⟩ from A11.out.step (Below.refl _ _).drew)
            have K10 := Lib.hid (show w11.drew.heap[k10]? = some (.cells (stCells ⟨⟨t1, r1, q1, nt1, nr1, pt1, pr1, nm1, d1⟩, did1, had1, wt1, wr1, wn1, wd1⟩) 89 (0, 0)) from N11.out)
            have LA := Lib.hid (fun W (h : AS w B p q mb k6 g cap ft fr la L.length lc ⟨t, r, sq, nt, nr, pt, pr, nm, d⟩ k10 ⟨⟨t1, r1, q1, nt1, nr1, pt1, pr1, nm1, d1⟩, did1, had1, wt1, wr1, wn1, wd1⟩ W) => h.ld1)
            have LB := Lib.hid (fun W (h : AS w B p q mb k6 g cap ft fr la L.length lc ⟨t, r, sq, nt, nr, pt, pr, nm, d⟩ k10 ⟨⟨t1, r1, q1, nt1, nr1, pt1, pr1, nm1, d1⟩, did1, had1, wt1, wr1, wn1, wd1⟩ W) => h.ld2)
            have LC := Lib.hid (fun W (h : AS w B p q mb k6 g cap ft fr la L.length lc ⟨t, r, sq, nt, nr, pt, pr, nm, d⟩ k10 ⟨⟨t1, r1, q1, nt1, nr1, pt1, pr1, nm1, d1⟩, did1, had1, wt1, wr1, wn1, wd1⟩ W) => h.ld3)
            have DO := Lib.hid (fun W (h : TabI W q mb T1) => do_any W q mb T1 h HPL.out ⟨t1, r1, q1, nt1, nr1, pt1, pr1, nm1, d1⟩ O1.out)
            obtain ⟨SV, hSV⟩ : ∃ z, stepF T1 ⟨t1, r1, q1, nt1, nr1, pt1, pr1, nm1, d1⟩ = z := ⟨_, rfl⟩
            rw [hSV] at DO HS
            have IX := Lib.hid (fun W => @ix75 g (L.length + 1) cap kj hkjn W)
            clear hSV A11 N11
            refine wp_region_held_drew (S := fun W => AS w B p q mb k6 g cap ft fr la L.length lc ⟨t, r, sq, nt, nr, pt, pr, nm, d⟩ k10 ⟨⟨t1, r1, q1, nt1, nr1, pt1, pr1, nm1, d1⟩, did1, had1, wt1, wr1, wn1, wd1⟩ W) (by kernel_rfl) ((⟨⟨_, _, AA.out⟩, K10.out⟩ : AS w B p q mb k6 g cap ft fr la L.length lc ⟨t, r, sq, nt, nr, pt, pr, nm, d⟩ k10 ⟨⟨t1, r1, q1, nt1, nr1, pt1, pr1, nm1, d1⟩, did1, had1, wt1, wr1, wn1, wd1⟩ w11.drew)) (fun hHeld => ?_)
            have BV := Lib.hid ((⟨⟨_, _, AA.out⟩, K10.out⟩ : AS w B p q mb k6 g cap ft fr la L.length lc ⟨t, r, sq, nt, nr, pt, pr, nm, d⟩ k10 ⟨⟨t1, r1, q1, nt1, nr1, pt1, pr1, nm1, d1⟩, did1, had1, wt1, wr1, wn1, wd1⟩ w11.drew))
            clear hHeld
            refine take_at (i := 0) 62 ?_ rfl rfl (by kernel_rfl) (by kernel_rfl) (by kernel_rfl) (fun _ _ _ h => h) (.inl ⟨rfl, ?_⟩) BV.out ?_
            rotate_left 1
            · intro w hSw; go_simp; try with_reducible rfl
            simp only [Act.put, List.setIfInBounds_toArray, List.set_cons_zero, List.set_cons_succ]
            refine take_at (i := 1) 63 ?_ rfl rfl (by kernel_rfl) (by kernel_rfl) (by kernel_rfl) (fun _ _ _ h => h) (.inl ⟨rfl, ?_⟩) BV.out ?_
            rotate_left 1
            · intro w hSw; go_simp; try with_reducible rfl
            simp only [Act.put, List.setIfInBounds_toArray, List.set_cons_zero, List.set_cons_succ]
            refine take_at (i := 2) 64 ?_ rfl rfl (by kernel_rfl) (by kernel_rfl) (by kernel_rfl) (fun _ _ _ h => h) (.inl ⟨rfl, ?_⟩) BV.out ?_
            rotate_left 1
            · intro w hSw; go_simp; try with_reducible rfl
            simp only [Act.put, List.setIfInBounds_toArray, List.set_cons_zero, List.set_cons_succ]
            refine take_at (i := 3) 65 ?_ rfl rfl (by kernel_rfl) (by kernel_rfl) (by kernel_rfl) (fun _ _ _ h => h) (.inl ⟨rfl, ?_⟩) BV.out ?_
            rotate_left 1
            · intro w hSw; go_simp; try with_reducible rfl
            simp only [Act.put, List.setIfInBounds_toArray, List.set_cons_zero, List.set_cons_succ]
            refine take_at (i := 4) 66 (.slice (some ⟨g, 0, none⟩) (L.length + 1) cap) rfl rfl (by kernel_rfl) (by kernel_rfl) (by kernel_rfl) (fun _ _ _ h => h) (yields_ld (.tmp 65) 75 (.pointer (some ⟨p, 3, none⟩)) _ LA.out rfl rfl rfl) BV.out ?_
            simp only [Act.put, List.setIfInBounds_toArray, List.set_cons_zero, List.set_cons_succ]
            refine take_at (i := 5) 67 ?_ rfl rfl (by kernel_rfl) (by kernel_rfl) (by kernel_rfl) (fun _ _ _ h => h) (.inl ⟨rfl, ?_⟩) BV.out ?_
            rotate_left 1
            · intro w hSw; go_simp; try with_reducible rfl
            simp only [Act.put, List.setIfInBounds_toArray, List.set_cons_zero, List.set_cons_succ]
            refine take_at (i := 6) 68 ?_ rfl rfl (by kernel_rfl) (by kernel_rfl) (by kernel_rfl) (fun _ _ _ h => h) (.inl ⟨rfl, ?_⟩) BV.out ?_
            rotate_left 1
            · intro w hSw; go_simp; try with_reducible rfl
            simp only [Act.put, List.setIfInBounds_toArray, List.set_cons_zero, List.set_cons_succ]
            refine take_at (i := 7) 69 (.int .i64 (kj : Int)) rfl rfl (by kernel_rfl) (by kernel_rfl) (by kernel_rfl) (fun _ _ _ h => h) (.inl ⟨rfl, fun w hSw => by go_simp⟩) BV.out ?_
            simp only [Act.put, List.setIfInBounds_toArray, List.set_cons_zero, List.set_cons_succ]
            refine take_at (i := 8) 70 ?_ rfl rfl (by kernel_rfl) (by kernel_rfl) (by kernel_rfl) (fun _ _ _ h => h) (.inl ⟨rfl, ?_⟩) BV.out ?_
            rotate_left 1
            · intro w hSw; go_simp; try with_reducible rfl
            simp only [Act.put, List.setIfInBounds_toArray, List.set_cons_zero, List.set_cons_succ]
            refine take_at (i := 9) 71 (.pointer (some ⟨q, 0, none⟩)) rfl rfl (by kernel_rfl) (by kernel_rfl) (by kernel_rfl) (fun _ _ _ h => h) (yields_ld (.tmp 70) 60 (.pointer (some ⟨k6, 0, none⟩)) _ LB.out rfl rfl rfl) BV.out ?_
            simp only [Act.put, List.setIfInBounds_toArray, List.set_cons_zero, List.set_cons_succ]
            refine take_at (i := 10) 72 ?_ rfl rfl (by kernel_rfl) (by kernel_rfl) (by kernel_rfl) (fun _ _ _ h => h) (.inl ⟨rfl, ?_⟩) BV.out ?_
            rotate_left 1
            · intro w hSw; go_simp; try with_reducible rfl
            simp only [Act.put, List.setIfInBounds_toArray, List.set_cons_zero, List.set_cons_succ]
            refine take_at (i := 11) 73 (oV ⟨t1, r1, q1, nt1, nr1, pt1, pr1, nm1, d1⟩) rfl rfl (by kernel_rfl) (by kernel_rfl) (by kernel_rfl) (fun _ _ _ h => h) (yields_ld (.tmp 72) 34 (.pointer (some ⟨k10, 0, none⟩)) _ LC.out rfl rfl rfl) BV.out ?_
            simp only [Act.put, List.setIfInBounds_toArray, List.set_cons_zero, List.set_cons_succ]
            refine wpAnyH_ready (rs := [12]) (by kernel_rfl) (by simp) (br_call (i := 12) 74 47 #[pv q, oV ⟨t1, r1, q1, nt1, nr1, pt1, pr1, nm1, d1⟩] rfl rfl rfl (by go_simp) ((DO.out _ AA.out.tab).mono ?_) AllReadyH.nil)
            rintro e v1 ⟨rfl, ho⟩
            have K10 := Lib.hid ((ho.grow.block _ (pl_lt K10.out) (fun e => map_ne K10.out AA.out.tab.map (by injection e))).trans K10.out)
            have AA := Lib.hid (AA.out.turn ho)
            have BV := Lib.hid (show AS w B p q mb k6 g cap ft fr la L.length lc ⟨t, r, sq, nt, nr, pt, pr, nm, d⟩ k10 ⟨⟨t1, r1, q1, nt1, nr1, pt1, pr1, nm1, d1⟩, did1, had1, wt1, wr1, wn1, wd1⟩ v1 from ⟨⟨_, _, AA.out⟩, K10.out⟩)
            clear ho
            refine ⟨_, rfl, BV.out, fun _ => ?_⟩
            simp only [Act.put, List.setIfInBounds_toArray, List.set_cons_zero, List.set_cons_succ]
            refine take_at (i := 13) 75 (.pointer (some ⟨g, kj * 15, none⟩)) rfl rfl (by kernel_rfl) (by kernel_rfl) (by kernel_rfl) (fun _ _ _ h => h) (yields_ix (.tmp 66) (.tmp 69) 75 (.slice (some ⟨g, 0, none⟩) (L.length + 1) cap) (.int .i64 (kj : Int)) _ IX.out rfl rfl rfl rfl) BV.out ?_
            simp only [Act.put, List.setIfInBounds_toArray, List.set_cons_zero, List.set_cons_succ]
            obtain ⟨wz, hrun, hset, hoth⟩ := AA.out.setK kj SV hkjn (HRL.out.trans hMl) HS.out
            have HRUN := Lib.hid hrun
            have AZ := Lib.hid hset
            have KZ := Lib.hid (show AS w B p q mb k6 g cap ft fr la L.length lc ⟨t, r, sq, nt, nr, pt, pr, nm, d⟩ k10 ⟨⟨t1, r1, q1, nt1, nr1, pt1, pr1, nm1, d1⟩, did1, had1, wt1, wr1, wn1, wd1⟩ wz from ⟨⟨_, _, AZ.out⟩, (hoth k10 (by omega)).trans K10.out⟩)
            clear hrun hset hoth
            refine wpAnyH_ready (rs := [14]) (by kernel_rfl) (by simp) (br_store (i := 14) 89 (.tmp 75) (.tmp 74) (.pointer (some ⟨g, kj * 15, none⟩)) (stV SV) wz rfl rfl rfl rfl rfl rfl HRUN.out KZ.out (fun _ => ?_) AllReadyH.nil)
            simp only [Act.put, List.setIfInBounds_toArray, List.set_cons_zero, List.set_cons_succ]
            refine wpAnyH_done (by kernel_rfl) ?_ _
            have AN := Lib.hid (show AddI w wz B p q mb k6 g cap (playF T0 (M.take (k + (j + 1)))) ft fr la L.length lc (rowF T0 M Old (k + (j + 1))) ⟨t, r, sq, nt, nr, pt, pr, nm, d⟩ from by rw [← Nat.add_assoc, HP.out, hkj]; exact AZ.out)
            clear AA K10 BV KZ HRUN AZ hkj0 hkj1 hkj2 hkj3 hkj4 hkj5 hkjn hkj hgk hcap hmn hj0 hj1 hj hl hB hz hpl
            go_wp2
            go_roundw
            case rel => exact ⟨j + 1, by rw [HW9.out]; rfl, HLT.out, AN⟩
            case measure => rw [HW9.out]; exact HMS.out
          · have ej : j = L.length + 1 - k := by omega
            subst ej
            have hd : decide (((L.length + 1 - k : Nat) : Int) < ((L.length + 1 - k : Nat) : Int)) = false := by simp
            have JF := J.out
            rw [show k + (L.length + 1 - k) = M.length by omega, List.take_length, row_end HOL.out, ← PQ.out] at JF
            have FIN := Lib.hid (show Far (HasT p mb la) w wr ∧ ∃ g lc', TreeI wr B p q mb T0 ft fr (putO L ⟨t, r, sq, nt, nr, pt, pr, nm, d⟩) (some ⟨g, 0, none⟩) lc' ∧ ((lgV la 0 0).ownBlock = some g ∨ w.heap.size ≤ g) from ⟨JF.far, g, cap, AddI.done HT.out JF, JF.gb⟩)
            obtain ⟨_, _, _, g3⟩ := box77 JF.b6
            have hw2 : wrap64 ((L.length : Int) - (k : Int)) = (L.length : Int) - (k : Int) := by unfold wrap64; omega
            clear JF J J0 b3 SLE
            go_wp2
            go_returns
            refine ⟨?_, .inr ⟨E.out, FIN.out⟩⟩
            rw [E.out, N.out]
            rfl
end Go.Proofs.Ytkmeceoilighiaa
