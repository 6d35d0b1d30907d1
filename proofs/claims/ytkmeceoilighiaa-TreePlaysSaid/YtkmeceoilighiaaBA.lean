/- A step undone; the log undone from its end: back. -/
import Derived.Test.YtkmeceoilighiaaBK
import Derived.Test.YtkmeceoilighiaaIO
import Derived.Test.YtkmeceoilighiaaEM
set_option linter.unusedVariables false
set_option linter.unusedSimpArgs false
set_option maxRecDepth 100000
namespace Go.Proofs.Ytkmeceoilighiaa
open Go.RowKit Go.Shelf Go.Lib
open Tb (Rw setF dropF getF aboveF Rise TabI TM LiesK TOut)
attribute [local go_sem] Oper.semAt_some

def Stp.ok (s : Stp) : Prop := Tb.I64 s.o.nt ∧ Tb.I64 s.o.nr ∧ Tb.I64 s.wt ∧ Tb.I64 s.wr
set_option maxHeartbeats 1600000 in
theorem undo_any (w : World) (p b : Nat) (T : List Rw) (h : TabI w p b T) (hl : T.length < 100000) (s : Stp) (hs : s.ok) :
    Calls Try.prog 68 #[stV s, .pointer (some ⟨p, 0, none⟩)] w fun e w' => e = .returned (.tuple #[]) ∧ TOut w w' p b (undoF s T) := by
  obtain ⟨⟨t, r, q, nt, nr, pt, pr, nm, d⟩, did, had, wt, wr, wn, wd⟩ := s
  obtain ⟨h1, h2, h3, h4⟩ := hs
  dsimp only at h1 h2 h3 h4
  unfold stV stCells undoF
  dsimp only
  have B1 := pl_vstep w (.cells #[.int .i64 t, .int .i64 r, .int .i64 q, .int .i64 nt, .int .i64 nr, .int .i64 pt, .int .i64 pr, .string nm, .bool d, .bool did, .bool had, .int .i64 wt, .int .i64 wr, .string wn, .bool wd] 89)
  have T1 := h.step B1
  have GB : ∀ (w' : World) (x : List Rw), TOut (w.alloc (.cells #[.int .i64 t, .int .i64 r, .int .i64 q, .int .i64 nt, .int .i64 nr, .int .i64 pt, .int .i64 pr, .string nm, .bool d, .bool did, .bool had, .int .i64 wt, .int .i64 wr, .string wn, .bool wd] 89)) w' p b x → TOut w w' p b x := fun w' x hh =>
    ⟨hh.tab, (Tb.below_grown B1 (some b)).andThen hh.grow (fun j e => Or.inr e)⟩
  have GB := Lib.hid GB
  cases did with
  | false =>
    have F := Lib.hid (show TOut w (w.alloc (.cells #[.int .i64 t, .int .i64 r, .int .i64 q, .int .i64 nt, .int .i64 nr, .int .i64 pt, .int .i64 pr, .string nm, .bool d, .bool false, .bool had, .int .i64 wt, .int .i64 wr, .string wn, .bool wd] 89)) p b T from ⟨T1, Tb.below_grown B1 _⟩)
    clear B1 T1 GB h
    go_enter Try.func68, Try.ntmps68
    go_wp2
    go_returns
    exact ⟨rfl, F.out⟩
  | true =>
    cases had with
    | true =>
      have S := Lib.hid (Tb.set_any _ p b T T1 (by omega) ⟨nt, nr, wt, wr, wn, wd⟩ ⟨h1, h2, h3, h4⟩)
      clear B1 T1 h
      go_enter Try.func68, Try.ntmps68
      go_wp2_with fail
      refine S.out.mono ?_
      rintro e w1 ⟨rfl, ho⟩
      have F := Lib.hid (GB.out _ _ ho)
      clear ho
      go_wp2
      go_returns
      exact ⟨rfl, F.out⟩
    | false =>
      have S := Lib.hid (Tb.drop_any _ p b T T1 nt nr h1 h2)
      clear B1 T1 h
      go_enter Try.func68, Try.ntmps68
      go_wp2_with fail
      refine S.out.mono ?_
      rintro e w1 ⟨rfl, ho⟩
      have F := Lib.hid (GB.out _ _ ho)
      clear ho
      go_wp2
      go_returns
      exact ⟨rfl, F.out⟩
set_option maxHeartbeats 800000 in
theorem backward_any (w : World) (a : Option Addr) (n c : Nat) : Calls Try.prog 67 #[.slice a n c] w fun e w' => e = .returned (.func (.func 88) #[] #[.pointer (some ⟨w.heap.size, 0, none⟩)]) ∧ w' = w.alloc (.cells #[.slice a n c] 75) := by
  go_enter Try.func67, Try.ntmps67
  go_wp2
  go_returns
  exact ⟨rfl, rfl⟩
theorem slice_tailK {α : Type} {enc : α → List Value} {k : Nat} {t : TypeId} (ht : Try.prog.underlying t = some (.slice (Try.prog.elem t))) (hz : ∀ W, (Go.sizeOf (Try.prog.elem t)).run Try.prog W = .ok k W) {w : World} {ra : Option Addr} {n rc at_ : Nat} {l : List α} (h : LiesK enc k w (.slice ra n rc) l) (hat : at_ ≤ n) :
    ∃ A, (∀ W, (Instr.slice t (.slice ra n rc) (some (.int .i64 (at_ : Int))) none none).run Try.prog W = .ok (.slice A (n - at_) (rc - at_)) W) ∧ LiesK enc k w (.slice A (n - at_) (rc - at_)) (l.drop at_) := by
  refine ⟨if rc = at_ then ra else ra.map (·.add (at_ * k)), fun W => ?_, ?_⟩
  · rw [run_slice_l (P := Try.prog) (ht := ht) (h0 := by omega) (h1 := by omega), hz W]
    show Result.ok _ _ = Result.ok (Value.slice (if rc = at_ then ra else ra.map (·.add (at_ * k))) (n - at_) (rc - at_)) W
    rfl
  · obtain ⟨ao, cap, e, h1, h2, h3, h4⟩ := h
    injection e with e1 e2 e3
    subst e1 e2 e3
    have hdl : (l.drop at_).length = l.length - at_ := List.length_drop
    by_cases hrc : rc = at_
    · rw [if_pos hrc]
      have e0 : l.drop at_ = [] := List.eq_nil_of_length_eq_zero (by omega)
      rw [e0]
      exact ⟨_, _, by rw [show l.length - at_ = 0 by omega]; rfl, Nat.zero_le _, by omega, (fun e => ⟨rfl, by omega⟩), fun b hb hne => absurd rfl hne⟩
    · rw [if_neg hrc]
      refine ⟨_, rc - at_, by rw [hdl], by rw [hdl]; omega, by omega, fun e => ?_, fun b hb hne => ?_⟩
      · cases ra with
        | none => have := h3 rfl; exact ⟨by rw [this.1]; simp, by omega⟩
        | some b => cases e
      · cases ra with
        | none => cases hb
        | some b0 =>
          obtain ⟨g, o, rfl, hg, hc⟩ := h4 b0 rfl (fun e => hne (by rw [e]; simp))
          injection hb with hb
          subst hb
          refine ⟨g, o + at_ * k, by show (⟨g, o, none⟩ : Addr).add (at_ * k) = _; rw [Tb.rk_addr], hg, fun j p hj i u hu => ?_⟩
          rw [List.getElem?_drop] at hj
          have := hc _ p hj i u hu
          rw [show o + at_ * k + j * k = o + (at_ + j) * k by rw [Nat.add_mul]; omega]
          exact this
theorem lies_turnK {α : Type} {enc : α → List Value} {k : Nat} {w w' : World} {b : Nat} {m : List Rw} {l : List α} {v : Value} (h : LiesK enc k w v l) (hm : TM w b m) (hg : w.grownBy w' (some b)) : LiesK enc k w' v l := by
  obtain ⟨ao, cap, h1, h2, h3, h4, h5⟩ := h
  refine ⟨ao, cap, h1, h2, h3, h4, fun a ha hne => ?_⟩
  obtain ⟨g, o, rfl, hgl, hc⟩ := h5 a ha hne
  refine ⟨g, o, rfl, Nat.lt_of_lt_of_le hgl hg.size, fun j p hp i u hu => hg.cell (hc j p hp i u hu) (fun e => ?_)⟩
  injection e with e
  have e : g = b := e
  subst e
  obtain ⟨es, ⟨es', c, hb', _⟩, _⟩ := hm
  have := hc j p hp i u hu
  simp [World.cell?, hb'] at this
theorem undo_len (s : Stp) (T : List Rw) : (undoF s T).length ≤ T.length + 1 := by
  unfold undoF
  split
  · split
    · exact Tb.setF_len _ _
    · unfold dropF; exact Nat.le_trans (List.length_filter_le _ _) (by omega)
  · omega
theorem undos_len : ∀ (S : List Stp) (T : List Rw), (S.foldr undoF T).length ≤ T.length + S.length
  | [], T => by simp
  | s :: S, T => by
    have h1 := undo_len s (S.foldr undoF T)
    have h2 := undos_len S T
    rw [List.foldr_cons, List.length_cons]
    omega
/-- Between two rounds of back. -/
structure BI (w : World) (p b bx : Nat) (T : List Rw) (v : Value) (D : List Stp) (i : Nat) (W : World) : Prop where
  tab : TabI W p b ((D.drop (D.length - i)).foldr undoF T)
  bel : w.grownBy W (some b)
  box : W.heap[bx]? = some (.cells #[v] 75 (0, 0))
  tb : W.heap[w.heap.size + 1]? = some (.cells #[pv p] 60 (0, 0))
  lies : LiesK stc1 15 W v D
theorem ncells_ne {W : World} {k r : Nat} {c : Array Value} {t : TypeId} {f : Nat × Nat} (h : W.heap[k]? = some (.cells c t f)) {o : Obj} (ho : W.heap[r]? = some o) (hc : o.isCells = false) : k ≠ r := fun e => by
  rw [e, ho] at h; injection h with h; subst h; cases hc
theorem BI.own (w : World) (p b bx B : Nat) (T : List Rw) (v : Value) (D : List Stp) (hb : b < B) (hB : w.heap.size ≤ B) : OwnFrom B (BI w p b bx T v D) := by
  intro i W W' row h hg hr
  have hnb : some b ≠ row := fun e => by have := (hr b e.symm).1; omega
  refine ⟨⟨(hg.block _ h.tab.plt (fun e => ?_)).trans h.tab.box, h.tab.map.grown hg hnb⟩, ?_, (hg.block _ (pl_lt h.box) (fun e => ?_)).trans h.box, (hg.block _ (pl_lt h.tb) (fun e => ?_)).trans h.tb, ?_⟩
  · obtain ⟨_, o, ho, hc⟩ := hr _ e.symm; exact ncells_ne h.tab.box ho hc rfl
  · exact ⟨hg.os.trans h.bel.os, hg.tape.trans h.bel.tape, hg.output.trans h.bel.output, Nat.le_trans h.bel.size hg.size, fun k hk hne => (hg.block k (Nat.lt_of_lt_of_le hk h.bel.size) (fun e => by have := (hr k e.symm).1; omega)).trans (h.bel.block k hk hne)⟩
  · obtain ⟨_, o, ho, hc⟩ := hr _ e.symm; exact ncells_ne h.box ho hc rfl
  · obtain ⟨_, o, ho, hc⟩ := hr _ e.symm; exact ncells_ne h.tb ho hc rfl
  · obtain ⟨ao, cap, h1, h2, h3, h4, h5⟩ := h.lies
    refine ⟨ao, cap, h1, h2, h3, h4, fun a ha hne => ?_⟩
    obtain ⟨g, o, rfl, hgl, hc⟩ := h5 a ha hne
    refine ⟨g, o, rfl, Nat.lt_of_lt_of_le hgl hg.size, fun j s hs i u hu => hg.cell (hc j s hs i u hu) (fun e => ?_)⟩
    obtain ⟨_, ob, ho, hcc⟩ := hr _ e.symm
    have ho : W.heap[g]? = some ob := ho
    have := hc j s hs i u hu
    simp [World.cell?, ho] at this
    cases ob <;> simp_all [Obj.isCells]
set_option maxHeartbeats 1600000 in
theorem back_in (m : Nat) (hm : 4 ≤ m) (w : World) (p b : Nat) (T : List Rw) (u : Option Addr) (ft fr : Int) (a : Option Addr) (n c k : Nat) (S : List Stp) (h : TabI w p b T) (hS : LiesK stc1 15 w (.slice a n c) S) (hk : k ≤ n) (hl : T.length + S.length < 100000) (hok : ∀ s ∈ S, s.ok) :
    CallsIn Fence.wide m Try.prog 45 #[.agg #[.pointer u, .int .i64 ft, .int .i64 fr, .slice a n c], pv p, .int .i64 k] w fun e w' => e = .returned (.tuple #[]) ∧ TOut w w' p b ((S.drop k).foldr undoF T) := by
  have h1 : 1 ≤ m := by omega
  have hro : Fence.wide.round = none := rfl
  obtain ⟨A, hsl, hD⟩ := slice_tailK Try.u75 run_size89 hS hk
  obtain ⟨D, hDD⟩ : ∃ z, z = S.drop k := ⟨_, rfl⟩
  rw [← hDD] at hD ⊢
  have hDl : D.length = n - k := by
    obtain ⟨ao, cap, e, _⟩ := hS
    injection e with _ e _
    rw [hDD, List.length_drop, e]
  have hokD : ∀ s ∈ D, s.ok := fun s hs => hok s (by rw [hDD] at hs; exact List.mem_of_mem_drop hs)
  have hlD : T.length + D.length < 100000 := by rw [hDD, List.length_drop]; omega
  have HOK := Lib.hid hokD
  obtain ⟨W0, hW0⟩ : ∃ z, z = w.alloc (.cells #[.pointer u, .int .i64 ft, .int .i64 fr, .slice a n c] 77) := ⟨_, rfl⟩
  have B0 := pl_vstep w (.cells #[.pointer u, .int .i64 ft, .int .i64 fr, .slice a n c] 77)
  have N0 := heap_alloc_new w (.cells #[.pointer u, .int .i64 ft, .int .i64 fr, .slice a n c] 77)
  have s0 : W0.heap.size = w.heap.size + 1 := by rw [hW0]; simp
  rw [← hW0] at B0 N0
  obtain ⟨W1, hW1⟩ : ∃ z, z = W0.alloc (.cells #[pv p] 60) := ⟨_, rfl⟩
  have B1 := pl_vstep W0 (.cells #[pv p] 60)
  have N1 := heap_alloc_new W0 (.cells #[pv p] 60)
  have s1 : W1.heap.size = w.heap.size + 2 := by rw [hW1]; simp [s0]
  rw [← hW1, s0] at N1
  rw [← hW1] at B1
  have g3 : W1.cell? ⟨w.heap.size, 3, none⟩ = some (.slice a n c) := by rw [cell_of_row _ _ _ _ _ _ ((B1.block _ (pl_lt N0)).trans N0)]; rfl
  have BW := Lib.hid (callsIn_wide (n := m - 1).2 (backward_any W1 A (n - k) (c - k)))
  obtain ⟨W2, hW2⟩ : ∃ z, z = W1.alloc (.cells #[.slice A (n - k) (c - k)] 75) := ⟨_, rfl⟩
  have B2 := pl_vstep W1 (.cells #[.slice A (n - k) (c - k)] 75)
  have N2 := heap_alloc_new W1 (.cells #[.slice A (n - k) (c - k)] 75)
  rw [s1, ← hW2] at N2
  rw [s1, ← hW2] at BW
  have s2 : W2.heap.size = w.heap.size + 3 := by rw [hW2]; simp [s1]
  rw [← hW2] at B2
  have BB := B0.trans ((B1.trans (B2.mono B1.size)).mono B0.size)
  have I0 := Lib.hid (show BI w p b (w.heap.size + 2) T (.slice A (n - k) (c - k)) D 0 W2 from ⟨by rw [Nat.sub_zero, List.drop_length]; exact h.step BB, Tb.below_grown BB _, N2, (B2.block _ (pl_lt N1)).trans N1, hD.step BB⟩)
  have hbl := h.blt
  have HE0 := Lib.hid hW0
  have HE1 := Lib.hid hW1
  have S2 := Lib.hid s2
  have HDL := Lib.hid hDl
  clear hW0 hW1 hW2 B0 B1 B2 N0 N1 N2 s0 s1 s2 BB h hS hD hok hDD hDl hokD
  refine callsIn_of_wp_marks Try.func45 rfl trivial ?_ hro
  simp only [Try.ntmps45, List.size_toArray, List.length_cons, List.length_nil, Nat.reduceAdd, Nat.reduceSub, Array.replicate_succ, Array.replicate_zero, List.push_toArray, List.append_toArray, List.nil_append, List.cons_append]
  gi_wp2
  rw [← HE0.out, ← HE1.out]
  refine ⟨trivial, ?_⟩
  refine BW.out.mono ?_
  rintro e w3 ⟨rfl, hw3⟩
  subst hw3
  clear g3
  gi_wp2
  refine range_back (v := .slice A (n - k) (c - k)) (bx := w.heap.size + 2) (L := D) (by omega) (by omega) rfl rfl (BI w p b (w.heap.size + 2) T (.slice A (n - k) (c - k)) D) (BI.own w p b _ _ T _ D (by have := S2.out; omega) (by have := S2.out; omega)) I0.out (fun i W h => ⟨by rw [cell_of_row _ _ _ _ _ _ h.box]; rfl, h.lies⟩) (fun k' s b' => { tmps := #[.agg #[.pointer u, .int .i64 ft, .int .i64 fr, .slice a n c], pv p, .int .i64 (k : Int), .pointer (some ⟨w.heap.size, 0, none⟩), .pointer (some ⟨w.heap.size + 1, 0, none⟩), undef, undef, pv b', .pointer (some ⟨w.heap.size, 3, none⟩), .slice a n c, .int .i64 (k : Int), .slice A (n - k) (c - k), .func (.func 88) #[] #[.pointer (some ⟨w.heap.size + 2, 0, none⟩)], .int .i64 (k' : Int), stV s, undef, undef, undef], defers := [] }) ?assign ?body ?done
  case assign =>
    intro l' k' s W K hK
    obtain ⟨⟨t, r, q, nt, nr, pt, pr, nm, d⟩, did, had, wt, wr, wn, wd⟩ := s
    unfold stV stCells at *
    dsimp only at hK ⊢
    gi_wp2_with (rw [Oper.semAt_eq _ _ _ (fun c h => by cases h)]; go_simp; try go_bits)
    exact hK
  case body =>
    intro l' i k' b' s W hI hil hk' hget hb1 hb2 hbox
    have UN := Lib.hid (CallsIn.inRound l' (callsIn_wide (n := m - 1 - 1 - 1).2 (undo_any W p b _ hI.tab (by have := undos_len (D.drop (D.length - i)) T; rw [List.length_drop] at this; omega) s (HOK.out s (List.mem_of_getElem? hget)))))
    have HN := Lib.hid (show undoF s ((D.drop (D.length - i)).foldr undoF T) = (D.drop (D.length - (i + 1))).foldr undoF T by
      have e1 : D.length - (i + 1) = k' := by omega
      have e2 : D.length - i = k' + 1 := by omega
      rw [e1, e2, (List.drop_eq_getElem_cons (show k' < D.length by omega) : D.drop k' = _)]
      rw [List.foldr_cons, (List.getElem?_eq_some_iff.1 hget).2])
    have HI := Lib.hid hI
    have c4 : W.cell? ⟨w.heap.size + 1, 0, none⟩ = some (pv p) := by rw [cell_of_row _ _ _ _ _ _ hI.tb]; rfl
    obtain ⟨⟨t, r, q, nt, nr, pt, pr, nm, d⟩, did, had, wt, wr, wn, wd⟩ := s
    unfold stV stCells at *
    dsimp only at *
    have LS : ∀ (j : Nat) (x : Value), ((#[.int .i64 t, .int .i64 r, .int .i64 q, .int .i64 nt, .int .i64 nr, .int .i64 pt, .int .i64 pr, .string nm, .bool d, .bool did, .bool had, .int .i64 wt, .int .i64 wr, .string wn, .bool wd] : Array Value))[j]? = some x → W.cell? ⟨b', j, none⟩ = some x := fun j x hx => by rw [cell_of_row _ _ _ _ _ _ hbox]; exact hx
    have d0 := LS 0 _ rfl; have d1 := LS 1 _ rfl; have d2 := LS 2 _ rfl; have d3 := LS 3 _ rfl; have d4 := LS 4 _ rfl; have d5 := LS 5 _ rfl; have d6 := LS 6 _ rfl; have d7 := LS 7 _ rfl
    have d8 := LS 8 _ rfl; have d9 := LS 9 _ rfl; have d10 := LS 10 _ rfl; have d11 := LS 11 _ rfl; have d12 := LS 12 _ rfl; have d13 := LS 13 _ rfl; have d14 := LS 14 _ rfl
    clear LS hbox hI hget
    gi_wp2_with (rw [Oper.semAt_eq _ _ _ (fun c h => by cases h)]; go_simp; try go_bits)
    refine ⟨trivial, fun _ => by omega, ?_⟩
    refine UN.out.mono ?_
    rintro e w5 ⟨rfl, ho⟩
    have HO := Lib.hid ho
    clear ho
    gi_wp2_with (rw [Oper.semAt_eq _ _ _ (fun c h => by cases h)]; go_simp; try go_bits)
    have hG := HO.out.grow
    have hT := HO.out.tab
    have hbW : b < w3.heap.size := by have := S2.out; omega
    refine ⟨hG.block _ (by omega) (fun e => by injection e; omega), hG.block _ (by omega) (fun e => by injection e; omega), ?_⟩
    have hbx := HI.out.box
    have htb := HI.out.tb
    refine ⟨?_, ⟨hG.os.trans HI.out.bel.os, hG.tape.trans HI.out.bel.tape, hG.output.trans HI.out.bel.output, Nat.le_trans HI.out.bel.size hG.size, fun j hj hne => (hG.block j (Nat.lt_of_lt_of_le hj HI.out.bel.size) hne).trans (HI.out.bel.block j hj hne)⟩, (hG.block _ (pl_lt hbx) (fun e => by injection e; omega)).trans hbx, (hG.block _ (pl_lt htb) (fun e => by injection e; omega)).trans htb, lies_turnK HI.out.lies HI.out.tab.map hG⟩
    rw [← HN.out]
    exact hT
  case done =>
    intro D' W hD' hI hK
    have FIN := Lib.hid (show TOut w (W.putObj D' (.deferred none)) p b (D.foldr undoF T) from by
      have h2 := (BI.own w p b (w.heap.size + 2) w3.heap.size T (.slice A (n - k) (c - k)) D (by have := S2.out; omega) (by have := S2.out; omega)).putObj (.deferred none) hI hD' hK rfl
      have h3 := h2.tab
      rw [Nat.sub_self, List.drop_zero] at h3
      exact ⟨h3, h2.bel⟩)
    have HK := Lib.hid hK
    gi_wp2
    exact ⟨by simp, .inl ⟨_, _, rfl, run_takeDeferred HK.out, ⟨_, results_none rfl _ _ _, rfl, FIN.out⟩⟩⟩
theorem back_any (w : World) (p b : Nat) (T : List Rw) (u : Option Addr) (ft fr : Int) (a : Option Addr) (n c k : Nat) (S : List Stp) (h : TabI w p b T) (hS : LiesK stc1 15 w (.slice a n c) S) (hk : k ≤ n) (hl : T.length + S.length < 100000) (hok : ∀ s ∈ S, s.ok) :
    Calls Try.prog 45 #[.agg #[.pointer u, .int .i64 ft, .int .i64 fr, .slice a n c], pv p, .int .i64 k] w fun e w' => e = .returned (.tuple #[]) ∧ TOut w w' p b ((S.drop k).foldr undoF T) :=
  callsIn_wide.1 (back_in 4 (Nat.le_refl _) w p b T u ft fr a n c k S h hS hk hl hok)
end Go.Proofs.Ytkmeceoilighiaa
