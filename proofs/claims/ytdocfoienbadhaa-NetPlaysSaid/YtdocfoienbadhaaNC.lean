/- Send. Made by gennc.py. -/
import Derived.Test.YtdocfoienbadhaaNKp
import Derived.Test.YtdocfoienbadhaaRH
set_option linter.unusedVariables false
namespace Go.Proofs.Ytdocfoienbadhaa
open Go.RowKit

theorem ut24 : Try.prog.underlying 24 = some (.slice 39) := by kernel_rfl
theorem i39 : (Try.prog.info? 39).map (fun i => (i.zero, i.size, i.bytes)) = some (some (.agg #[.int .i64 0, .slice none 0 0, .bool false]), 3, 40) := by kernel_rfl
theorem load24 (W : World) (p : Addr) (v : Value) (h : W.cell? p = some v) : (Instr.loadAt 24 (.pointer (some p))).run Try.prog W = .ok v W := by go_simp
theorem store24 (W : World) (p : Nat) (a : Option Addr) (n c : Nat) (x y : Value) (h : W.heap[p]? = some (.cells #[x, y] 26 (0, 0))) : (Instr.storeAt 24 (.pointer (some ⟨p, 0, none⟩)) (.slice a n c)).run Try.prog W = .ok () (W.setCell ⟨p, 0, none⟩ (.slice a n c)) := by
  have c0 := cell_of_row _ p 0 _ _ _ h
  have f0 := frozen_of_row _ p 0 _ _ h
  simp at c0
  go_simp
theorem load39 (W : World) (b : Nat) (d : Int) (a : Option Addr) (n c : Nat) (hu : Bool) (h : W.heap[b]? = some (.cells #[.int .i64 d, .slice a n c, .bool hu] 39 (0, 0))) : (Instr.loadAt 39 (.pointer (some ⟨b, 0, none⟩))).run Try.prog W = .ok (.agg #[.int .i64 d, .slice a n c, .bool hu]) W := by
  have c0 := cell_of_row _ b 0 _ _ _ h
  have c1 := cell_of_row _ b 1 _ _ _ h
  have c2 := cell_of_row _ b 2 _ _ _ h
  simp at c0 c1 c2
  go_simp
theorem bs39 (W : World) (d : Int) (a : Option Addr) (n c : Nat) (hu : Bool) : (Instr.buildSlice 24 1 #[(0, .agg #[.int .i64 d, .slice a n c, .bool hu])]).run Try.prog W = .ok (.slice (some ⟨W.heap.size, 0, none⟩) 1 1) (W.alloc (.cells #[.int .i64 d, .slice a n c, .bool hu] 39)) := by go_simp
section
variable {P : Program} {md : Region.Mode} {ops : Array Oper} {Q : Exit → Act → World → Prop} {S : World → Prop} {i fuel : Nat} {oi : Oper} {listed : Array Bool} {a : Act} {w : World}
theorem one_append (d : Nat) (s x : Operand) (t tx : TypeId) (hi : ops[i]? = some oi) (hd : oi.dst = some d) (hr : Region.ready md ops listed = [i]) (hw : Region.wanted oi (yielded ops a.tmps) = true)
    (ho : oi.op = .call { callee := .builtin .append, args := #[s, x], argTypes := #[t, tx] }) (v xv u : Value) (w' : World) (hs : a.eval s = v) (hx : a.eval x = xv)
    (hrun : (Builtin.append_ #[t, tx] oi.type #[v, xv]).run P w = .ok u w') (hS : S w')
    (h : S w' → wpAnyH P md ops Q S fuel (listed.setIfInBounds i true) (a.put (some d) u) w') : wpAnyH P md ops Q S (fuel + 1) listed a w := by
  refine wpAnyH_ready (rs := [i]) hr (by simp) (AllReadyH.cons hi (fun K hK => ?_) AllReadyH.nil)
  rw [if_pos hw]
  unfold Oper.wp
  simp only [execOp, ho, resolve, invoke, builtin, Sem.run_bind, Sem.run_pure, Result.andThen_ok, List.map_toArray, List.map_cons, List.map_nil, hs, hx, hrun]
  show K _ _
  rw [hd]
  exact hK.out _ _ hS h
theorem br_load2 (d : Nat) (ty : TypeId) (x : Operand) (p u : Value) {rs : List Nat} (hi : ops[i]? = some oi) (hd : oi.dst = some d) (hw : Region.wanted oi (yielded ops a.tmps) = true)
    (ho : oi.op = .load ty x) (hx : a.eval x = p) (hrun : (Instr.loadAt ty p).run P w = .ok u w) (hS : S w)
    (h : S w → wpAnyH P md ops Q S fuel (listed.setIfInBounds i true) (a.put (some d) u) w)
    (hrs : AllReadyH P md ops Q S fuel listed a w rs) : AllReadyH P md ops Q S fuel listed a w (i :: rs) := by
  refine AllReadyH.cons hi (fun K hK => ?_) hrs
  rw [if_pos hw]
  unfold Oper.wp execOp
  simp only [ho, hx, hrun, Sem.run_bind, Sem.run_pure, Result.andThen_ok]
  show K _ _
  rw [hd]
  exact hK.out _ _ hS h
end
theorem own_some {w : World} {B e size n : Nat} {v : Value} {xs : List Value} (h : w.ownsRow B e size v n xs) : ∀ k, v.ownBlock = some k → B ≤ k ∧ k < w.heap.size := h.lt
/-- What a net is behind a flight that was put. -/
theorem net_sent {B : Nat} {W W1 W2 : World} {p : Nat} {fv v' r : Value} {fl : List Fl} {lost dst : Int} {bs : List Nat} {hurt : Bool} (h : NetAt B W p fv fl lost) (hb : Below W.heap.size W W1)
    (hr : W1.ownsRow W.heap.size 5 1 r bs.length (u8s bs)) (hby : Byt bs) (hl : bs.length ≤ 1000) (hn : fl.length < 256) (hB : B ≤ W.heap.size)
    (ho : W2.ownsRow B 39 3 v' (fl.length + 1) (flat fl ++ fc ⟨dst, r, bs, hurt⟩)) (hg : W1.grownBy W2 fv.ownBlock) (hs : Sprung W1 fv v') :
    NetAt B (W2.setCell ⟨p, 0, none⟩ v') p v' (fl ++ [⟨dst, r, bs, hurt⟩]) lost := by
  have hp := lt_of_block h.row0
  have hsz := hb.size
  have hfv := h.row.lt
  have hv'p : v'.ownBlock ≠ some p := fun e => by
    rcases hs with e2 | ⟨k, e2, hk⟩
    · rw [e] at e2; exact h.ap1 e2.symm
    · rw [e] at e2; injection e2 with e2; omega
  have hrk : ∀ k, r.ownBlock = some k → W.heap.size ≤ k ∧ k < W1.heap.size := hr.lt
  have keep : ∀ k, k < W1.heap.size → fv.ownBlock ≠ some k → k ≠ p → (W2.setCell ⟨p, 0, none⟩ v').heap[k]? = W1.heap[k]? := fun k hk hne hkp =>
    (Below.heap_setCell _ _ _ _ hkp).trans (hg.block k hk (fun e => hne e.symm))
  have hv'new : ∀ k, v'.ownBlock = some k → fv.ownBlock = some k ∨ W1.heap.size ≤ k := fun k hk => by
    rcases hs with e2 | ⟨k', e2, hk'⟩
    · left; rw [← e2]; exact hk
    · right; rw [hk] at e2; injection e2 with e2; omega
  have hfvr : ∀ k, fv.ownBlock = some k → k < W.heap.size := fun k hk => (hfv k hk).2
  refine ⟨?_, ?_, ?_, h.pB, hv'p, ?_, ?_, by simp; omega, h.lo⟩
  · have e1 : W2.heap[p]? = some (.cells #[fv, .int .i64 lost] 26 (0, 0)) := (hg.block p (by omega) (fun e => h.ap1 e.symm)).trans ((hb.block p hp).trans h.row0)
    exact row_setC e1
  · have e : flat (fl ++ [⟨dst, r, bs, hurt⟩]) = flat fl ++ fc ⟨dst, r, bs, hurt⟩ := by unfold flat; rw [List.flatMap_append]; simp
    rw [e, List.length_append, List.length_singleton]
    exact own_setCell ho hv'p
  · intro f hf
    rcases List.mem_append.1 hf with hf | hf
    · have h1 := h.byt f hf
      have h2 := h.ap2 f hf
      refine ⟨own_block (own_kept h1.1 hb) fun k hk => ?_, h1.2⟩
      have hkl := h1.1.lt k hk
      refine keep k (by omega) (fun e => ?_) (fun e => h2.1 (by rw [hk, e]))
      rcases h2.2 with h3 | h3
      · rw [hk] at h3; cases h3
      · exact h3 (by rw [hk, e])
    · rw [List.mem_singleton.1 hf]
      refine ⟨own_mono hB (own_block hr fun k hk => ?_), hby, hl⟩
      have h3 := hrk k hk
      exact keep k h3.2 (fun e => by have := hfvr k e; omega) (by omega)
  · intro f hf
    rcases List.mem_append.1 hf with hf | hf
    · have h1 := h.byt f hf
      have h2 := h.ap2 f hf
      refine ⟨h2.1, ?_⟩
      cases hk : f.bv.ownBlock with
      | none => exact .inl rfl
      | some k =>
        right
        intro e
        have hkl := h1.1.lt k hk
        rcases hv'new k e.symm with e2 | e2
        · rcases h2.2 with h3 | h3
          · rw [hk] at h3; cases h3
          · exact h3 (by rw [hk, e2])
        · omega
    · rw [List.mem_singleton.1 hf]
      refine ⟨fun e => by have := hrk p e; omega, ?_⟩
      show r.ownBlock = none ∨ r.ownBlock ≠ v'.ownBlock
      cases hk : r.ownBlock with
      | none => exact .inl rfl
      | some k =>
        right
        intro e
        have h3 := hrk k hk
        rcases hv'new k e.symm with e2 | e2
        · have := hfvr k e2; omega
        · omega
  · rw [List.pairwise_append]
    refine ⟨h.ap3, List.pairwise_singleton _ _, fun a ha b hb' => ?_⟩
    rw [List.mem_singleton.1 hb']
    show a.bv.ownBlock = none ∨ a.bv.ownBlock ≠ r.ownBlock
    cases hk : a.bv.ownBlock with
    | none => exact .inl rfl
    | some k =>
      right
      intro e
      have h3 := hrk k e.symm
      have := (h.byt a ha).1.lt k hk
      omega

set_option maxRecDepth 100000 in
set_option maxHeartbeats 6400000 in
theorem send_k {w0 : World} (w : World) (p : Nat) (fv : Value) (fl : List Fl) (lost : Int) (h : NetAt w0.heap.size w p fv fl lost) (h0 : Below w0.heap.size w0 w) (hn : fl.length < 256) (dst : Int) (bv : Value) (bs : List Nat) (hurt : Bool) (hv : Lies w bv bs) (hby : Byt bs) (hl : bs.length ≤ 1000) :
    Calls Try.prog 13 #[.pointer (some ⟨p, 0, none⟩), .agg #[.int .i64 dst, bv, .bool hurt]] w fun e w' => ∃ v' r, e = .returned (.int .i64 0) ∧ NetAt w0.heap.size w' p v' (fl ++ [⟨dst, r, bs, hurt⟩]) lost ∧ Below w0.heap.size w0 w' ∧ Kp w w' p fv fl v' (fl ++ [⟨dst, r, bs, hurt⟩]) := by
  obtain ⟨i0, hi39, hz0, hz1, hz2⟩ := info_parts i39
  have HV := Lib.hid hv
  obtain ⟨ab, cb, rfl, _⟩ := hv
  have X := Lib.hid (vstep w (.cells #[.int .i64 dst, .slice ab bs.length cb, .bool hurt] 39))
  have XB := Lib.hid (heap_alloc_new w (.cells #[.int .i64 dst, .slice ab bs.length cb, .bool hurt] 39))
  obtain ⟨W, hW⟩ : ∃ y, w.alloc (.cells #[.int .i64 dst, .slice ab bs.length cb, .bool hurt] 39) = y := ⟨_, rfl⟩
  rw [hW] at X XB
  have HW := Lib.hid hW
  have H1 := Lib.hid (h.step X.out)
  have B1 := Lib.hid (h0.trans (X.out.mono h0.size))
  have FC := Lib.hid (fun U (hu : Below W.heap.size W U) => fclone_any U dst (.slice ab bs.length cb) bs hurt ((HV.out.later X.out).later hu) (by omega))
  have HBY := Lib.hid (And.intro hby hl)
  have HN := Lib.hid hn
  obtain ⟨af, cf, hfv⟩ := own_shape h.row
  have c0 := cell_of_row _ p 0 _ _ _ H1.out.row0
  simp at c0
  rw [hfv] at c0
  have hn' : ¬ (256 : Int) ≤ (fl.length : Int) := by omega
  obtain ⟨b0, hb0⟩ : ∃ b, w.heap.size = b := ⟨_, rfl⟩
  rw [hb0] at XB
  have HFK := Lib.hid (show ∀ k, fv.ownBlock = some k → k < b0 from fun k hk => by have := (h.row.lt k hk).2; omega)
  have HPB := Lib.hid (show p ≠ b0 from by have := lt_of_block h.row0; omega)
  clear h h0 hW hby hl hn
  go_enter Try.func13, Try.ntmps13
  go_upto_region 1 with (fail)
  rw [HW.out]
  go_upto_region 6 with (fail)
  clear c0 hn'
  have PD := Lib.hid (H1.out.step (below_drewN W 1))
  have XD := Lib.hid (show W.drew.heap[b0]? = some (.cells #[.int .i64 dst, .slice ab bs.length cb, .bool hurt] 39 (0, 0)) from XB.out)
  go_cut [] from 5 (fun wx => ∃ v' r, NetAt w0.heap.size wx p v' (fl ++ [⟨dst, r, bs, hurt⟩]) lost ∧ Below w0.heap.size w0 wx ∧ Kp w wx p fv fl v' (fl ++ [⟨dst, r, bs, hurt⟩]))
  case first =>
    refine wp_region_held_drew (S := fun w' => w'.heap[b0]? = some (.cells #[.int .i64 dst, .slice ab bs.length cb, .bool hurt] 39 (0, 0))) (by kernel_rfl) XD.out (fun hHeld => ?_)
    have LA := Lib.hid (fun (U : World) (h : U.heap[b0]? = some (.cells #[.int .i64 dst, .slice ab bs.length cb, .bool hurt] 39 (0, 0))) => load39 U b0 dst ab bs.length cb hurt h)
    have LP := Lib.hid (fun (U : World) (hu : Below W.drew.heap.size W.drew U) => load24 U ⟨p, 0, none⟩ _ (show U.cell? ⟨p, 0, none⟩ = some (.slice af fl.length cf) by rw [cell_of_row _ _ _ _ _ _ ((PD.out.step hu).row0)]; show some fv = _; rw [hfv]))
    have HS := Lib.hid (fun (U : World) (hu : Below W.drew.heap.size W.drew U) => (hu.block _ (lt_of_block XD.out)).trans XD.out)
    refine take_at (i := 0) 20 ?_ rfl rfl (by kernel_rfl) (by kernel_rfl) (by kernel_rfl) (fun _ _ _ h => h) (.inl ⟨rfl, ?_⟩) hHeld ?_
    rotate_left 1
    · intro w hSw; go_simp; try with_reducible rfl
    simp only [Act.put, List.setIfInBounds_toArray, List.set_cons_zero, List.set_cons_succ]
    refine take_at (i := 1) 21 ?_ rfl rfl (by kernel_rfl) (by kernel_rfl) (by kernel_rfl) (fun _ _ _ h => h) (.inl ⟨rfl, ?_⟩) hHeld ?_
    rotate_left 1
    · intro w hSw; go_simp; try with_reducible rfl
    simp only [Act.put, List.setIfInBounds_toArray, List.set_cons_zero, List.set_cons_succ]
    refine take_at (i := 2) 22 ?_ rfl rfl (by kernel_rfl) (by kernel_rfl) (by kernel_rfl) (fun _ _ _ h => h) (.inl ⟨rfl, ?_⟩) hHeld ?_
    rotate_left 1
    · intro w hSw; go_simp; try with_reducible rfl
    simp only [Act.put, List.setIfInBounds_toArray, List.set_cons_zero, List.set_cons_succ]
    refine take_at (i := 3) 23 ?_ rfl rfl (by kernel_rfl) (by kernel_rfl) (by kernel_rfl) (fun _ _ _ h => h) (.inl ⟨rfl, ?_⟩) hHeld ?_
    rotate_left 1
    · intro w hSw; go_simp; try with_reducible rfl
    simp only [Act.put, List.setIfInBounds_toArray, List.set_cons_zero, List.set_cons_succ]
    refine take_at (i := 5) 25 (.agg #[.int .i64 dst, .slice ab bs.length cb, .bool hurt]) rfl rfl (by kernel_rfl) (by kernel_rfl) (by kernel_rfl) (fun _ _ _ h => h) (yields_ld (.tmp 3) 39 (.pointer (some ⟨b0, 0, none⟩)) _ LA.out rfl rfl rfl) hHeld ?_
    simp only [Act.put, List.setIfInBounds_toArray, List.set_cons_zero, List.set_cons_succ]
    have HFB := Lib.hid (show ∀ k, fv.ownBlock = some k → k < b0 from fun k hk => HFK.out k hk)
    refine wpAnyH_ready (rs := [4, 6]) (by kernel_rfl) (by simp) (br_load2 (i := 4) 24 24 (.tmp 23) (.pointer (some ⟨p, 0, none⟩)) (.slice af fl.length cf) rfl rfl rfl rfl rfl (LP.out W.drew (Below.refl _ _)) (hHeld) (fun hH => ?_) (br_call (i := 6) 26 26 #[.agg #[.int .i64 dst, .slice ab bs.length cb, .bool hurt]] rfl rfl rfl (by go_simp) ((FC.out W.drew ((Below.refl W.heap.size W).drew)).mono ?_) AllReadyH.nil))
    · simp only [Act.put, List.setIfInBounds_toArray, List.set_cons_zero, List.set_cons_succ]
      refine wpAnyH_ready (rs := [6]) (by kernel_rfl) (by simp) (br_call (i := 6) 26 26 #[.agg #[.int .i64 dst, .slice ab bs.length cb, .bool hurt]] rfl rfl rfl (by go_simp) ((FC.out W.drew ((Below.refl W.heap.size W).drew)).mono ?_) AllReadyH.nil)
      rintro e w5 ⟨r, rfl, ro, rb⟩
      obtain ⟨ar, cr, hr⟩ := own_shape ro
      have HRO := Lib.hid (own_mono (show W.heap.size ≤ W.drew.heap.size from Nat.le_refl _) ro)
      have HRB := Lib.hid (show Below W.drew.heap.size W.drew w5 from rb)
      rw [hr]
      refine ⟨_, rfl, HS.out w5 HRB.out, fun hH => ?_⟩
      simp only [Act.put, List.setIfInBounds_toArray, List.set_cons_zero, List.set_cons_succ]
      have HV6 := Lib.hid (HRB.out.trans ((vstep w5 (.cells #[.int .i64 dst, .slice ar bs.length cr, .bool hurt] 39)).mono HRB.out.size))
      refine wpAnyH_ready (rs := [7]) (by kernel_rfl) (by simp) (br_bslice (i := 7) 27 24 1 _ #[(0, .agg #[.int .i64 dst, .slice ar bs.length cr, .bool hurt])] _ _ rfl rfl rfl rfl rfl (bs39 w5 dst ar bs.length cr hurt) (HS.out _ HV6.out) (fun hH => ?_) AllReadyH.nil)
      simp only [Act.put, List.setIfInBounds_toArray, List.set_cons_zero, List.set_cons_succ]
      have N6 := Lib.hid (PD.out.step HV6.out)
      have SR := Lib.hid (show Src Try.prog 3 24 (.slice (some ⟨w5.heap.size, 0, none⟩) 1 1) 1 (fc ⟨dst, r, bs, hurt⟩) (w5.alloc (.cells #[.int .i64 dst, .slice ar bs.length cr, .bool hurt] 39)) from by
        refine Src.ofSlice _ ut24 _ 1 1 _ rfl (fun k u hk => ?_) (fun u hu => ?_)
        · rw [add_addr, Nat.zero_add, cell_of_row _ _ _ _ _ _ (heap_alloc_new w5 _)]
          unfold fc at hk
          rw [hr] at hk
          match k, hk with
          | 0, hk => exact hk
          | 1, hk => exact hk
          | 2, hk => exact hk
          | k + 3, hk => simp at hk
        · unfold fc at hu
          rw [hr] at hu
          simp at hu
          rcases hu with rfl | rfl | rfl <;> rfl)
      obtain ⟨v', w7, ha, ho, hg, hsp⟩ := run_append_src_own (P := Try.prog) (w5.alloc (.cells #[.int .i64 dst, .slice ar bs.length cr, .bool hurt] 39)) w0.heap.size 24 24 24 39 i0 _ 3 40 ut24 hi39 hz0 hz1 hz2 rfl (by omega) fv fl.length (flat fl) N6.out.row _ 1 (fc ⟨dst, r, bs, hurt⟩) SR.out (by unfold maxLen; have := HN.out; omega) (by have := HN.out; omega) (Nat.le_trans B1.out.size (Nat.le_trans (show W.heap.size ≤ W.drew.heap.size from Nat.le_refl _) HV6.out.size))
      rw [hfv] at ha
      have HR6 := Lib.hid (own_kept HRO.out (vstep w5 (.cells #[.int .i64 dst, .slice ar bs.length cr, .bool hurt] 39)))
      have NS := Lib.hid (net_sent (W1 := w5.alloc (.cells #[.int .i64 dst, .slice ar bs.length cr, .bool hurt] 39)) H1.out (show Below W.heap.size W _ from (Below.refl W.heap.size W).drew.trans HV6.out) HR6.out HBY.out.1 HBY.out.2 HN.out B1.out.size ho hg hsp)
      obtain ⟨av, cv, hv'⟩ := own_shape ho
      have HB0 := Lib.hid (show w7.heap[b0]? = some (.cells #[.int .i64 dst, .slice ab bs.length cb, .bool hurt] 39 (0, 0)) from (hg.block _ (lt_of_block (HS.out _ HV6.out)) (fun e => by have h1 := (H1.out.row.lt b0 e.symm); have h2 := HFB.out b0 e.symm; omega)).trans (HS.out _ HV6.out))
      have HP7 := Lib.hid (show w7.heap[p]? = some (.cells #[fv, .int .i64 lost] 26 (0, 0)) from (hg.block _ (lt_of_block N6.out.row0) (fun e => H1.out.ap1 e.symm)).trans N6.out.row0)
      have HB7 := Lib.hid (show Below w0.heap.size w0 w7 from by
        have hb6 : Below w0.heap.size w0 (w5.alloc (.cells #[.int .i64 dst, .slice ar bs.length cr, .bool hurt] 39)) := B1.out.trans ((show Below W.heap.size W _ from (Below.refl W.heap.size W).drew.trans HV6.out).mono B1.out.size)
        exact ⟨hg.os.trans hb6.os, hg.tape.trans hb6.tape, hg.output.trans hb6.output, Nat.le_trans hb6.size hg.size, fun k hk => (hg.block k (Nat.lt_of_lt_of_le hk hb6.size) (fun e => by have := (N6.out.row.lt k e.symm).1; omega)).trans (hb6.block k hk)⟩)
      have KS := Lib.hid (kp_sent (p := p) (fl := fl) (dst := dst) (bs := bs) (hurt := hurt) (X.out.trans ((show Below W.heap.size W _ from (Below.refl W.heap.size W).drew.trans HV6.out).mono X.out.size)) (own_mono X.out.size HR6.out) hg hsp)
      clear hg hsp
      refine one_append (i := 8) 28 (.tmp 24) (.tmp 27) 24 24 rfl rfl (by kernel_rfl) rfl rfl _ _ v' w7 rfl rfl ha HB0.out (fun hH => ?_)
      have hHeld := HB0.out
      simp only [Act.put, List.setIfInBounds_toArray, List.set_cons_zero, List.set_cons_succ]
      refine take_at (i := 9) 29 ?_ rfl rfl (by kernel_rfl) (by kernel_rfl) (by kernel_rfl) (fun _ _ _ h => h) (.inl ⟨rfl, ?_⟩) hHeld ?_
      rotate_left 1
      · intro w hSw; go_simp; try with_reducible rfl
      simp only [Act.put, List.setIfInBounds_toArray, List.set_cons_zero, List.set_cons_succ]
      refine take_at (i := 10) 30 ?_ rfl rfl (by kernel_rfl) (by kernel_rfl) (by kernel_rfl) (fun _ _ _ h => h) (.inl ⟨rfl, ?_⟩) hHeld ?_
      rotate_left 1
      · intro w hSw; go_simp; try with_reducible rfl
      simp only [Act.put, List.setIfInBounds_toArray, List.set_cons_zero, List.set_cons_succ]
      rw [hv']
      have S7 := Lib.hid (store24 w7 p av (fl.length + 1) cv _ _ HP7.out)
      refine wpAnyH_ready (rs := [11]) (by kernel_rfl) (by simp) (br_store 24 (.tmp 30) (.tmp 28) (.pointer (some ⟨p, 0, none⟩)) (.slice av (fl.length + 1) cv) _ rfl rfl rfl rfl rfl rfl S7.out ((Below.heap_setCell _ _ _ _ (fun e => HPB.out e.symm)).trans HB0.out) (fun _ => ?_) AllReadyH.nil)
      simp only [Act.put]
      refine wpAnyH_done (by kernel_rfl) ?_ _
      go_wp2_with fail
      go_meet
      rw [← hv']
      exact ⟨v', r, NS.out, HB7.out.setCell (p := ⟨p, 0, none⟩) H1.out.pB _, KS.out⟩
    · rintro e w5 ⟨r, rfl, ro, rb⟩
      obtain ⟨ar, cr, hr⟩ := own_shape ro
      have HRO := Lib.hid (own_mono (show W.heap.size ≤ W.drew.heap.size from Nat.le_refl _) ro)
      have HRB := Lib.hid (show Below W.drew.heap.size W.drew w5 from rb)
      rw [hr]
      refine ⟨_, rfl, HS.out w5 HRB.out, fun hH => ?_⟩
      simp only [Act.put, List.setIfInBounds_toArray, List.set_cons_zero, List.set_cons_succ]
      have HV6 := Lib.hid (HRB.out.trans ((vstep w5 (.cells #[.int .i64 dst, .slice ar bs.length cr, .bool hurt] 39)).mono HRB.out.size))
      refine wpAnyH_ready (rs := [4, 7]) (by kernel_rfl) (by simp) (br_load2 (i := 4) 24 24 (.tmp 23) (.pointer (some ⟨p, 0, none⟩)) (.slice af fl.length cf) rfl rfl rfl rfl rfl (LP.out w5 HRB.out) ((HS.out w5 HRB.out)) (fun hH => ?_) (br_bslice (i := 7) 27 24 1 _ #[(0, .agg #[.int .i64 dst, .slice ar bs.length cr, .bool hurt])] _ _ rfl rfl rfl rfl rfl (bs39 w5 dst ar bs.length cr hurt) (HS.out _ HV6.out) (fun hH => ?_) AllReadyH.nil))
      · simp only [Act.put, List.setIfInBounds_toArray, List.set_cons_zero, List.set_cons_succ]
        refine wpAnyH_ready (rs := [7]) (by kernel_rfl) (by simp) (br_bslice (i := 7) 27 24 1 _ #[(0, .agg #[.int .i64 dst, .slice ar bs.length cr, .bool hurt])] _ _ rfl rfl rfl rfl rfl (bs39 w5 dst ar bs.length cr hurt) (HS.out _ HV6.out) (fun hH => ?_) AllReadyH.nil)
        simp only [Act.put, List.setIfInBounds_toArray, List.set_cons_zero, List.set_cons_succ]
        have N6 := Lib.hid (PD.out.step HV6.out)
        have SR := Lib.hid (show Src Try.prog 3 24 (.slice (some ⟨w5.heap.size, 0, none⟩) 1 1) 1 (fc ⟨dst, r, bs, hurt⟩) (w5.alloc (.cells #[.int .i64 dst, .slice ar bs.length cr, .bool hurt] 39)) from by
          refine Src.ofSlice _ ut24 _ 1 1 _ rfl (fun k u hk => ?_) (fun u hu => ?_)
          · rw [add_addr, Nat.zero_add, cell_of_row _ _ _ _ _ _ (heap_alloc_new w5 _)]
            unfold fc at hk
            rw [hr] at hk
            match k, hk with
            | 0, hk => exact hk
            | 1, hk => exact hk
            | 2, hk => exact hk
            | k + 3, hk => simp at hk
          · unfold fc at hu
            rw [hr] at hu
            simp at hu
            rcases hu with rfl | rfl | rfl <;> rfl)
        obtain ⟨v', w7, ha, ho, hg, hsp⟩ := run_append_src_own (P := Try.prog) (w5.alloc (.cells #[.int .i64 dst, .slice ar bs.length cr, .bool hurt] 39)) w0.heap.size 24 24 24 39 i0 _ 3 40 ut24 hi39 hz0 hz1 hz2 rfl (by omega) fv fl.length (flat fl) N6.out.row _ 1 (fc ⟨dst, r, bs, hurt⟩) SR.out (by unfold maxLen; have := HN.out; omega) (by have := HN.out; omega) (Nat.le_trans B1.out.size (Nat.le_trans (show W.heap.size ≤ W.drew.heap.size from Nat.le_refl _) HV6.out.size))
        rw [hfv] at ha
        have HR6 := Lib.hid (own_kept HRO.out (vstep w5 (.cells #[.int .i64 dst, .slice ar bs.length cr, .bool hurt] 39)))
        have NS := Lib.hid (net_sent (W1 := w5.alloc (.cells #[.int .i64 dst, .slice ar bs.length cr, .bool hurt] 39)) H1.out (show Below W.heap.size W _ from (Below.refl W.heap.size W).drew.trans HV6.out) HR6.out HBY.out.1 HBY.out.2 HN.out B1.out.size ho hg hsp)
        obtain ⟨av, cv, hv'⟩ := own_shape ho
        have HB0 := Lib.hid (show w7.heap[b0]? = some (.cells #[.int .i64 dst, .slice ab bs.length cb, .bool hurt] 39 (0, 0)) from (hg.block _ (lt_of_block (HS.out _ HV6.out)) (fun e => by have h1 := (H1.out.row.lt b0 e.symm); have h2 := HFB.out b0 e.symm; omega)).trans (HS.out _ HV6.out))
        have HP7 := Lib.hid (show w7.heap[p]? = some (.cells #[fv, .int .i64 lost] 26 (0, 0)) from (hg.block _ (lt_of_block N6.out.row0) (fun e => H1.out.ap1 e.symm)).trans N6.out.row0)
        have HB7 := Lib.hid (show Below w0.heap.size w0 w7 from by
          have hb6 : Below w0.heap.size w0 (w5.alloc (.cells #[.int .i64 dst, .slice ar bs.length cr, .bool hurt] 39)) := B1.out.trans ((show Below W.heap.size W _ from (Below.refl W.heap.size W).drew.trans HV6.out).mono B1.out.size)
          exact ⟨hg.os.trans hb6.os, hg.tape.trans hb6.tape, hg.output.trans hb6.output, Nat.le_trans hb6.size hg.size, fun k hk => (hg.block k (Nat.lt_of_lt_of_le hk hb6.size) (fun e => by have := (N6.out.row.lt k e.symm).1; omega)).trans (hb6.block k hk)⟩)
        have KS := Lib.hid (kp_sent (p := p) (fl := fl) (dst := dst) (bs := bs) (hurt := hurt) (X.out.trans ((show Below W.heap.size W _ from (Below.refl W.heap.size W).drew.trans HV6.out).mono X.out.size)) (own_mono X.out.size HR6.out) hg hsp)
        clear hg hsp
        refine one_append (i := 8) 28 (.tmp 24) (.tmp 27) 24 24 rfl rfl (by kernel_rfl) rfl rfl _ _ v' w7 rfl rfl ha HB0.out (fun hH => ?_)
        have hHeld := HB0.out
        simp only [Act.put, List.setIfInBounds_toArray, List.set_cons_zero, List.set_cons_succ]
        refine take_at (i := 9) 29 ?_ rfl rfl (by kernel_rfl) (by kernel_rfl) (by kernel_rfl) (fun _ _ _ h => h) (.inl ⟨rfl, ?_⟩) hHeld ?_
        rotate_left 1
        · intro w hSw; go_simp; try with_reducible rfl
        simp only [Act.put, List.setIfInBounds_toArray, List.set_cons_zero, List.set_cons_succ]
        refine take_at (i := 10) 30 ?_ rfl rfl (by kernel_rfl) (by kernel_rfl) (by kernel_rfl) (fun _ _ _ h => h) (.inl ⟨rfl, ?_⟩) hHeld ?_
        rotate_left 1
        · intro w hSw; go_simp; try with_reducible rfl
        simp only [Act.put, List.setIfInBounds_toArray, List.set_cons_zero, List.set_cons_succ]
        rw [hv']
        have S7 := Lib.hid (store24 w7 p av (fl.length + 1) cv _ _ HP7.out)
        refine wpAnyH_ready (rs := [11]) (by kernel_rfl) (by simp) (br_store 24 (.tmp 30) (.tmp 28) (.pointer (some ⟨p, 0, none⟩)) (.slice av (fl.length + 1) cv) _ rfl rfl rfl rfl rfl rfl S7.out ((Below.heap_setCell _ _ _ _ (fun e => HPB.out e.symm)).trans HB0.out) (fun _ => ?_) AllReadyH.nil)
        simp only [Act.put]
        refine wpAnyH_done (by kernel_rfl) ?_ _
        go_wp2_with fail
        go_meet
        rw [← hv']
        exact ⟨v', r, NS.out, HB7.out.setCell (p := ⟨p, 0, none⟩) H1.out.pB _, KS.out⟩
      · simp only [Act.put, List.setIfInBounds_toArray, List.set_cons_zero, List.set_cons_succ]
        refine wpAnyH_ready (rs := [4]) (by kernel_rfl) (by simp) (br_load2 (i := 4) 24 24 (.tmp 23) (.pointer (some ⟨p, 0, none⟩)) (.slice af fl.length cf) rfl rfl rfl rfl rfl (LP.out _ HV6.out) ((HS.out _ HV6.out)) (fun hH => ?_) AllReadyH.nil)
        simp only [Act.put, List.setIfInBounds_toArray, List.set_cons_zero, List.set_cons_succ]
        have N6 := Lib.hid (PD.out.step HV6.out)
        have SR := Lib.hid (show Src Try.prog 3 24 (.slice (some ⟨w5.heap.size, 0, none⟩) 1 1) 1 (fc ⟨dst, r, bs, hurt⟩) (w5.alloc (.cells #[.int .i64 dst, .slice ar bs.length cr, .bool hurt] 39)) from by
          refine Src.ofSlice _ ut24 _ 1 1 _ rfl (fun k u hk => ?_) (fun u hu => ?_)
          · rw [add_addr, Nat.zero_add, cell_of_row _ _ _ _ _ _ (heap_alloc_new w5 _)]
            unfold fc at hk
            rw [hr] at hk
            match k, hk with
            | 0, hk => exact hk
            | 1, hk => exact hk
            | 2, hk => exact hk
            | k + 3, hk => simp at hk
          · unfold fc at hu
            rw [hr] at hu
            simp at hu
            rcases hu with rfl | rfl | rfl <;> rfl)
        obtain ⟨v', w7, ha, ho, hg, hsp⟩ := run_append_src_own (P := Try.prog) (w5.alloc (.cells #[.int .i64 dst, .slice ar bs.length cr, .bool hurt] 39)) w0.heap.size 24 24 24 39 i0 _ 3 40 ut24 hi39 hz0 hz1 hz2 rfl (by omega) fv fl.length (flat fl) N6.out.row _ 1 (fc ⟨dst, r, bs, hurt⟩) SR.out (by unfold maxLen; have := HN.out; omega) (by have := HN.out; omega) (Nat.le_trans B1.out.size (Nat.le_trans (show W.heap.size ≤ W.drew.heap.size from Nat.le_refl _) HV6.out.size))
        rw [hfv] at ha
        have HR6 := Lib.hid (own_kept HRO.out (vstep w5 (.cells #[.int .i64 dst, .slice ar bs.length cr, .bool hurt] 39)))
        have NS := Lib.hid (net_sent (W1 := w5.alloc (.cells #[.int .i64 dst, .slice ar bs.length cr, .bool hurt] 39)) H1.out (show Below W.heap.size W _ from (Below.refl W.heap.size W).drew.trans HV6.out) HR6.out HBY.out.1 HBY.out.2 HN.out B1.out.size ho hg hsp)
        obtain ⟨av, cv, hv'⟩ := own_shape ho
        have HB0 := Lib.hid (show w7.heap[b0]? = some (.cells #[.int .i64 dst, .slice ab bs.length cb, .bool hurt] 39 (0, 0)) from (hg.block _ (lt_of_block (HS.out _ HV6.out)) (fun e => by have h1 := (H1.out.row.lt b0 e.symm); have h2 := HFB.out b0 e.symm; omega)).trans (HS.out _ HV6.out))
        have HP7 := Lib.hid (show w7.heap[p]? = some (.cells #[fv, .int .i64 lost] 26 (0, 0)) from (hg.block _ (lt_of_block N6.out.row0) (fun e => H1.out.ap1 e.symm)).trans N6.out.row0)
        have HB7 := Lib.hid (show Below w0.heap.size w0 w7 from by
          have hb6 : Below w0.heap.size w0 (w5.alloc (.cells #[.int .i64 dst, .slice ar bs.length cr, .bool hurt] 39)) := B1.out.trans ((show Below W.heap.size W _ from (Below.refl W.heap.size W).drew.trans HV6.out).mono B1.out.size)
          exact ⟨hg.os.trans hb6.os, hg.tape.trans hb6.tape, hg.output.trans hb6.output, Nat.le_trans hb6.size hg.size, fun k hk => (hg.block k (Nat.lt_of_lt_of_le hk hb6.size) (fun e => by have := (N6.out.row.lt k e.symm).1; omega)).trans (hb6.block k hk)⟩)
        have KS := Lib.hid (kp_sent (p := p) (fl := fl) (dst := dst) (bs := bs) (hurt := hurt) (X.out.trans ((show Below W.heap.size W _ from (Below.refl W.heap.size W).drew.trans HV6.out).mono X.out.size)) (own_mono X.out.size HR6.out) hg hsp)
        clear hg hsp
        refine one_append (i := 8) 28 (.tmp 24) (.tmp 27) 24 24 rfl rfl (by kernel_rfl) rfl rfl _ _ v' w7 rfl rfl ha HB0.out (fun hH => ?_)
        have hHeld := HB0.out
        simp only [Act.put, List.setIfInBounds_toArray, List.set_cons_zero, List.set_cons_succ]
        refine take_at (i := 9) 29 ?_ rfl rfl (by kernel_rfl) (by kernel_rfl) (by kernel_rfl) (fun _ _ _ h => h) (.inl ⟨rfl, ?_⟩) hHeld ?_
        rotate_left 1
        · intro w hSw; go_simp; try with_reducible rfl
        simp only [Act.put, List.setIfInBounds_toArray, List.set_cons_zero, List.set_cons_succ]
        refine take_at (i := 10) 30 ?_ rfl rfl (by kernel_rfl) (by kernel_rfl) (by kernel_rfl) (fun _ _ _ h => h) (.inl ⟨rfl, ?_⟩) hHeld ?_
        rotate_left 1
        · intro w hSw; go_simp; try with_reducible rfl
        simp only [Act.put, List.setIfInBounds_toArray, List.set_cons_zero, List.set_cons_succ]
        rw [hv']
        have S7 := Lib.hid (store24 w7 p av (fl.length + 1) cv _ _ HP7.out)
        refine wpAnyH_ready (rs := [11]) (by kernel_rfl) (by simp) (br_store 24 (.tmp 30) (.tmp 28) (.pointer (some ⟨p, 0, none⟩)) (.slice av (fl.length + 1) cv) _ rfl rfl rfl rfl rfl rfl S7.out ((Below.heap_setCell _ _ _ _ (fun e => HPB.out e.symm)).trans HB0.out) (fun _ => ?_) AllReadyH.nil)
        simp only [Act.put]
        refine wpAnyH_done (by kernel_rfl) ?_ _
        go_wp2_with fail
        go_meet
        rw [← hv']
        exact ⟨v', r, NS.out, HB7.out.setCell (p := ⟨p, 0, none⟩) H1.out.pB _, KS.out⟩
  case rest =>
    obtain ⟨v', r, hN, hB, hK⟩ := hcut
    have HN' := Lib.hid (And.intro hN (And.intro hB hK))
    clear hN hB hK
    go_wp2
    go_returns
    exact ⟨v', r, rfl, HN'.out.1, HN'.out.2.1, HN'.out.2.2⟩
theorem send_any {w0 : World} (w : World) (p : Nat) (fv : Value) (fl : List Fl) (lost : Int) (h : NetAt w0.heap.size w p fv fl lost) (h0 : Below w0.heap.size w0 w) (hn : fl.length < 256) (dst : Int) (bv : Value) (bs : List Nat) (hurt : Bool) (hv : Lies w bv bs) (hby : Byt bs) (hl : bs.length ≤ 1000) :
    Calls Try.prog 13 #[.pointer (some ⟨p, 0, none⟩), .agg #[.int .i64 dst, bv, .bool hurt]] w fun e w' => ∃ v' r, e = .returned (.int .i64 0) ∧ NetAt w0.heap.size w' p v' (fl ++ [⟨dst, r, bs, hurt⟩]) lost ∧ Below w0.heap.size w0 w' :=
  (send_k w p fv fl lost h h0 hn dst bv bs hurt hv hby hl).mono fun _ _ ⟨v', r, h1, h2, h3, _⟩ => ⟨v', r, h1, h2, h3⟩
end Go.Proofs.Ytdocfoienbadhaa
