/- Changes named: the program's. Made by genhf38.py. -/
import Derived.Test.YthbmbpnpigpgpaaHE
set_option linter.unusedVariables false
set_option linter.unusedSimpArgs false
set_option maxRecDepth 100000
namespace Go.Proofs.Ythbmbpnpigpgpaa
open Go.RowKit Go.Shelf

theorem slice_tailK {α : Type} {enc : α → List Value} {k : Nat} {t : TypeId} (ht : Try.prog.underlying t = some (.slice (Try.prog.elem t))) (hz : ∀ W, (Go.sizeOf (Try.prog.elem t)).run Try.prog W = .ok k W) {w : World} {ra : Option Addr} {n rc at_ : Nat} {l : List α} (h : LiesK enc k w (.slice ra n rc) l) (hat : at_ ≤ n) :
    ∃ A, (∀ W, (Instr.slice t (.slice ra n rc) (some (.int .i64 (at_ : Int))) none none).run Try.prog W = .ok (.slice A (n - at_) (rc - at_)) W) ∧ LiesK enc k w (.slice A (n - at_) (rc - at_)) (l.drop at_) := by
  refine ⟨if rc = at_ then ra else ra.map (·.add (at_ * k)), fun W => ?_, ?_⟩
  · rw [run_slice_l (P := Try.prog) (ht := ht) (h0 := by omega) (h1 := by omega), hz W]
    show Result.ok _ _ = Result.ok (Value.slice (if rc = at_ then ra else ra.map (·.add (at_ * k))) (n - at_) (rc - at_)) W
    rfl
  · obtain ⟨ao, cap, e, h1, h2, h3, h4⟩ := h
    injection e with e1 e2 e3
    subst e1 e2 e3
    have hdl : (l.drop at_).length = l.length - at_ := List.length_drop
    by_cases hrc : rc = at_
    · rw [if_pos hrc]
      have e0 : l.drop at_ = [] := List.eq_nil_of_length_eq_zero (by omega)
      rw [e0]
      exact ⟨_, _, by rw [show l.length - at_ = 0 by omega]; rfl, Nat.zero_le _, by omega, (fun e => ⟨rfl, by omega⟩), fun b hb hne => absurd rfl hne⟩
    · rw [if_neg hrc]
      refine ⟨_, rc - at_, by rw [hdl], by rw [hdl]; omega, by omega, fun e => ?_, fun b hb hne => ?_⟩
      · cases ra with
        | none => have := h3 rfl; exact ⟨by rw [this.1]; simp, by omega⟩
        | some b => cases e
      · cases ra with
        | none => cases hb
        | some b0 =>
          obtain ⟨g, o, rfl, hg, hc⟩ := h4 b0 rfl (fun e => hne (by rw [e]; simp))
          injection hb with hb
          subst hb
          refine ⟨g, o + at_ * k, by show (⟨g, o, none⟩ : Addr).add (at_ * k) = _; rw [rk_addr], hg, fun j p hj i u hu => ?_⟩
          rw [List.getElem?_drop] at hj
          have := hc _ p hj i u hu
          rw [show o + at_ * k + j * k = o + (at_ + j) * k by rw [Nat.add_mul]; omega]
          exact this
theorem Try.u24 : Try.prog.underlying 24 = some (.slice (Try.prog.elem 24)) := by kernel_rfl
theorem sizeS (W : World) : (Go.sizeOf (Try.prog.elem 24)).run Try.prog W = .ok 2 W := by kernel_rfl
theorem tailS {ra : Option Addr} {n rc k : Nat} {w : World} {l : List Sp} (h : LiesK encS 2 w (.slice ra n rc) l) (hk : k ≤ n) :
    ∃ A, (∀ W, (Instr.sliceAt 24 (.slice ra n rc) (some (.int .i64 (k : Int))) none none).run Try.prog W = .ok (.slice A (n - k) (rc - k)) W) ∧ LiesK encS 2 w (.slice A (n - k) (rc - k)) (l.drop k) := by
  obtain ⟨A, h1, h2⟩ := slice_tailK (enc := encS) (k := 2) (t := 24) Try.u24 sizeS h hk
  refine ⟨A, fun W => ?_, h2⟩
  rw [run_sliceAt_slice (P := Try.prog) (h := Try.u24)]
  exact h1 W
theorem yields_slt {ops : Array Oper} {S : World → Prop} {op : Oper} {a : Act} (x y : Operand) (ty : TypeId) (v u r : Value) (hS : ∀ w, (Instr.sliceAt ty v (some u) none none).run Try.prog w = .ok r w) (hw : Region.wanted op (yielded ops a.tmps) = true) (ho : op.op = .slice ty x (some y) none none)
    (hx : a.eval x = v) (hy : a.eval y = u) : YieldsIf Try.prog ops S op r a :=
  .inl ⟨hw, fun w hw' => by
    unfold execOp
    simp only [ho, Option.map_some, Option.map_none, hx, hy, hS w, Sem.run_bind, Sem.run_pure, Result.andThen_ok]⟩
theorem ixS24 {g o n cap : Nat} (h : 0 < n) (hn : n ≤ 9223372036854775807) (W : World) : (Instr.indexAt 24 (.slice (some ⟨g, o, none⟩) n cap) (.int .i64 0)).run Try.prog W = .ok (.pointer (some ⟨g, o, none⟩)) W := by
  have h1 : (0 : Int) < (n : Int) := by omega
  go_simp
set_option maxHeartbeats 6400000 in
theorem named_any (w : World) (v u : Value) (l : List Ch) (made : List Sp) (h : LiesK encH 7 w v l) (hm : LiesK encS 2 w u made) (hl : l.length ≤ 1000) (hml : made.length ≤ 1000) :
    Calls Try.prog 32 #[v, u] w fun e w' => ∃ r, e = .returned r ∧ w'.ownsRow w.heap.size 71 7 r (namedF made l).length ((namedF made l).flatMap encH) ∧ Below w.heap.size w w' := by
  obtain ⟨i0, hi9, hz0, hz1, hz2⟩ := info_parts info71
  have H := Lib.hid h
  have HM := Lib.hid hm
  have LE := Lib.hid (ns_le made l)
  obtain ⟨ao, cap, rfl⟩ := h.shape
  obtain ⟨ma, mc, rfl⟩ := hm.shape
  have J0 := Lib.hid (show NMI w w 71 (.slice none 0 0) (nsF made (l.take 0)) from ⟨Below.refl _ _, World.ownsRow_nil _ _ _ _⟩)
  have M0 := Lib.hid (show LiesK encS 2 w (.slice ma made.length mc) (made.drop (nsF made (l.take 0)).2) from hm)
  clear h hm
  go_enter Try.func32, Try.ntmps32
  go_wp2_with fail
  go_loopw [1, 5, 10] (fun mv ov iv wr => ∃ i : Nat, iv = .int .i64 i ∧ i ≤ l.length ∧ Hid (NMI w wr 71 ov (nsF made (l.take i)) ∧ LiesK encS 2 w mv (made.drop (nsF made (l.take i)).2))) (fun _ _ iv _ => l.length - (intOf iv).toNat)
  case atStart => exact ⟨0, rfl, Nat.zero_le _, Lib.hid ⟨J0.out, M0.out⟩⟩
  case round =>
    clear J0 M0
    obtain ⟨i, rfl, hi, KM⟩ := hrel
    have K := Lib.hid KM.out.1
    have M := Lib.hid KM.out.2
    clear KM
    obtain ⟨oa, oc, rfl⟩ := own_shapeK K.out.row
    obtain ⟨na, nc, rfl⟩ := M.out.shape
    by_cases hlt : i < l.length
    · have hi0 : (0 : Int) ≤ (i : Int) := by omega
      have hi1 : (i : Int) < (l.length : Int) := by omega
      have hd : decide ((i : Int) < (l.length : Int)) = true := decide_eq_true hi1
      obtain ⟨g, o, x, e7, hx, hg, hc⟩ := (H.out.step K.out.bel).at' hlt
      subst e7
      have LX := Lib.hid (ldC71 (ChAt.of hc))
      have SN := Lib.hid (ns_snoc (made := made) hx)
      have LM := Lib.hid (show (nsF made (l.take i)).1.length ≤ 1000 from by have := (LE.out i hi).1; omega)
      have LN := Lib.hid (LE.out i hi).2
      obtain ⟨s, hs⟩ : ∃ z, nsF made (l.take i) = z := ⟨_, rfl⟩
      rw [hs] at SN LM LN K M ⊢
      obtain ⟨D, hD⟩ : ∃ z, made.drop s.2 = z := ⟨_, rfl⟩
      have DE := Lib.hid hD
      have DL := Lib.hid (show D.length = made.length - s.2 from by rw [← hD]; exact List.length_drop)
      rw [hD] at M ⊢
      clear hD
      have K5 := Lib.hid (K.out.step (vstep wr (.cells (#[.bool x.nw, .int .i64 x.t, .int .i64 x.r, .int .i64 x.pt, .int .i64 x.pr, .string x.nm, .bool x.d]) 71)))
      have N5 := Lib.hid (show (wr.alloc (.cells (#[.bool x.nw, .int .i64 x.t, .int .i64 x.r, .int .i64 x.pt, .int .i64 x.pr, .string x.nm, .bool x.d]) 71)).heap[wr.heap.size]? = some (.cells (encH x).toArray 71 (0, 0)) from heap_alloc_new wr _)
      have OB := Lib.hid (show w.heap.size ≤ wr.heap.size ∧ ∀ j, (Value.slice oa s.1.length oc).ownBlock = some j → j ≠ wr.heap.size from ⟨K.out.bel.size, fun j hj e => by have := (K.out.row.lt j hj).2; omega⟩)
      clear hx hg hc hs K
      go_upto_region 5 with (first
        | (refine wpList_ldG rfl (.tmp 12) 71 rfl (.pointer (some ⟨g, o + i * 7, none⟩)) (.agg #[.bool x.nw, .int .i64 x.t, .int .i64 x.r, .int .i64 x.pt, .int .i64 x.pr, .string x.nm, .bool x.d]) rfl LX.out ?_))
      obtain ⟨kb, hkb⟩ : ∃ k, wr.heap.size = k := ⟨_, rfl⟩
      rw [hkb] at N5 OB ⊢
      generalize (wr.alloc (.cells (#[.bool x.nw, .int .i64 x.t, .int .i64 x.r, .int .i64 x.pt, .int .i64 x.pr, .string x.nm, .bool x.d]) 71)) = w5 at *
      clear hkb LX
      obtain ⟨c0, c1, c2, c3, c4, c5, c6⟩ := ChAt.row N5.out
      obtain ⟨xnw, xt, xr, xpt, xpr, xnm, xd⟩ := x
      dsimp only at c0 c1 c2 c3 c4 c5 c6
      cases xnw with
      | false =>
        have SE := Lib.hid (SN.out.trans (nst_old rfl))
        have K9 := K5
        have LB := Lib.hid (ldC71 (ChAt.row N5.out))
        clear SN
        go_upto_region 8 with (fail)
        obtain ⟨x, hxe⟩ : ∃ z : Ch, ⟨false, xt, xr, xpt, xpr, xnm, xd⟩ = z := ⟨_, rfl⟩
        have LB : Hid ((Instr.loadAt 71 (.pointer (some ⟨kb, 0, none⟩))).run Try.prog w5 = .ok (.agg #[.bool x.nw, .int .i64 x.t, .int .i64 x.r, .int .i64 x.pt, .int .i64 x.pr, .string x.nm, .bool x.d]) w5) := Lib.hid (by rw [← hxe]; exact LB.out)
        rw [hxe] at SE N5
        clear c0 c1 c2 c3 c4 c5 c6 hxe
        have SE1 := Lib.hid (show (nsF made (l.take (i + 1))).1 = s.1 ++ [x] from by rw [SE.out])
        have OX := Lib.hid (own_belowK K9.out.row (vstep w5 (.cells (#[.bool x.nw, .int .i64 x.t, .int .i64 x.r, .int .i64 x.pt, .int .i64 x.pr, .string x.nm, .bool x.d]) 71)))
        have HX := Lib.hid (show (w5.alloc (.cells (#[.bool x.nw, .int .i64 x.t, .int .i64 x.r, .int .i64 x.pt, .int .i64 x.pr, .string x.nm, .bool x.d]) 71)).heap[w5.heap.size]? = some (.cells (encH x).toArray 71 (0, 0)) from heap_alloc_new w5 _)
        have QX := Lib.hid (And.intro (show (s.1).length + 1 ≤ maxLen from by have := LM.out; unfold maxLen; omega) (And.intro (show ((s.1).length + 1) * 64 ≤ 140737488355328 from by have := LM.out; omega) (show w.heap.size ≤ (w5.alloc (.cells (#[.bool x.nw, .int .i64 x.t, .int .i64 x.r, .int .i64 x.pt, .int .i64 x.pr, .string x.nm, .bool x.d]) 71)).heap.size from Nat.le_trans K9.out.bel.size (vstep w5 _).size)))
        have bsx := bsH30 w5 x
        go_wp2_with (first
          | (refine wpList_ldG rfl (.tmp 7) 71 rfl (.pointer (some ⟨kb, 0, none⟩)) (.agg #[.bool x.nw, .int .i64 x.t, .int .i64 x.r, .int .i64 x.pt, .int .i64 x.pr, .string x.nm, .bool x.d]) rfl LB.out ?_)
          | (at_builtin; refine wpList_pushK rfl (.tmp 25) (.tmp 27) 30 rfl encH_len (by decide) encH_one w.heap.size 71 i0 (.agg #[.bool false, .int .i64 0, .int .i64 0, .int .i64 0, .int .i64 0, .string ⟨#[]⟩, .bool false]) 64 Try.u30 hi9 hz0 hz1 hz2 rfl _ (s.1) x w5.heap.size rfl rfl HX.out OX.out QX.out.1 QX.out.2.1 QX.out.2.2 ?_; intro v9 w9 hown hgr; have P9 := Lib.hid (K9.out.push hown hgr SE1.out); obtain ⟨va9, vc9, rfl⟩ := own_shapeK hown; clear hown hgr))
        have P9 := Lib.hid (show NMI w w9 71 (.slice va9 ((s.1).length + 1) vc9) (nsF made (l.take (i + 1))) from by have h := P9.out; rwa [List.length_append] at h)
        have MM := Lib.hid (show NMI w w9 71 (.slice va9 (s.1.length + 1) vc9) (nsF made (l.take (i + 1))) ∧ LiesK encS 2 w (.slice na D.length nc) (made.drop (nsF made (l.take (i + 1))).2) from ⟨P9.out, by rw [SE.out]; show LiesK encS 2 w _ (made.drop s.2); rw [DE.out]; exact M.out⟩)
        go_roundw
        case rel => exact ⟨i + 1, by go_num, by omega, MM⟩
        case measure => simp [intOf]; omega
      | true =>
        by_cases hn : s.2 < made.length
        · have hl0 : ¬ ((D.length : Int) = 0) := by have := DL.out; omega
          have hl1 : ((D.length : Int) == 0) = false := by simpa using hl0
          obtain ⟨mg, mo, m, e8, hmx, hmg, hmc⟩ := M.out.at' (i := 0) (by have := DL.out; omega)
          subst e8
          have hmx' : made[s.2]? = some m := by have h2 := hmx; rw [← DE.out, List.getElem?_drop] at h2; simpa using h2
          have SE := Lib.hid (SN.out.trans (nst_new rfl hmx'))
          have LS := Lib.hid (fun W (hb : Below w.heap.size w W) => ldS (W := W) (g := mg) (o := mo) (a := m.1) (b := m.2) ((hb.cell (p := ⟨mg, mo, none⟩) hmg).trans (by have := hmc 0 _ rfl; simpa using this)) ((hb.cell (p := ⟨mg, mo + 1, none⟩) hmg).trans (by have := hmc 1 _ rfl; simpa using this)))
          have IX := Lib.hid (fun W => ixS24 (g := mg) (o := mo) (cap := nc) (show 0 < D.length by have := DL.out; omega) (by have := DL.out; omega) W)
          obtain ⟨TA, hta, htm⟩ := tailS (k := 1) M.out (by have := DL.out; omega)
          have HT := Lib.hid hta
          have HTM := Lib.hid (show LiesK encS 2 w (.slice TA (D.length - 1) (nc - 1)) (made.drop (s.2 + 1)) from by rw [← DE.out, List.drop_drop] at htm; rw [DE.out] at htm; exact htm)
          clear hmx hmx' hmg hmc SN hta htm M
          go_upto_region 7 with (fail)
          have N5 := Lib.hid (((Below.refl _ w5).drew.block kb (lt_of_block N5.out)).trans N5.out)
          have K5 := Lib.hid (K5.out.step (Below.refl _ w5).drew)
          refine wp_region_held_drew (S := fun w' => Below w.heap.size w w') (by kernel_rfl) ((K5.out.bel)) (fun hHeld => ?_)
          have BV := Lib.hid (show Below w.heap.size w w5.drew from (K5.out.bel))
          clear hHeld
          refine take_at (i := 0) 19 ?_ rfl rfl (by kernel_rfl) (by kernel_rfl) (by kernel_rfl) (fun _ _ _ h => h) (.inl ⟨rfl, ?_⟩) BV.out ?_
          rotate_left 1
          · intro w hSw; go_simp; try with_reducible rfl
          simp only [Act.put, List.setIfInBounds_toArray, List.set_cons_zero, List.set_cons_succ]
          refine take_at (i := 1) 20 (.pointer (some ⟨mg, mo, none⟩)) rfl rfl (by kernel_rfl) (by kernel_rfl) (by kernel_rfl) (fun _ _ _ h => h) (yields_ix (.tmp 19) (.const (.int .i64 0)) 24 (.slice (some ⟨mg, mo, none⟩) D.length nc) (.int .i64 0) _ IX.out rfl rfl rfl rfl) BV.out ?_
          simp only [Act.put, List.setIfInBounds_toArray, List.set_cons_zero, List.set_cons_succ]
          refine take_at (i := 2) 21 (.agg #[.int .i64 m.1, .int .i64 m.2]) rfl rfl (by kernel_rfl) (by kernel_rfl) (by kernel_rfl) (fun _ _ _ h => h) (yields_ld (.tmp 20) 61 (.pointer (some ⟨mg, mo, none⟩)) _ LS.out rfl rfl rfl) BV.out ?_
          simp only [Act.put, List.setIfInBounds_toArray, List.set_cons_zero, List.set_cons_succ]
          refine take_at (i := 3) 22 ?_ rfl rfl (by kernel_rfl) (by kernel_rfl) (by kernel_rfl) (fun _ _ _ h => h) (.inl ⟨rfl, ?_⟩) BV.out ?_
          rotate_left 1
          · intro w hSw; go_simp; try with_reducible rfl
          simp only [Act.put, List.setIfInBounds_toArray, List.set_cons_zero, List.set_cons_succ]
          refine take_at (i := 4) 23 (.slice TA (D.length - 1) (nc - 1)) rfl rfl (by kernel_rfl) (by kernel_rfl) (by kernel_rfl) (fun _ _ _ h => h) (yields_slt (.tmp 22) (.const (.int .i64 1)) 24 (.slice (some ⟨mg, mo, none⟩) D.length nc) (.int .i64 ((1 : Nat) : Int)) _ HT.out rfl rfl rfl rfl) BV.out ?_
          simp only [Act.put, List.setIfInBounds_toArray, List.set_cons_zero, List.set_cons_succ]
          refine take_at (i := 5) 24 ?_ rfl rfl (by kernel_rfl) (by kernel_rfl) (by kernel_rfl) (fun _ _ _ h => h) (.inl ⟨rfl, ?_⟩) BV.out ?_
          rotate_left 1
          · intro w hSw; go_simp; try with_reducible rfl
          simp only [Act.put, List.setIfInBounds_toArray, List.set_cons_zero, List.set_cons_succ]
          refine wpAnyH_ready (rs := [6]) (by kernel_rfl) (by simp) (br_store (i := 6) 61 (.tmp 24) (.tmp 21) _ _ _ rfl rfl rfl rfl rfl rfl (st61 N5.out m.1 m.2) (chset_below BV.out OB.out.1) (fun _ => ?_) AllReadyH.nil)
          have N6 := Lib.hid (chset_row (t := m.1) (r := m.2) N5.out)
          have K6 := Lib.hid (K5.out.set OB.out.1 OB.out.2 m.1 m.2)
          have BV := Lib.hid (chset_below (k := kb) (t := m.1) (r := m.2) BV.out OB.out.1)
          obtain ⟨v1, hv1⟩ : ∃ zz, chset w5.drew kb m.1 m.2 = zz := ⟨_, rfl⟩
          rw [hv1] at BV N6 K6 ⊢
          clear hv1 N5 K5
          simp only [Act.put, List.setIfInBounds_toArray, List.set_cons_zero, List.set_cons_succ]
          refine take_at (i := 7) 1 ?_ rfl rfl (by kernel_rfl) (by kernel_rfl) (by kernel_rfl) (fun _ _ _ h => h) (.inl ⟨rfl, ?_⟩) BV.out ?_
          rotate_left 1
          · intro w hSw; go_simp; try with_reducible rfl
          simp only [Act.put, List.setIfInBounds_toArray, List.set_cons_zero, List.set_cons_succ]
          refine wpAnyH_done (by kernel_rfl) ?_ _
          clear c0 c1 c2 c3 c4 c5 c6 LS IX HT BV
          generalize v1 = w6 at *
          go_upto_region 8 with (fail)
          obtain ⟨x, hxe⟩ : ∃ z : Ch, ⟨true, m.1, m.2, xpt, xpr, xnm, xd⟩ = z := ⟨_, rfl⟩
          have N6 : Hid (w6.heap[kb]? = some (.cells (encH x).toArray 71 (0, 0))) := Lib.hid (by rw [← hxe]; exact N6.out)
          have LB := Lib.hid (ldC71 (ChAt.row N6.out))
          have K9 := K6
          have SE : Hid (nsF made (l.take (i + 1)) = (s.1 ++ [x], s.2 + 1)) := Lib.hid (by rw [← hxe]; exact SE.out)
          clear hxe
          have SE1 := Lib.hid (show (nsF made (l.take (i + 1))).1 = s.1 ++ [x] from by rw [SE.out])
          have OX := Lib.hid (own_belowK K9.out.row (vstep w6 (.cells (#[.bool x.nw, .int .i64 x.t, .int .i64 x.r, .int .i64 x.pt, .int .i64 x.pr, .string x.nm, .bool x.d]) 71)))
          have HX := Lib.hid (show (w6.alloc (.cells (#[.bool x.nw, .int .i64 x.t, .int .i64 x.r, .int .i64 x.pt, .int .i64 x.pr, .string x.nm, .bool x.d]) 71)).heap[w6.heap.size]? = some (.cells (encH x).toArray 71 (0, 0)) from heap_alloc_new w6 _)
          have QX := Lib.hid (And.intro (show (s.1).length + 1 ≤ maxLen from by have := LM.out; unfold maxLen; omega) (And.intro (show ((s.1).length + 1) * 64 ≤ 140737488355328 from by have := LM.out; omega) (show w.heap.size ≤ (w6.alloc (.cells (#[.bool x.nw, .int .i64 x.t, .int .i64 x.r, .int .i64 x.pt, .int .i64 x.pr, .string x.nm, .bool x.d]) 71)).heap.size from Nat.le_trans K9.out.bel.size (vstep w6 _).size)))
          have bsx := bsH30 w6 x
          go_wp2_with (first
            | (refine wpList_ldG rfl (.tmp 7) 71 rfl (.pointer (some ⟨kb, 0, none⟩)) (.agg #[.bool x.nw, .int .i64 x.t, .int .i64 x.r, .int .i64 x.pt, .int .i64 x.pr, .string x.nm, .bool x.d]) rfl LB.out ?_)
            | (at_builtin; refine wpList_pushK rfl (.tmp 25) (.tmp 27) 30 rfl encH_len (by decide) encH_one w.heap.size 71 i0 (.agg #[.bool false, .int .i64 0, .int .i64 0, .int .i64 0, .int .i64 0, .string ⟨#[]⟩, .bool false]) 64 Try.u30 hi9 hz0 hz1 hz2 rfl _ (s.1) x w6.heap.size rfl rfl HX.out OX.out QX.out.1 QX.out.2.1 QX.out.2.2 ?_; intro v9 w9 hown hgr; have P9 := Lib.hid (K9.out.push hown hgr SE1.out); obtain ⟨va9, vc9, rfl⟩ := own_shapeK hown; clear hown hgr))
          have P9 := Lib.hid (show NMI w w9 71 (.slice va9 ((s.1).length + 1) vc9) (nsF made (l.take (i + 1))) from by have h := P9.out; rwa [List.length_append] at h)
          have MM := Lib.hid (show NMI w w9 71 (.slice va9 (s.1.length + 1) vc9) (nsF made (l.take (i + 1))) ∧ LiesK encS 2 w (.slice TA (D.length - 1) (nc - 1)) (made.drop (nsF made (l.take (i + 1))).2) from ⟨P9.out, by rw [SE.out]; exact HTM.out⟩)
          go_roundw
          case rel => exact ⟨i + 1, by go_num, by omega, MM⟩
          case measure => simp [intOf]; omega
        · have hl0 : (D.length : Int) = 0 := by have := DL.out; omega
          have hl1 : ((D.length : Int) == 0) = true := by simpa using hl0
          have SE := Lib.hid (SN.out.trans (nst_no rfl (List.getElem?_eq_none (by omega))))
          clear SN
          have MM := Lib.hid (show NMI w w5 71 (.slice oa s.1.length oc) (nsF made (l.take (i + 1))) ∧ LiesK encS 2 w (.slice na D.length nc) (made.drop (nsF made (l.take (i + 1))).2) from by rw [SE.out]; refine ⟨K5.out, ?_⟩; show LiesK encS 2 w _ (made.drop s.2); rw [DE.out]; exact M.out)
          go_wp2_with fail
          go_roundw
          case rel => exact ⟨i + 1, by go_num, by omega, MM⟩
          case measure => simp [intOf]; omega
    · have FIN := Lib.hid (show wr.ownsRow w.heap.size 71 7 (.slice oa (nsF made (l.take i)).1.length oc) (namedF made l).length ((namedF made l).flatMap encH) ∧ Below w.heap.size w wr from by
        have h := K.out
        rw [show l.take i = l from List.take_of_length_le (by omega)] at h ⊢
        exact ⟨h.row, h.bel⟩)
      clear K M
      go_wp2
      go_returns
      exact ⟨_, rfl, FIN.out.1, FIN.out.2⟩
end Go.Proofs.Ythbmbpnpigpgpaa
