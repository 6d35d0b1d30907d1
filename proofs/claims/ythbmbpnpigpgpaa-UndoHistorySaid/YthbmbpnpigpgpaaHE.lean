/- Changes named: of the reference, and the program's. Made by genhe38.py. -/
import Derived.Test.YthbmbpnpigpgpaaHD
set_option linter.unusedVariables false
set_option linter.unusedSimpArgs false
set_option maxRecDepth 100000
namespace Go.Proofs.Ythbmbpnpigpgpaa
open Go.RowKit Go.Shelf

theorem chnow : True := trivial
theorem ChAt.row {W : World} {k : Nat} {x : Ch} {E : TypeId} (h : W.heap[k]? = some (.cells (encH x).toArray E (0, 0))) : ChAt W k 0 x :=
  ⟨cell_row h rfl, cell_row h rfl, cell_row h rfl, cell_row h rfl, cell_row h rfl, cell_row h rfl, cell_row h rfl⟩
/-- A stamp put into a change's box. -/
def chset (W : World) (k : Nat) (t r : Int) : World := (W.setCell ⟨k, 1, none⟩ (.int .i64 t)).setCell ⟨k, 2, none⟩ (.int .i64 r)
theorem chset_row {W : World} {k : Nat} {x : Ch} {E : TypeId} {t r : Int} (h : W.heap[k]? = some (.cells (encH x).toArray E (0, 0))) : (chset W k t r).heap[k]? = some (.cells (encH { x with t := t, r := r }).toArray E (0, 0)) := by
  have h1 := row_setC (j := 1) (u := .int .i64 t) h
  have h2 := row_setC (j := 2) (u := .int .i64 r) h1
  exact h2
theorem chset_below {w W : World} {B k : Nat} {t r : Int} (h : Below B w W) (hk : B ≤ k) : Below B w (chset W k t r) :=
  (h.setCell (p := ⟨k, 1, none⟩) hk _).setCell (p := ⟨k, 2, none⟩) hk _
theorem chset_size (W : World) (k : Nat) (t r : Int) : (chset W k t r).heap.size = W.heap.size := by simp [chset, World.setCell]
theorem chset_grown {W : World} {k : Nat} (t r : Int) : W.grownBy (chset W k t r) (some k) := by
  have h : Below k W (chset W k t r) := chset_below (Below.refl _ _) (Nat.le_refl _)
  refine ⟨h.os, h.tape, h.output, h.size, fun i _ hi => ?_⟩
  unfold chset
  rw [Below.heap_setCell _ _ _ _ (fun e => hi (by rw [e])), Below.heap_setCell _ _ _ _ (fun e => hi (by rw [e]))]
theorem st61 {W : World} {k : Nat} {x : Ch} {E : TypeId} (h : W.heap[k]? = some (.cells (encH x).toArray E (0, 0))) (t r : Int) :
    (Instr.storeAt 61 (.pointer (some ⟨k, 1, none⟩)) (.agg #[.int .i64 t, .int .i64 r])).run Try.prog W = .ok () (chset W k t r) := by
  have z1 := cell_row (j := 1) h rfl
  have z2 := cell_row (j := 2) h rfl
  have f1 := frozen_of_row (j := 1) _ _ _ _ h
  have f2 := frozen_of_row (j := 2) _ _ _ _ h
  unfold chset
  clear h
  go_simp
theorem wpList_sto0 {P : Program} {w : World} {ops : Array Oper} {rest : List Oper} {o : Oper} {a : Act} {Q : Exit → Act → World → Prop} (hgd : o.guard = none) (x y : Operand) (ty : TypeId)
    (ho : o.op = .store ty x y) (p v : Value) (hx : a.eval x = p) (hy : a.eval y = v) (w' : World) (hr : (Instr.storeAt ty p v).run P w = .ok () w')
    (h : wpList P ops Q rest (a.put o.dst undef) w') : wpList P ops Q (o :: rest) a w :=
  wpList_plain hgd fun _ hK => by
    unfold Oper.wp execOp
    simp only [ho, hx, hy, hr, Sem.run_bind, Sem.run_pure, Result.andThen_ok]
    exact hK _ _ h
theorem own_grown {w w' : World} {B e k n : Nat} {row : Option Nat} {v : Value} {xs : List Value} (h : w.ownsRow B e k v n xs) (hg : w.grownBy w' row) (hne : ∀ j, v.ownBlock = some j → row ≠ some j) : w'.ownsRow B e k v n xs := by
  refine ⟨h.1, ?_⟩
  rcases h.2 with h0 | ⟨g, cap, cur, rfl, hB, hb, h1⟩
  · exact .inl h0
  · exact .inr ⟨g, cap, cur, rfl, hB, (hg.block g (lt_of_block hb) (fun e => hne g rfl e.symm)).trans hb, h1⟩
/-- What stands while changes are named: what there is, and how many nodes were taken. -/
structure NMI (w W : World) (E : TypeId) (v : Value) (s : List Ch × Nat) : Prop where
  bel : Below w.heap.size w W
  row : W.ownsRow w.heap.size E 7 v s.1.length (s.1.flatMap encH)
theorem NMI.step {w W W' : World} {E : TypeId} {v : Value} {s : List Ch × Nat} (h : NMI w W E v s) (hb : Below W.heap.size W W') : NMI w W' E v s := ⟨h.bel.trans (hb.mono h.bel.size), own_belowK h.row hb⟩
theorem NMI.push {w W W' : World} {E : TypeId} {v v' : Value} {s s' : List Ch × Nat} {x : Ch} {ob : Obj} (h : NMI w W E v s) (ho : W'.ownsRow w.heap.size E 7 v' (s.1 ++ [x]).length ((s.1 ++ [x]).flatMap encH)) (hg : (W.alloc ob).grownBy W' v.ownBlock) (hs : s'.1 = s.1 ++ [x]) : NMI w W' E v' s' :=
  ⟨(h.bel.trans ((vstep W ob).mono h.bel.size)).trans ((Below.refl _ _).grown hg (Nat.le_trans h.bel.size (vstep W ob).size) (fun k e => (h.row.lt k e).1)), by rw [hs]; exact ho⟩
theorem NMI.set {w W : World} {E : TypeId} {v : Value} {s : List Ch × Nat} {k : Nat} (h : NMI w W E v s) (hk : w.heap.size ≤ k) (hne : ∀ j, v.ownBlock = some j → j ≠ k) (t r : Int) : NMI w (chset W k t r) E v s :=
  ⟨chset_below h.bel hk, own_grown h.row (chset_grown t r) (fun j hj e => hne j hj (by injection e with e; exact e.symm))⟩
set_option maxHeartbeats 6400000 in
theorem rnamed_any (w : World) (v u : Value) (l : List Ch) (made : List Sp) (h : LiesK encH 7 w v l) (hm : LiesK encS 2 w u made) (hl : l.length ≤ 1000) (hml : made.length ≤ 1000) :
    Calls Try.prog 15 #[v, u] w fun e w' => ∃ r, e = .returned r ∧ w'.ownsRow w.heap.size 63 7 r (namedF made l).length ((namedF made l).flatMap encH) ∧ Below w.heap.size w w' := by
  obtain ⟨i0, hi9, hz0, hz1, hz2⟩ := info_parts info63
  have H := Lib.hid h
  have HM := Lib.hid hm
  have LE := Lib.hid (ns_le made l)
  obtain ⟨ao, cap, rfl⟩ := h.shape
  obtain ⟨ma, mc, rfl⟩ := hm.shape
  have J0 := Lib.hid (show NMI w w 63 (.slice none 0 0) (nsF made (l.take 0)) from ⟨Below.refl _ _, World.ownsRow_nil _ _ _ _⟩)
  clear h hm
  go_enter Try.func15, Try.ntmps15
  go_wp2_with fail
  go_loopw [5, 6, 7] (fun ov nv iv wr => ∃ i : Nat, iv = .int .i64 i ∧ i ≤ l.length ∧ nv = .int .i64 ((nsF made (l.take i)).2 : Nat) ∧ Hid (NMI w wr 63 ov (nsF made (l.take i)))) (fun _ _ iv _ => l.length - (intOf iv).toNat)
  case atStart => exact ⟨0, rfl, Nat.zero_le _, rfl, J0⟩
  case round =>
    clear J0
    obtain ⟨i, rfl, hi, rfl, K⟩ := hrel
    obtain ⟨oa, oc, rfl⟩ := own_shapeK K.out.row
    by_cases hlt : i < l.length
    · have hi0 : (0 : Int) ≤ (i : Int) := by omega
      have hi1 : (i : Int) < (l.length : Int) := by omega
      have hd : decide ((i : Int) < (l.length : Int)) = true := decide_eq_true hi1
      obtain ⟨g, o, x, e7, hx, hg, hc⟩ := (H.out.step K.out.bel).at' hlt
      subst e7
      have LX := Lib.hid (ldC63 (ChAt.of hc))
      have SN := Lib.hid (ns_snoc (made := made) hx)
      have LM := Lib.hid (show (nsF made (l.take i)).1.length ≤ 1000 from by have := (LE.out i hi).1; omega)
      have LN := Lib.hid (LE.out i hi).2
      obtain ⟨s, hs⟩ : ∃ z, nsF made (l.take i) = z := ⟨_, rfl⟩
      rw [hs] at SN LM LN K ⊢
      have K5 := Lib.hid (K.out.step (vstep wr (.cells (#[.bool x.nw, .int .i64 x.t, .int .i64 x.r, .int .i64 x.pt, .int .i64 x.pr, .string x.nm, .bool x.d]) 63)))
      have N5 := Lib.hid (show (wr.alloc (.cells (#[.bool x.nw, .int .i64 x.t, .int .i64 x.r, .int .i64 x.pt, .int .i64 x.pr, .string x.nm, .bool x.d]) 63)).heap[wr.heap.size]? = some (.cells (encH x).toArray 63 (0, 0)) from heap_alloc_new wr _)
      have OB := Lib.hid (show w.heap.size ≤ wr.heap.size ∧ ∀ j, (Value.slice oa s.1.length oc).ownBlock = some j → j ≠ wr.heap.size from ⟨K.out.bel.size, fun j hj e => by have := (K.out.row.lt j hj).2; omega⟩)
      clear hx hg hc hs K
      go_upto_region 7 with (first
        | (refine wpList_ldG rfl (.tmp 17) 63 rfl (.pointer (some ⟨g, o + i * 7, none⟩)) (.agg #[.bool x.nw, .int .i64 x.t, .int .i64 x.r, .int .i64 x.pt, .int .i64 x.pr, .string x.nm, .bool x.d]) rfl LX.out ?_))
      obtain ⟨kb, hkb⟩ : ∃ k, wr.heap.size = k := ⟨_, rfl⟩
      rw [hkb] at N5 OB ⊢
      generalize (wr.alloc (.cells (#[.bool x.nw, .int .i64 x.t, .int .i64 x.r, .int .i64 x.pt, .int .i64 x.pr, .string x.nm, .bool x.d]) 63)) = w5 at *
      clear hkb LX
      obtain ⟨c0, c1, c2, c3, c4, c5, c6⟩ := ChAt.row N5.out
      obtain ⟨xnw, xt, xr, xpt, xpr, xnm, xd⟩ := x
      dsimp only at c0 c1 c2 c3 c4 c5 c6
      cases xnw with
      | false =>
        have SE := Lib.hid (SN.out.trans (nst_old rfl))
        have K9 := K5
        have LB := Lib.hid (ldC63 (ChAt.row N5.out))
        clear SN
        go_upto_region 11 with (fail)
        obtain ⟨x, hxe⟩ : ∃ z : Ch, ⟨false, xt, xr, xpt, xpr, xnm, xd⟩ = z := ⟨_, rfl⟩
        have LB : Hid ((Instr.loadAt 63 (.pointer (some ⟨kb, 0, none⟩))).run Try.prog w5 = .ok (.agg #[.bool x.nw, .int .i64 x.t, .int .i64 x.r, .int .i64 x.pt, .int .i64 x.pr, .string x.nm, .bool x.d]) w5) := Lib.hid (by rw [← hxe]; exact LB.out)
        rw [hxe] at SE N5
        clear c0 c1 c2 c3 c4 c5 c6 hxe
        have SE1 := Lib.hid (show (nsF made (l.take (i + 1))).1 = s.1 ++ [x] from by rw [SE.out])
        have OX := Lib.hid (own_belowK K9.out.row (vstep w5 (.cells (#[.bool x.nw, .int .i64 x.t, .int .i64 x.r, .int .i64 x.pt, .int .i64 x.pr, .string x.nm, .bool x.d]) 63)))
        have HX := Lib.hid (show (w5.alloc (.cells (#[.bool x.nw, .int .i64 x.t, .int .i64 x.r, .int .i64 x.pt, .int .i64 x.pr, .string x.nm, .bool x.d]) 63)).heap[w5.heap.size]? = some (.cells (encH x).toArray 63 (0, 0)) from heap_alloc_new w5 _)
        have QX := Lib.hid (And.intro (show (s.1).length + 1 ≤ maxLen from by have := LM.out; unfold maxLen; omega) (And.intro (show ((s.1).length + 1) * 64 ≤ 140737488355328 from by have := LM.out; omega) (show w.heap.size ≤ (w5.alloc (.cells (#[.bool x.nw, .int .i64 x.t, .int .i64 x.r, .int .i64 x.pt, .int .i64 x.pr, .string x.nm, .bool x.d]) 63)).heap.size from Nat.le_trans K9.out.bel.size (vstep w5 _).size)))
        have bsx := bsH23 w5 x
        go_wp2_with (first
          | (refine wpList_ldG rfl (.tmp 8) 63 rfl (.pointer (some ⟨kb, 0, none⟩)) (.agg #[.bool x.nw, .int .i64 x.t, .int .i64 x.r, .int .i64 x.pt, .int .i64 x.pr, .string x.nm, .bool x.d]) rfl LB.out ?_)
          | (at_builtin; refine wpList_pushK rfl (.tmp 36) (.tmp 38) 23 rfl encH_len (by decide) encH_one w.heap.size 63 i0 (.agg #[.bool false, .int .i64 0, .int .i64 0, .int .i64 0, .int .i64 0, .string ⟨#[]⟩, .bool false]) 64 Try.u23 hi9 hz0 hz1 hz2 rfl _ (s.1) x w5.heap.size rfl rfl HX.out OX.out QX.out.1 QX.out.2.1 QX.out.2.2 ?_; intro v9 w9 hown hgr; have P9 := Lib.hid (K9.out.push hown hgr SE1.out); obtain ⟨va9, vc9, rfl⟩ := own_shapeK hown; clear hown hgr))
        have P9 := Lib.hid (show NMI w w9 63 (.slice va9 ((s.1).length + 1) vc9) (nsF made (l.take (i + 1))) from by have h := P9.out; rwa [List.length_append] at h)
        go_roundw
        case rel => exact ⟨i + 1, by go_num, by omega, by first | (rw [SE.out]; done) | (rw [SE.out]; simp; done), P9⟩
        case measure => simp [intOf]; omega
      | true =>
        by_cases hn : s.2 < made.length
        · have hn0 : (0 : Int) ≤ (s.2 : Int) := by omega
          have hn1 : (s.2 : Int) < (made.length : Int) := by omega
          have hnd : decide ((s.2 : Int) ≥ (made.length : Int)) = false := decide_eq_false (by omega)
          have hnd2 : ¬ ((made.length : Int) ≤ (s.2 : Int)) := by omega
          obtain ⟨mg, mo, m, e8, hmx, hmg, hmc⟩ := (HM.out.step K5.out.bel).at' hn
          subst e8
          have SE := Lib.hid (SN.out.trans (nst_new rfl hmx))
          have LS := Lib.hid (ldS (W := w5) (g := mg) (o := mo + s.2 * 2) (a := m.1) (b := m.2) (hmc 0 _ rfl) (hmc 1 _ rfl))
          have ST := Lib.hid (st61 N5.out m.1 m.2)
          have N6 := Lib.hid (chset_row (t := m.1) (r := m.2) N5.out)
          have K6 := Lib.hid (K5.out.set OB.out.1 OB.out.2 m.1 m.2)
          clear hmx hmg hmc SN
          go_upto_region 10 with (first
            | (refine wpList_ldG rfl (.tmp 31) 61 rfl (.pointer (some ⟨mg, mo + s.2 * 2, none⟩)) (.agg #[.int .i64 m.1, .int .i64 m.2]) rfl LS.out ?_)
            | (refine wpList_sto0 rfl (.tmp 33) (.tmp 32) 61 rfl (.pointer (some ⟨kb, 1, none⟩)) (.agg #[.int .i64 m.1, .int .i64 m.2]) rfl rfl _ ST.out ?_))
          generalize chset w5 kb m.1 m.2 = w6 at *
          clear c0 c1 c2 c3 c4 c5 c6 ST LS K5 N5
          have hwn : wrap64 ((s.2 : Int) + 1) = ((s.2 + 1 : Nat) : Int) := by unfold wrap64; omega
          go_upto_region 11 with (fail)
          obtain ⟨x, hxe⟩ : ∃ z : Ch, ⟨true, m.1, m.2, xpt, xpr, xnm, xd⟩ = z := ⟨_, rfl⟩
          have N6 : Hid (w6.heap[kb]? = some (.cells (encH x).toArray 63 (0, 0))) := Lib.hid (by rw [← hxe]; exact N6.out)
          have LB := Lib.hid (ldC63 (ChAt.row N6.out))
          have K9 := K6
          have SE : Hid (nsF made (l.take (i + 1)) = (s.1 ++ [x], s.2 + 1)) := Lib.hid (by rw [← hxe]; exact SE.out)
          clear hxe
          have SE1 := Lib.hid (show (nsF made (l.take (i + 1))).1 = s.1 ++ [x] from by rw [SE.out])
          have OX := Lib.hid (own_belowK K9.out.row (vstep w6 (.cells (#[.bool x.nw, .int .i64 x.t, .int .i64 x.r, .int .i64 x.pt, .int .i64 x.pr, .string x.nm, .bool x.d]) 63)))
          have HX := Lib.hid (show (w6.alloc (.cells (#[.bool x.nw, .int .i64 x.t, .int .i64 x.r, .int .i64 x.pt, .int .i64 x.pr, .string x.nm, .bool x.d]) 63)).heap[w6.heap.size]? = some (.cells (encH x).toArray 63 (0, 0)) from heap_alloc_new w6 _)
          have QX := Lib.hid (And.intro (show (s.1).length + 1 ≤ maxLen from by have := LM.out; unfold maxLen; omega) (And.intro (show ((s.1).length + 1) * 64 ≤ 140737488355328 from by have := LM.out; omega) (show w.heap.size ≤ (w6.alloc (.cells (#[.bool x.nw, .int .i64 x.t, .int .i64 x.r, .int .i64 x.pt, .int .i64 x.pr, .string x.nm, .bool x.d]) 63)).heap.size from Nat.le_trans K9.out.bel.size (vstep w6 _).size)))
          have bsx := bsH23 w6 x
          go_wp2_with (first
            | (refine wpList_ldG rfl (.tmp 8) 63 rfl (.pointer (some ⟨kb, 0, none⟩)) (.agg #[.bool x.nw, .int .i64 x.t, .int .i64 x.r, .int .i64 x.pt, .int .i64 x.pr, .string x.nm, .bool x.d]) rfl LB.out ?_)
            | (at_builtin; refine wpList_pushK rfl (.tmp 36) (.tmp 38) 23 rfl encH_len (by decide) encH_one w.heap.size 63 i0 (.agg #[.bool false, .int .i64 0, .int .i64 0, .int .i64 0, .int .i64 0, .string ⟨#[]⟩, .bool false]) 64 Try.u23 hi9 hz0 hz1 hz2 rfl _ (s.1) x w6.heap.size rfl rfl HX.out OX.out QX.out.1 QX.out.2.1 QX.out.2.2 ?_; intro v9 w9 hown hgr; have P9 := Lib.hid (K9.out.push hown hgr SE1.out); obtain ⟨va9, vc9, rfl⟩ := own_shapeK hown; clear hown hgr))
          have P9 := Lib.hid (show NMI w w9 63 (.slice va9 ((s.1).length + 1) vc9) (nsF made (l.take (i + 1))) from by have h := P9.out; rwa [List.length_append] at h)
          go_roundw
          case rel => exact ⟨i + 1, by go_num, by omega, by first | (rw [SE.out]; done) | (rw [SE.out]; simp; done), P9⟩
          case measure => simp [intOf]; omega
        · have hn1 : ¬ ((s.2 : Int) < (made.length : Int)) := by omega
          have hnd : decide ((s.2 : Int) ≥ (made.length : Int)) = true := decide_eq_true (by omega)
          have hnd2 : (made.length : Int) ≤ (s.2 : Int) := by omega
          have SE := Lib.hid (SN.out.trans (nst_no rfl (List.getElem?_eq_none (by omega))))
          clear SN
          have P9 := Lib.hid (show NMI w w5 63 (.slice oa s.1.length oc) (nsF made (l.take (i + 1))) from by rw [SE.out]; exact K5.out)
          go_wp2_with fail
          go_roundw
          case rel => exact ⟨i + 1, by go_num, by omega, by rw [SE.out], P9⟩
          case measure => simp [intOf]; omega
    · have FIN := Lib.hid (show wr.ownsRow w.heap.size 63 7 (.slice oa (nsF made (l.take i)).1.length oc) (namedF made l).length ((namedF made l).flatMap encH) ∧ Below w.heap.size w wr from by
        have h := K.out
        rw [show l.take i = l from List.take_of_length_le (by omega)] at h ⊢
        exact ⟨h.row, h.bel⟩)
      clear K
      go_wp2
      go_returns
      exact ⟨_, rfl, FIN.out.1, FIN.out.2⟩
end Go.Proofs.Ythbmbpnpigpgpaa
