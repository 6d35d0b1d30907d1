/- op.Parse. Made by genoh7.py. -/
import Derived.Test.YtifeakmbeaflgaaDoorOG
set_option linter.unusedVariables false
namespace Go.Proofs.YtifeakmbeaflgaaDoor
open Go.RowKit
open Wi (RdI RdOut Kr St Byt)

noncomputable def opsS : Nat → St → List O × St
  | 0, s => ([], s)
  | k + 1, s => ((opsS k s).1 ++ [(getO (opsS k s).2).1], (getO (opsS k s).2).2)
theorem opsS_len (s : St) : ∀ k, (opsS k s).1.length = k
  | 0 => rfl
  | k + 1 => by show ((opsS k s).1 ++ [_]).length = _; rw [List.length_append, opsS_len s k]; rfl
noncomputable def parseO (bs : List Int) : List O × Int :=
  if (64 : Int) < (St.num ⟨bs, 0⟩).1 ∨ (bs.length : Int) < (St.num ⟨bs, 0⟩).1 then ([], 6)
  else if (opsS (St.num ⟨bs, 0⟩).1.toNat (St.num ⟨bs, 0⟩).2).2.fin.bad ≠ 0 then ([], (opsS (St.num ⟨bs, 0⟩).1.toNat (St.num ⟨bs, 0⟩).2).2.fin.bad)
  else ((opsS (St.num ⟨bs, 0⟩).1.toNat (St.num ⟨bs, 0⟩).2).1, 0)
theorem RdI.keep {w w' : World} {B M r E : Nat} {s : St} (h : RdI w B M r s) (hb : Below E w w') (hr : r < E) (hM : M ≤ E) : RdI w' B M r s := by
  obtain ⟨v, hbl, ao, cap, rfl, hcap, hmax, hcells⟩ := h.blk
  refine ⟨h.ge, ⟨_, (hb.block r hr).trans hbl, ao, cap, rfl, hcap, hmax, fun hne => ?_⟩, h.byt, h.len, Nat.le_trans h.top hb.size⟩
  obtain ⟨g, off, rfl, hgr, hc⟩ := hcells hne
  refine ⟨g, off, rfl, hgr, fun j x hj => ?_⟩
  have h1 := hc j x hj
  rw [hb.cell (p := ⟨g, off + j, none⟩) (Nat.lt_of_lt_of_le hgr.2 hM)]
  exact h1
theorem own_kr {w w' : World} {E r : Nat} {v : Value} {xs : List Value} {n : Nat} (h : w.ownsRow E 25 9 v n xs) (k : Kr w w' r) (hr : r < E) : w'.ownsRow E 25 9 v n xs := by
  refine h.kept (row := some r) ⟨k.os, k.tape, k.output, k.size, fun j hj hne => k.block j hj (fun e => hne (by rw [e]))⟩ (.inr fun e => ?_)
  have := (h.lt r e).1
  omega
theorem own_below {w w' : World} {E e size n : Nat} {v : Value} {xs : List Value} (h : w.ownsRow E e size v n xs) (hb : Below w.heap.size w w') : w'.ownsRow E e size v n xs :=
  h.kept (row := none) ⟨hb.os, hb.tape, hb.output, hb.size, fun k hk _ => hb.block k hk⟩ (by cases h : v.ownBlock <;> simp)
theorem vstep (W : World) (o : Obj) : Below W.heap.size W (W.alloc o) := (Below.refl _ _).alloc (Nat.le_refl _) _
set_option maxRecDepth 100000 in
theorem one_op (W : World) (o : O) : OLies (W.alloc (.cells #[.int .i64 o.t, .int .i64 o.r, .int .i64 o.q, .int .i64 o.nt, .int .i64 o.nr, .int .i64 o.pt, .int .i64 o.pr, .string o.nm, .bool o.d] 25)) (.slice (some ⟨W.heap.size, 0, none⟩) 1 1) [o] := by
  refine ⟨_, 1, rfl, Nat.le_refl _, by unfold maxLen; omega, (fun h => by cases h), fun b hb _ => ?_⟩
  cases hb
  refine ⟨W.heap.size, 0, rfl, by simp, fun j p hj i u hi => ?_⟩
  have hj0 : j = 0 := by
    have := (List.getElem?_eq_some_iff.1 hj).1
    simp at this
    exact this
  subst hj0
  injection hj with hj
  subst hj
  rw [cell_of_row _ _ _ _ _ _ (heap_alloc_new W _), show 0 + 0 * 9 + i = i by omega]
  have h := hi
  unfold oc at h
  rw [Array.getElem?_toList] at h
  exact h
theorem ret_pp {v : Value} {a b : Int} (h : a = b) : (Ending.returned (.tuple #[v, .int .i64 a])) = .returned (.tuple #[v, .int .i64 b]) := by rw [h]
theorem bs_op (W : World) (o : O) : (Instr.buildSlice 27 1 #[(0, .agg #[.int .i64 o.t, .int .i64 o.r, .int .i64 o.q, .int .i64 o.nt, .int .i64 o.nr, .int .i64 o.pt, .int .i64 o.pr, .string o.nm, .bool o.d])]).run Tryd.prog W = .ok (.slice (some ⟨W.heap.size, 0, none⟩) 1 1) (W.alloc (.cells #[.int .i64 o.t, .int .i64 o.r, .int .i64 o.q, .int .i64 o.nt, .int .i64 o.nr, .int .i64 o.pt, .int .i64 o.pr, .string o.nm, .bool o.d] 25)) := by go_simp
set_option maxRecDepth 100000 in
set_option maxHeartbeats 6400000 in
theorem parse_any (w : World) (v : Value) (bs : List Int) (h : Wi.Lies w v bs) (hb : Byt bs) (hl : bs.length ≤ 100000) :
    Calls Tryd.prog 27 #[v] w fun e w' => ∃ v', e = .returned (.tuple #[v', .int .i64 (parseO bs).2]) ∧ OLies w' v' (parseO bs).1 ∧ Below w.heap.size w w' := by
  have OPN := Lib.hid (Wi.open_any w v bs h hb (by omega))
  have PO := Lib.hid (show parseO bs = if (64 : Int) < (St.num ⟨bs, 0⟩).1 ∨ (bs.length : Int) < (St.num ⟨bs, 0⟩).1 then ([], 6) else if (opsS (St.num ⟨bs, 0⟩).1.toNat (St.num ⟨bs, 0⟩).2).2.fin.bad ≠ 0 then ([], (opsS (St.num ⟨bs, 0⟩).1.toNat (St.num ⟨bs, 0⟩).2).2.fin.bad) else ((opsS (St.num ⟨bs, 0⟩).1.toNat (St.num ⟨bs, 0⟩).2).1, 0) from rfl)
  have hrg := Wi.St.num_range ⟨bs, 0⟩ hb
  obtain ⟨i0, hi9, hz0, hz1, hz2⟩ := info_parts info25
  generalize parseO bs = R at *
  obtain ⟨ao, cap, rfl, -⟩ := id h
  clear h hb
  go_enter Tryd.func27, Tryd.ntmps27
  go_wp2_with fail
  refine OPN.out.mono ?_
  rintro e w1 ⟨r, M, rfl, hr, hb1⟩
  have NUM := Lib.hid (Wi.num_any w1 w.heap.size M r ⟨bs, 0⟩ hr hb1.size)
  have RD0 := Lib.hid hr
  have B1 := Lib.hid hb1
  clear hr hb1 OPN
  generalize (St.num ⟨bs, 0⟩).1 = n at *
  generalize (St.num ⟨bs, 0⟩).2 = s1 at *
  go_wp2_with fail
  refine NUM.out.mono ?_
  rintro e w2 ⟨rfl, hw⟩
  have RD := Lib.hid hw.1
  have B2 := Lib.hid (B1.out.trans (hw.2.below RD0.out.ge B1.out.size))
  have SZ := Lib.hid hw.2.size
  have RLT := Lib.hid (show r < w1.heap.size from by obtain ⟨_, hbl, _⟩ := RD0.out.blk; exact lt_of_block hbl)
  have TOP := Lib.hid RD0.out.top
  clear hw NUM RD0
  by_cases hbig : 64 < n ∨ (bs.length : Int) < n
  · have E := Lib.hid (show R = ([], 6) from by rw [PO.out, if_pos hbig])
    rcases Int.lt_or_le 64 n with h64 | h64
    · clear hbig
      go_wp2
      go_returns
      exact ⟨.slice none 0 0, ret_pp (by rw [E.out]), by rw [E.out]; exact OLies.nil _, B2.out⟩
    · have h64' : ¬ (64 : Int) < n := by omega
      have hlen : (bs.length : Int) < n := by omega
      clear hbig h64
      go_wp2
      go_returns
      exact ⟨.slice none 0 0, ret_pp (by rw [E.out]), by rw [E.out]; exact OLies.nil _, B2.out⟩
  · have E1 := Lib.hid (show R = if (opsS n.toNat s1).2.fin.bad ≠ 0 then ([], (opsS n.toNat s1).2.fin.bad) else ((opsS n.toNat s1).1, 0) from by rw [PO.out, if_neg hbig])
    have h64' : ¬ (64 : Int) < n := by omega
    have hlen : ¬ (bs.length : Int) < n := by omega
    obtain ⟨m, rfl⟩ : ∃ m : Nat, n = (m : Int) := ⟨n.toNat, by omega⟩
    rw [Int.toNat_natCast] at E1
    have hm : m ≤ 64 := by omega
    clear PO hbig hrg
    have d1 : decide (bs.length < m) = false := decide_eq_false (by omega)
    have d2 : decide ((64 : Int) < (m : Int)) = false := decide_eq_false (by omega)
    go_upto_region 6 with (fail)
    try simp only [d1, d2, Bool.or_false]
    clear d1 d2
    go_wp2_with fail
    clear h64' hlen
    go_loopw [6, 21] (fun lv kv wr => ∃ k : Nat, kv = .int .i64 k ∧ k ≤ m ∧ Hid (wr.ownsRow w1.heap.size 25 9 lv (opsS k s1).1.length (cs9 (opsS k s1).1) ∧ RdI wr w.heap.size M r (opsS k s1).2 ∧ Below w.heap.size w wr ∧ w1.heap.size ≤ wr.heap.size)) (fun _ kv _ => m - (intOf kv).toNat)
    case atStart => exact ⟨0, rfl, Nat.zero_le _, Lib.hid ⟨World.ownsRow_nil _ _ _ _, RD.out, B2.out, SZ.out⟩⟩
    case round =>
      obtain ⟨k, rfl, hk, hI⟩ := hrel
      obtain ⟨lo, lc, hlv⟩ := Wi.own_shape hI.out.1
      subst hlv
      by_cases hlt : k < m
      · have GT := Lib.hid (get_any wr w.heap.size M r (opsS k s1).2 hI.out.2.1 hI.out.2.2.1.size)
        have NX := Lib.hid (show opsS (k + 1) s1 = ((opsS k s1).1 ++ [(getO (opsS k s1).2).1], (getO (opsS k s1).2).2) from rfl)
        have LN := Lib.hid (show (opsS k s1).1.length ≤ 1000 from by rw [opsS_len]; omega)
        generalize (getO (opsS k s1).2).1 = o at *
        generalize (getO (opsS k s1).2).2 = s2 at *
        have GT := Lib.hid (show Calls Tryd.prog 24 #[.pointer (some ⟨r, 0, none⟩)] wr fun e w' => e = .returned (.agg #[.int .i64 o.t, .int .i64 o.r, .int .i64 o.q, .int .i64 o.nt, .int .i64 o.nr, .int .i64 o.pt, .int .i64 o.pr, .string o.nm, .bool o.d]) ∧ RdOut wr w' w.heap.size M r s2 from GT.out)
        go_wp2_with fail
        refine GT.out.mono ?_
        rintro e w3 ⟨rfl, hw⟩
        have OW := own_kr hI.out.1 hw.2 RLT.out
        have hs3 := Nat.le_trans hI.out.2.2.2 hw.2.size
        have B3 := Lib.hid (hI.out.2.2.1.trans (hw.2.below hI.out.2.1.ge hI.out.2.2.1.size))
        have hX := vstep w3 (.cells #[.int .i64 o.t, .int .i64 o.r, .int .i64 o.q, .int .i64 o.nt, .int .i64 o.nr, .int .i64 o.pt, .int .i64 o.pr, .string o.nm, .bool o.d] 25)
        have OW2 := Lib.hid (own_below OW hX)
        have FINF := Lib.hid (fun v' w4 (ho4 : w4.ownsRow w1.heap.size 25 9 v' ((opsS k s1).1.length + 1) (cs9 (opsS k s1).1 ++ cs9 [o])) (hg : (w3.alloc (.cells #[.int .i64 o.t, .int .i64 o.r, .int .i64 o.q, .int .i64 o.nt, .int .i64 o.nr, .int .i64 o.pt, .int .i64 o.pr, .string o.nm, .bool o.d] 25)).grownBy w4 (Value.slice lo (opsS k s1).1.length lc).ownBlock) => show w4.ownsRow w1.heap.size 25 9 v' (opsS (k + 1) s1).1.length (cs9 (opsS (k + 1) s1).1) ∧ RdI w4 w.heap.size M r (opsS (k + 1) s1).2 ∧ Below w.heap.size w w4 ∧ w1.heap.size ≤ w4.heap.size from by
          have hb4 : Below w1.heap.size w3 w4 := ((Below.refl w1.heap.size w3).alloc hs3 _).trans ((Below.refl w1.heap.size _).grown hg (Nat.le_trans hs3 hX.size) (fun k hk => (OW.lt k hk).1))
          rw [NX.out]
          exact ⟨by rw [List.length_append, cs9_append]; exact ho4, RdI.keep hw.1 hb4 RLT.out TOP.out, B3.out.trans (hb4.mono B1.out.size), Nat.le_trans hs3 hb4.size⟩)
        have bso := bs_op w3 o
        have SRC := (one_op w3 o).src
        have q1 : (opsS k s1).1.length + 1 ≤ maxLen := by have := LN.out; unfold maxLen; omega
        have q2 : ((opsS k s1).1.length + 1) * 80 ≤ 140737488355328 := by have := LN.out; omega
        have q3 : w1.heap.size ≤ (w3.alloc (.cells #[.int .i64 o.t, .int .i64 o.r, .int .i64 o.q, .int .i64 o.nt, .int .i64 o.nr, .int .i64 o.pt, .int .i64 o.pr, .string o.nm, .bool o.d] 25)).heap.size := Nat.le_trans hs3 hX.size
        have SR := Lib.hid SRC
        have Q := Lib.hid (And.intro q1 (And.intro q2 q3))
        clear hw OW hs3 hI NX LN GT hX SRC q1 q2 q3
        go_wp2_with (at_builtin; refine Wi.wpList_append_src_own rfl (.tmp 23) (.tmp 26) 27 27 rfl w1.heap.size 25 i0 (oV O0) 9 80 Tryd.u27 hi9 hz0 hz1 hz2 rfl (by decide) _ _ _ rfl OW2.out _ 1 (cs9 [o]) rfl SR.out Q.out.1 Q.out.2.1 Q.out.2.2 ?_; intro v' w4 hown hgr hsp; obtain ⟨ra, rc, rfl⟩ := Wi.own_shape hown; have FIN := Lib.hid (FINF.out _ w4 hown hgr); clear hown hgr hsp)
        go_roundw
        case rel => exact ⟨k + 1, by go_num, by omega, FIN⟩
        case measure => simp [intOf]; omega
      · have hkm : k = m := by omega
        subst hkm
        have EN := Lib.hid (Wi.end_any wr w.heap.size M r (opsS k s1).2 hI.out.2.1)
        generalize (opsS k s1).2.fin.bad = fb at *
        generalize (opsS k s1).2.fin = sf at *
        have LE := Lib.hid (fun (W : World) (hK : Kr wr W r) => own_olies (own_kr hI.out.1 hK RLT.out))
        have BK := Lib.hid (fun (W : World) (hK : Kr wr W r) => hI.out.2.2.1.trans (hK.below hI.out.2.1.ge hI.out.2.2.1.size))
        clear hI
        generalize (opsS k s1).1 = lm at *
        go_wp2_with fail
        refine EN.out.mono ?_
        rintro e w3 ⟨rfl, hw⟩
        have L3 := Lib.hid (LE.out _ hw.2)
        have B3 := Lib.hid (BK.out _ hw.2)
        clear hw EN
        by_cases hfb : fb = 0
        · have E := Lib.hid (show R = (lm, 0) from by rw [E1.out, if_neg (by simpa using hfb)])
          have t1 := eqb_ fb 0 hfb
          clear hfb
          go_wp2
          go_returns
          exact ⟨_, ret_pp (by rw [E.out]), by rw [E.out]; exact L3.out, B3.out⟩
        · have E := Lib.hid (show R = ([], fb) from by rw [E1.out, if_pos (by simpa using hfb)])
          have t1 := neb_ fb 0 hfb
          clear hfb
          go_wp2
          go_returns
          exact ⟨.slice none 0 0, ret_pp (by rw [E.out]), by rw [E.out]; exact OLies.nil _, B3.out⟩
end Go.Proofs.YtifeakmbeaflgaaDoor
