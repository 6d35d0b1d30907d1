/- fold.Set. Made by genfa15.py. -/
import Derived.Test.YtbeodechhneeeaaGreatDoorQZ
import Derived.Test.YtbeodechhneeeaaGreatDoorFM
import Derived.Test.YtbeodechhneeeaaGreatDoorRZ
import Derived.Test.YtbeodechhneeeaaGreatDoorRL
set_option linter.unusedVariables false
set_option linter.unusedSimpArgs false
set_option maxRecDepth 100000
namespace Go.Proofs.YtbeodechhneeeaaGreatDoor
open Go.RowKit Go.Shelf
open Tb (Rw setF getF aboveF Rise TabI TM LiesK LiesR ltS)

theorem wpList_look {P : Program} {w : World} {ops : Array Oper} {rest : List Oper} {o : Oper} {a : Act} {Q : Exit → Act → World → Prop} (hgd : o.guard = none) (m x : Operand) (mt : TypeId)
    (ho : o.op = .lookup mt m x true) (mv xv u : Value) (hm : a.eval m = mv) (hx : a.eval x = xv) (hl : (Instr.lookup mt mv xv true).run P w = .ok u w)
    (h : wpList P ops Q rest (a.put o.dst u) w) : wpList P ops Q (o :: rest) a w :=
  wpList_plain hgd fun _ hK => by
    unfold Oper.wp execOp
    simp only [ho, hm, hx, hl, Sem.run_bind, Sem.run_pure, Result.andThen_ok]
    exact hK _ _ h
theorem wpList_mupd {P : Program} {w : World} {ops : Array Oper} {rest : List Oper} {o : Oper} {a : Act} {Q : Exit → Act → World → Prop} (hgd : o.guard = none) (m x y : Operand) (mt : TypeId)
    (ho : o.op = .mapUpdate mt m x y) (mv xv yv : Value) (hm : a.eval m = mv) (hx : a.eval x = xv) (hy : a.eval y = yv) (w' : World) (hl : (Instr.mapUpdate mt mv xv yv).run P w = .ok () w')
    (h : wpList P ops Q rest (a.put o.dst undef) w') : wpList P ops Q (o :: rest) a w :=
  wpList_plain hgd fun _ hK => by
    unfold Oper.wp execOp
    simp only [ho, hm, hx, hy, hl, Sem.run_bind, Sem.run_pure, Result.andThen_ok]
    exact hK _ _ h
theorem own_base {w : World} {B B' e k n : Nat} {v : Value} {xs : List Value} (h : w.ownsRow B e k v n xs) (hB : B' ≤ B) : w.ownsRow B' e k v n xs := by
  refine ⟨h.1, ?_⟩
  rcases h.2 with h | ⟨g, cap, cur, h1, h2, h3⟩
  · exact .inl h
  · exact .inr ⟨g, cap, cur, h1, Nat.le_trans hB h2, h3⟩
abbrev E0 : Value := .agg #[]
theorem zero54 (w : World) : (zeroValue 78).run Tryz.prog w = .ok E0 w := by kernel_rfl
theorem und53 : Tryz.prog.underlying 77 = some (.map 31 78) := by kernel_rfl
theorem bld54 (w : World) : (Instr.build 78 #[]).run Tryz.prog w = .ok E0 w := by kernel_rfl
theorem alc54 (W : World) : (Instr.alloc 78 true (.tuple #[])).run Tryz.prog W = .ok (.pointer (some ⟨W.heap.size, 0, none⟩)) (W.alloc (.cells #[] 78)) := by kernel_rfl
theorem sto54 (W : World) (p : Value) (a : Addr) : (Instr.storeAt 78 (.pointer (some a)) E0).run Tryz.prog W = .ok () W := by go_simp
noncomputable def seenF (u : List O) : Ms.PF := fun t r => if hasO u t r = true then some E0 else none
theorem seen_look (u : List O) (t r : Int) : (seenF u t r).getD E0 = E0 ∧ (seenF u t r).isSome = hasO u t r := by
  unfold seenF
  cases hasO u t r <;> exact ⟨rfl, rfl⟩
theorem seen_put (u : List O) (x : O) : Ms.upd (seenF u) x.t x.r E0 = seenF (u ++ [x]) := by
  funext a c
  unfold Ms.upd seenF hasO
  rw [List.any_append]
  show _ = if (_ || (decide (x.t = a ∧ x.r = c) || false)) = true then _ else _
  by_cases h : a = x.t ∧ c = x.r
  · rw [if_pos h, decide_eq_true (show x.t = a ∧ x.r = c from ⟨h.1.symm, h.2.symm⟩)]
    simp
  · rw [if_neg h, decide_eq_false (show ¬ (x.t = a ∧ x.r = c) from fun e => h ⟨e.1.symm, e.2.symm⟩)]
    simp
noncomputable def setO (l : List O) : List O := srtO (uniqF l)
/-- What stands in Set's loop. -/
structure SEI (w W : World) (mb : Nat) (u : List O) (sv : Value) (n : Nat) : Prop where
  bel : Below w.heap.size w W
  map : Ms.FM E0 W mb n (seenF u)
  hmb : w.heap.size ≤ mb
  row : W.ownsRow w.heap.size 33 9 sv u.length (cs9 u)
theorem SEI.step {w W W' : World} {mb : Nat} {u : List O} {sv : Value} {n : Nat} (h : SEI w W mb u sv n) (hb : Below W.heap.size W W') : SEI w W' mb u sv n :=
  ⟨h.bel.trans (hb.mono h.bel.size), h.map.step hb, h.hmb, own_below h.row hb⟩
theorem SEI.up {w W : World} {mb : Nat} {u : List O} {sv : Value} {n : Nat} (h : SEI w W mb u sv n) : SEI w W mb u sv (n + 1) := ⟨h.bel, by obtain ⟨D, ⟨es, clock, hb, F, hs, hD⟩, h2⟩ := h.map; exact ⟨D, ⟨es, clock, hb, F, Nat.le_succ_of_le hs, hD⟩, h2⟩, h.hmb, h.row⟩
theorem SEI.put {w W : World} {mb : Nat} {u : List O} {sv : Value} {n : Nat} (h : SEI w W mb u sv n) (x : O) (hx : OkO x) (hn : n < 100000) :
    ∃ W', (Instr.mapUpdate 77 (.map (some mb)) (.agg #[.int .i64 x.t, .int .i64 x.r]) E0).run Tryz.prog W = .ok () W' ∧ Below w.heap.size w W' ∧ Ms.FM E0 W' mb (n + 1) (seenF (u ++ [x])) ∧ W'.ownsRow w.heap.size 33 9 sv u.length (cs9 u) ∧ W.grownBy W' (some mb) := by
  obtain ⟨W', h1, h2, h3⟩ := h.map.put und53 (by unfold maxLen; omega) hx.t hx.r E0
  rw [seen_put] at h2
  refine ⟨W', h1, h.bel.grown h3 h.bel.size (fun k e => by injection e with e; rw [← e]; exact h.hmb), h2, h.row.kept h3 (.inr (fun e => ?_)), h3⟩
  rcases h.row.2 with ⟨rfl, _⟩ | ⟨g, cap, cur, rfl, _, hb, _⟩
  · cases e
  · have e : some g = some mb := e
    injection e with e
    subst e
    exact h.map.ismap hb
set_option maxHeartbeats 12800000 in
theorem fset_any (w : World) (v : Value) (l : List O) (h : OLies w v l) (hok : ∀ o ∈ l, OkO o) (hsz : ∀ o ∈ l, o.nm.size ≤ 9223372036854775807) (hl : l.length ≤ 1000) (hu : (uniqF l).length ≤ 79) :
    Calls Tryz.prog 18 #[v] w fun e w' => ∃ r, e = .returned r ∧ w'.ownsRow w.heap.size 33 9 r (setO l).length (cs9 (setO l)) ∧ Below w.heap.size w w' := by
  have hmm := @run_makeMap Tryz.prog
  obtain ⟨i0, hi9, hz0, hz1, hz2⟩ := info_parts info25
  have H := Lib.hid h
  have HOK := Lib.hid (fun x hx => And.intro (hok x hx) (hsz x hx))
  obtain ⟨ao, cap, rfl⟩ := h.shape
  have J0 := Lib.hid (show SEI w (w.alloc (.map #[] 0)) w.heap.size [] (.slice none 0 0) 0 from ⟨pl_vstep w _, Ms.FM.made w, Nat.le_refl _, World.ownsRow_nil _ _ _ _⟩)
  clear h hok hsz
  go_enter Tryz.func18, Tryz.ntmps18
  go_upto_region 2 with (fail)
  obtain ⟨wS, hwS⟩ : ∃ z, w.alloc (.map #[] 0) = z := ⟨_, rfl⟩
  obtain ⟨mb, hmb⟩ : ∃ z, w.heap.size = z := ⟨_, rfl⟩
  rw [hwS] at J0
  rw [hwS]
  have HMB := Lib.hid hmb
  have J0 : Hid (SEI w wS mb [] (.slice none 0 0) 0) := by rw [← hmb]; exact J0
  rw [hmb]
  clear hwS hmb
  go_wp2_with fail
  go_loopw [4, 12] (fun sv iv wr => ∃ i : Nat, iv = .int .i64 i ∧ i ≤ l.length ∧ Hid (SEI w wr mb (uniqF (l.take i)) sv i)) (fun _ iv _ => l.length - (intOf iv).toNat)
  case atStart => exact ⟨0, rfl, Nat.zero_le _, J0⟩
  case round =>
    clear J0
    obtain ⟨i, rfl, hi, K⟩ := hrel
    obtain ⟨sa, sc, hsv⟩ := Ve.own_shape K.out.row
    subst hsv
    by_cases hlt : i < l.length
    · have hi0 : (0 : Int) ≤ (i : Int) := by omega
      have hi1 : (i : Int) < (l.length : Int) := by omega
      have hd : decide ((i : Int) < (l.length : Int)) = true := decide_eq_true hi1
      have HL1 := Lib.hid (show i + 1 ≤ l.length from hlt)
      have HW9 := Lib.hid (wrap_nat hlt (show l.length ≤ 100000 by omega))
      have HMS := Lib.hid (meas_nat hlt)
      obtain ⟨g, k, x, e7, hx, hg, hc⟩ := (H.out.step K.out.bel).atK hlt
      subst e7
      obtain ⟨hox, hzx⟩ := HOK.out x (List.mem_of_getElem? hx)
      have OKX := Lib.hid hox
      have LX := Lib.hid (@ldO wr g (k + i * 9) x hc)
      have SN := Lib.hid (uniq_snoc l i x hx)
      have LU := Lib.hid (show (uniqF (l.take i)).length ≤ 1000 from by have := (uniq_is (l.take i)).len; rw [List.length_take] at this; omega)
      have RT := Lib.hid (fun W => right_big W x.t x.r x.q x.nt x.nr x.pt x.pr x.nm x.d hzx)
      obtain ⟨u, hu2⟩ : ∃ z, uniqF (l.take i) = z := ⟨_, rfl⟩
      rw [hu2] at SN LU K ⊢
      have UE : uqO u x = if rO x = true ∧ hasO u x.t x.r = false then u ++ [x] else u := rfl
      have RB : rO x = rB x.t x.r x.q x.nt x.nr x.pt x.pr x.nm := rfl
      rw [← RB] at RT
      obtain ⟨rb, hrb⟩ : ∃ z, rO x = z := ⟨_, rfl⟩
      rw [hrb] at RT UE
      obtain ⟨hs, hhs⟩ : ∃ z, hasO u x.t x.r = z := ⟨_, rfl⟩
      rw [hhs] at UE
      have UE := Lib.hid UE
      have HHS := Lib.hid hhs
      clear hx hg hc hox hzx hu2 RB hrb hhs
      have N5 := heap_alloc_new wr (.cells #[.int .i64 x.t, .int .i64 x.r, .int .i64 x.q, .int .i64 x.nt, .int .i64 x.nr, .int .i64 x.pt, .int .i64 x.pr, .string x.nm, .bool x.d] 33)
      have K5 := Lib.hid (K.out.step (pl_vstep wr (.cells #[.int .i64 x.t, .int .i64 x.r, .int .i64 x.q, .int .i64 x.nt, .int .i64 x.nr, .int .i64 x.pt, .int .i64 x.pr, .string x.nm, .bool x.d] 33)))
      go_upto_region 6 with (first
        | (refine Ve.wpList_load_arr rfl (.tmp 14) 33 rfl (.pointer (some ⟨g, k + i * 9, none⟩)) (.agg #[.int .i64 x.t, .int .i64 x.r, .int .i64 x.q, .int .i64 x.nt, .int .i64 x.nr, .int .i64 x.pt, .int .i64 x.pr, .string x.nm, .bool x.d]) rfl LX.out ?_))
      obtain ⟨w5, hw5⟩ : ∃ z, wr.alloc (.cells #[.int .i64 x.t, .int .i64 x.r, .int .i64 x.q, .int .i64 x.nt, .int .i64 x.nr, .int .i64 x.pt, .int .i64 x.pr, .string x.nm, .bool x.d] 33) = z := ⟨_, rfl⟩
      obtain ⟨bx, hbx⟩ : ∃ z, wr.heap.size = z := ⟨_, rfl⟩
      rw [hw5, hbx] at N5
      rw [hw5] at K5
      rw [hw5]
      try rw [hbx]
      have N5 := Lib.hid N5
      clear hw5 hbx LX K
      have LK := Lib.hid (by
        have := K5.out.map.look und53 zero54 OKX.out.t OKX.out.r
        rw [(seen_look u x.t x.r).1, (seen_look u x.t x.r).2, HHS.out] at this
        exact this)
      obtain ⟨c0, c1, c2, c3, c4, c5, c6, c7, c8⟩ := cell9 N5.out
      go_upto_region 7 with (first
        | (refine wpList_look rfl (.tmp 17) (.tmp 19) 77 rfl (.map (some mb)) (.agg #[.int .i64 x.t, .int .i64 x.r]) (.tuple #[E0, .bool hs]) rfl rfl LK.out ?_)
        | (refine Ve.wpList_alloc_arr rfl 78 rfl (.pointer (some ⟨w5.heap.size, 0, none⟩)) (w5.alloc (.cells #[] 78)) (alc54 w5) ?_)
        | (refine Ve.wpList_store_arr rfl (.tmp 7) (.tmp 21) 78 rfl (.pointer (some ⟨w5.heap.size, 0, none⟩)) E0 rfl rfl (w5.alloc (.cells #[] 78)) (sto54 _ E0 _) ?_))
      have K6 := Lib.hid (K5.out.step (pl_vstep w5 (.cells #[] 78)))
      have N6 := Lib.hid (((pl_vstep w5 (.cells #[] 78)).block _ (pl_lt N5.out)).trans N5.out)
      obtain ⟨w6, hw6⟩ : ∃ z, w5.alloc (.cells #[] 78) = z := ⟨_, rfl⟩
      rw [hw6] at K6 N6
      rw [hw6]
      clear hw6 c0 c1 c2 c3 c4 c5 c6 c7 c8 LK K5 N5
      cases hs with
      | true =>
        have FIN := Lib.hid (show SEI w w6 mb (uniqF (l.take (i + 1))) (.slice sa u.length sc) (i + 1) from by rw [SN.out, UE.out, if_neg (by simp)]; exact K6.out.up)
        clear UE SN K6
        go_wp2_with fail
        go_roundw
        case rel => exact ⟨i + 1, by first | (rw [HW9.out]; rfl) | go_num, HL1.out, FIN⟩
        case measure => first | (rw [HW9.out]; exact HMS.out) | exact HMS.out
      | false =>
        obtain ⟨c0, c1, c2, c3, c4, c5, c6, c7, c8⟩ := cell9 N6.out
        go_wp2_with fail
        refine (RT.out w6).mono ?_
        rintro e w7 ⟨rfl, hb⟩
        have K7 := Lib.hid (K6.out.step hb)
        have N7 := Lib.hid ((hb.block _ (pl_lt N6.out)).trans N6.out)
        clear hb c0 c1 c2 c3 c4 c5 c6 c7 c8 K6 N6
        cases rb with
        | false =>
          have FIN := Lib.hid (show SEI w w7 mb (uniqF (l.take (i + 1))) (.slice sa u.length sc) (i + 1) from by rw [SN.out, UE.out, if_neg (by simp)]; exact K7.out.up)
          clear UE SN K7
          go_wp2_with fail
          go_roundw
          case rel => exact ⟨i + 1, by first | (rw [HW9.out]; rfl) | go_num, HL1.out, FIN⟩
          case measure => first | (rw [HW9.out]; exact HMS.out) | exact HMS.out
        | true =>
          obtain ⟨w8, hrun, hb8, hm8, hr8, hg8⟩ := K7.out.put x OKX.out (by omega)
          have N8 := Lib.hid ((hg8.block _ (pl_lt N7.out) (fun e => by injection e with e; exact K7.out.map.ismap (e ▸ N7.out))).trans N7.out)
          have MU := Lib.hid hrun
          have R8 := Lib.hid hr8
          have F8 := Lib.hid (And.intro hb8 hm8)
          have HM := Lib.hid K7.out.hmb
          obtain ⟨c0, c1, c2, c3, c4, c5, c6, c7, c8⟩ := cell9 N7.out
          clear hrun hb8 hm8 hr8 hg8
          go_upto_region 9 with (first
            | (refine wpList_mupd rfl (.tmp 29) (.tmp 31) (.tmp 32) 77 rfl (.map (some mb)) (.agg #[.int .i64 x.t, .int .i64 x.r]) E0 rfl rfl rfl w8 MU.out ?_))
          clear c0 c1 c2 c3 c4 c5 c6 c7 c8 MU K7 N7
          obtain ⟨c0, c1, c2, c3, c4, c5, c6, c7, c8⟩ := cell9 N8.out
          have EQ := Lib.hid (show uniqF (l.take (i + 1)) = u ++ [x] from by rw [SN.out, UE.out, if_pos (by simp)])
          have OX7 := Lib.hid (own_below R8.out (vstep w8 (.cells #[.int .i64 x.t, .int .i64 x.r, .int .i64 x.q, .int .i64 x.nt, .int .i64 x.nr, .int .i64 x.pt, .int .i64 x.pr, .string x.nm, .bool x.d] 33)))
          have bso7 := bs_op w8 x
          have SR7 := Lib.hid (one_op w8 x).src
          have Q7 := Lib.hid (And.intro (show u.length + 1 ≤ maxLen from by have := LU.out; unfold maxLen; omega) (And.intro (show (u.length + 1) * 80 ≤ 140737488355328 from by have := LU.out; omega) (show w.heap.size ≤ (w8.alloc (.cells #[.int .i64 x.t, .int .i64 x.r, .int .i64 x.q, .int .i64 x.nt, .int .i64 x.nr, .int .i64 x.pt, .int .i64 x.pr, .string x.nm, .bool x.d] 33)).heap.size from Nat.le_trans F8.out.1.size (vstep w8 (.cells #[.int .i64 x.t, .int .i64 x.r, .int .i64 x.q, .int .i64 x.nt, .int .i64 x.nr, .int .i64 x.pt, .int .i64 x.pr, .string x.nm, .bool x.d] 33)).size)))
          go_wp2_with (first
            | (at_builtin; refine Wi.wpList_append_src_own rfl (.tmp 33) (.tmp 35) 22 22 rfl w.heap.size 33 i0 (oV O0) 9 80 Tryz.u27 hi9 hz0 hz1 hz2 rfl (by decide) _ _ _ rfl OX7.out _ 1 (cs9 [x]) rfl SR7.out Q7.out.1 Q7.out.2.1 Q7.out.2.2 ?_; intro v9 w9 hown hgr hsp; obtain ⟨va9, vc9, rfl⟩ := Ve.own_shape hown; have P9 := Lib.hid (And.intro (push_own R8.out F8.out.1.size hown hgr) (F8.out.2.step (vstep w8 (.cells #[.int .i64 x.t, .int .i64 x.r, .int .i64 x.q, .int .i64 x.nt, .int .i64 x.nr, .int .i64 x.pt, .int .i64 x.pr, .string x.nm, .bool x.d] 33)) |>.grown hgr (fun e => by
                rcases OX7.out.2 with ⟨h1, _⟩ | ⟨g2, cap2, cur2, h1, _, h2, _⟩
                · rw [h1] at e; cases e
                · rw [h1] at e
                  have e : some mb = some g2 := e
                  injection e with e
                  exact (F8.out.2.step (vstep w8 (.cells #[.int .i64 x.t, .int .i64 x.r, .int .i64 x.q, .int .i64 x.nt, .int .i64 x.nr, .int .i64 x.pt, .int .i64 x.pr, .string x.nm, .bool x.d] 33))).ismap (e ▸ h2)))); clear hown hgr hsp))
          have FIN := Lib.hid (show SEI w w9 mb (uniqF (l.take (i + 1))) (.slice va9 (u.length + 1) vc9) (i + 1) from by
            rw [EQ.out]
            exact ⟨F8.out.1.trans P9.out.1.2, P9.out.2, HM.out, P9.out.1.1⟩)
          go_roundw
          case rel => exact ⟨i + 1, by first | (rw [HW9.out]; rfl) | go_num, HL1.out, FIN⟩
          case measure => first | (rw [HW9.out]; exact HMS.out) | exact HMS.out
    · have ei : i = l.length := by omega
      subst ei
      have HE := Lib.hid (show uniqF (l.take l.length) = uniqF l from by rw [List.take_length])
      have R := Lib.hid K.out.row
      have KB := Lib.hid K.out.bel
      clear K
      rw [HE.out] at R ⊢
      have SC := Lib.hid (sorted_any wr _ (uniqF l) (own_olies R.out) hu)
      go_wp2_with fail
      refine SC.out.mono ?_
      rintro e w9 ⟨rv, rfl, hown, hb⟩
      have FIN := Lib.hid (And.intro (show w9.ownsRow w.heap.size 33 9 rv (setO l).length (cs9 (setO l)) from own_base hown KB.out.size) (KB.out.trans (hb.mono KB.out.size)))
      clear hown hb SC
      go_wp2
      go_returns
      exact ⟨_, rfl, FIN.out.1, FIN.out.2⟩
end Go.Proofs.YtbeodechhneeeaaGreatDoor

