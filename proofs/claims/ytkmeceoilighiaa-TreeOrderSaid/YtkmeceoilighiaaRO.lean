/- TreeOrder, walked. Made by genro14.py. -/
import Derived.Test.YtkmeceoilighiaaRP
set_option linter.unusedVariables false
set_option linter.unusedSimpArgs false
set_option maxRecDepth 100000
namespace Go.Proofs.Ytkmeceoilighiaa
open Go.RowKit Go.Shelf
open Tb (Rw setF dropF getF aboveF Rise TabI TM LiesK nodesF encS)

theorem TreeI.len40 {w : World} {B p q mb : Nat} {T0 : List Rw} {ft fr : Int} {L : List O} {la : Option Addr} {lc : Nat} (h : TreeI w B p q mb T0 ft fr L la lc) : Tells w 40 #[.pointer (some ⟨q, 0, none⟩)] (.int .i64 ((playF T0 L).length : Int)) :=
  fun W hW => (Tb.len_any W q mb _ (h.tab.step hW)).mono (fun e w' hh => ⟨hh.1, hh.2 ▸ Below.refl _ _⟩)
set_option maxHeartbeats 12800000 in
theorem order_law (w : World) (v : Value) (l : List O) (h : OLies w v l) (hok : ∀ o ∈ l, OkO o) (hsz : ∀ o ∈ l, o.nm.size ≤ 9223372036854775807) (vp : Value) (pk : List Int) (hp : LiesK (fun x => [Value.int .u8 x]) 1 w vp pk) (hpk : ∀ x ∈ pk, 0 ≤ x ∧ x < 256) :
    Calls Try.prog 4 #[v, vp] w fun e w' => e = .returned (.bool true) ∧ Below w.heap.size w w' := by
  obtain ⟨i0, hi9, hz0, hz1, hz2⟩ := info_parts info25
  have H := Lib.hid h
  have HP := Lib.hid hp
  have HPK := Lib.hid hpk
  obtain ⟨ao, cap, rfl⟩ := h.shape
  obtain ⟨pa, pc, rfl⟩ := hp.shape
  have AW := Lib.hid (fun W => awake_any W)
  have NW := Lib.hid (fun W => new_of W)
  have UI := uniq_is l
  have UR := Lib.hid (show ∀ o ∈ uniqF l, rO o = true ∧ OkO o from fun o ho => ⟨UI.right o ho, hok o (UI.mem o ho)⟩)
  have US := Lib.hid (show ∀ o ∈ uniqF l, o.nm.size ≤ 9223372036854775807 from fun o ho => hsz o (UI.mem o ho))
  have U1 := Lib.hid (show One (uniqF l) from UI.one)
  have UL := Lib.hid UI.len
  go_enter Try.func4, Try.ntmps4
  by_cases hl : 30 < l.length
  · have hd1 : (30 : Int) < (l.length : Int) := by omega
    have hd2 : decide ((30 : Int) < (l.length : Int)) = true := decide_eq_true hd1
    have hd3 : decide ((l.length : Int) > 30) = true := decide_eq_true hd1
    clear UR US U1 UL NW H HP HPK UI h hok hsz hp hpk
    go_wp2_with fail
    refine (AW.out w).mono ?_
    rintro e w5 ⟨rfl, hb⟩
    go_wp2
    go_returns
    exact ⟨rfl, hb⟩
  have hd1 : ¬ (30 : Int) < (l.length : Int) := by omega
  have hd2 : decide ((30 : Int) < (l.length : Int)) = false := decide_eq_false hd1
  have hd3 : decide ((l.length : Int) > 30) = false := decide_eq_false hd1
  have UN := Lib.hid (uniq_any w _ l H.out hsz (by omega))
  have HL := Lib.hid (show (uniqF l).length ≤ 30 from by have := UL.out; omega)
  clear hl h hok hsz hp hpk UI UL
  go_wp2_with fail
  refine UN.out.mono ?_
  rintro e wU ⟨sv, rfl, hown, hb⟩
  have BU := Lib.hid hb
  obtain ⟨sa, sc, rfl⟩ := Ve.own_shape hown
  have SO := Lib.hid (own_olies hown)
  clear hown hb UN H hd1 hd2 hd3
  obtain ⟨u, hu⟩ : ∃ z, uniqF l = z := ⟨_, rfl⟩
  rw [hu] at SO UR US U1 HL
  try rw [hu]
  clear hu
  go_wp2_with fail
  refine (NW.out wU).mono ?_
  rintro e w1 ⟨p, q, mb, rfl, ht1, hb1⟩
  have N1 := Lib.hid (And.intro ht1 hb1)
  clear ht1 hb1
  go_wp2_with fail
  refine (NW.out w1).mono ?_
  rintro e w2 ⟨p', q', mb', rfl, ht2, hb2⟩
  obtain ⟨ht1, hb1⟩ := N1.out
  have GG := Lib.hid (show Geo wU w1 w2 p q mb p' q' mb' from ⟨hb1.size, ⟨ht1.plt, ht1.tab.plt, ht1.tab.blt⟩, ⟨ht2.plt, ht2.tab.plt, ht2.tab.blt⟩, ht2.lo, hb2.size⟩)
  have J0 := Lib.hid (show OA1 wU w1 w2 w2 u p q mb p' q' mb' 0 from ⟨hb1.trans (hb2.mono hb1.size), Nat.le_refl _, ⟨[], none, 0, ht1.step hb2, ⟨LG.nil, fun y => Iff.rfl, UR.out⟩, fun k e => (lgV_none e).elim⟩, ht2⟩)
  clear ht1 hb1 ht2 hb2 N1 NW
  go_wp2_with fail
  go_loopw [8] (fun iv wr => ∃ i : Nat, iv = .int .i64 i ∧ i ≤ u.length ∧ Hid (OA1 wU w1 w2 wr u p q mb p' q' mb' i)) (fun iv _ => u.length - (intOf iv).toNat)
  case atStart => exact ⟨0, rfl, by omega, J0⟩
  case round =>
    obtain ⟨i, rfl, hi, K⟩ := hrel
    by_cases hlt : i < u.length
    · have hi0 : (0 : Int) ≤ (i : Int) := by omega
      have hi1 : (i : Int) < (u.length : Int) := by omega
      have hd : decide ((i : Int) < (u.length : Int)) = true := decide_eq_true hi1
      have HLS := Lib.hid (show i + 1 ≤ u.length from hlt)
      have HW9 := Lib.hid (wrap_nat hlt (show u.length ≤ 100000 by have := HL.out; omega))
      have HMS := Lib.hid (meas_nat hlt)
      obtain ⟨g, k, x, e7, hx, hg, hc⟩ := (SO.out.step K.out.bel).atK hlt
      subst e7
      have LX := Lib.hid (@ldO wr g (k + i * 9) x hc)
      obtain ⟨L, la, lc, t1, lm, hk⟩ := K.out.t1
      have hxu := List.mem_of_getElem? hx
      have AD := Lib.hid (add_any wr wU.heap.size p q mb [] 0 0 L la lc t1 lm.lg.rise lm.lg.ok okT_nil (by have := lm.lg.len; have := HL.out; rw [List.length_take] at *; simp; omega) K.out.bel.size x (UR.out x hxu).2 (US.out x hxu))
      have AF := Lib.hid (fun w' hr => @oa_step wU w1 w2 wr w' u p q mb p' q' mb' i L la lc x GG.out K.out.bel K.out.sz t1 lm hk K.out.t2 U1.out hx hr)
      have E0 : addE 0 0 L x = 0 := (lm.put (A := []) (B := u.drop (i + 1)) U1.out (by rw [List.nil_append, ← split_at hx])).1
      rw [E0] at AD AF
      obtain ⟨en, hen⟩ : ∃ z, addN 0 0 L x = z := ⟨_, rfl⟩
      rw [hen] at AD
      clear E0 hen t1 lm hk hxu hx hg hc
      go_wp2_with (first | (refine Ve.wpList_load_arr rfl (.tmp 35) 34 rfl (.pointer (some ⟨g, k + i * 9, none⟩)) (oV x) rfl LX.out ?_))
      refine AD.out.mono ?_
      rintro e w5 ⟨rfl, hr⟩
      have K5 := Lib.hid (AF.out w5 hr)
      clear hr AF AD LX
      go_wp2
      go_roundw
      case rel => exact ⟨i + 1, by first | (rw [HW9.out]; rfl) | go_num, HLS.out, K5⟩
      case measure => first | (rw [HW9.out]; exact HMS.out) | exact HMS.out
    · have ei : i = u.length := by omega
      subst ei
      obtain ⟨L1, la1, lc1, t1, lm1, hk1⟩ := K.out.t1
      rw [List.take_length] at lm1
      have HK1 := Lib.hid (show ∀ k, (lgV la1 0 0).ownBlock = some k → w2.heap.size ≤ k ∧ k < wr.heap.size from fun k e => ⟨hk1 k e, (t1.has (.inr (.inr e))).2⟩)
      have T1 := Lib.hid t1
      have LM1 := Lib.hid lm1
      have KB := Lib.hid (And.intro K.out.bel (And.intro K.out.sz K.out.t2))
      clear t1 lm1 hk1 K
      generalize wr = w3 at *
      have SR := Lib.hid (SO.out.step KB.out.1).src
      have Q3 := Lib.hid (show 0 + u.length ≤ maxLen ∧ (0 + u.length) * 80 ≤ 140737488355328 from by have := HL.out; unfold maxLen; omega)
      go_wp2_with (at_builtin; refine Wi.wpList_append_src_own rfl (.tmp 42) (.tmp 43) 30 30 rfl w3.heap.size 34 i0 (oV O0) 9 80 Try.u27 hi9 hz0 hz1 hz2 rfl (by decide) _ 0 [] rfl (World.ownsRow_nil _ _ _ _) _ u.length (cs9 u) rfl SR.out Q3.out.1 Q3.out.2 (Nat.le_refl _) ?_; intro v4 w4 hown hgr hsp; rw [Nat.zero_add, List.nil_append] at hown; obtain ⟨va4, vc4, rfl⟩ := Ve.own_shape hown; have P4 := Lib.hid (And.intro hown ((Below.refl w3.heap.size w3).grown hgr (Nat.le_refl _) (fun k hk => by cases hk))); clear hown hgr hsp)
      have Q0 := Lib.hid (show OA2 wU w1 w2 w3 w4 u L1 p q mb p' q' mb' la1 lc1 u [] (.slice va4 u.length vc4) from ob_next (W := w3) KB.out.1 (Nat.le_refl _) T1.out KB.out.1.size ⟨[], none, 0, KB.out.2.2, ⟨LG.nil, fun y => Iff.rfl, LM1.out.right⟩, fun k e => (lgV_none e).elim⟩ P4.out.2 P4.out.1 (List.Perm.refl _))
      have H23 := Lib.hid KB.out.2.1
      have B3 := Lib.hid (BU.out.trans (KB.out.1.mono BU.out.size))
      clear P4 SR Q3 KB T1 SO B3
      go_loopw [11, 12] (fun lv pv wr => ∃ (m K : List O) (a : Option Addr) (c : Nat), lv = .slice a m.length c ∧ pv = .int .i64 (K.length : Nat) ∧ Hid (OA2 wU w1 w2 w3 wr u L1 p q mb p' q' mb' la1 lc1 m K lv)) (fun lv _ _ => slLen lv)
      case atStart => exact ⟨u, [], _, _, rfl, rfl, Q0⟩
      case round =>
        obtain ⟨m, K, a, c, rfl, rfl, KK⟩ := hrel
        have hKm : K.length + m.length = u.length := by have := KK.out.perm.length_eq; simpa using this
        by_cases hm : 0 < m.length
        · have hm1 : (0 : Int) < (m.length : Int) := by omega
          have hdm : decide ((m.length : Int) > 0) = true := decide_eq_true hm1
          have hdm2 : decide ((0 : Int) < (m.length : Int)) = true := decide_eq_true hm1
          have HKM := Lib.hid hKm
          have HM := Lib.hid hm
          by_cases hp1 : K.length < pk.length
          · have hq0 : (0 : Int) ≤ (K.length : Int) := by omega
            have hq1 : (K.length : Int) < (pk.length : Int) := by omega
            have hqd : decide ((K.length : Int) < (pk.length : Int)) = true := decide_eq_true hq1
            obtain ⟨g1, o1, b, e1, hb1, hg1, hc1⟩ := HP.out.at' hp1
            subst e1
            obtain ⟨hb0, hb2⟩ := HPK.out b (List.mem_of_getElem? hb1)
            obtain ⟨bn, rfl⟩ : ∃ n : Nat, b = (n : Int) := ⟨b.toNat, by omega⟩
            have hbn : bn < 256 := by omega
            have B3W := Lib.hid (BU.out.trans (KK.out.bel.mono BU.out.size))
            have L5 := Lib.hid (ld5 (W := wr) (g := g1) (o := o1 + K.length) (b := (bn : Int)) (by have := (B3W.out.cell (p := ⟨g1, o1 + K.length * 1 + 0, none⟩) hg1).trans (hc1 0 _ rfl); simpa using this))
            have hrem := rem3 hbn HM.out (show m.length < 100000 by have := HL.out; omega) wr
            clear hc1 hg1 hb1 hb0 hb2
            go_upto_region 19 with (first | (refine Ve.wpList_load_arr rfl (.tmp 56) 5 rfl (.pointer (some ⟨g1, o1 + K.length, none⟩)) (.int .u8 (bn : Int)) rfl L5.out ?_))
            have hk := Nat.mod_lt bn HM.out
            obtain ⟨k, hkk⟩ : ∃ z, bn % m.length = z := ⟨_, rfl⟩
            rw [show ((bn : Int) % (m.length : Int)) = ((k : Nat) : Int) from by rw [← hkk]; rfl]
            rw [hkk] at hk
            clear hrem hbn hq0 hq1 hqd hkk L5 B3W
            have hk0 : (0 : Int) ≤ ((k : Nat) : Int) := by omega
            have hk1 : ((k : Nat) : Int) < (m.length : Int) := by omega
            obtain ⟨g, o, x, e7, hx, hg, hc⟩ := (own_olies KK.out.left).atK hk
            subst e7
            have LX := Lib.hid (@ldO wr g (o + k * 9) x hc)
            have hsp := split_at hx
            have hperm : (K ++ (m.take (k) ++ x :: m.drop (k + 1))).Perm u := by rw [← hsp]; exact KK.out.perm
            obtain ⟨L, la, lc, t2, lm, hkk⟩ := KK.out.t2
            have hxu : x ∈ u := hperm.subset (by simp)
            have HGE := Lib.hid (show w1.heap.size ≤ wr.heap.size from Nat.le_trans GG.out.le (Nat.le_trans H23.out KK.out.sz))
            have AD := Lib.hid (add_any wr w1.heap.size p' q' mb' [] 0 0 L la lc t2 lm.lg.rise lm.lg.ok okT_nil (by have := lm.lg.len; have := HL.out; simp; omega) HGE.out x (UR.out x hxu).2 (US.out x hxu))
            have AF := Lib.hid (fun w' hr => @ob_step wU w1 w2 w3 wr w' u L1 p q mb p' q' mb' la1 lc1 m K (m.take (k)) (m.drop (k + 1)) (.slice (some ⟨g, o, none⟩) m.length c) L la lc x GG.out H23.out HK1.out KK.out.bel KK.out.sz KK.out.t1 t2 lm hkk KK.out.left U1.out hperm hr)
            have E0 : addE 0 0 L x = 0 := (lm.put U1.out hperm).1
            rw [E0] at AD AF
            obtain ⟨en, hen⟩ : ∃ z, addN 0 0 L x = z := ⟨_, rfl⟩
            rw [hen] at AD
            have HPT := Lib.hid (perm_take hperm)
            have HSZ := Lib.hid KK.out.sz
            clear E0 hen t2 lm hkk hxu hx hg hc hperm hsp KK
            go_wp2_with (first | (refine Ve.wpList_load_arr rfl (.tmp 66) 34 rfl (.pointer (some ⟨g, o + k * 9, none⟩)) (oV x) rfl LX.out ?_))
            refine AD.out.mono ?_
            rintro e w5 ⟨rfl, hr⟩
            obtain ⟨hb5, hs5, t15, t25, left5⟩ := AF.out w5 hr
            have OL := own_olies left5
            obtain ⟨hsh, hA⟩ := head34 OL (show k ≤ m.length by omega)
            obtain ⟨A2, hst, hC⟩ := tail34 OL (show k + 1 ≤ m.length by omega)
            have SH := Lib.hid hsh
            have ST := Lib.hid hst
            have HA := Lib.hid hA
            have HC := Lib.hid hC
            have LT := Lib.hid (show (m.take (k)).length + (m.drop (k + 1)).length + 1 = m.length ∧ m.length ≤ 30 ∧ k < 100000 from by have := HL.out; rw [List.length_take, List.length_drop]; omega)
            have F5 := Lib.hid (And.intro hb5 (And.intro (Nat.le_trans HSZ.out hs5) (And.intro t15 t25)))
            clear hr hb5 hs5 t15 t25 left5 OL hsh hst hA hC AD AF LX hk0 hk1
            go_upto_region 23 with (fail)
            refine wp_region_held_drew (S := fun w' => Below w5.heap.size w5 w') (by kernel_rfl) (Below.refl _ _).drew (fun hHeld => ?_)
            have BV := Lib.hid (show Below w5.heap.size w5 w5.drew from (Below.refl _ _).drew)
            clear hHeld
            refine take_at (i := 0) 73 ?_ rfl rfl (by kernel_rfl) (by kernel_rfl) (by kernel_rfl) (fun _ _ _ h => h) (.inl ⟨rfl, ?_⟩) BV.out ?_
            rotate_left 1
            · intro w hSw; go_simp; try with_reducible rfl
            simp only [Act.put, List.setIfInBounds_toArray, List.set_cons_zero, List.set_cons_succ]
            refine take_at (i := 1) 74 ?_ rfl rfl (by kernel_rfl) (by kernel_rfl) (by kernel_rfl) (fun _ _ _ h => h) (.inl ⟨rfl, ?_⟩) BV.out ?_
            rotate_left 1
            · intro w hSw; go_simp; try with_reducible rfl
            simp only [Act.put, List.setIfInBounds_toArray, List.set_cons_zero, List.set_cons_succ]
            refine take_at (i := 2) 75 ?_ rfl rfl (by kernel_rfl) (by kernel_rfl) (by kernel_rfl) (fun _ _ _ h => h) (.inl ⟨rfl, ?_⟩) BV.out ?_
            rotate_left 1
            · intro w hSw; go_simp; try with_reducible rfl
            simp only [Act.put, List.setIfInBounds_toArray, List.set_cons_zero, List.set_cons_succ]
            refine take_at (i := 3) 76 (.slice (some ⟨g, o, none⟩) (k) c) rfl rfl (by kernel_rfl) (by kernel_rfl) (by kernel_rfl) (fun _ _ _ h => h) (yields_slh (.tmp 74) (.tmp 75) 30 (.slice (some ⟨g, o, none⟩) m.length c) (.int .i64 ((k : Nat) : Int)) _ SH.out rfl rfl rfl rfl) BV.out ?_
            simp only [Act.put, List.setIfInBounds_toArray, List.set_cons_zero, List.set_cons_succ]
            refine take_at (i := 5) 78 ?_ rfl rfl (by kernel_rfl) (by kernel_rfl) (by kernel_rfl) (fun _ _ _ h => h) (.inl ⟨rfl, ?_⟩) BV.out ?_
            rotate_left 1
            · intro w hSw; go_simp; try with_reducible rfl
            simp only [Act.put, List.setIfInBounds_toArray, List.set_cons_zero, List.set_cons_succ]
            refine take_at (i := 6) 79 ?_ rfl rfl (by kernel_rfl) (by kernel_rfl) (by kernel_rfl) (fun _ _ _ h => h) (.inl ⟨rfl, ?_⟩) BV.out ?_
            rotate_left 1
            · intro w hSw; go_simp; try with_reducible rfl
            simp only [Act.put, List.setIfInBounds_toArray, List.set_cons_zero, List.set_cons_succ]
            refine take_at (i := 7) 80 (.int .i64 ((k + 1 : Nat) : Int)) rfl rfl (by kernel_rfl) (by kernel_rfl) (by kernel_rfl) (fun _ _ _ h => h) (yields_bin .add (.tmp 79) (.const (.int .i64 1)) 3 3 (.int .i64 ((k : Nat) : Int)) (.int .i64 1) _ (add3 LT.out.2.2) (gadd _ _ _ _) rfl rfl rfl rfl) BV.out ?_
            simp only [Act.put, List.setIfInBounds_toArray, List.set_cons_zero, List.set_cons_succ]
            refine take_at (i := 8) 81 (.slice A2 (m.length - (k + 1)) (c - (k + 1))) rfl rfl (by kernel_rfl) (by kernel_rfl) (by kernel_rfl) (fun _ _ _ h => h) (yields_slt (.tmp 78) (.tmp 80) 30 (.slice (some ⟨g, o, none⟩) m.length c) (.int .i64 ((k + 1 : Nat) : Int)) _ ST.out rfl rfl rfl rfl) BV.out ?_
            simp only [Act.put, List.setIfInBounds_toArray, List.set_cons_zero, List.set_cons_succ]
            obtain ⟨va1, v1, hr1, ho1, hg1⟩ := app34 w5.drew w5.heap.size (.slice none 0 0) [] (.slice (some ⟨g, o, none⟩) (k) c) (m.take (k)) (World.ownsRow_nil _ _ _ _) (HA.out.step BV.out) (by have := LT.out; simp only [List.length_nil]; omega) BV.out.size
            have BW1 := Lib.hid (show Below w5.heap.size w5 v1 from BV.out.trans hg1)
            have O1 := Lib.hid ho1
            have HR1 := Lib.hid hr1
            clear hr1 ho1 hg1
            refine wpAnyH_ready (rs := [4]) (by kernel_rfl) (by simp) (br_append (i := 4) 77 (.tmp 73) (.tmp 76) 30 30 rfl rfl rfl rfl _ _ va1 v1 rfl rfl HR1.out BW1.out (fun _ => ?_) AllReadyH.nil)
            have BV := Lib.hid BW1.out
            clear HR1 BW1
            simp only [Act.put, List.setIfInBounds_toArray, List.set_cons_zero, List.set_cons_succ]
            obtain ⟨va2, v2, hr2, ho2, hg2⟩ := app34 v1 w5.heap.size va1 ([] ++ m.take (k)) (.slice A2 (m.length - (k + 1)) (c - (k + 1))) (m.drop (k + 1)) O1.out (HC.out.step BV.out) (by have := LT.out; simp only [List.nil_append]; omega) BV.out.size
            have BW2 := Lib.hid (show Below w5.heap.size w5 v2 from BV.out.trans hg2)
            have O2 := Lib.hid ho2
            have HR2 := Lib.hid hr2
            clear hr2 ho2 hg2
            refine wpAnyH_ready (rs := [9]) (by kernel_rfl) (by simp) (br_append (i := 9) 82 (.tmp 77) (.tmp 81) 30 30 rfl rfl rfl rfl _ _ va2 v2 rfl rfl HR2.out BW2.out (fun _ => ?_) AllReadyH.nil)
            have BV := Lib.hid BW2.out
            clear HR2 BW2
            simp only [Act.put, List.setIfInBounds_toArray, List.set_cons_zero, List.set_cons_succ]
            refine take_at (i := 10) 16 ?_ rfl rfl (by kernel_rfl) (by kernel_rfl) (by kernel_rfl) (fun _ _ _ h => h) (.inl ⟨rfl, ?_⟩) BV.out ?_
            rotate_left 1
            · intro w hSw; go_simp; try with_reducible rfl
            simp only [Act.put, List.setIfInBounds_toArray, List.set_cons_zero, List.set_cons_succ]
            refine wpAnyH_done (by kernel_rfl) ?_ _
            obtain ⟨a2, c2, hv2⟩ := Ve.own_shape O2.out
            subst hv2
            have FIN := Lib.hid (show OA2 wU w1 w2 w3 v2 u L1 p q mb p' q' mb' la1 lc1 (m.take (k) ++ m.drop (k + 1)) (x :: K) (.slice a2 (([] ++ m.take (k)) ++ m.drop (k + 1)).length c2) from ob_next (W := w5) F5.out.1 F5.out.2.1 F5.out.2.2.1 F5.out.1.size F5.out.2.2.2 BV.out O2.out HPT.out)
            have HKL := Lib.hid (show wrap64 ((K.length : Int) + 1) = (((x :: K).length : Nat) : Int) from by rw [List.length_cons]; have := HKM.out; have := HL.out; unfold wrap64; omega)
            have HML := Lib.hid (show (([] ++ m.take (k)) ++ m.drop (k + 1)).length < m.length from by have := LT.out; simp only [List.nil_append, List.length_append]; omega)
            clear BV O2 F5 HA HC
            go_wp2
            go_roundw
            case rel => exact ⟨m.take (k) ++ m.drop (k + 1), x :: K, a2, c2, rfl, by first | (rw [HKL.out]) | (have := HKL.out; go_num), FIN⟩
            case measure => exact HML.out
          · have hq1 : ¬ (K.length : Int) < (pk.length : Int) := by omega
            have hqd : decide ((K.length : Int) < (pk.length : Int)) = false := decide_eq_false hq1
            have hk := hm
            go_upto_region 19 with (fail)
            clear hq1 hqd
            have hk0 : (0 : Int) ≤ ((0 : Nat) : Int) := by omega
            have hk1 : ((0 : Nat) : Int) < (m.length : Int) := by omega
            obtain ⟨g, o, x, e7, hx, hg, hc⟩ := (own_olies KK.out.left).atK hk
            subst e7
            have LX := Lib.hid (@ldO wr g (o + 0 * 9) x hc)
            have hsp := split_at hx
            have hperm : (K ++ (m.take (0) ++ x :: m.drop (0 + 1))).Perm u := by rw [← hsp]; exact KK.out.perm
            obtain ⟨L, la, lc, t2, lm, hkk⟩ := KK.out.t2
            have hxu : x ∈ u := hperm.subset (by simp)
            have HGE := Lib.hid (show w1.heap.size ≤ wr.heap.size from Nat.le_trans GG.out.le (Nat.le_trans H23.out KK.out.sz))
            have AD := Lib.hid (add_any wr w1.heap.size p' q' mb' [] 0 0 L la lc t2 lm.lg.rise lm.lg.ok okT_nil (by have := lm.lg.len; have := HL.out; simp; omega) HGE.out x (UR.out x hxu).2 (US.out x hxu))
            have AF := Lib.hid (fun w' hr => @ob_step wU w1 w2 w3 wr w' u L1 p q mb p' q' mb' la1 lc1 m K (m.take (0)) (m.drop (0 + 1)) (.slice (some ⟨g, o, none⟩) m.length c) L la lc x GG.out H23.out HK1.out KK.out.bel KK.out.sz KK.out.t1 t2 lm hkk KK.out.left U1.out hperm hr)
            have E0 : addE 0 0 L x = 0 := (lm.put U1.out hperm).1
            rw [E0] at AD AF
            obtain ⟨en, hen⟩ : ∃ z, addN 0 0 L x = z := ⟨_, rfl⟩
            rw [hen] at AD
            have HPT := Lib.hid (perm_take hperm)
            have HSZ := Lib.hid KK.out.sz
            clear E0 hen t2 lm hkk hxu hx hg hc hperm hsp KK
            go_wp2_with (first | (refine Ve.wpList_load_arr rfl (.tmp 66) 34 rfl (.pointer (some ⟨g, o + 0 * 9, none⟩)) (oV x) rfl LX.out ?_))
            refine AD.out.mono ?_
            rintro e w5 ⟨rfl, hr⟩
            obtain ⟨hb5, hs5, t15, t25, left5⟩ := AF.out w5 hr
            have OL := own_olies left5
            obtain ⟨hsh, hA⟩ := head34 OL (show 0 ≤ m.length by omega)
            obtain ⟨A2, hst, hC⟩ := tail34 OL (show 0 + 1 ≤ m.length by omega)
            have SH := Lib.hid hsh
            have ST := Lib.hid hst
            have HA := Lib.hid hA
            have HC := Lib.hid hC
            have LT := Lib.hid (show (m.take (0)).length + (m.drop (0 + 1)).length + 1 = m.length ∧ m.length ≤ 30 ∧ 0 < 100000 from by have := HL.out; rw [List.length_take, List.length_drop]; omega)
            have F5 := Lib.hid (And.intro hb5 (And.intro (Nat.le_trans HSZ.out hs5) (And.intro t15 t25)))
            clear hr hb5 hs5 t15 t25 left5 OL hsh hst hA hC AD AF LX hk0 hk1
            go_upto_region 23 with (fail)
            refine wp_region_held_drew (S := fun w' => Below w5.heap.size w5 w') (by kernel_rfl) (Below.refl _ _).drew (fun hHeld => ?_)
            have BV := Lib.hid (show Below w5.heap.size w5 w5.drew from (Below.refl _ _).drew)
            clear hHeld
            refine take_at (i := 0) 73 ?_ rfl rfl (by kernel_rfl) (by kernel_rfl) (by kernel_rfl) (fun _ _ _ h => h) (.inl ⟨rfl, ?_⟩) BV.out ?_
            rotate_left 1
            · intro w hSw; go_simp; try with_reducible rfl
            simp only [Act.put, List.setIfInBounds_toArray, List.set_cons_zero, List.set_cons_succ]
            refine take_at (i := 1) 74 ?_ rfl rfl (by kernel_rfl) (by kernel_rfl) (by kernel_rfl) (fun _ _ _ h => h) (.inl ⟨rfl, ?_⟩) BV.out ?_
            rotate_left 1
            · intro w hSw; go_simp; try with_reducible rfl
            simp only [Act.put, List.setIfInBounds_toArray, List.set_cons_zero, List.set_cons_succ]
            refine take_at (i := 2) 75 ?_ rfl rfl (by kernel_rfl) (by kernel_rfl) (by kernel_rfl) (fun _ _ _ h => h) (.inl ⟨rfl, ?_⟩) BV.out ?_
            rotate_left 1
            · intro w hSw; go_simp; try with_reducible rfl
            simp only [Act.put, List.setIfInBounds_toArray, List.set_cons_zero, List.set_cons_succ]
            refine take_at (i := 3) 76 (.slice (some ⟨g, o, none⟩) (0) c) rfl rfl (by kernel_rfl) (by kernel_rfl) (by kernel_rfl) (fun _ _ _ h => h) (yields_slh (.tmp 74) (.tmp 75) 30 (.slice (some ⟨g, o, none⟩) m.length c) (.int .i64 ((0 : Nat) : Int)) _ SH.out rfl rfl rfl rfl) BV.out ?_
            simp only [Act.put, List.setIfInBounds_toArray, List.set_cons_zero, List.set_cons_succ]
            refine take_at (i := 5) 78 ?_ rfl rfl (by kernel_rfl) (by kernel_rfl) (by kernel_rfl) (fun _ _ _ h => h) (.inl ⟨rfl, ?_⟩) BV.out ?_
            rotate_left 1
            · intro w hSw; go_simp; try with_reducible rfl
            simp only [Act.put, List.setIfInBounds_toArray, List.set_cons_zero, List.set_cons_succ]
            refine take_at (i := 6) 79 ?_ rfl rfl (by kernel_rfl) (by kernel_rfl) (by kernel_rfl) (fun _ _ _ h => h) (.inl ⟨rfl, ?_⟩) BV.out ?_
            rotate_left 1
            · intro w hSw; go_simp; try with_reducible rfl
            simp only [Act.put, List.setIfInBounds_toArray, List.set_cons_zero, List.set_cons_succ]
            refine take_at (i := 7) 80 (.int .i64 ((0 + 1 : Nat) : Int)) rfl rfl (by kernel_rfl) (by kernel_rfl) (by kernel_rfl) (fun _ _ _ h => h) (yields_bin .add (.tmp 79) (.const (.int .i64 1)) 3 3 (.int .i64 ((0 : Nat) : Int)) (.int .i64 1) _ (add3 LT.out.2.2) (gadd _ _ _ _) rfl rfl rfl rfl) BV.out ?_
            simp only [Act.put, List.setIfInBounds_toArray, List.set_cons_zero, List.set_cons_succ]
            refine take_at (i := 8) 81 (.slice A2 (m.length - (0 + 1)) (c - (0 + 1))) rfl rfl (by kernel_rfl) (by kernel_rfl) (by kernel_rfl) (fun _ _ _ h => h) (yields_slt (.tmp 78) (.tmp 80) 30 (.slice (some ⟨g, o, none⟩) m.length c) (.int .i64 ((0 + 1 : Nat) : Int)) _ ST.out rfl rfl rfl rfl) BV.out ?_
            simp only [Act.put, List.setIfInBounds_toArray, List.set_cons_zero, List.set_cons_succ]
            obtain ⟨va1, v1, hr1, ho1, hg1⟩ := app34 w5.drew w5.heap.size (.slice none 0 0) [] (.slice (some ⟨g, o, none⟩) (0) c) (m.take (0)) (World.ownsRow_nil _ _ _ _) (HA.out.step BV.out) (by have := LT.out; simp only [List.length_nil]; omega) BV.out.size
            have BW1 := Lib.hid (show Below w5.heap.size w5 v1 from BV.out.trans hg1)
            have O1 := Lib.hid ho1
            have HR1 := Lib.hid hr1
            clear hr1 ho1 hg1
            refine wpAnyH_ready (rs := [4]) (by kernel_rfl) (by simp) (br_append (i := 4) 77 (.tmp 73) (.tmp 76) 30 30 rfl rfl rfl rfl _ _ va1 v1 rfl rfl HR1.out BW1.out (fun _ => ?_) AllReadyH.nil)
            have BV := Lib.hid BW1.out
            clear HR1 BW1
            simp only [Act.put, List.setIfInBounds_toArray, List.set_cons_zero, List.set_cons_succ]
            obtain ⟨va2, v2, hr2, ho2, hg2⟩ := app34 v1 w5.heap.size va1 ([] ++ m.take (0)) (.slice A2 (m.length - (0 + 1)) (c - (0 + 1))) (m.drop (0 + 1)) O1.out (HC.out.step BV.out) (by have := LT.out; simp only [List.nil_append]; omega) BV.out.size
            have BW2 := Lib.hid (show Below w5.heap.size w5 v2 from BV.out.trans hg2)
            have O2 := Lib.hid ho2
            have HR2 := Lib.hid hr2
            clear hr2 ho2 hg2
            refine wpAnyH_ready (rs := [9]) (by kernel_rfl) (by simp) (br_append (i := 9) 82 (.tmp 77) (.tmp 81) 30 30 rfl rfl rfl rfl _ _ va2 v2 rfl rfl HR2.out BW2.out (fun _ => ?_) AllReadyH.nil)
            have BV := Lib.hid BW2.out
            clear HR2 BW2
            simp only [Act.put, List.setIfInBounds_toArray, List.set_cons_zero, List.set_cons_succ]
            refine take_at (i := 10) 16 ?_ rfl rfl (by kernel_rfl) (by kernel_rfl) (by kernel_rfl) (fun _ _ _ h => h) (.inl ⟨rfl, ?_⟩) BV.out ?_
            rotate_left 1
            · intro w hSw; go_simp; try with_reducible rfl
            simp only [Act.put, List.setIfInBounds_toArray, List.set_cons_zero, List.set_cons_succ]
            refine wpAnyH_done (by kernel_rfl) ?_ _
            obtain ⟨a2, c2, hv2⟩ := Ve.own_shape O2.out
            subst hv2
            have FIN := Lib.hid (show OA2 wU w1 w2 w3 v2 u L1 p q mb p' q' mb' la1 lc1 (m.take (0) ++ m.drop (0 + 1)) (x :: K) (.slice a2 (([] ++ m.take (0)) ++ m.drop (0 + 1)).length c2) from ob_next (W := w5) F5.out.1 F5.out.2.1 F5.out.2.2.1 F5.out.1.size F5.out.2.2.2 BV.out O2.out HPT.out)
            have HKL := Lib.hid (show wrap64 ((K.length : Int) + 1) = (((x :: K).length : Nat) : Int) from by rw [List.length_cons]; have := HKM.out; have := HL.out; unfold wrap64; omega)
            have HML := Lib.hid (show (([] ++ m.take (0)) ++ m.drop (0 + 1)).length < m.length from by have := LT.out; simp only [List.nil_append, List.length_append]; omega)
            clear BV O2 F5 HA HC
            go_wp2
            go_roundw
            case rel => exact ⟨m.take (0) ++ m.drop (0 + 1), x :: K, a2, c2, rfl, by first | (rw [HKL.out]) | (have := HKL.out; go_num), FIN⟩
            case measure => exact HML.out
        · have em : m = [] := List.eq_nil_of_length_eq_zero (by omega)
          subst em
          obtain ⟨L2, la2, lc2, t2, lm2, _⟩ := KK.out.t2
          have hKu : K.Perm u := by have := KK.out.perm; rwa [List.append_nil] at this
          have eL := LM.end LM1.out lm2 (List.Perm.refl _) hKu
          subst eL
          have T1 := Lib.hid KK.out.t1
          have T2 := Lib.hid t2
          have PL := Lib.hid (show (playF [] L1).length < 100000 ∧ L1.length ≤ 1000 from by have := play_len L1 []; have := LM1.out.lg.len; have := HL.out; simp at *; omega)
          have B9 := Lib.hid (BU.out.trans (KK.out.bel.mono BU.out.size))
          have hd0 : ¬ (0 : Int) < ((([] : List O).length : Nat) : Int) := by simp
          have hd1 : decide ((0 : Int) < ((([] : List O).length : Nat) : Int)) = false := decide_eq_false hd0
          have hd2 : decide (((([] : List O).length : Nat) : Int) > 0) = false := decide_eq_false hd0
          have TA := Lib.hid (table_of wr (pv p) _ 0 0 la1 L1.length lc1 (playF [] L1) T1.out.haveL (clones_tab T1.out.tab PL.out.1))
          clear t2 lm2 hKu KK hm hKm
          go_wp2_with fail
          refine TA.out.mono ?_
          rintro e wa ⟨qa, ba, rfl, ha, _, _, hb⟩
          have HA := Lib.hid ha
          have T1 := Lib.hid (T1.out.step hb)
          have T2 := Lib.hid (T2.out.step hb)
          have B9 := Lib.hid (B9.out.trans (hb.mono B9.out.size))
          clear ha hb TA
          have TB := Lib.hid (table_of wa (pv p') _ 0 0 la2 L1.length lc2 (playF [] L1) T2.out.haveL (clones_tab T2.out.tab PL.out.1))
          go_wp2_with fail
          refine TB.out.mono ?_
          rintro e wb ⟨qb, bb, rfl, hbt, _, _, hb⟩
          have HB := Lib.hid hbt
          have HA := Lib.hid (HA.out.step hb)
          have T1 := Lib.hid (T1.out.step hb)
          have T2 := Lib.hid (T2.out.step hb)
          have B9 := Lib.hid (B9.out.trans (hb.mono B9.out.size))
          clear hbt hb TB
          have TS := Lib.hid (Tb.tsame_any wb qa ba qb bb _ _ HA.out HB.out PL.out.1)
          rw [decide_eq_true rfl] at TS
          go_wp2_with fail
          refine TS.out.mono ?_
          rintro e wc ⟨rfl, hb⟩
          have T1 := Lib.hid (T1.out.step hb)
          have T2 := Lib.hid (T2.out.step hb)
          have B9 := Lib.hid (B9.out.trans (hb.mono B9.out.size))
          clear hb TS HA HB
          have OA := Lib.hid (ops_of wc (pv p) _ 0 0 la1 L1.length lc1 (stepsF [] L1) T1.out.haveL (lies_log T1.out) (by rw [steps_len]; have := PL.out; omega))
          rw [steps_o] at OA
          go_wp2_with fail
          refine OA.out.mono ?_
          rintro e wd ⟨vd, rfl, hod, hb⟩
          have LD := Lib.hid (show OLies wd vd L1 from Tb.own_liesK (enc := oc) (k := 9) oc_len hod)
          have T1 := Lib.hid (T1.out.step hb)
          have T2 := Lib.hid (T2.out.step hb)
          have B9 := Lib.hid (B9.out.trans (hb.mono B9.out.size))
          clear hb OA hod
          have OB := Lib.hid (ops_of wd (pv p') _ 0 0 la2 L1.length lc2 (stepsF [] L1) T2.out.haveL (lies_log T2.out) (by rw [steps_len]; have := PL.out; omega))
          rw [steps_o] at OB
          go_wp2_with fail
          refine OB.out.mono ?_
          rintro e we ⟨ve, rfl, hoe, hb⟩
          have LE := Lib.hid (show OLies we ve L1 from Tb.own_liesK (enc := oc) (k := 9) oc_len hoe)
          have LD := Lib.hid (LD.out.step hb)
          have T1 := Lib.hid (T1.out.step hb)
          have T2 := Lib.hid (T2.out.step hb)
          have B9 := Lib.hid (B9.out.trans (hb.mono B9.out.size))
          clear hb OB hoe
          have OS := Lib.hid (rsameO_any we vd ve L1 L1 LD.out LE.out)
          rw [sameO_self] at OS
          go_wp2_with fail
          refine OS.out.mono ?_
          rintro e wf ⟨rfl, hb⟩
          have T1 := Lib.hid (T1.out.step hb)
          have T2 := Lib.hid (T2.out.step hb)
          have B9 := Lib.hid (B9.out.trans (hb.mono B9.out.size))
          clear hb OS LD LE
          have NA := Lib.hid (nodes_of wf (pv p) _ 0 0 la1 L1.length lc1 _ T1.out.haveL T1.out.len40)
          go_wp2_with fail
          refine NA.out.mono ?_
          rintro e wg ⟨rfl, hb⟩
          have T2 := Lib.hid (T2.out.step hb)
          have B9 := Lib.hid (B9.out.trans (hb.mono B9.out.size))
          clear hb NA T1
          have NB := Lib.hid (nodes_of wg (pv p') _ 0 0 la2 L1.length lc2 _ T2.out.haveL T2.out.len40)
          go_wp2_with fail
          refine NB.out.mono ?_
          rintro e wh ⟨rfl, hb⟩
          have B9 := Lib.hid (B9.out.trans (hb.mono B9.out.size))
          clear hb NB T2
          go_wp2_with fail
          refine (AW.out wh).mono ?_
          rintro e wi ⟨rfl, hb⟩
          have B9 := Lib.hid (B9.out.trans (hb.mono B9.out.size))
          clear hb
          go_wp2
          go_returns
          exact ⟨rfl, B9.out⟩
end Go.Proofs.Ytkmeceoilighiaa
