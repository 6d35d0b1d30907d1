/- FoldOrder, walked. -/
import Derived.Test.YtbeodechhneeeaaGreatDoorFZ
import Derived.Test.YtbeodechhneeeaaGreatDoorXS
import Derived.BigFrame
set_option linter.unusedVariables false
set_option linter.unusedSimpArgs false
set_option maxRecDepth 100000
namespace Go.Proofs.YtbeodechhneeeaaGreatDoor
open Go.RowKit Go.Shelf
open Tb (Rw setF getF aboveF Rise TabI TM LiesK LiesR ltS encS Sp)
open Vx (va vw)

theorem wpList_binG {P : Program} {w : World} {ops : Array Oper} {rest : List Oper} {o : Oper} {a : Act} {Q : Exit → Act → World → Prop} (hw : Region.wanted o (yielded ops a.tmps) = true) (b : BinOp) (x y : Operand) (ty ty' : TypeId)
    (ho : o.op = .binOp b ty x y ty') (v u r : Value) (hx : a.eval x = v) (hy : a.eval y = u) (hG : (eqGuard b ty x y v u).run P w = .ok () w) (hS : (binOp b ty v u).run P w = .ok r w)
    (h : wpList P ops Q rest (a.put o.dst r) w) : wpList P ops Q (o :: rest) a w :=
  BigFrame.wpList_want hw fun _ hK => by
    unfold Oper.wp execOp
    simp only [ho, hx, hy, hS, hG, Sem.run_bind, Sem.run_pure, Result.andThen_ok]
    exact hK _ _ h
theorem rem3 {b n : Nat} (hb : b < 256) (hn : 0 < n) (hn2 : n < 100000) (W : World) : (binOp .rem 3 (.int .i64 (b : Int)) (.int .i64 (n : Int))).run Tryz.prog W = .ok (.int .i64 ((b % n : Nat) : Int)) W := by
  have h0 : ¬ ((n : Int) = 0) := by omega
  go_simp
  rw [if_neg (by omega), Int.tmod_eq_emod_of_nonneg (by omega)]
theorem ld5 {W : World} {g o : Nat} {b : Int} (c0 : W.cell? ⟨g, o, none⟩ = some (.int .u8 b)) : (Instr.loadAt 5 (.pointer (some ⟨g, o, none⟩))).run Tryz.prog W = .ok (.int .u8 b) W := by
  go_simp
theorem egtV : (Tryz.prog.eqGuardType Tryz.prog.depth 52) = false := by kernel_rfl
theorem set_len (l : List O) : (setO l).length ≤ l.length := by
  show (srtO (uniqF l)).length ≤ _
  rw [srtO_len]
  exact (uniq_is l).len
theorem pick_all {m : List O} {ord : List Nat} {i : Nat} (h : i = ord.length ∧ i ≤ 60 ∨ i = 60 ∨ m = []) : pickF m (ord.take i) = pickF m (ord.take 60) := by
  rcases h with ⟨rfl, h⟩ | rfl | rfl
  · rw [List.take_length, List.take_of_length_le h]
  · rfl
  · rw [pick_nil, pick_nil]
set_option maxHeartbeats 12800000 in
theorem order_law (w : World) (v vp : Value) (l : List O) (pk : List Int) (h : OLies w v l) (hok : ∀ o ∈ l, OkO o) (hp : LiesK (fun x => [Value.int .u8 x]) 1 w vp pk) (hpk : ∀ x ∈ pk, 0 ≤ x ∧ x < 256) :
    Calls Tryz.prog 5 #[v, vp] w fun e w' => e = .returned (.bool true) ∧ Below w.heap.size w w' := by
  obtain ⟨i0, hi9, hz0, hz1, hz2⟩ := info_parts info25
  have H := Lib.hid h
  have HOK := Lib.hid hok
  have HP := Lib.hid hp
  have HPK := Lib.hid hpk
  have LG := Lib.hid (long_any w v l h)
  have AW := Lib.hid (fun W => awake_any W)
  obtain ⟨ao, cap, rfl⟩ := h.shape
  obtain ⟨pa, pc, rfl⟩ := hp.shape
  clear h hok hp hpk
  obtain ⟨lb, hlb⟩ : ∃ z, longB l = z := ⟨_, rfl⟩
  rw [hlb] at LG
  go_enter Tryz.func5, Tryz.ntmps5
  go_wp2_with fail
  refine LG.out.mono ?_
  rintro e w0 ⟨rfl, hw⟩
  subst hw
  clear LG
  cases lb with
  | true =>
    go_wp2_with fail
    refine (AW.out w).mono ?_
    rintro e w1 ⟨rfl, hb⟩
    have HB := Lib.hid hb
    clear hb AW
    go_wp2
    go_returns
    exact ⟨rfl, HB.out⟩
  | false =>
    have hf := long_f hlb
    have HSZ := Lib.hid (show ∀ o ∈ l, o.nm.size ≤ 9223372036854775807 from fun o ho => by have := hf.2 o ho; omega)
    have HUL := Lib.hid (show (uniqF l).length ≤ 79 from by have := (uniq_is l).len; have := hf.1; omega)
    have HLL := Lib.hid (show l.length ≤ 1000 from by have := hf.1; omega)
    have HM30 := Lib.hid (show (setO l).length ≤ 30 from by have := set_len l; have := hf.1; omega)
    have HSU := Lib.hid (fun x (hx : x ∈ setO l) => (show OkO x ∧ x.nm.size ≤ 9223372036854775807 from ⟨HOK.out x (set_sub hx).1, HSZ.out x (set_sub hx).1⟩))
    clear hf hlb
    have C3 := Lib.hid (rsetO_any w _ l H.out HSZ.out HLL.out HUL.out)
    go_wp2_with fail
    refine C3.out.mono ?_
    rintro e w1 ⟨mv, rfl, hm, hb, hfr⟩
    have B1 := Lib.hid hb
    have HM := Lib.hid hm
    obtain ⟨ma, mc, rfl⟩ := hm.shape
    clear hm hb hfr C3
    obtain ⟨m, hmm⟩ : ∃ z, setO l = z := ⟨_, rfl⟩
    have HSET := Lib.hid hmm
    rw [hmm] at HM HM30 HSU
    try rw [hmm]
    clear hmm
    obtain ⟨ord, hord⟩ : ∃ z : List Nat, pk.map Int.toNat = z := ⟨_, rfl⟩
    have HORD := Lib.hid hord
    clear hord
    have J0 := Lib.hid (show w1.ownsRow w1.heap.size 33 9 (.slice none 0 0) (pickF m (ord.take 0)).length (cs9 (pickF m (ord.take 0))) ∧ Below w1.heap.size w1 w1 from ⟨World.ownsRow_nil w1 w1.heap.size 33 9, Below.refl _ _⟩)
    go_wp2_with fail
    go_loopw [6, 7] (fun ov iv wr => ∃ i : Nat, iv = .int .i64 i ∧ i ≤ pk.length ∧ i ≤ 60 ∧ Hid (wr.ownsRow w1.heap.size 33 9 ov (pickF m (ord.take i)).length (cs9 (pickF m (ord.take i))) ∧ Below w1.heap.size w1 wr)) (fun _ iv _ => 60 - (intOf iv).toNat)
    case atStart => exact ⟨0, rfl, Nat.zero_le _, Nat.zero_le _, J0⟩
    case round =>
      clear J0
      obtain ⟨i, rfl, hi, hi60, K⟩ := hrel
      obtain ⟨sa, sc, hsv⟩ := Ve.own_shape K.out.1
      subst hsv
      by_cases hc : i < pk.length ∧ i < 60 ∧ 0 < m.length
      · obtain ⟨h1, h2, h3⟩ := hc
        have q1 : decide ((i : Int) < (pk.length : Int)) = true := decide_eq_true (by omega)
        have q2 : decide ((i : Int) < 60) = true := decide_eq_true (by omega)
        have q3 : decide ((m.length : Int) > 0) = true := decide_eq_true (by omega)
        have q4 : decide ((0 : Int) < (m.length : Int)) = true := decide_eq_true (by omega)
        have hi0 : (0 : Int) ≤ (i : Int) := by omega
        have hi1 : (i : Int) < (pk.length : Int) := by omega
        have hi2 : (i : Int) < 60 := by omega
        have hi3 : (0 : Int) < (m.length : Int) := by omega
        have HL1 := Lib.hid (show i + 1 ≤ pk.length from h1)
        have HL2 := Lib.hid (show i + 1 ≤ 60 from h2)
        have HW9 := Lib.hid (wrap_nat h2 (by omega))
        have HMS := Lib.hid (meas_nat h2)
        obtain ⟨g1, o1, b, e1, hb1, hg1, hc1⟩ := HP.out.at' h1
        subst e1
        obtain ⟨hb0, hb2⟩ := HPK.out b (List.mem_of_getElem? hb1)
        obtain ⟨bn, rfl⟩ : ∃ n : Nat, b = (n : Int) := ⟨b.toNat, by omega⟩
        have hbn : bn < 256 := by omega
        have B3W := Lib.hid (B1.out.trans (K.out.2.mono B1.out.size))
        have L5 := Lib.hid (ld5 (W := wr) (g := g1) (o := o1 + i) (b := (bn : Int)) (by have := (B3W.out.cell (p := ⟨g1, o1 + i * 1 + 0, none⟩) hg1).trans (hc1 0 _ rfl); simpa using this))
        have hrem := rem3 hbn h3 (show m.length < 100000 by have := HM30.out; omega) wr
        have hk := Nat.mod_lt bn h3
        have OI : ord[i]? = some bn := by rw [← HORD.out, List.getElem?_map, hb1]; rfl
        obtain ⟨k, hkk⟩ : ∃ z, bn % m.length = z := ⟨_, rfl⟩
        have e9 : ((bn : Int) % (m.length : Int)) = ((k : Nat) : Int) := by rw [← hkk]; rfl
        rw [hkk] at hk hrem
        have hwb : wrap64 (bn : Int) = (bn : Int) := by unfold wrap64; omega
        have htm : (bn : Int).tmod (m.length : Int) = (k : Int) := by rw [Int.tmod_eq_emod_of_nonneg (by omega)]; exact e9
        obtain ⟨g, o, x, e7, hx, hg, hcx⟩ := (HM.out.step K.out.2).atK hk
        subst e7
        have EQ := Lib.hid (pick_snoc (m := m) OI (by rw [hkk]; exact hx))
        have LX := Lib.hid (@ldO wr g (o + k * 9) x hcx)
        have hk0 : (0 : Int) ≤ (k : Int) := by omega
        have hk1 : (k : Int) < (m.length : Int) := by omega
        have OW6 := Lib.hid K.out.1
        have BW6 := Lib.hid K.out.2
        clear K hb1 hb0 hb2 hg1 hc1 hcx hg hx OI h1 h2 h3 hk B3W
        have OX7 := Lib.hid (own_below OW6.out (pl_vstep wr (.cells (oCells x) 33)))
        have bso7 := bs_op wr x
        have SR7 := Lib.hid (one_op wr x).src
        have LN := Lib.hid (show (pickF m (ord.take i)).length ≤ 60 from by have := pick_len m (ord.take i); rw [List.length_take] at this; omega)
        have Q7 := Lib.hid (And.intro (show (pickF m (ord.take i)).length + 1 ≤ maxLen from by have := LN.out; unfold maxLen; omega) (And.intro (show ((pickF m (ord.take i)).length + 1) * 80 ≤ 140737488355328 from by have := LN.out; omega) (show w1.heap.size ≤ (wr.alloc (.cells (oCells x) 33)).heap.size from Nat.le_trans BW6.out.size (pl_vstep wr (.cells (oCells x) 33)).size)))
        obtain ⟨A, hA⟩ : ∃ z, pickF m (ord.take i) = z := ⟨_, rfl⟩
        rw [hA] at EQ OW6 OX7 Q7
        try rw [hA]
        clear hA LN
        go_wp2_with (first
          | (refine Ve.wpList_load_arr rfl (.tmp 33) 5 rfl (.pointer (some ⟨g1, o1 + i, none⟩)) (.int .u8 (bn : Int)) rfl L5.out ?_)
          | (refine Ve.wpList_load_arr rfl (.tmp 39) 33 rfl (.pointer (some ⟨g, o + k * 9, none⟩)) (.agg #[.int .i64 x.t, .int .i64 x.r, .int .i64 x.q, .int .i64 x.nt, .int .i64 x.nr, .int .i64 x.pt, .int .i64 x.pr, .string x.nm, .bool x.d]) rfl LX.out ?_)
          | (at_builtin; refine Wi.wpList_append_src_own rfl (.tmp 29) (.tmp 41) 22 22 rfl w1.heap.size 33 i0 (oV O0) 9 80 Tryz.u27 hi9 hz0 hz1 hz2 rfl (by decide) _ _ _ rfl OX7.out _ 1 (cs9 [x]) rfl SR7.out Q7.out.1 Q7.out.2.1 Q7.out.2.2 ?_; intro v8 w8 hown hgr hsp; obtain ⟨va8, vc8, rfl⟩ := Ve.own_shape hown; have P8 := Lib.hid (push_own OW6.out BW6.out.size hown hgr); clear hown hgr hsp))
        have KF := Lib.hid (show w8.ownsRow w1.heap.size 33 9 (.slice va8 (A.length + 1) vc8) (pickF m (ord.take (i + 1))).length (cs9 (pickF m (ord.take (i + 1)))) ∧ Below w1.heap.size w1 w8 from by
          rw [EQ.out]
          exact ⟨P8.out.1, BW6.out.trans P8.out.2⟩)
        go_roundw
        case rel => exact ⟨i + 1, by first | (rw [HW9.out]; rfl) | go_num, HL1.out, HL2.out, KF⟩
        case measure => first | (rw [HW9.out]; exact HMS.out) | exact HMS.out
      · have PA := Lib.hid (show pickF m (ord.take i) = pickF m (ord.take 60) from pick_all (by
          have e0 : ord.length = pk.length := by rw [← HORD.out, List.length_map]
          by_cases e1 : i = 60
          · exact .inr (.inl e1)
          · by_cases e2 : i < pk.length
            · exact .inr (.inr (List.eq_nil_of_length_eq_zero (by omega)))
            · exact .inl ⟨by omega, hi60⟩))
        have LN := Lib.hid (show (pickF m (ord.take 60)).length ≤ 60 from by have := pick_len m (ord.take 60); rw [List.length_take] at this; omega)
        have HX : ¬ i < pk.length ∨ (i < pk.length ∧ (¬ i < 60 ∨ (i < 60 ∧ ¬ 0 < m.length))) := by omega
        have KK := Lib.hid K.out
        rw [PA.out] at KK
        rw [PA.out]
        clear K PA hc
        go_upto_region 6 with (fail)
        go_cut [26] from 14 to 42 (fun tv wx => tv = .bool false ∧ wx = wr)
        case first =>
          rcases HX with HX | ⟨HX, h2 | ⟨h2, h3⟩⟩
          · have q1 : decide ((i : Int) < (pk.length : Int)) = false := decide_eq_false (by omega)
            have q1' : ¬ ((i : Int) < (pk.length : Int)) := by omega
            go_wp2_with fail
            go_meet
            exact ⟨rfl, rfl⟩
          · have q1 : decide ((i : Int) < (pk.length : Int)) = true := decide_eq_true (by omega)
            have q1' : (i : Int) < (pk.length : Int) := by omega
            have q2 : decide ((i : Int) < 60) = false := decide_eq_false (by omega)
            have q2' : ¬ ((i : Int) < 60) := by omega
            go_wp2_with fail
            go_meet
            exact ⟨rfl, rfl⟩
          · have q1 : decide ((i : Int) < (pk.length : Int)) = true := decide_eq_true (by omega)
            have q1' : (i : Int) < (pk.length : Int) := by omega
            have q2 : decide ((i : Int) < 60) = true := decide_eq_true (by omega)
            have q2' : (i : Int) < 60 := by omega
            have q3 : decide ((m.length : Int) > 0) = false := decide_eq_false (by omega)
            have q3' : ¬ ((0 : Int) < (m.length : Int)) := by omega
            go_wp2_with fail
            go_meet
            exact ⟨rfl, rfl⟩
        case rest =>
          obtain ⟨rfl, rfl⟩ := hcut
          obtain ⟨A, hA⟩ : ∃ z, pickF m (ord.take 60) = z := ⟨_, rfl⟩
          have HA := Lib.hid hA
          rw [hA] at KK LN
          try rw [hA]
          clear hA HX hi hi60 HP HPK
          generalize wc = w2 at *
          have J1 := Lib.hid (show w2.ownsRow w1.heap.size 33 9 (.slice sa A.length sc) (A ++ (m.drop m.length).reverse).length (cs9 (A ++ (m.drop m.length).reverse)) ∧ Below w1.heap.size w1 w2 from by
            rw [List.drop_length, List.reverse_nil, List.append_nil]
            exact KK.out)
          have hML : m.length ≤ 30 := HM30.out
          have HWS := Lib.hid (show wrap64 ((m.length : Int) - 1) = (m.length : Int) - 1 from by unfold wrap64; omega)
          clear KK
          go_wp2_with fail
          go_loopw [6, 8] (fun ov iv wr => ∃ (j : Nat) (z : Int), iv = .int .i64 z ∧ z + 1 = (j : Int) ∧ j ≤ m.length ∧ Hid (wr.ownsRow w1.heap.size 33 9 ov (A ++ (m.drop j).reverse).length (cs9 (A ++ (m.drop j).reverse)) ∧ Below w1.heap.size w1 wr)) (fun _ iv _ => (intOf iv + 1).toNat)
          case atStart => exact ⟨m.length, (m.length : Int) - 1, by first | (rw [HWS.out]; rfl) | go_num, by omega, Nat.le_refl _, J1⟩
          case round =>
            clear J1 HWS
            obtain ⟨j, z, rfl, hz, hj, K⟩ := hrel
            obtain ⟨ta, tc, hsv⟩ := Ve.own_shape K.out.1
            subst hsv
            by_cases h0 : 0 < j
            · obtain ⟨k, rfl⟩ : ∃ k, j = k + 1 := ⟨j - 1, by omega⟩
              obtain rfl : z = (k : Int) := by omega
              have q1 : decide ((k : Int) ≥ 0) = true := decide_eq_true (by omega)
              have q2 : (0 : Int) ≤ (k : Int) := by omega
              have hk1 : (k : Int) < (m.length : Int) := by omega
              have hk : k < m.length := by omega
              have HKM := Lib.hid (show ((k : Int) - 1 + 1).toNat < ((k : Int) + 1).toNat from by omega)
              have HWK := Lib.hid (show wrap64 ((k : Int) - 1) = (k : Int) - 1 from by unfold wrap64; omega)
              obtain ⟨g, o, x, e7, hx, hg, hcx⟩ := (HM.out.step K.out.2).atK hk
              subst e7
              have EQ := Lib.hid (show A ++ (m.drop k).reverse = (A ++ (m.drop (k + 1)).reverse) ++ [x] from by rw [back_snoc hx, List.append_assoc])
              have LX := Lib.hid (@ldO wr g (o + k * 9) x hcx)
              have OW6 := Lib.hid K.out.1
              have BW6 := Lib.hid K.out.2
              clear K hcx hg hx h0 hz hj
              have OX7 := Lib.hid (own_below OW6.out (pl_vstep wr (.cells (oCells x) 33)))
              have bso7 := bs_op wr x
              have SR7 := Lib.hid (one_op wr x).src
              have LN2 := Lib.hid (show (A ++ (m.drop (k + 1)).reverse).length ≤ 90 from by have := LN.out; have := HM30.out; rw [List.length_append, List.length_reverse, List.length_drop]; omega)
              have Q7 := Lib.hid (And.intro (show (A ++ (m.drop (k + 1)).reverse).length + 1 ≤ maxLen from by have := LN2.out; unfold maxLen; omega) (And.intro (show ((A ++ (m.drop (k + 1)).reverse).length + 1) * 80 ≤ 140737488355328 from by have := LN2.out; omega) (show w1.heap.size ≤ (wr.alloc (.cells (oCells x) 33)).heap.size from Nat.le_trans BW6.out.size (pl_vstep wr (.cells (oCells x) 33)).size)))
              obtain ⟨A2, hA2⟩ : ∃ z, A ++ (m.drop (k + 1)).reverse = z := ⟨_, rfl⟩
              rw [hA2] at EQ OW6 OX7 Q7
              try rw [hA2]
              clear hA2 LN2
              go_wp2_with (first
                | (refine Ve.wpList_load_arr rfl (.tmp 53) 33 rfl (.pointer (some ⟨g, o + k * 9, none⟩)) (.agg #[.int .i64 x.t, .int .i64 x.r, .int .i64 x.q, .int .i64 x.nt, .int .i64 x.nr, .int .i64 x.pt, .int .i64 x.pr, .string x.nm, .bool x.d]) rfl LX.out ?_)
                | (at_builtin; refine Wi.wpList_append_src_own rfl (.tmp 50) (.tmp 55) 22 22 rfl w1.heap.size 33 i0 (oV O0) 9 80 Tryz.u27 hi9 hz0 hz1 hz2 rfl (by decide) _ _ _ rfl OX7.out _ 1 (cs9 [x]) rfl SR7.out Q7.out.1 Q7.out.2.1 Q7.out.2.2 ?_; intro v8 w8 hown hgr hsp; obtain ⟨va8, vc8, rfl⟩ := Ve.own_shape hown; have P8 := Lib.hid (push_own OW6.out BW6.out.size hown hgr); clear hown hgr hsp))
              have KF := Lib.hid (show w8.ownsRow w1.heap.size 33 9 (.slice va8 (A2.length + 1) vc8) (A ++ (m.drop k).reverse).length (cs9 (A ++ (m.drop k).reverse)) ∧ Below w1.heap.size w1 w8 from by
                rw [EQ.out]
                exact ⟨P8.out.1, BW6.out.trans P8.out.2⟩)
              go_roundw
              case rel => exact ⟨k, (k : Int) - 1, by first | (rw [HWK.out]; rfl) | go_num, by omega, by omega, KF⟩
              case measure => first | (rw [HWK.out]; exact HKM.out) | exact HKM.out
            · obtain rfl : j = 0 := by omega
              obtain rfl : z = -1 := by omega
              have RO := Lib.hid (own_olies K.out.1)
              have RB := Lib.hid K.out.2
              rw [show A ++ (m.drop 0).reverse = othF m ord from by rw [List.drop_zero, ← HA.out]; rfl] at RO ⊢
              have HOS := Lib.hid (show setO (othF m ord) = m from by rw [← HSET.out]; exact oth_set l ord)
              have HOL := Lib.hid (show (othF m ord).length ≤ 1000 from by have := oth_len m ord; have := HM30.out; omega)
              have HOM := Lib.hid (fun x (hx : x ∈ othF m ord) => HSU.out x (show x ∈ m from by
                rcases List.mem_append.1 hx with hx | hx
                · obtain ⟨k, _, hk⟩ := List.mem_filterMap.1 hx
                  exact List.mem_of_getElem? hk
                · exact List.mem_reverse.1 hx))
              have HOU := Lib.hid (show (uniqF (othF m ord)).length ≤ 79 from by
                have e1 : (setO (othF m ord)).length = (uniqF (othF m ord)).length := srtO_len _
                rw [HOS.out] at e1
                have := HM30.out
                omega)
              clear K h0 hz hj HM LN HA
              obtain ⟨ot, hot⟩ : ∃ z, othF m ord = z := ⟨_, rfl⟩
              rw [hot] at RO HOS HOL HOM HOU
              try rw [hot]
              clear hot
              have HB3 := Lib.hid (B1.out.trans (RB.out.mono B1.out.size))
              have HO := Lib.hid (H.out.step HB3.out)
              have CA := Lib.hid (fun W (hW : Below wr.heap.size wr W) => fof_any W _ ot (RO.out.step hW) (fun o ho => (HOM.out o ho).1) (fun o ho => (HOM.out o ho).2) HOL.out HOU.out)
              have CB := Lib.hid (fun W (hW : Below wr.heap.size wr W) => fof_any W _ l (HO.out.step hW) HOK.out HSZ.out HLL.out HUL.out)
              have CC := Lib.hid (fun W (hW : Below wr.heap.size wr W) => fvec_any W _ ot (RO.out.step hW) (fun o ho => (HOM.out o ho).1) (fun o ho => (HOM.out o ho).2) HOL.out HOU.out)
              have CD := Lib.hid (fun W (hW : Below wr.heap.size wr W) => fvec_any W _ l (HO.out.step hW) HOK.out HSZ.out HLL.out HUL.out)
              have CE := Lib.hid (fun W (hW : Below wr.heap.size wr W) => ftime_any W _ ot (RO.out.step hW) (fun o ho => (HOM.out o ho).1) (fun o ho => (HOM.out o ho).2) HOL.out HOU.out)
              have CF := Lib.hid (fun W (hW : Below wr.heap.size wr W) => ftime_any W _ l (HO.out.step hW) HOK.out HSZ.out HLL.out HUL.out)
              have CG := Lib.hid (fun W (hW : Below wr.heap.size wr W) => fidle_any W _ ot (RO.out.step hW) (fun o ho => (HOM.out o ho).1) (fun o ho => (HOM.out o ho).2) HOL.out HOU.out)
              have CH := Lib.hid (fun W (hW : Below wr.heap.size wr W) => fidle_any W _ l (HO.out.step hW) HOK.out HSZ.out HLL.out HUL.out)
              simp only [HOS.out, HSET.out] at CA CB CC CD CE CF CG CH
              have TL := Lib.hid (show (playF [] m).length < 100000 from by have h1 := play_len m []; have := HM30.out; simp at h1; omega)
              have EV := Lib.hid (fun W => Vx.eqs_vec W (vecO m) (vecO_len _))
              have GV := Lib.hid (fun x y W => geqV x y (va (vecO m)) (va (vecO m)) W)
              unfold vw at CC CD
              obtain ⟨T, hT⟩ : ∃ z, playF [] m = z := ⟨_, rfl⟩
              obtain ⟨I, hI⟩ : ∃ z, idleF [] m = z := ⟨_, rfl⟩
              obtain ⟨VO, hVO⟩ : ∃ z, va (vecO m) = z := ⟨_, rfl⟩
              obtain ⟨TO, hTO⟩ : ∃ z, timeO m = z := ⟨_, rfl⟩
              simp only [hT] at CA CB TL
              simp only [hI] at CG CH
              simp only [hVO] at CC CD EV GV
              simp only [hTO] at CE CF
              clear hT hI hVO hTO HOS HOL HOM HOU HSET HSU HM30 HLL HUL HSZ HORD HO RO H HOK
              obtain ⟨on, hon⟩ : ∃ z, ot.length = z := ⟨_, rfl⟩
              simp only [hon] at CA CC CE CG
              try rw [hon]
              clear hon
              go_wp2_with fail
              refine (CA.out wr (Below.refl _ _)).mono ?_
              rintro e w4 ⟨q, mb, rfl, ht, _, _, hb⟩
              have B4 := Lib.hid hb
              have T4 := Lib.hid ht
              clear hb ht CA
              go_wp2_with fail
              refine (CB.out w4 B4.out).mono ?_
              rintro e w5 ⟨q', mb', rfl, ht, _, _, hb⟩
              have B5 := Lib.hid (B4.out.trans (hb.mono B4.out.size))
              have CS := Lib.hid (Tb.tsame_any w5 q mb q' mb' T T (T4.out.step hb) ht TL.out)
              rw [decide_eq_true rfl] at CS
              clear hb ht CB T4
              go_wp2_with fail
              refine CS.out.mono ?_
              rintro e w6 ⟨rfl, hb⟩
              have B6 := Lib.hid (B5.out.trans (hb.mono B5.out.size))
              clear hb CS
              go_wp2_with fail
              refine (CC.out w6 B6.out).mono ?_
              rintro e w7 ⟨rfl, hb⟩
              have B7 := Lib.hid (B6.out.trans (hb.mono B6.out.size))
              clear hb CC
              go_wp2_with fail
              refine (CD.out w7 B7.out).mono ?_
              rintro e w8 ⟨rfl, hb⟩
              have B8 := Lib.hid (B7.out.trans (hb.mono B7.out.size))
              clear hb CD
              go_wp2_with (refine wpList_binG rfl .eql (.tmp 64) (.tmp 66) 52 52 rfl (.agg VO) (.agg VO) (.bool true) rfl rfl (GV.out _ _ _) (EV.out _) ?_)
              refine (CE.out w8 B8.out).mono ?_
              rintro e w9 ⟨rfl, hb⟩
              have B9 := Lib.hid (B8.out.trans (hb.mono B8.out.size))
              clear hb CE EV GV
              go_wp2_with fail
              refine (CF.out w9 B9.out).mono ?_
              rintro e w10 ⟨rfl, hb⟩
              have B10 := Lib.hid (B9.out.trans (hb.mono B9.out.size))
              clear hb CF
              have et : (TO == TO) = true := beq_self_eq_true _
              go_wp2_with fail
              refine (CG.out w10 B10.out).mono ?_
              rintro e w11 ⟨r11, rfl, hr, hb⟩
              have B11 := Lib.hid (B10.out.trans (hb.mono B10.out.size))
              have R11 := Lib.hid hr
              obtain ⟨ja, jc, rfl⟩ := hr.shape
              clear hb hr CG
              go_wp2_with fail
              refine (CH.out w11 B11.out).mono ?_
              rintro e w12 ⟨r12, rfl, hr, hb⟩
              have B12 := Lib.hid (B11.out.trans (hb.mono B11.out.size))
              have CI := Lib.hid (Tb.same_self w12 _ _ I (R11.out.step hb) hr)
              obtain ⟨ka, kc, rfl⟩ := hr.shape
              clear hb hr CH R11
              go_wp2_with fail
              refine CI.out.mono ?_
              rintro e w13 ⟨rfl, hb⟩
              have B13 := Lib.hid (B12.out.trans (hb.mono B12.out.size))
              clear hb CI
              go_wp2_with fail
              refine (AW.out w13).mono ?_
              rintro e w14 ⟨rfl, hb⟩
              have B14 := Lib.hid (HB3.out.trans ((B13.out.trans (hb.mono B13.out.size)).mono HB3.out.size))
              clear hb AW
              go_wp2
              go_returns
              exact ⟨rfl, B14.out⟩
end Go.Proofs.YtbeodechhneeeaaGreatDoor
