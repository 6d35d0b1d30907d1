/- The reference's number, Vec, Time, Known. Made by genfk15.py. -/
import Derived.Test.YtbeodechhneeeaaDoorFI
set_option linter.unusedVariables false
set_option linter.unusedSimpArgs false
set_option maxRecDepth 100000
namespace Go.Proofs.YtbeodechhneeeaaDoor
open Go.RowKit Go.Shelf
open Tb (Rw setF getF aboveF Rise TabI TM LiesK LiesR ltS encS Sp)
open Vx (va vw zs zs_len va_len va_size cell_va set_va alloc_va load_va store_va v24 v26)

theorem z26 : Vx.Z64 26 := by unfold Vx.Z64; kernel_rfl
theorem ixW {b i : Nat} (hi : i < 64) (W : World) : (Instr.indexAt 26 (.pointer (some ⟨b, 0, none⟩)) (.int .i64 (i : Int))).run Tryd.prog W = .ok (.pointer (some ⟨b, i, none⟩)) W := by
  have h0 : (0 : Int) ≤ (i : Int) := by omega
  have h1 : (i : Int) < 64 := by omega
  go_simp
/-! ### number -/
set_option maxHeartbeats 3200000 in
theorem rnum_any (w : World) (v : Value) (SS : List O) (h : OLies w v SS) (a b : Int) (hl : SS.length ≤ 1000) :
    Calls Tryd.prog 35 #[v, .int .i64 a, .int .i64 b] w fun e w' => e = .returned (.bool (numB SS a b)) ∧ w = w' := by
  have H := Lib.hid h
  obtain ⟨ao, cap, rfl⟩ := h.shape
  clear h
  go_enter Tryd.func35, Tryd.ntmps35
  go_wp2
  go_loopw [7] (fun iv wr => ∃ i : Nat, iv = .int .i64 i ∧ i ≤ SS.length ∧ w = wr ∧ Hid (numB (SS.take i) a b = false)) (fun iv _ => SS.length - (intOf iv).toNat)
  case atStart => exact ⟨0, rfl, Nat.zero_le _, (by first | trivial | rfl), Lib.hid rfl⟩
  case round =>
    obtain ⟨i, rfl, hi, rfl, K⟩ := hrel
    by_cases hlt : i < SS.length
    · have hd : decide ((i : Int) < (SS.length : Int)) = true := decide_eq_true (by omega)
      have hi0 : (0 : Int) ≤ (i : Int) := by omega
      have hi1 : (i : Int) < (SS.length : Int) := by omega
      have HL1 := Lib.hid (show i + 1 ≤ SS.length from hlt)
      have HW9 := Lib.hid (wrap_nat hlt (show SS.length ≤ 100000 by omega))
      have HMS := Lib.hid (meas_nat hlt)
      obtain ⟨g, k, x, e7, hx, hg, hc⟩ := H.out.atK hlt
      subst e7
      have c1 : w.cell? ⟨g, k + i * 9 + 1, none⟩ = some (.int .i64 x.r) := hc 1 _ rfl
      have c2 : w.cell? ⟨g, k + i * 9 + 2, none⟩ = some (.int .i64 x.q) := hc 2 _ rfl
      have TS := Lib.hid (show SS.take (i + 1) = SS.take i ++ [x] from by
        obtain ⟨q1, q2⟩ := List.getElem?_eq_some_iff.1 hx
        rw [List.take_succ_eq_append_getElem q1, q2])
      have MX := Lib.hid (List.mem_of_getElem? hx)
      clear hx hg hc hlt
      by_cases he : x.r = a ∧ x.q = b
      · have FN := Lib.hid (show true = numB SS a b from (num_iff.2 ⟨x, MX.out, he⟩).symm)
        obtain ⟨u1, u2⟩ := yes2 he
        clear he K
        go_wp2
        go_returns
        exact ⟨ret_b FN.out, rfl⟩
      · have KF := Lib.hid (show numB (SS.take (i + 1)) a b = false from by
          rw [TS.out]
          unfold numB at *
          rw [List.any_append, K.out]
          show (false || (decide (x.r = a ∧ x.q = b) || false)) = false
          rw [decide_eq_false he]; rfl)
        have hn := no2 he
        clear he K
        rcases hn with u1 | ⟨u1, u2⟩
        all_goals
          go_wp2
          go_roundw
          case rel => exact ⟨i + 1, by first | (rw [HW9.out]; rfl) | go_num, HL1.out, (by first | trivial | rfl), KF⟩
          case measure => first | (rw [HW9.out]; exact HMS.out) | exact HMS.out
    · have ei : i = SS.length := by omega
      subst ei
      have FN := Lib.hid (show false = numB SS a b from by have := K.out; rw [List.take_length] at this; exact this.symm)
      have hd : decide ((SS.length : Int) < (SS.length : Int)) = false := decide_eq_false (by omega)
      clear K hlt
      go_wp2
      go_returns
      exact ⟨ret_b FN.out, rfl⟩
/-! ### Vec -/
structure RVI (w1 W : World) (vb : Nat) (cur : List Int) : Prop where
  bel : Below w1.heap.size w1 W
  box : W.heap[vb]? = some (.cells (va cur) 26 (0, 0))
  hv : w1.heap.size ≤ vb
  len : cur.length = 64
theorem RVI.step {w1 W W' : World} {vb : Nat} {cur : List Int} (h : RVI w1 W vb cur) (hb : Below W.heap.size W W') : RVI w1 W' vb cur := ⟨h.bel.trans (hb.mono h.bel.size), (hb.block _ (pl_lt h.box)).trans h.box, h.hv, h.len⟩
theorem RVI.set {w1 W : World} {vb : Nat} {cur : List Int} (h : RVI w1 W vb cur) (i : Nat) (x : Int) : RVI w1 (W.setCell ⟨vb, i, none⟩ (.int .i64 x)) vb (cur.set i x) :=
  ⟨h.bel.setCell (p := ⟨vb, i, none⟩) h.hv _, set_va h.box i x, h.hv, by rw [List.length_set]; exact h.len⟩
set_option maxHeartbeats 12800000 in
theorem rvec_any (w : World) (v : Value) (l : List O) (h : OLies w v l) (hsz : ∀ o ∈ l, o.nm.size ≤ 9223372036854775807) (hl : l.length ≤ 1000) (hu : (uniqF l).length ≤ 79) :
    Calls Tryd.prog 14 #[v] w fun e w' => e = .returned (vw (vecO (setO l))) ∧ Below w.heap.size w w' := by
  have AZ := Lib.hid (fun W => alloc_va z26 W)
  have B1 := pl_vstep w (.cells (va zs) 26)
  have N1 := Lib.hid (heap_alloc_new w (.cells (va zs) 26))
  have Cc := Lib.hid (rsetO_any (w.alloc (.cells (va zs) 26)) v l (h.step B1) hsz hl hu)
  have SLN := Lib.hid (show (setO l).length ≤ 79 from by show (srtO (uniqF l)).length ≤ 79; rw [srtO_len]; exact hu)
  obtain ⟨ao, cap, rfl⟩ := h.shape
  obtain ⟨SS, hSS⟩ : ∃ z, setO l = z := ⟨_, rfl⟩
  rw [hSS] at Cc SLN ⊢
  have B1 := Lib.hid B1
  clear h hsz hu hSS
  have LD := Lib.hid (fun W (l' : List Int) (h1 : l'.length = 64) (b : Nat) (h : W.heap[b]? = some (.cells (va l') 26 (0, 0))) => load_va v26 W b l' h1 h)
  have ST := Lib.hid (fun W (l' : List Int) (h1 : l'.length = 64) (h : W.heap[w.heap.size]? = some (.cells (va zs) 26 (0, 0))) => store_va v26 W w.heap.size (va zs) (by rw [va_size, zs_len]) l' h1 h)
  go_enter Tryd.func14, Tryd.ntmps14
  go_upto_region 1 with (first | (refine wpList_alc rfl 26 rfl _ _ (AZ.out _) ?_))
  obtain ⟨w0, hw0⟩ : ∃ z, w.alloc (.cells (va zs) 26) = z := ⟨_, rfl⟩
  rw [hw0] at B1 N1 Cc
  rw [hw0]
  clear hw0
  go_wp2_with fail
  refine Cc.out.mono ?_
  rintro e w1 ⟨rv, rfl, hol, hb, -⟩
  have BB := Lib.hid (B1.out.trans (hb.mono B1.out.size))
  have N2 := Lib.hid ((hb.block _ (pl_lt N1.out)).trans N1.out)
  have SO := Lib.hid hol
  obtain ⟨ra, rc, rfl⟩ := hol.shape
  clear hol hb Cc B1 N1
  have J6 := Lib.hid (show RVI w1 (w1.alloc (.cells (va zs) 26)) w1.heap.size zs from ⟨pl_vstep w1 _, heap_alloc_new w1 _, Nat.le_refl _, zs_len⟩)
  go_upto_region 3 with (first | (refine wpList_alc rfl 26 rfl _ _ (AZ.out _) ?_))
  obtain ⟨wc, hwc⟩ : ∃ z, w1.alloc (.cells (va zs) 26) = z := ⟨_, rfl⟩
  obtain ⟨vb, hvb⟩ : ∃ z, w1.heap.size = z := ⟨_, rfl⟩
  rw [hwc, hvb] at J6
  rw [hwc]
  rw [hvb]
  clear hwc hvb
  have V0 : VEC SS zs 0 := ⟨fun j hj => by omega, fun j _ h2 => by show (List.replicate 64 (0 : Int))[j]? = some 0; rw [List.getElem?_replicate, if_pos h2]⟩
  go_wp2_with fail
  go_loopw [5] (fun iv wr => ∃ i : Nat, iv = .int .i64 i ∧ i ≤ 64 ∧ Hid (∃ cur, RVI w1 wr vb cur ∧ VEC SS cur i)) (fun iv _ => 64 - (intOf iv).toNat)
  case atStart => exact ⟨0, rfl, Nat.zero_le _, Lib.hid ⟨_, J6.out, V0⟩⟩
  case round =>
    clear J6 V0
    obtain ⟨i, rfl, hi, K⟩ := hrel
    obtain ⟨cur, kb, kv⟩ := K.out
    have KB := Lib.hid kb
    have KV := Lib.hid kv
    clear kb kv K
    by_cases hlt : i < 64
    · have hi0 : (0 : Int) ≤ (i : Int) := by omega
      have hi1 : (i : Int) < 64 := by omega
      have hd : decide ((i : Int) < 64) = true := decide_eq_true hi1
      have HL1 := Lib.hid (show i + 1 ≤ 64 from hlt)
      have HW9 := Lib.hid (wrap_nat hlt (by omega))
      have HMS := Lib.hid (meas_nat hlt)
      have I0 := Lib.hid (show RVI w1 wr vb (cur.set i ((0 : Nat) : Int)) from by
        have e : cur.set i ((0 : Nat) : Int) = cur := List.ext_getElem? (fun j => by
          by_cases ej : j = i
          · subst ej
            rw [List.getElem?_set_self (by have := KB.out.len; omega), KV.out.rest j (Nat.le_refl _) hlt]; rfl
          · rw [List.getElem?_set_ne (fun q => ej q.symm)])
        rw [e]; exact KB.out)
      have CLN := Lib.hid KB.out.len
      clear KB
      go_wp2_with fail
      go_loopw [18] (fun _ wi => Hid (∃ n : Nat, RVI w1 wi vb (cur.set i (n : Int)) ∧ ∀ m : Nat, 1 ≤ m → m ≤ n → numB SS (i : Int) (m : Int) = true)) (fun _ wi => SS.length + 1 - cellN wi vb i)
      case atStart => exact Lib.hid ⟨0, I0.out, fun m m1 m2 => by omega⟩
      case round =>
        have KN := hrel
        obtain ⟨n, kb, kn⟩ := KN.out
        have NL := num_le (i : Int) n SS kn
        have hc := cell_va kb.box (show (cur.set i (n : Int))[i]? = some (n : Int) from by rw [List.getElem?_set_self (by have := CLN.out; omega)])
        have HS := Lib.hid (rnum_any wr _ SS (SO.out.step kb.bel) (i : Int) ((n : Int) + 1) (by have := SLN.out; omega))
        have hwn : wrap64 ((n : Int) + 1) = (n : Int) + 1 := by have := SLN.out; unfold wrap64; omega
        have KB := Lib.hid kb
        have KM := Lib.hid kn
        have MN := Lib.hid (cellN_is hc)
        obtain ⟨nb, hnb⟩ : ∃ z, numB SS (i : Int) ((n : Int) + 1) = z := ⟨_, rfl⟩
        rw [hnb] at HS
        have HNB := Lib.hid hnb
        obtain ⟨n1, hn1⟩ : ∃ z : Int, (n : Int) + 1 = z := ⟨_, rfl⟩
        rw [hn1] at HS hwn
        have HN1 := Lib.hid hn1
        have hwn2 : wrap64 ((n : Int) + 1) = n1 := by rw [hn1]; exact hwn
        clear kb kn KN hnb hwn I0 hn1
        go_wp2_with fail
        refine HS.out.mono ?_
        rintro e w3 ⟨rfl, hw3⟩
        subst hw3
        clear HS
        cases nb with
        | true =>
          have f1 := frozen_of_row _ _ i _ _ KB.out.box
          have K4 := KB.out.set i n1
          have es : (cur.set i (n : Int)).set i n1 = cur.set i ((n + 1 : Nat) : Int) := by rw [List.set_set, ← HN1.out]; rfl
          rw [es] at K4
          have K4 := Lib.hid K4
          have M4 := Lib.hid (show cellN (wr.setCell ⟨vb, i, none⟩ (.int .i64 n1)) vb i = n + 1 from cellN_is (cell_va K4.out.box (by rw [List.getElem?_set_self (by have := CLN.out; omega)])))
          clear es
          go_wp2_with fail
          have KF := Lib.hid (show ∃ n : Nat, RVI w1 (wr.setCell ⟨vb, i, none⟩ (.int .i64 n1)) vb (cur.set i (n : Int)) ∧ ∀ m : Nat, 1 ≤ m → m ≤ n → numB SS (i : Int) (m : Int) = true from ⟨n + 1, K4.out, fun m m1 m2 => by
            rcases Nat.lt_or_ge n m with h5 | h5
            · have : m = n + 1 := by omega
              subst this
              exact HNB.out
            · exact KM.out m m1 h5⟩)
          go_roundw
          case rel => exact KF
          case measure => rw [MN.out, M4.out]; omega
        | false =>
          have VN := Lib.hid (vec_is KM.out HNB.out)
          have KF := Lib.hid (show ∃ cur, RVI w1 wr vb cur ∧ VEC SS cur (i + 1) from ⟨_, KB.out, KV.out.next CLN.out hlt VN.out⟩)
          clear KB KV
          go_wp2_with fail
          go_roundw
          case rel => exact ⟨i + 1, by first | (rw [HW9.out]; rfl) | go_num, HL1.out, KF⟩
          case measure => first | (rw [HW9.out]; exact HMS.out) | exact HMS.out
    · have ei : i = 64 := by omega
      subst ei
      have EC := KV.out.end KB.out.len
      subst EC
      have NR := (KB.out.bel.block _ (pl_lt N2.out)).trans N2.out
      have L6 := Lib.hid (LD.out wr (vecO SS) (vecO_len SS) vb KB.out.box)
      have S6 := Lib.hid (ST.out wr (vecO SS) (vecO_len SS) NR)
      have R6 := Lib.hid (show (wr.setRow w.heap.size (va (vecO SS))).heap[w.heap.size]? = some (.cells (va (vecO SS)) 26 (0, 0)) from setRow_heap _ _ _ _ _ _ NR)
      have FB := Lib.hid (Vx.below_setRow (BB.out.trans (KB.out.bel.mono BB.out.size)) (Nat.le_refl _) (va (vecO SS)))
      clear KB KV NR
      have HVL := Lib.hid (vecO_len SS)
      obtain ⟨VA, hVA⟩ : ∃ z, va (vecO SS) = z := ⟨_, rfl⟩
      rw [hVA] at L6 S6
      have HVA := Lib.hid hVA
      clear hVA
      go_wp2_with (first
        | (refine Ve.wpList_load_arr rfl (.tmp 4) 26 rfl (.pointer (some ⟨vb, 0, none⟩)) (.agg VA) rfl L6.out ?_)
        | (refine wpList_sto rfl (.tmp 2) (.tmp 24) 26 rfl (.pointer (some ⟨w.heap.size, 0, none⟩)) (.agg VA) rfl rfl _ S6.out ?_))
      rw [← HVA.out]
      refine bodyPost_ret (Vx.ret_va (l := vecO SS) rfl v26 HVL.out rfl R6.out) rfl ⟨rfl, FB.out⟩
/-! ### Time -/
def maxF (l : List O) : Int := l.foldl (fun m o => if m < o.t then o.t else m) 0
theorem max_snoc {L : List O} {i : Nat} {x : O} (h : L[i]? = some x) : maxF (L.take (i + 1)) = if maxF (L.take i) < x.t then x.t else maxF (L.take i) := by
  obtain ⟨h1, h2⟩ := List.getElem?_eq_some_iff.1 h
  unfold maxF
  rw [List.take_succ_eq_append_getElem h1, h2, List.foldl_append]
  rfl
set_option maxHeartbeats 3200000 in
theorem rtime_op (w : World) (v : Value) (l : List O) (h : OLies w v l) (hsz : ∀ o ∈ l, o.nm.size ≤ 9223372036854775807) (hl : l.length ≤ 1000) (hu : (uniqF l).length ≤ 79) :
    Calls Tryd.prog 16 #[v] w fun e w' => e = .returned (.int .i64 (maxF (setO l))) ∧ Below w.heap.size w w' := by
  have Cc := Lib.hid (rsetO_any w v l h hsz hl hu)
  have SLN := Lib.hid (show (setO l).length ≤ 79 from by show (srtO (uniqF l)).length ≤ 79; rw [srtO_len]; exact hu)
  obtain ⟨ao, cap, rfl⟩ := h.shape
  obtain ⟨SS, hSS⟩ : ∃ z, setO l = z := ⟨_, rfl⟩
  rw [hSS] at Cc SLN ⊢
  clear h hsz hu hSS
  go_enter Tryd.func16, Tryd.ntmps16
  go_wp2_with fail
  refine Cc.out.mono ?_
  rintro e w1 ⟨rv, rfl, hol, hb, -⟩
  have HB := Lib.hid hb
  have SO := Lib.hid hol
  obtain ⟨ra, rc, rfl⟩ := hol.shape
  clear hol hb Cc
  go_wp2_with fail
  go_loopw [4, 5] (fun mv iv wr => ∃ i : Nat, iv = .int .i64 i ∧ i ≤ SS.length ∧ mv = .int .i64 (maxF (SS.take i)) ∧ w1 = wr) (fun _ iv _ => SS.length - (intOf iv).toNat)
  case atStart => exact ⟨0, rfl, Nat.zero_le _, rfl, (by first | trivial | rfl)⟩
  case round =>
    obtain ⟨i, rfl, hi, rfl, rfl⟩ := hrel
    by_cases hlt : i < SS.length
    · have hd : decide ((i : Int) < (SS.length : Int)) = true := decide_eq_true (by omega)
      have hi0 : (0 : Int) ≤ (i : Int) := by omega
      have hi1 : (i : Int) < (SS.length : Int) := by omega
      have HL1 := Lib.hid (show i + 1 ≤ SS.length from hlt)
      have HW9 := Lib.hid (wrap_nat hlt (show SS.length ≤ 100000 by have := SLN.out; omega))
      have HMS := Lib.hid (meas_nat hlt)
      obtain ⟨g, k, x, e7, hx, hg, hc⟩ := SO.out.atK hlt
      subst e7
      have c0 : w1.cell? ⟨g, k + i * 9, none⟩ = some (.int .i64 x.t) := hc 0 _ rfl
      have MS := Lib.hid (max_snoc hx)
      obtain ⟨m, hm⟩ : ∃ z, maxF (SS.take i) = z := ⟨_, rfl⟩
      rw [hm] at MS
      rw [hm]
      obtain ⟨xt, hxt⟩ : ∃ z, x.t = z := ⟨_, rfl⟩
      rw [hxt] at MS c0
      clear hx hg hc hlt hm hxt
      by_cases hq : m < xt
      · have M2 := Lib.hid (MS.out.trans (if_pos hq))
        have hq2 : decide (m < xt) = true := decide_eq_true hq
        clear MS
        go_wp2
        go_roundw
        case rel => exact ⟨i + 1, by first | (rw [HW9.out]; rfl) | go_num, HL1.out, by rw [M2.out], (by first | trivial | rfl)⟩
        case measure => first | (rw [HW9.out]; exact HMS.out) | exact HMS.out
      · have M2 := Lib.hid (MS.out.trans (if_neg hq))
        have hq2 : decide (m < xt) = false := decide_eq_false hq
        clear MS
        go_wp2
        go_roundw
        case rel => exact ⟨i + 1, by first | (rw [HW9.out]; rfl) | go_num, HL1.out, by rw [M2.out], (by first | trivial | rfl)⟩
        case measure => first | (rw [HW9.out]; exact HMS.out) | exact HMS.out
    · have ei : i = SS.length := by omega
      subst ei
      simp only [List.take_length]
      have hd : decide ((SS.length : Int) < (SS.length : Int)) = false := decide_eq_false (by omega)
      clear hlt
      go_wp2
      go_returns
      exact ⟨rfl, HB.out⟩
/-! ### Known -/
def keepB (V : List Int) (o : O) : Bool := decide (o.q ≤ V.getD o.r.toNat 0)
structure KNI (w w1 W : World) (V : List Int) (sv : Value) (K : List O) : Prop where
  bel : Below w1.heap.size w1 W
  box : W.heap[w.heap.size]? = some (.cells (va V) 26 (0, 0))
  row : W.ownsRow w1.heap.size 48 9 sv K.length (cs9 K)
  hw : w.heap.size < w1.heap.size
theorem KNI.step {w w1 W W' : World} {V : List Int} {sv : Value} {K : List O} (h : KNI w w1 W V sv K) (hb : Below W.heap.size W W') : KNI w w1 W' V sv K := ⟨h.bel.trans (hb.mono h.bel.size), (hb.block _ (pl_lt h.box)).trans h.box, own_below h.row hb, h.hw⟩
theorem KNI.push {w w1 W W' : World} {V : List Int} {sv sv' : Value} {K K' : List O} (h : KNI w w1 W V sv K) (ho : W'.ownsRow w1.heap.size 48 9 sv' K'.length (cs9 K')) (hb : Below w1.heap.size W W') : KNI w w1 W' V sv' K' := ⟨h.bel.trans hb, (hb.block _ h.hw).trans h.box, ho, h.hw⟩
theorem filt_snoc {p : O → Bool} {L : List O} {i : Nat} {x : O} (h : L[i]? = some x) : (L.take (i + 1)).filter p = (L.take i).filter p ++ (if p x = true then [x] else []) := by
  obtain ⟨h1, h2⟩ := List.getElem?_eq_some_iff.1 h
  rw [List.take_succ_eq_append_getElem h1, h2, List.filter_append]
  cases hp : p x <;> simp [List.filter_cons, hp]
set_option maxHeartbeats 12800000 in
theorem rknown_any (w : World) (v : Value) (l : List O) (V : List Int) (hV : V.length = 64) (h : OLies w v l) (hsz : ∀ o ∈ l, o.nm.size ≤ 9223372036854775807) (hl : l.length ≤ 1000) (hu : (uniqF l).length ≤ 79) :
    Calls Tryd.prog 12 #[v, vw V] w fun e w' => ∃ r, e = .returned r ∧ OLies w' r ((setO l).filter (keepB V)) ∧ Below w.heap.size w w' := by
  obtain ⟨i0, hi9, hz0, hz1, hz2⟩ := info_parts info25
  have B1 := pl_vstep w (.cells (va V) 26)
  have N1 := Lib.hid (heap_alloc_new w (.cells (va V) 26))
  have Cc := Lib.hid (rsetO_any (w.alloc (.cells (va V) 26)) v l (h.step B1) hsz hl hu)
  have SLN := Lib.hid (show (setO l).length ≤ 79 from by show (srtO (uniqF l)).length ≤ 79; rw [srtO_len]; exact hu)
  have HR := Lib.hid (show ∀ x ∈ setO l, 0 ≤ x.r ∧ x.r < 64 from fun x hx => rO_rep ((uniq_is l).right x (srt_mem hx)))
  have SZ0 := Lib.hid (show (w.alloc (.cells (va V) 26)).heap.size = w.heap.size + 1 by simp)
  obtain ⟨ao, cap, rfl⟩ := h.shape
  obtain ⟨SS, hSS⟩ : ∃ z, setO l = z := ⟨_, rfl⟩
  rw [hSS] at Cc SLN HR ⊢
  have B1 := Lib.hid B1
  have HV := Lib.hid hV
  clear h hsz hu hSS hV
  obtain ⟨VA, hVA⟩ : ∃ z, va V = z := ⟨_, rfl⟩
  unfold vw
  rw [hVA] at B1 N1 Cc SZ0
  rw [hVA]
  have HVA := Lib.hid hVA
  clear hVA
  go_enter Tryd.func12, Tryd.ntmps12
  go_upto_region 1 with (fail)
  obtain ⟨w0, hw0⟩ : ∃ z, w.alloc (.cells VA 26) = z := ⟨_, rfl⟩
  rw [hw0] at B1 N1 Cc SZ0
  rw [hw0]
  clear hw0
  go_wp2_with fail
  refine Cc.out.mono ?_
  rintro e w1 ⟨rv, rfl, hol, hb, -⟩
  have SO := Lib.hid hol
  have W1S := Lib.hid (show w.heap.size + 1 ≤ w1.heap.size from by have := hb.size; rw [SZ0.out] at this; exact this)
  have BB := Lib.hid (B1.out.trans (hb.mono B1.out.size))
  have J0 := Lib.hid (show KNI w w1 w1 V (.slice none 0 0) ((SS.take 0).filter (keepB V)) from ⟨Below.refl _ _, (by rw [HVA.out]; exact (hb.block _ (pl_lt N1.out)).trans N1.out), (by simpa [cs9] using World.ownsRow_nil w1 w1.heap.size 48 9), (by have := W1S.out; omega)⟩)
  obtain ⟨ra, rc, rfl⟩ := hol.shape
  clear hol hb Cc B1 N1 SZ0
  go_wp2_with fail
  go_loopw [6, 7] (fun sv iv wr => ∃ i : Nat, iv = .int .i64 i ∧ i ≤ SS.length ∧ Hid (KNI w w1 wr V sv ((SS.take i).filter (keepB V)))) (fun _ iv _ => SS.length - (intOf iv).toNat)
  case atStart => exact ⟨0, rfl, Nat.zero_le _, J0⟩
  case round =>
    clear J0
    obtain ⟨i, rfl, hi, K⟩ := hrel
    obtain ⟨sa, sc, hsv⟩ := Ve.own_shape K.out.row
    subst hsv
    by_cases hlt : i < SS.length
    · have hi0 : (0 : Int) ≤ (i : Int) := by omega
      have hi1 : (i : Int) < (SS.length : Int) := by omega
      have hd : decide ((i : Int) < (SS.length : Int)) = true := decide_eq_true hi1
      have HL1 := Lib.hid (show i + 1 ≤ SS.length from hlt)
      have HW9 := Lib.hid (wrap_nat hlt (show SS.length ≤ 100000 by have := SLN.out; omega))
      have HMS := Lib.hid (meas_nat hlt)
      obtain ⟨g, k, x, e7, hx, hg, hc⟩ := (SO.out.step K.out.bel).atK hlt
      subst e7
      obtain ⟨hr0, hr1⟩ := HR.out x (List.mem_of_getElem? hx)
      obtain ⟨rn, hrn⟩ : ∃ n : Nat, x.r = (n : Int) := ⟨x.r.toNat, by omega⟩
      have hrn64 : rn < 64 := by omega
      obtain ⟨y, hy⟩ := va_len V HV.out rn hrn64
      have FS := Lib.hid (filt_snoc (p := keepB V) hx)
      have KP := Lib.hid (show keepB V x = decide (x.q ≤ y) from by unfold keepB; rw [hrn, Int.toNat_natCast, List.getD_eq_getElem?_getD, hy]; rfl)
      have OC := Lib.hid (fun W (hb : Below wr.heap.size wr W) => (show (Instr.loadAt 48 (.pointer (some ⟨g, k + i * 9, none⟩))).run Tryd.prog W = .ok (.agg #[.int .i64 x.t, .int .i64 x.r, .int .i64 x.q, .int .i64 x.nt, .int .i64 x.nr, .int .i64 x.pt, .int .i64 x.pr, .string x.nm, .bool x.d]) W from @ldO W g (k + i * 9) x (fun j u hu => (hb.cell (p := ⟨g, k + i * 9 + j, none⟩) hg).trans (hc j u hu))))
      have LQ := Lib.hid (fun W (hb : Below wr.heap.size wr W) => @ld3 W g (k + i * 9 + 2) x.q ((hb.cell (p := ⟨g, k + i * 9 + 2, none⟩) hg).trans (hc 2 _ rfl)))
      have LR := Lib.hid (fun W (hb : Below wr.heap.size wr W) => (show (Instr.loadAt 3 (.pointer (some ⟨g, k + i * 9 + 1, none⟩))).run Tryd.prog W = .ok (.int .i64 (rn : Int)) W from by rw [← hrn]; exact @ld3 W g (k + i * 9 + 1) x.r ((hb.cell (p := ⟨g, k + i * 9 + 1, none⟩) hg).trans (hc 1 _ rfl))))
      have LY := Lib.hid (fun W (hb : Below wr.heap.size wr W) => @ld3 W w.heap.size rn y (cell_va (K.out.step hb).box hy))
      have IXV := Lib.hid (fun W => @ixW w.heap.size rn hrn64 W)
      have IX := Lib.hid (fun W => @ix30 g k SS.length rc i hlt W)
      have KLN := Lib.hid (show ((SS.take i).filter (keepB V)).length ≤ 79 from Nat.le_trans (List.length_filter_le _ _) (by rw [List.length_take]; have := SLN.out; omega))
      obtain ⟨AK, hAK⟩ : ∃ z, (SS.take i).filter (keepB V) = z := ⟨_, rfl⟩
      rw [hAK] at FS K KLN
      try rw [hAK]
      clear hx hg hc hAK hr0 hr1 hrn
      go_upto_region 6 with (fail)
      by_cases hq : x.q ≤ y
      · have E5 := Lib.hid (fun W => (leq3 x.q y W).trans (by rw [decide_eq_true hq]))
        have EQ := Lib.hid (show (SS.take (i + 1)).filter (keepB V) = AK ++ [x] from by rw [FS.out, if_pos (by rw [KP.out, decide_eq_true hq])])
        clear hq FS KP
        refine wp_region_held_drew (S := fun w' => Below wr.heap.size wr w') (by kernel_rfl) (Below.refl _ _).drew (fun hHeld => ?_)
        have BV := Lib.hid (show Below wr.heap.size wr wr.drew from (Below.refl _ _).drew)
        clear hHeld
        refine take_at (i := 0) 16 ?_ rfl rfl (by kernel_rfl) (by kernel_rfl) (by kernel_rfl) (fun _ _ _ h => h) (.inl ⟨rfl, ?_⟩) BV.out ?_
        rotate_left 1
        · intro w hSw; go_simp; try with_reducible rfl
        simp only [Act.put, List.setIfInBounds_toArray, List.set_cons_zero, List.set_cons_succ]
        refine take_at (i := 1) 17 ?_ rfl rfl (by kernel_rfl) (by kernel_rfl) (by kernel_rfl) (fun _ _ _ h => h) (.inl ⟨rfl, ?_⟩) BV.out ?_
        rotate_left 1
        · intro w hSw; go_simp; try with_reducible rfl
        simp only [Act.put, List.setIfInBounds_toArray, List.set_cons_zero, List.set_cons_succ]
        refine take_at (i := 2) 18 (.pointer (some ⟨g, k + i * 9, none⟩)) rfl rfl (by kernel_rfl) (by kernel_rfl) (by kernel_rfl) (fun _ _ _ h => h) (yields_ix (.tmp 16) (.tmp 17) 22 (.slice (some ⟨g, k, none⟩) SS.length rc) (.int .i64 (i : Int)) _ IX.out rfl rfl rfl rfl) BV.out ?_
        simp only [Act.put, List.setIfInBounds_toArray, List.set_cons_zero, List.set_cons_succ]
        refine take_at (i := 3) 19 ?_ rfl rfl (by kernel_rfl) (by kernel_rfl) (by kernel_rfl) (fun _ _ _ h => h) (.inl ⟨rfl, ?_⟩) BV.out ?_
        rotate_left 1
        · intro w hSw; go_simp; try with_reducible rfl
        simp only [Act.put, List.setIfInBounds_toArray, List.set_cons_zero, List.set_cons_succ]
        refine take_at (i := 4) 20 (.int .i64 x.q) rfl rfl (by kernel_rfl) (by kernel_rfl) (by kernel_rfl) (fun _ _ _ h => h) (yields_ld (.tmp 19) 3 (.pointer (some ⟨g, k + i * 9 + 2, none⟩)) _ LQ.out rfl rfl rfl) BV.out ?_
        simp only [Act.put, List.setIfInBounds_toArray, List.set_cons_zero, List.set_cons_succ]
        refine take_at (i := 5) 21 ?_ rfl rfl (by kernel_rfl) (by kernel_rfl) (by kernel_rfl) (fun _ _ _ h => h) (.inl ⟨rfl, ?_⟩) BV.out ?_
        rotate_left 1
        · intro w hSw; go_simp; try with_reducible rfl
        simp only [Act.put, List.setIfInBounds_toArray, List.set_cons_zero, List.set_cons_succ]
        refine take_at (i := 6) 22 ?_ rfl rfl (by kernel_rfl) (by kernel_rfl) (by kernel_rfl) (fun _ _ _ h => h) (.inl ⟨rfl, ?_⟩) BV.out ?_
        rotate_left 1
        · intro w hSw; go_simp; try with_reducible rfl
        simp only [Act.put, List.setIfInBounds_toArray, List.set_cons_zero, List.set_cons_succ]
        refine take_at (i := 7) 23 (.pointer (some ⟨g, k + i * 9, none⟩)) rfl rfl (by kernel_rfl) (by kernel_rfl) (by kernel_rfl) (fun _ _ _ h => h) (yields_ix (.tmp 21) (.tmp 22) 22 (.slice (some ⟨g, k, none⟩) SS.length rc) (.int .i64 (i : Int)) _ IX.out rfl rfl rfl rfl) BV.out ?_
        simp only [Act.put, List.setIfInBounds_toArray, List.set_cons_zero, List.set_cons_succ]
        refine take_at (i := 8) 24 ?_ rfl rfl (by kernel_rfl) (by kernel_rfl) (by kernel_rfl) (fun _ _ _ h => h) (.inl ⟨rfl, ?_⟩) BV.out ?_
        rotate_left 1
        · intro w hSw; go_simp; try with_reducible rfl
        simp only [Act.put, List.setIfInBounds_toArray, List.set_cons_zero, List.set_cons_succ]
        refine take_at (i := 9) 25 ?_ rfl rfl (by kernel_rfl) (by kernel_rfl) (by kernel_rfl) (fun _ _ _ h => h) (.inl ⟨rfl, ?_⟩) BV.out ?_
        rotate_left 1
        · intro w hSw; go_simp; try with_reducible rfl
        simp only [Act.put, List.setIfInBounds_toArray, List.set_cons_zero, List.set_cons_succ]
        refine take_at (i := 10) 26 (.int .i64 (rn : Int)) rfl rfl (by kernel_rfl) (by kernel_rfl) (by kernel_rfl) (fun _ _ _ h => h) (yields_ld (.tmp 25) 3 (.pointer (some ⟨g, k + i * 9 + 1, none⟩)) _ LR.out rfl rfl rfl) BV.out ?_
        simp only [Act.put, List.setIfInBounds_toArray, List.set_cons_zero, List.set_cons_succ]
        refine take_at (i := 11) 27 (.pointer (some ⟨w.heap.size, rn, none⟩)) rfl rfl (by kernel_rfl) (by kernel_rfl) (by kernel_rfl) (fun _ _ _ h => h) (yields_ix (.tmp 3) (.tmp 26) 26 (.pointer (some ⟨w.heap.size, 0, none⟩)) (.int .i64 (rn : Int)) _ IXV.out rfl rfl rfl rfl) BV.out ?_
        simp only [Act.put, List.setIfInBounds_toArray, List.set_cons_zero, List.set_cons_succ]
        refine take_at (i := 12) 28 (.int .i64 y) rfl rfl (by kernel_rfl) (by kernel_rfl) (by kernel_rfl) (fun _ _ _ h => h) (yields_ld (.tmp 27) 3 (.pointer (some ⟨w.heap.size, rn, none⟩)) _ LY.out rfl rfl rfl) BV.out ?_
        simp only [Act.put, List.setIfInBounds_toArray, List.set_cons_zero, List.set_cons_succ]
        refine take_at (i := 13) 29 (.bool true) rfl rfl (by kernel_rfl) (by kernel_rfl) (by kernel_rfl) (fun _ _ _ h => h) (yields_bin .leq (.tmp 20) (.tmp 28) 3 3 (.int .i64 x.q) (.int .i64 y) _ E5.out (gleq3 _ _ _ _) rfl rfl rfl rfl) BV.out ?_
        simp only [Act.put, List.setIfInBounds_toArray, List.set_cons_zero, List.set_cons_succ]
        refine wpAnyH_done (by kernel_rfl) ?_ _
        have K6 := Lib.hid (K.out.step BV.out)
        have L6 := Lib.hid (OC.out _ BV.out)
        clear BV LQ LR LY K OC
        generalize wr.drew = w6 at *
        have OX7 := Lib.hid (own_below K6.out.row (pl_vstep w6 (.cells #[.int .i64 x.t, .int .i64 x.r, .int .i64 x.q, .int .i64 x.nt, .int .i64 x.nr, .int .i64 x.pt, .int .i64 x.pr, .string x.nm, .bool x.d] 48)))
        have bso7 := bs_op w6 x
        have SR7 := Lib.hid (one_op w6 x).src
        have Q7 := Lib.hid (And.intro (show AK.length + 1 ≤ maxLen from by have := KLN.out; unfold maxLen; omega) (And.intro (show (AK.length + 1) * 80 ≤ 140737488355328 from by have := KLN.out; omega) (show w1.heap.size ≤ (w6.alloc (.cells #[.int .i64 x.t, .int .i64 x.r, .int .i64 x.q, .int .i64 x.nt, .int .i64 x.nr, .int .i64 x.pt, .int .i64 x.pr, .string x.nm, .bool x.d] 48)).heap.size from Nat.le_trans K6.out.bel.size (pl_vstep w6 (.cells #[.int .i64 x.t, .int .i64 x.r, .int .i64 x.q, .int .i64 x.nt, .int .i64 x.nr, .int .i64 x.pt, .int .i64 x.pr, .string x.nm, .bool x.d] 48)).size)))
        go_wp2_with (first
          | (refine Ve.wpList_load_arr rfl (.tmp 33) 48 rfl (.pointer (some ⟨g, k + i * 9, none⟩)) (.agg #[.int .i64 x.t, .int .i64 x.r, .int .i64 x.q, .int .i64 x.nt, .int .i64 x.nr, .int .i64 x.pt, .int .i64 x.pr, .string x.nm, .bool x.d]) rfl L6.out ?_)
          | (at_builtin; refine Wi.wpList_append_src_own rfl (.tmp 30) (.tmp 35) 22 22 rfl w1.heap.size 48 i0 (oV O0) 9 80 Tryd.u27 hi9 hz0 hz1 hz2 rfl (by decide) _ _ _ rfl OX7.out _ 1 (cs9 [x]) rfl SR7.out Q7.out.1 Q7.out.2.1 Q7.out.2.2 ?_; intro v8 w8 hown hgr hsp; obtain ⟨va8, vc8, rfl⟩ := Ve.own_shape hown; have P8 := Lib.hid (push_own K6.out.row K6.out.bel.size hown hgr); clear hown hgr hsp))
        have KF := Lib.hid (show KNI w w1 w8 V (.slice va8 (AK.length + 1) vc8) ((SS.take (i + 1)).filter (keepB V)) from by
          rw [EQ.out]
          exact K6.out.push P8.out.1 P8.out.2)
        go_roundw
        case rel => exact ⟨i + 1, by first | (rw [HW9.out]; rfl) | go_num, HL1.out, KF⟩
        case measure => first | (rw [HW9.out]; exact HMS.out) | exact HMS.out
      · have E5 := Lib.hid (fun W => (leq3 x.q y W).trans (by rw [decide_eq_false hq]))
        have EQ := Lib.hid (show (SS.take (i + 1)).filter (keepB V) = AK from by rw [FS.out, if_neg (by rw [KP.out, decide_eq_false hq]; simp), List.append_nil])
        clear hq FS KP
        refine wp_region_held_drew (S := fun w' => Below wr.heap.size wr w') (by kernel_rfl) (Below.refl _ _).drew (fun hHeld => ?_)
        have BV := Lib.hid (show Below wr.heap.size wr wr.drew from (Below.refl _ _).drew)
        clear hHeld
        refine take_at (i := 0) 16 ?_ rfl rfl (by kernel_rfl) (by kernel_rfl) (by kernel_rfl) (fun _ _ _ h => h) (.inl ⟨rfl, ?_⟩) BV.out ?_
        rotate_left 1
        · intro w hSw; go_simp; try with_reducible rfl
        simp only [Act.put, List.setIfInBounds_toArray, List.set_cons_zero, List.set_cons_succ]
        refine take_at (i := 1) 17 ?_ rfl rfl (by kernel_rfl) (by kernel_rfl) (by kernel_rfl) (fun _ _ _ h => h) (.inl ⟨rfl, ?_⟩) BV.out ?_
        rotate_left 1
        · intro w hSw; go_simp; try with_reducible rfl
        simp only [Act.put, List.setIfInBounds_toArray, List.set_cons_zero, List.set_cons_succ]
        refine take_at (i := 2) 18 (.pointer (some ⟨g, k + i * 9, none⟩)) rfl rfl (by kernel_rfl) (by kernel_rfl) (by kernel_rfl) (fun _ _ _ h => h) (yields_ix (.tmp 16) (.tmp 17) 22 (.slice (some ⟨g, k, none⟩) SS.length rc) (.int .i64 (i : Int)) _ IX.out rfl rfl rfl rfl) BV.out ?_
        simp only [Act.put, List.setIfInBounds_toArray, List.set_cons_zero, List.set_cons_succ]
        refine take_at (i := 3) 19 ?_ rfl rfl (by kernel_rfl) (by kernel_rfl) (by kernel_rfl) (fun _ _ _ h => h) (.inl ⟨rfl, ?_⟩) BV.out ?_
        rotate_left 1
        · intro w hSw; go_simp; try with_reducible rfl
        simp only [Act.put, List.setIfInBounds_toArray, List.set_cons_zero, List.set_cons_succ]
        refine take_at (i := 4) 20 (.int .i64 x.q) rfl rfl (by kernel_rfl) (by kernel_rfl) (by kernel_rfl) (fun _ _ _ h => h) (yields_ld (.tmp 19) 3 (.pointer (some ⟨g, k + i * 9 + 2, none⟩)) _ LQ.out rfl rfl rfl) BV.out ?_
        simp only [Act.put, List.setIfInBounds_toArray, List.set_cons_zero, List.set_cons_succ]
        refine take_at (i := 5) 21 ?_ rfl rfl (by kernel_rfl) (by kernel_rfl) (by kernel_rfl) (fun _ _ _ h => h) (.inl ⟨rfl, ?_⟩) BV.out ?_
        rotate_left 1
        · intro w hSw; go_simp; try with_reducible rfl
        simp only [Act.put, List.setIfInBounds_toArray, List.set_cons_zero, List.set_cons_succ]
        refine take_at (i := 6) 22 ?_ rfl rfl (by kernel_rfl) (by kernel_rfl) (by kernel_rfl) (fun _ _ _ h => h) (.inl ⟨rfl, ?_⟩) BV.out ?_
        rotate_left 1
        · intro w hSw; go_simp; try with_reducible rfl
        simp only [Act.put, List.setIfInBounds_toArray, List.set_cons_zero, List.set_cons_succ]
        refine take_at (i := 7) 23 (.pointer (some ⟨g, k + i * 9, none⟩)) rfl rfl (by kernel_rfl) (by kernel_rfl) (by kernel_rfl) (fun _ _ _ h => h) (yields_ix (.tmp 21) (.tmp 22) 22 (.slice (some ⟨g, k, none⟩) SS.length rc) (.int .i64 (i : Int)) _ IX.out rfl rfl rfl rfl) BV.out ?_
        simp only [Act.put, List.setIfInBounds_toArray, List.set_cons_zero, List.set_cons_succ]
        refine take_at (i := 8) 24 ?_ rfl rfl (by kernel_rfl) (by kernel_rfl) (by kernel_rfl) (fun _ _ _ h => h) (.inl ⟨rfl, ?_⟩) BV.out ?_
        rotate_left 1
        · intro w hSw; go_simp; try with_reducible rfl
        simp only [Act.put, List.setIfInBounds_toArray, List.set_cons_zero, List.set_cons_succ]
        refine take_at (i := 9) 25 ?_ rfl rfl (by kernel_rfl) (by kernel_rfl) (by kernel_rfl) (fun _ _ _ h => h) (.inl ⟨rfl, ?_⟩) BV.out ?_
        rotate_left 1
        · intro w hSw; go_simp; try with_reducible rfl
        simp only [Act.put, List.setIfInBounds_toArray, List.set_cons_zero, List.set_cons_succ]
        refine take_at (i := 10) 26 (.int .i64 (rn : Int)) rfl rfl (by kernel_rfl) (by kernel_rfl) (by kernel_rfl) (fun _ _ _ h => h) (yields_ld (.tmp 25) 3 (.pointer (some ⟨g, k + i * 9 + 1, none⟩)) _ LR.out rfl rfl rfl) BV.out ?_
        simp only [Act.put, List.setIfInBounds_toArray, List.set_cons_zero, List.set_cons_succ]
        refine take_at (i := 11) 27 (.pointer (some ⟨w.heap.size, rn, none⟩)) rfl rfl (by kernel_rfl) (by kernel_rfl) (by kernel_rfl) (fun _ _ _ h => h) (yields_ix (.tmp 3) (.tmp 26) 26 (.pointer (some ⟨w.heap.size, 0, none⟩)) (.int .i64 (rn : Int)) _ IXV.out rfl rfl rfl rfl) BV.out ?_
        simp only [Act.put, List.setIfInBounds_toArray, List.set_cons_zero, List.set_cons_succ]
        refine take_at (i := 12) 28 (.int .i64 y) rfl rfl (by kernel_rfl) (by kernel_rfl) (by kernel_rfl) (fun _ _ _ h => h) (yields_ld (.tmp 27) 3 (.pointer (some ⟨w.heap.size, rn, none⟩)) _ LY.out rfl rfl rfl) BV.out ?_
        simp only [Act.put, List.setIfInBounds_toArray, List.set_cons_zero, List.set_cons_succ]
        refine take_at (i := 13) 29 (.bool false) rfl rfl (by kernel_rfl) (by kernel_rfl) (by kernel_rfl) (fun _ _ _ h => h) (yields_bin .leq (.tmp 20) (.tmp 28) 3 3 (.int .i64 x.q) (.int .i64 y) _ E5.out (gleq3 _ _ _ _) rfl rfl rfl rfl) BV.out ?_
        simp only [Act.put, List.setIfInBounds_toArray, List.set_cons_zero, List.set_cons_succ]
        refine wpAnyH_done (by kernel_rfl) ?_ _
        have KF := Lib.hid (show KNI w w1 wr.drew V (.slice sa AK.length sc) ((SS.take (i + 1)).filter (keepB V)) from by rw [EQ.out]; exact K.out.step BV.out)
        clear BV LQ LR LY K OC
        generalize wr.drew = w6 at *
        go_wp2
        go_roundw
        case rel => exact ⟨i + 1, by first | (rw [HW9.out]; rfl) | go_num, HL1.out, KF⟩
        case measure => first | (rw [HW9.out]; exact HMS.out) | exact HMS.out
    · have ei : i = SS.length := by omega
      subst ei
      have FIN := Lib.hid K.out
      simp only [List.take_length] at FIN ⊢
      have FF := Lib.hid (And.intro (own_olies FIN.out.row) (BB.out.trans (FIN.out.bel.mono BB.out.size)))
      clear K FIN
      go_wp2
      go_returns
      exact ⟨_, rfl, FF.out.1, FF.out.2⟩
end Go.Proofs.YtbeodechhneeeaaDoor
