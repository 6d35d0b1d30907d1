/- hold.Trim. Made by genhu27.py. -/
import Derived.Test.YtgnnpfainoppeaaDoorHT
set_option linter.unusedVariables false
set_option linter.unusedSimpArgs false
set_option maxRecDepth 100000
namespace Go.Proofs.YtgnnpfainoppeaaDoor
open Go.RowKit
open Ve (vw va)

section
variable {ops : Array Oper} {S : World → Prop} {op : Oper} {a : Act}
theorem yields_slt (x y : Operand) (ty : TypeId) (v u r : Value) (hS : ∀ w, (Instr.sliceAt ty v (some u) none none).run Tryd.prog w = .ok r w) (hw : Region.wanted op (yielded ops a.tmps) = true) (ho : op.op = .slice ty x (some y) none none)
    (hx : a.eval x = v) (hy : a.eval y = u) : YieldsIf Tryd.prog ops S op r a :=
  .inl ⟨hw, fun w hw' => by
    unfold execOp
    simp only [ho, Option.map_some, Option.map_none, hx, hy, hS w, Sem.run_bind, Sem.run_pure, Result.andThen_ok]⟩
end
theorem OLies.tail {w : World} {ra : Option Addr} {n rc at_ : Nat} {l : List O} (h : OLies w (.slice ra n rc) l) (hat : at_ ≤ n) :
    ∃ A, (∀ W, (Instr.slice 34 (.slice ra n rc) (some (.int .i64 (at_ : Int))) none none).run Tryd.prog W = .ok (.slice A (n - at_) (rc - at_)) W) ∧ OLies w (.slice A (n - at_) (rc - at_)) (l.drop at_) := by
  have hlen := h.len
  have hcap : n ≤ rc ∧ rc ≤ maxLen := by obtain ⟨_, _, e, h1, h2, _⟩ := h; injection e with _ e1 e2; subst e1 e2; exact ⟨h1, h2⟩
  refine ⟨if rc = at_ then ra else ra.map (·.add (at_ * 9)), fun W => ?_, ?_⟩
  · rw [run_slice_l (P := Tryd.prog) (ht := Tryd.u27) (h0 := by omega) (h1 := by omega)]
    show _ = Result.ok (Value.slice (if rc = at_ then ra else ra.map (·.add (at_ * 9))) (n - at_) (rc - at_)) W
    rfl
  · obtain ⟨ao, cap, e, h1, h2, h3, h4⟩ := h
    injection e with e1 e2 e3
    subst e1 e2 e3
    have hdl : (l.drop at_).length = l.length - at_ := List.length_drop
    by_cases hrc : rc = at_
    · rw [if_pos hrc]
      have e0 : l.drop at_ = [] := List.eq_nil_of_length_eq_zero (by omega)
      rw [e0]
      exact ⟨_, _, by rw [show l.length - at_ = 0 by omega]; rfl, Nat.zero_le _, by omega, (fun e => ⟨rfl, by omega⟩), fun b hb hne => absurd rfl hne⟩
    · rw [if_neg hrc]
      refine ⟨_, rc - at_, by rw [hdl], by rw [hdl]; omega, by omega, fun e => ?_, fun b hb hne => ?_⟩
      · cases ra with
        | none => have := h3 rfl; exact ⟨by rw [this.1]; simp, by omega⟩
        | some b => cases e
      · cases ra with
        | none => cases hb
        | some b0 =>
          obtain ⟨k, o, rfl, hk, hc⟩ := h4 b0 rfl (fun e => hne (by rw [e]; simp))
          injection hb with hb
          subst hb
          refine ⟨k, o + at_ * 9, by show (⟨k, o, none⟩ : Addr).add (at_ * 9) = _; rw [add_addr], hk, fun j p hj i u hu => ?_⟩
          rw [List.getElem?_drop] at hj
          have := hc _ p hj i u hu
          rwa [show o + at_ * 9 + j * 9 + i = o + (at_ + j) * 9 + i by omega]
theorem clip {W W1 : World} {B b : Nat} {t : HS} (h : HK W B b t) (i : Nat) (hi : i < 64) (hb : Below W.heap.size W W1) (hB : B ≤ W.heap.size) (a : Option Addr) (n c : Nat) (l : List O) (hn : l.length = n) (hv : W1.ownsRow W.heap.size 40 9 (.slice a n c) n (cs9 l)) :
    ∃ W2, (Instr.storeAt 34 (pvo b (65 + i)) (.slice a n c)).run Tryd.prog W1 = .ok () W2 ∧ HOut B b t { t with S := sup t.S i (.slice a n c), L := fup t.L i l } W W2 := by
  subst hn
  have hb1 := (hb.block b h.blt).trans h.box
  exact ⟨_, run_storeV W1 b (65 + i) a _ c (t.S i) (by rw [cell_of_row _ _ _ _ _ _ hb1, hca, List.getElem?_toArray, hcl_s t h.len i hi]) (frozen_of_row _ _ _ _ _ hb1),
    HOut.sets h i hi (P := fun _ => False) (Far.of_below hb) (fun k q => q.elim) _ _ (Ve.own_less hv hB) (fun k e => .inr (own_lt hv k e).1)⟩
theorem run_storeI (W : World) (g o : Nat) (x y : Int) (h : W.cell? ⟨g, o, none⟩ = some (.int .i64 y)) (hf : W.frozen? ⟨g, o, none⟩ = false) : (Instr.storeAt 3 (pvo g o) (.int .i64 x)).run Tryd.prog W = .ok () (W.setCell ⟨g, o, none⟩ (.int .i64 x)) := by
  go_simp
/-- What stands in Trim's loop. -/
structure TRI (W0 wr : World) (B b : Nat) (s : HS) (vv : List Int) (ft fr : Int) (i : Nat) (t : HS) : Prop where
  out : HOut B b s t W0 wr
  md : t.md = s.md
  bs : t.bs = trB vv ft fr s.L s.bs i
  L : ∀ k, k < 64 → t.L k = if k < i then trL vv ft fr s.L k else s.L k
  S : ∀ k, i ≤ k → k < 64 → t.S k = s.S k
theorem trN_le {bs : List Int} {L : Nat → List O} {m : Nat} (g : Gd bs L m) (v : List Int) (ft fr : Int) : ∀ n, n ≤ 64 → 0 ≤ trN v ft fr L n ∧ trN v ft fr L n ≤ (n : Int) * m
  | 0, _ => by simp [trN]
  | n + 1, hn => by
    obtain ⟨h1, h2⟩ := trN_le g v ft fr n (by omega)
    have h3 := stays_le (v.getD n 0) ft fr (L n)
    have h4 := g.cnt n (by omega)
    rw [trN_succ]
    have h5 : ((n + 1 : Nat) : Int) * (m : Int) = (n : Int) * m + m := by rw [Int.natCast_add, Int.add_mul]; simp
    rw [h5]
    omega
theorem TRI.keep {W0 wr : World} {B b : Nat} {s t : HS} {vv : List Int} {ft fr : Int} {i : Nat} (h : TRI W0 wr B b s vv ft fr i t) (hi : i < 64) (h0 : stays (vv.getD i 0) ft fr (s.L i) = 0) (x : Int) (hx : s.bs[i]? = some x) (hl : s.bs.length = 64) {w' : World} (hb : Below wr.heap.size wr w') : TRI W0 w' B b s vv ft fr (i + 1) t := by
  refine ⟨h.out.then_below hb, h.md, ?_, fun k hk => ?_, fun k hk hk2 => h.S k (by omega) hk2⟩
  · rw [h.bs, trB_succ, h0, getD_some hx]
    have := (trB_get vv ft fr s.L s.bs i i x (by omega) hx).1
    rw [if_neg (Nat.lt_irrefl _)] at this
    rw [show x + ((0 : Nat) : Int) = x by omega, set_same this]
  · rw [h.L k hk]
    by_cases e : k = i
    · subst e
      rw [if_neg (Nat.lt_irrefl _), if_pos (Nat.lt_succ_self _)]
      unfold trL
      rw [h0, List.drop_zero]
    · by_cases e2 : k < i
      · rw [if_pos e2, if_pos (by omega)]
      · rw [if_neg e2, if_neg (by omega)]
set_option maxHeartbeats 6400000 in
theorem trim_any (w : World) (B b : Nat) (s : HS) (m : Nat) (h : HK w B b s) (g : Gd s.bs s.L m) (hm : m ≤ 1000) (hB : B ≤ w.heap.size) (vv : List Int) (hvv : vv.length = 64) (ft fr : Int) :
    Calls Tryd.prog 15 #[pv b, vw vv, .agg #[.int .i64 ft, .int .i64 fr]] w fun e w' => e = .returned (.int .i64 (trN vv ft fr s.L 64)) ∧ ∃ t, TRI w w' B b s vv ft fr 64 t := by
  have X1 := vstep w (.cells (va vv) 27)
  have X2 := vstep (w.alloc (.cells (va vv) 27)) (.cells #[.int .i64 ft, .int .i64 fr] 38)
  have RV := (X2.block w.heap.size (by simp)).trans (heap_alloc_new w (.cells (va vv) 27))
  have RF := heap_alloc_new (w.alloc (.cells (va vv) 27)) (.cells #[.int .i64 ft, .int .i64 fr] 38)
  rw [World.size_alloc] at RF
  have X := Lib.hid (X1.trans (X2.mono (by simp)))
  have HV := Lib.hid hvv
  have HU := Lib.hid (show vw vv = .agg (va vv) from rfl)
  have HB := Lib.hid h.base
  obtain ⟨W0, hW0⟩ : ∃ z, (w.alloc (.cells (va vv) 27)).alloc (.cells #[.int .i64 ft, .int .i64 fr] 38) = z := ⟨_, rfl⟩
  rw [hW0] at RV RF X
  have H0 := Lib.hid (h.step X.out)
  have LS := Lib.hid H0.out.loadS
  have OS := Lib.hid h.shape
  have IXX := Lib.hid h.ix
  have BX := Lib.hid h.bx
  have HL := Lib.hid h.len
  have G := Lib.hid g
  have HWD := Lib.hid hW0
  have RVH := Lib.hid RV
  have RFH := Lib.hid RF
  have HBW := Lib.hid hB
  have START := Lib.hid (show TRI W0 W0 B b s vv ft fr 0 s from ⟨HOut.refl H0.out, rfl, rfl, fun k _ => by rw [if_neg (Nat.not_lt_zero _)], fun k _ _ => rfl⟩)
  have FINISH := Lib.hid (fun wr t (h : TRI W0 wr B b s vv ft fr 64 t) => (⟨HOut.of_below X.out h.out, h.md, h.bs, h.L, h.S⟩ : TRI w wr B b s vv ft fr 64 t))
  rw [HU.out]
  obtain ⟨V, hV⟩ : ∃ V, va vv = V := ⟨_, rfl⟩
  rw [hV] at HWD ⊢
  generalize hT : (sv s.S).toArray = T at *
  clear hT h g hvv X1 X2 RV RF hW0 hB hV
  go_enter Tryd.func15, Tryd.ntmps15
  go_upto_region 4 with fail
  rw [HWD.out]
  go_wp2_with (first | refine Ve.wpList_load_arr rfl (.tmp 15) 64 rfl _ _ rfl LS.out ?_)
  clear LS HWD
  go_loopw [7, 17] (fun nv iv wr => ∃ (i : Nat) (n : Int), iv = .int .i64 i ∧ i ≤ 64 ∧ nv = .int .i64 n ∧ Hid (n = trN vv ft fr s.L i) ∧ Hid (∃ t, TRI W0 wr B b s vv ft fr i t)) (fun _ iv _ => 64 - (intOf iv).toNat)
  case atStart => exact ⟨0, 0, rfl, Nat.zero_le _, rfl, Lib.hid rfl, Lib.hid ⟨s, START.out⟩⟩
  case round =>
    obtain ⟨i, n, rfl, hi, rfl, hN, hI⟩ := hrel
    obtain ⟨t, ht⟩ := hI.out
    have TT := Lib.hid ht
    by_cases hlt : i < 64
    · obtain ⟨y, hy⟩ := BX.out i hlt
      obtain ⟨x, hx⟩ : ∃ x, vv[i]? = some x := Ve.va_len vv HV.out i hlt
      obtain ⟨ao, cap, e⟩ := OS.out i hlt
      have IX := fun W => IXX.out i hlt W
      have BW := vstep wr (.cells #[.int .i64 (i : Int)] 3)
      have RR := heap_alloc_new wr (.cells #[.int .i64 (i : Int)] 3)
      obtain ⟨W1, hW1⟩ : ∃ z, wr.alloc (.cells #[.int .i64 (i : Int)] 3) = z := ⟨_, rfl⟩
      rw [hW1] at BW RR
      have HW1 := Lib.hid hW1
      have nv : ¬ HasH b s w.heap.size := fun q => by have := (HB.out _ q).2; omega
      have nf : ¬ HasH b s (w.heap.size + 1) := fun q => by have := (HB.out _ q).2; omega
      have CLr : CL W1 w.heap.size wr.heap.size (w.heap.size + 1) vv i ft fr := by
        have k1 := (ht.out.far.block _ (lt_of_block RVH.out) nv).trans RVH.out
        have k2 := (ht.out.far.block _ (lt_of_block RFH.out) nf).trans RFH.out
        exact ⟨(BW.block _ (lt_of_block k1)).trans k1, RR, (BW.block _ (lt_of_block k2)).trans k2⟩
      have T1 := ht.out.then_below BW
      have eS : t.S i = s.S i := ht.S i (Nat.le_refl _) hlt
      have eL : t.L i = s.L i := by rw [ht.L i hlt, if_neg (Nat.lt_irrefl _)]
      have OL := T1.hk.olies i hlt
      rw [eS, eL] at OL
      have hxd : vv.getD i 0 = x := getD_some hx
      have ID := Lib.hid (index_any W1 w.heap.size wr.heap.size (w.heap.size + 1) vv i hlt ft fr x CLr hx (s.S i) (s.L i) OL)
      have hcnt := G.out.cnt i hlt
      obtain ⟨q, hq⟩ : ∃ q, stays x ft fr (s.L i) = q := ⟨_, rfl⟩
      have hqle := stays_le x ft fr (s.L i)
      have NB := trN_le G.out vv ft fr i hi
      have NS := trN_succ vv ft fr s.L i
      rw [hxd, hq] at NS
      rw [hq] at ID hqle
      have CLH := Lib.hid CLr
      have OLH := Lib.hid OL
      have T1H := Lib.hid T1
      have BWH := Lib.hid BW
      have HE := Lib.hid e
      have HES := Lib.hid eS
      have HEL := Lib.hid eL
      have HQ := Lib.hid hq
      have HX := Lib.hid hx
      have HXD := Lib.hid hxd
      have HY := Lib.hid hy
      have NBH := Lib.hid NB
      have NSH := Lib.hid NS
      have hmm : (i : Int) * m ≤ 64000 := by
        have h1 : (i : Int) ≤ 64 := by omega
        have h2 : (m : Int) ≤ 1000 := by omega
        have h3 := Int.mul_le_mul h1 h2 (by omega) (by omega)
        omega
      have HNB := Lib.hid (show 0 ≤ n ∧ n ≤ 64000 by rw [hN.out]; omega)
      rw [e] at IX ID
      have SI := Lib.hid (show staysI q (s.L i) = if q < (s.L i).length then (q : Int) else -1 from rfl)
      have i0 : (0 : Int) ≤ (i : Int) := by omega
      have i1 : (i : Int) < 64 := by omega
      obtain ⟨N, hNl⟩ : ∃ N, (s.L i).length = N := ⟨_, rfl⟩
      rw [hNl] at IX ID SI hqle hcnt
      have HNL := Lib.hid hNl
      clear CLr OL T1 BW e eS eL hq hx hy hxd NB NS ht hI hW1 nv nf RR hNl hmm
      go_upto_region 7 with fail
      rw [HW1.out]
      go_wp2_with fail
      refine ID.out.mono ?_
      rintro e w2 ⟨rfl, hb⟩
      have B2 := Lib.hid hb
      rw [SI.out]
      clear hb ID SI
      have hcase : (q < N ∧ (if q < N then (q : Int) else -1) = (q : Int)) ∨ (q = N ∧ (if q < N then (q : Int) else -1) = -1) := by
        by_cases h : q < N
        · exact .inl ⟨h, if_pos h⟩
        · exact .inr ⟨by omega, if_neg h⟩
      generalize (if q < N then (q : Int) else -1) = z at *
      rcases Nat.eq_zero_or_pos q with h0 | h0
      · have TK := Lib.hid (TT.out.keep hlt (by rw [HXD.out, HQ.out, h0]) y HY.out HL.out (BWH.out.trans (B2.out.mono BWH.out.size)))
        have NN := Lib.hid (show n = trN vv ft fr s.L (i + 1) by rw [NSH.out, h0, hN.out]; omega)
        subst h0
        rcases hcase with ⟨hc, rfl⟩ | ⟨hc, rfl⟩
        · go_wp2
          go_roundw
          case rel => exact ⟨i + 1, n, by go_num, by omega, rfl, NN, Lib.hid ⟨t, TK.out⟩⟩
          case measure => simp [intOf]; omega
        · subst hc
          go_wp2
          go_roundw
          case rel => exact ⟨i + 1, n, by go_num, by omega, rfl, NN, Lib.hid ⟨t, TK.out⟩⟩
          case measure => simp [intOf]; omega
      · have hq0 : (0 : Int) < (q : Int) := by omega
        obtain ⟨wd, hwd⟩ : ∃ zz, w2.drew = zz := ⟨_, rfl⟩
        have BD : Below w2.heap.size w2 wd := by rw [← hwd]; exact (Below.refl _ _).drew
        have BD2 := B2.out.trans (BD.mono B2.out.size)
        have CD := CLH.out.step BD2
        have TD := T1H.out.then_below BD2
        have OD := OLH.out.step BD2
        rw [HE.out, HNL.out] at OD
        obtain ⟨A, SLA, OA⟩ := OD.tail hqle
        have hdl : ((s.L i).drop q).length = N - q := by rw [List.length_drop, HNL.out]
        have CLO := clone_ops wd _ _ OA (by omega)
        rw [hdl] at CLO
        have CT := Lib.hid CLO
        have SL := Lib.hid (fun W => (run_sliceAt_slice (P := Tryd.prog) W 34 _ _ _ _ Tryd.u27).trans (SLA W))
        have LD1 := Lib.hid (ldI (W := wd) (CD.cells HX.out).2.1)
        have CDH := Lib.hid CD
        have TDH := Lib.hid TD
        have HWD := Lib.hid hwd
        have IX6 := Lib.hid (fun W => ix64 (b := b) hlt W)
        have IX2 := Lib.hid (fun W => ix27 (b := b) (o := 1) hlt W)
        have DLH := Lib.hid hdl
        have BYH := Lib.hid (show t.bs[i]? = some y by
          rw [TT.out.bs, (trB_get vv ft fr s.L s.bs i i y (by have := HL.out; omega) HY.out).1, if_neg (Nat.lt_irrefl _)])
        have hyb := G.out.bb i y HY.out
        have HYB := Lib.hid hyb
        have NKR := Lib.hid (fun qq : HasH b t wr.heap.size => Nat.lt_irrefl _ (TT.out.out.hk.base _ qq).2)
        clear hwd BD BD2 CD TD OD SLA OA hdl CLO hyb
        obtain ⟨D, hD⟩ : ∃ D, N - q = D := ⟨_, rfl⟩
        obtain ⟨CC, hCC⟩ : ∃ CC, cap - q = CC := ⟨_, rfl⟩
        rw [hD] at CT DLH SL
        rw [hCC] at CT SL
        clear hD hCC
        rcases hcase with ⟨hc, rfl⟩ | ⟨rfl, rfl⟩
        all_goals
          go_upto_region 11 with fail
          refine wp_region_held_drew (S := fun _ => True) (by kernel_rfl) trivial (fun _ => ?_)
          rw [HWD.out]
          refine take_at (i := 0) 30 ?_ rfl rfl (by kernel_rfl) (by kernel_rfl) (by kernel_rfl) (fun _ _ _ h => h) (.inl ⟨rfl, ?_⟩) trivial ?_
          rotate_left 1
          · intro w hSw; go_simp; try with_reducible rfl
          simp only [Act.put, List.setIfInBounds_toArray, List.set_cons_zero, List.set_cons_succ]
          refine take_at (i := 2) 32 ?_ rfl rfl (by kernel_rfl) (by kernel_rfl) (by kernel_rfl) (fun _ _ _ h => h) (.inl ⟨rfl, ?_⟩) trivial ?_
          rotate_left 1
          · intro w hSw; go_simp; try with_reducible rfl
          simp only [Act.put, List.setIfInBounds_toArray, List.set_cons_zero, List.set_cons_succ]
          refine take_at (i := 3) 33 ?_ rfl rfl (by kernel_rfl) (by kernel_rfl) (by kernel_rfl) (fun _ _ _ h => h) (.inl ⟨rfl, ?_⟩) trivial ?_
          rotate_left 1
          · intro w hSw; go_simp; try with_reducible rfl
          simp only [Act.put, List.setIfInBounds_toArray, List.set_cons_zero, List.set_cons_succ]
          refine take_at (i := 4) 34 (.slice A D CC) rfl rfl (by kernel_rfl) (by kernel_rfl) (by kernel_rfl) (fun _ _ _ h => h) (yields_slt (.tmp 32) (.tmp 33) 34 _ _ _ (fun W => SL.out W) rfl rfl rfl rfl) trivial ?_
          simp only [Act.put, List.setIfInBounds_toArray, List.set_cons_zero, List.set_cons_succ]
          refine take_at (i := 6) 36 ?_ rfl rfl (by kernel_rfl) (by kernel_rfl) (by kernel_rfl) (fun _ _ _ h => h) (.inl ⟨rfl, ?_⟩) trivial ?_
          rotate_left 1
          · intro w hSw; go_simp; try with_reducible rfl
          simp only [Act.put, List.setIfInBounds_toArray, List.set_cons_zero, List.set_cons_succ]
          refine take_at (i := 7) 37 ?_ rfl rfl (by kernel_rfl) (by kernel_rfl) (by kernel_rfl) (fun _ _ _ h => h) (.inl ⟨rfl, ?_⟩) trivial ?_
          rotate_left 1
          · intro w hSw; go_simp; try with_reducible rfl
          simp only [Act.put, List.setIfInBounds_toArray, List.set_cons_zero, List.set_cons_succ]
          refine wpAnyH_ready (rs := [1, 5]) (by kernel_rfl) (by simp) (br_load (i := 1) 31 (.tmp 8) 3 _ (.int .i64 (i : Int)) rfl rfl rfl rfl rfl (LD1.out) trivial (fun _ => ?_) (br_call (i := 5) 35 40 #[.slice A D CC] rfl rfl rfl (by go_simp) ((CT.out).mono ?_) AllReadyH.nil))
          · simp only [Act.put, List.setIfInBounds_toArray, List.set_cons_zero, List.set_cons_succ]
            refine wpAnyH_ready (rs := [5]) (by kernel_rfl) (by simp) (br_call (i := 5) 35 40 #[.slice A D CC] rfl rfl rfl (by go_simp) ((CT.out).mono ?_) AllReadyH.nil)
            rintro e w3 ⟨r3, rfl, hr3, hb3⟩
            obtain ⟨a3, c3, rfl⟩ := Ve.own_shape hr3
            obtain ⟨w4, hs4, ho4⟩ := clip TDH.out.hk i hlt hb3 (by have := TDH.out.far.size; have := X.out.size; have := HBW.out; omega) a3 _ c3 _ DLH.out hr3
            have HS := Lib.hid hs4
            have LD1e := Lib.hid (ldI (W := w3) ((CDH.out.step hb3).cells HX.out).2.1)
            have TO := Lib.hid (TDH.out.trans ho4)
            have KR := Lib.hid (show w4.heap[wr.heap.size]? = some (.cells #[.int .i64 (i : Int)] 3 (0, 0)) from (ho4.far.block _ (lt_of_block CDH.out.r) NKR.out).trans CDH.out.r)
            clear hr3 hb3 hs4 ho4
            refine ⟨_, rfl, trivial, fun _ => ?_⟩
            simp only [Act.put, List.setIfInBounds_toArray, List.set_cons_zero, List.set_cons_succ]
            refine take_at (i := 8) 38 (pvo b (65 + i)) rfl rfl (by kernel_rfl) (by kernel_rfl) (by kernel_rfl) (fun _ _ _ h => h) (yields_ixp (.tmp 37) (.tmp 31) 64 (pvo b 65) (.int .i64 (i : Int)) _ (fun W => IX6.out W) rfl rfl rfl rfl) trivial ?_
            simp only [Act.put, List.setIfInBounds_toArray, List.set_cons_zero, List.set_cons_succ]
            refine wpAnyH_ready (rs := [9]) (by kernel_rfl) (by simp) (br_store (i := 9) 34 (.tmp 38) (.tmp 35) _ _ w4 rfl rfl rfl rfl rfl rfl HS.out trivial (fun _ => ?_) AllReadyH.nil)
            simp only [Act.put, List.setIfInBounds_toArray, List.set_cons_zero, List.set_cons_succ]
            refine wpAnyH_done (by kernel_rfl) ?_ _
            obtain ⟨we, hwe⟩ : ∃ zz, w4.drew = zz := ⟨_, rfl⟩
            have BE : Below w4.heap.size w4 we := by rw [← hwe]; exact (Below.refl _ _).drew
            have HWE := Lib.hid hwe
            have TE := Lib.hid (TO.out.then_below BE)
            have KE := (BE.block _ (lt_of_block KR.out)).trans KR.out
            have LDr := Lib.hid (ldI (W := we) (g := wr.heap.size) (o := 0) (x := (i : Int)) (by rw [cell_of_row _ _ _ _ _ _ KE]; rfl))
            have LDb := Lib.hid (ldI (W := we) (TE.out.hk.cb i y BYH.out))
            obtain ⟨yz, hyz⟩ : ∃ yz, IntKind.i64.wrap (y + (q : Int)) = yz := ⟨_, rfl⟩
            have hyz2 : yz = y + (q : Int) := by rw [← hyz, IntKind.wrap_i64]; have := HYB.out; omega
            have hyz3 : wrap64 (y + (q : Int)) = yz := by rw [hyz2]; unfold wrap64; have := HYB.out; omega
            obtain ⟨nz, hnz⟩ : ∃ nz, wrap64 (n + (q : Int)) = nz := ⟨_, rfl⟩
            have NN2 := Lib.hid (show nz = trN vv ft fr s.L (i + 1) by rw [NSH.out, ← hN.out, ← hnz]; have := HNB.out; unfold wrap64; omega)
            obtain ⟨w6, hs6, ho6⟩ : ∃ w6, (Instr.storeAt 3 (pvo b (1 + i)) (.int .i64 yz)).run Tryd.prog we = .ok () w6 ∧ HOut B b _ _ we w6 := ⟨_, run_storeI we b (1 + i) yz y (TE.out.hk.cb i y BYH.out) (TE.out.hk.free _), HOut.setb TE.out.hk i hlt yz⟩
            have HS6 := Lib.hid hs6
            have FIN := Lib.hid (show ∃ t, TRI W0 w6 B b s vv ft fr (i + 1) t from ⟨_, TE.out.trans ho6, TT.out.md, by
                show t.bs.set i yz = _
                rw [TT.out.bs, trB_succ, HXD.out, HQ.out, getD_some HY.out, hyz2], fun k hk => by
                show fup t.L i ((s.L i).drop q) k = _
                by_cases e : k = i
                · subst e
                  rw [fup_same, if_pos (Nat.lt_succ_self _)]
                  unfold trL
                  rw [HXD.out, HQ.out]
                · rw [fup_other _ _ _ _ e, TT.out.L k hk]
                  by_cases e2 : k < i
                  · rw [if_pos e2, if_pos (by omega)]
                  · rw [if_neg e2, if_neg (by omega)], fun k hk hk2 => by
                show sup t.S i _ k = _
                rw [sup_other _ _ _ _ (by omega)]
                exact TT.out.S k (by omega) hk2⟩)
            clear hwe BE KE hyz2 hs6 ho6
            go_upto_region 12 with fail
            refine wp_region_held_drew (S := fun _ => True) (by kernel_rfl) trivial (fun _ => ?_)
            rw [HWE.out]
            refine take_at (i := 0) 39 ?_ rfl rfl (by kernel_rfl) (by kernel_rfl) (by kernel_rfl) (fun _ _ _ h => h) (.inl ⟨rfl, ?_⟩) trivial ?_
            rotate_left 1
            · intro w hSw; go_simp; try with_reducible rfl
            simp only [Act.put, List.setIfInBounds_toArray, List.set_cons_zero, List.set_cons_succ]
            refine take_at (i := 2) 41 ?_ rfl rfl (by kernel_rfl) (by kernel_rfl) (by kernel_rfl) (fun _ _ _ h => h) (.inl ⟨rfl, ?_⟩) trivial ?_
            rotate_left 1
            · intro w hSw; go_simp; try with_reducible rfl
            simp only [Act.put, List.setIfInBounds_toArray, List.set_cons_zero, List.set_cons_succ]
            refine take_at (i := 3) 42 ?_ rfl rfl (by kernel_rfl) (by kernel_rfl) (by kernel_rfl) (fun _ _ _ h => h) (.inl ⟨rfl, ?_⟩) trivial ?_
            rotate_left 1
            · intro w hSw; go_simp; try with_reducible rfl
            simp only [Act.put, List.setIfInBounds_toArray, List.set_cons_zero, List.set_cons_succ]
            refine take_at (i := 6) 45 ?_ rfl rfl (by kernel_rfl) (by kernel_rfl) (by kernel_rfl) (fun _ _ _ h => h) (.inl ⟨rfl, ?_⟩) trivial ?_
            rotate_left 1
            · intro w hSw; go_simp; try with_reducible rfl
            simp only [Act.put, List.setIfInBounds_toArray, List.set_cons_zero, List.set_cons_succ]
            refine take_at (i := 8) 47 ?_ rfl rfl (by kernel_rfl) (by kernel_rfl) (by kernel_rfl) (fun _ _ _ h => h) (.inl ⟨rfl, ?_⟩) trivial ?_
            rotate_left 1
            · intro w hSw; go_simp; try with_reducible rfl
            simp only [Act.put, List.setIfInBounds_toArray, List.set_cons_zero, List.set_cons_succ]
            refine take_at (i := 9) 48 ?_ rfl rfl (by kernel_rfl) (by kernel_rfl) (by kernel_rfl) (fun _ _ _ h => h) (.inl ⟨rfl, ?_⟩) trivial ?_
            rotate_left 1
            · intro w hSw; go_simp; try with_reducible rfl
            simp only [Act.put, List.setIfInBounds_toArray, List.set_cons_zero, List.set_cons_succ]
            refine wpAnyH_ready (rs := [1]) (by kernel_rfl) (by simp) (br_load (i := 1) 40 (.tmp 8) 3 _ (.int .i64 (i : Int)) rfl rfl rfl rfl rfl (LDr.out) trivial (fun _ => ?_) AllReadyH.nil)
            simp only [Act.put, List.setIfInBounds_toArray, List.set_cons_zero, List.set_cons_succ]
            refine take_at (i := 4) 43 (pvo b (1 + i)) rfl rfl (by kernel_rfl) (by kernel_rfl) (by kernel_rfl) (fun _ _ _ h => h) (yields_ixp (.tmp 42) (.tmp 40) 27 (pvo b 1) (.int .i64 (i : Int)) _ (fun W => IX2.out W) rfl rfl rfl rfl) trivial ?_
            simp only [Act.put, List.setIfInBounds_toArray, List.set_cons_zero, List.set_cons_succ]
            refine wpAnyH_ready (rs := [5]) (by kernel_rfl) (by simp) (br_load (i := 5) 44 (.tmp 43) 3 _ (.int .i64 y) rfl rfl rfl rfl rfl (LDb.out) trivial (fun _ => ?_) AllReadyH.nil)
            simp only [Act.put, List.setIfInBounds_toArray, List.set_cons_zero, List.set_cons_succ]
            refine take_at (i := 7) 46 ?_ rfl rfl (by kernel_rfl) (by kernel_rfl) (by kernel_rfl) (fun _ _ _ h => h) (.inl ⟨rfl, ?_⟩) trivial ?_
            rotate_left 1
            · intro w hSw; go_simp; try with_reducible rfl
            simp only [Act.put, List.setIfInBounds_toArray, List.set_cons_zero, List.set_cons_succ]
            refine take_at (i := 10) 49 (pvo b (1 + i)) rfl rfl (by kernel_rfl) (by kernel_rfl) (by kernel_rfl) (fun _ _ _ h => h) (yields_ixp (.tmp 48) (.tmp 40) 27 (pvo b 1) (.int .i64 (i : Int)) _ (fun W => IX2.out W) rfl rfl rfl rfl) trivial ?_
            simp only [Act.put, List.setIfInBounds_toArray, List.set_cons_zero, List.set_cons_succ]
            refine wpAnyH_ready (rs := [11]) (by kernel_rfl) (by simp) (br_store (i := 11) 3 (.tmp 49) (.tmp 46) _ _ w6 rfl rfl rfl rfl rfl rfl HS6.out trivial (fun _ => ?_) AllReadyH.nil)
            simp only [Act.put, List.setIfInBounds_toArray, List.set_cons_zero, List.set_cons_succ]
            refine wpAnyH_done (by kernel_rfl) ?_ _
            go_wp2
            go_roundw
            case rel => exact ⟨i + 1, nz, by go_num, by omega, by first | rfl | rw [hnz], NN2, FIN⟩
            case measure => simp [intOf]; omega
          · rintro e w3 ⟨r3, rfl, hr3, hb3⟩
            obtain ⟨a3, c3, rfl⟩ := Ve.own_shape hr3
            obtain ⟨w4, hs4, ho4⟩ := clip TDH.out.hk i hlt hb3 (by have := TDH.out.far.size; have := X.out.size; have := HBW.out; omega) a3 _ c3 _ DLH.out hr3
            have HS := Lib.hid hs4
            have LD1e := Lib.hid (ldI (W := w3) ((CDH.out.step hb3).cells HX.out).2.1)
            have TO := Lib.hid (TDH.out.trans ho4)
            have KR := Lib.hid (show w4.heap[wr.heap.size]? = some (.cells #[.int .i64 (i : Int)] 3 (0, 0)) from (ho4.far.block _ (lt_of_block CDH.out.r) NKR.out).trans CDH.out.r)
            clear hr3 hb3 hs4 ho4
            refine ⟨_, rfl, trivial, fun _ => ?_⟩
            simp only [Act.put, List.setIfInBounds_toArray, List.set_cons_zero, List.set_cons_succ]
            refine wpAnyH_ready (rs := [1]) (by kernel_rfl) (by simp) (br_load (i := 1) 31 (.tmp 8) 3 _ (.int .i64 (i : Int)) rfl rfl rfl rfl rfl (LD1e.out) trivial (fun _ => ?_) AllReadyH.nil)
            simp only [Act.put, List.setIfInBounds_toArray, List.set_cons_zero, List.set_cons_succ]
            refine take_at (i := 8) 38 (pvo b (65 + i)) rfl rfl (by kernel_rfl) (by kernel_rfl) (by kernel_rfl) (fun _ _ _ h => h) (yields_ixp (.tmp 37) (.tmp 31) 64 (pvo b 65) (.int .i64 (i : Int)) _ (fun W => IX6.out W) rfl rfl rfl rfl) trivial ?_
            simp only [Act.put, List.setIfInBounds_toArray, List.set_cons_zero, List.set_cons_succ]
            refine wpAnyH_ready (rs := [9]) (by kernel_rfl) (by simp) (br_store (i := 9) 34 (.tmp 38) (.tmp 35) _ _ w4 rfl rfl rfl rfl rfl rfl HS.out trivial (fun _ => ?_) AllReadyH.nil)
            simp only [Act.put, List.setIfInBounds_toArray, List.set_cons_zero, List.set_cons_succ]
            refine wpAnyH_done (by kernel_rfl) ?_ _
            obtain ⟨we, hwe⟩ : ∃ zz, w4.drew = zz := ⟨_, rfl⟩
            have BE : Below w4.heap.size w4 we := by rw [← hwe]; exact (Below.refl _ _).drew
            have HWE := Lib.hid hwe
            have TE := Lib.hid (TO.out.then_below BE)
            have KE := (BE.block _ (lt_of_block KR.out)).trans KR.out
            have LDr := Lib.hid (ldI (W := we) (g := wr.heap.size) (o := 0) (x := (i : Int)) (by rw [cell_of_row _ _ _ _ _ _ KE]; rfl))
            have LDb := Lib.hid (ldI (W := we) (TE.out.hk.cb i y BYH.out))
            obtain ⟨yz, hyz⟩ : ∃ yz, IntKind.i64.wrap (y + (q : Int)) = yz := ⟨_, rfl⟩
            have hyz2 : yz = y + (q : Int) := by rw [← hyz, IntKind.wrap_i64]; have := HYB.out; omega
            have hyz3 : wrap64 (y + (q : Int)) = yz := by rw [hyz2]; unfold wrap64; have := HYB.out; omega
            obtain ⟨nz, hnz⟩ : ∃ nz, wrap64 (n + (q : Int)) = nz := ⟨_, rfl⟩
            have NN2 := Lib.hid (show nz = trN vv ft fr s.L (i + 1) by rw [NSH.out, ← hN.out, ← hnz]; have := HNB.out; unfold wrap64; omega)
            obtain ⟨w6, hs6, ho6⟩ : ∃ w6, (Instr.storeAt 3 (pvo b (1 + i)) (.int .i64 yz)).run Tryd.prog we = .ok () w6 ∧ HOut B b _ _ we w6 := ⟨_, run_storeI we b (1 + i) yz y (TE.out.hk.cb i y BYH.out) (TE.out.hk.free _), HOut.setb TE.out.hk i hlt yz⟩
            have HS6 := Lib.hid hs6
            have FIN := Lib.hid (show ∃ t, TRI W0 w6 B b s vv ft fr (i + 1) t from ⟨_, TE.out.trans ho6, TT.out.md, by
                show t.bs.set i yz = _
                rw [TT.out.bs, trB_succ, HXD.out, HQ.out, getD_some HY.out, hyz2], fun k hk => by
                show fup t.L i ((s.L i).drop q) k = _
                by_cases e : k = i
                · subst e
                  rw [fup_same, if_pos (Nat.lt_succ_self _)]
                  unfold trL
                  rw [HXD.out, HQ.out]
                · rw [fup_other _ _ _ _ e, TT.out.L k hk]
                  by_cases e2 : k < i
                  · rw [if_pos e2, if_pos (by omega)]
                  · rw [if_neg e2, if_neg (by omega)], fun k hk hk2 => by
                show sup t.S i _ k = _
                rw [sup_other _ _ _ _ (by omega)]
                exact TT.out.S k (by omega) hk2⟩)
            clear hwe BE KE hyz2 hs6 ho6
            go_upto_region 12 with fail
            refine wp_region_held_drew (S := fun _ => True) (by kernel_rfl) trivial (fun _ => ?_)
            rw [HWE.out]
            refine take_at (i := 0) 39 ?_ rfl rfl (by kernel_rfl) (by kernel_rfl) (by kernel_rfl) (fun _ _ _ h => h) (.inl ⟨rfl, ?_⟩) trivial ?_
            rotate_left 1
            · intro w hSw; go_simp; try with_reducible rfl
            simp only [Act.put, List.setIfInBounds_toArray, List.set_cons_zero, List.set_cons_succ]
            refine take_at (i := 2) 41 ?_ rfl rfl (by kernel_rfl) (by kernel_rfl) (by kernel_rfl) (fun _ _ _ h => h) (.inl ⟨rfl, ?_⟩) trivial ?_
            rotate_left 1
            · intro w hSw; go_simp; try with_reducible rfl
            simp only [Act.put, List.setIfInBounds_toArray, List.set_cons_zero, List.set_cons_succ]
            refine take_at (i := 3) 42 ?_ rfl rfl (by kernel_rfl) (by kernel_rfl) (by kernel_rfl) (fun _ _ _ h => h) (.inl ⟨rfl, ?_⟩) trivial ?_
            rotate_left 1
            · intro w hSw; go_simp; try with_reducible rfl
            simp only [Act.put, List.setIfInBounds_toArray, List.set_cons_zero, List.set_cons_succ]
            refine take_at (i := 6) 45 ?_ rfl rfl (by kernel_rfl) (by kernel_rfl) (by kernel_rfl) (fun _ _ _ h => h) (.inl ⟨rfl, ?_⟩) trivial ?_
            rotate_left 1
            · intro w hSw; go_simp; try with_reducible rfl
            simp only [Act.put, List.setIfInBounds_toArray, List.set_cons_zero, List.set_cons_succ]
            refine take_at (i := 8) 47 ?_ rfl rfl (by kernel_rfl) (by kernel_rfl) (by kernel_rfl) (fun _ _ _ h => h) (.inl ⟨rfl, ?_⟩) trivial ?_
            rotate_left 1
            · intro w hSw; go_simp; try with_reducible rfl
            simp only [Act.put, List.setIfInBounds_toArray, List.set_cons_zero, List.set_cons_succ]
            refine take_at (i := 9) 48 ?_ rfl rfl (by kernel_rfl) (by kernel_rfl) (by kernel_rfl) (fun _ _ _ h => h) (.inl ⟨rfl, ?_⟩) trivial ?_
            rotate_left 1
            · intro w hSw; go_simp; try with_reducible rfl
            simp only [Act.put, List.setIfInBounds_toArray, List.set_cons_zero, List.set_cons_succ]
            refine wpAnyH_ready (rs := [1]) (by kernel_rfl) (by simp) (br_load (i := 1) 40 (.tmp 8) 3 _ (.int .i64 (i : Int)) rfl rfl rfl rfl rfl (LDr.out) trivial (fun _ => ?_) AllReadyH.nil)
            simp only [Act.put, List.setIfInBounds_toArray, List.set_cons_zero, List.set_cons_succ]
            refine take_at (i := 4) 43 (pvo b (1 + i)) rfl rfl (by kernel_rfl) (by kernel_rfl) (by kernel_rfl) (fun _ _ _ h => h) (yields_ixp (.tmp 42) (.tmp 40) 27 (pvo b 1) (.int .i64 (i : Int)) _ (fun W => IX2.out W) rfl rfl rfl rfl) trivial ?_
            simp only [Act.put, List.setIfInBounds_toArray, List.set_cons_zero, List.set_cons_succ]
            refine wpAnyH_ready (rs := [5]) (by kernel_rfl) (by simp) (br_load (i := 5) 44 (.tmp 43) 3 _ (.int .i64 y) rfl rfl rfl rfl rfl (LDb.out) trivial (fun _ => ?_) AllReadyH.nil)
            simp only [Act.put, List.setIfInBounds_toArray, List.set_cons_zero, List.set_cons_succ]
            refine take_at (i := 7) 46 ?_ rfl rfl (by kernel_rfl) (by kernel_rfl) (by kernel_rfl) (fun _ _ _ h => h) (.inl ⟨rfl, ?_⟩) trivial ?_
            rotate_left 1
            · intro w hSw; go_simp; try with_reducible rfl
            simp only [Act.put, List.setIfInBounds_toArray, List.set_cons_zero, List.set_cons_succ]
            refine take_at (i := 10) 49 (pvo b (1 + i)) rfl rfl (by kernel_rfl) (by kernel_rfl) (by kernel_rfl) (fun _ _ _ h => h) (yields_ixp (.tmp 48) (.tmp 40) 27 (pvo b 1) (.int .i64 (i : Int)) _ (fun W => IX2.out W) rfl rfl rfl rfl) trivial ?_
            simp only [Act.put, List.setIfInBounds_toArray, List.set_cons_zero, List.set_cons_succ]
            refine wpAnyH_ready (rs := [11]) (by kernel_rfl) (by simp) (br_store (i := 11) 3 (.tmp 49) (.tmp 46) _ _ w6 rfl rfl rfl rfl rfl rfl HS6.out trivial (fun _ => ?_) AllReadyH.nil)
            simp only [Act.put, List.setIfInBounds_toArray, List.set_cons_zero, List.set_cons_succ]
            refine wpAnyH_done (by kernel_rfl) ?_ _
            go_wp2
            go_roundw
            case rel => exact ⟨i + 1, nz, by go_num, by omega, by first | rfl | rw [hnz], NN2, FIN⟩
            case measure => simp [intOf]; omega
    · have h64 : i = 64 := by omega
      subst h64
      have NE := Lib.hid (show n = trN vv ft fr s.L 64 from hN.out)
      have FE := Lib.hid (FINISH.out _ _ TT.out)
      clear hI ht hN
      go_wp2
      go_returns
      exact ⟨by rw [← NE.out]; rfl, t, FE.out⟩
end Go.Proofs.YtgnnpfainoppeaaDoor
