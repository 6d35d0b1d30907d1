/- Merged by tools/merge.py: PY, RQ, RP, PZ, RW, RX. -/
import Derived.Test.YtbeodechhneeeaaDoorUQ

set_option linter.unusedVariables false
set_option linter.unusedSimpArgs false
set_option maxRecDepth 100000
namespace Go.Proofs.YtbeodechhneeeaaDoor
open Go.RowKit Go.Shelf
open Tb (Rw setF getF aboveF Rise TabI TM LiesK LiesR)

/-- What is handed back lies where the old one did, or in a new block. -/
def Spr (n : Nat) (W : World) (v r : Value) : Prop := ∀ k, r.ownBlock = some k → v.ownBlock = some k ∨ (n ≤ k ∧ k < W.heap.size)
theorem Spr.refl (n : Nat) (W : World) (v : Value) : Spr n W v v := fun k e => .inl e
theorem Spr.trans {n m : Nat} {W W' : World} {a b c : Value} (h1 : Spr n W a b) (h2 : Spr m W' b c) (hs : n ≤ m) (hb : W.heap.size ≤ W'.heap.size) : Spr n W' a c := fun k e => (h2 k e).elim (fun e => (h1 k e).elim .inl (fun q => .inr ⟨q.1, Nat.lt_of_lt_of_le q.2 hb⟩)) (fun e => .inr ⟨Nat.le_trans hs e.1, e.2⟩)
theorem Frs.spr {n : Nat} {W : World} {v r : Value} (h : Frs n W r) : Spr n W v r := fun k e => .inr (h k e)
structure PX (w W : World) (o : O) : Prop where
  bel : Below w.heap.size w W
  box : W.heap[w.heap.size]? = some (.cells (oCells o) 48 (0, 0))
theorem PX.step {w W W' : World} {o : O} (h : PX w W o) (hb : Below W.heap.size W W') : PX w W' o := ⟨h.bel.trans (hb.mono h.bel.size), (hb.block _ (pl_lt h.box)).trans h.box⟩
set_option maxHeartbeats 3200000 in
theorem one_any (w : World) (v : Value) (l : List Rw) (o : O) (h : LiesR w v l) (hl : l.length ≤ 1000) (hr : Rise l) :
    Calls Tryd.prog 46 #[v, oV o] w fun e w' => ∃ r, e = .returned (.tuple #[r, .bool (!skipF l o)]) ∧ LiesR w' r (doF l o) ∧ Below w.heap.size w w' ∧ Spr w.heap.size w' v r := by
  have K0 := Lib.hid (show PX w (w.alloc (.cells (oCells o) 48)) o from ⟨pl_vstep w _, heap_alloc_new w _⟩)
  have HH := Lib.hid h
  have DF := Lib.hid (show doF l o = if skipF l o = true then l else setF l (rwO o) from rfl)
  have SK := Lib.hid (show skipF l o = (decide (o.nt = o.pt ∧ o.nr = o.pr) || aboveF l o.nt o.nr l.length o.pt o.pr) from rfl)
  have AB := Lib.hid (fun W (hW : Below w.heap.size w W) => Tb.rabove_any W v l (h.step hW) o.nt o.nr o.pt o.pr)
  have ST := Lib.hid (fun W (hW : Below w.heap.size w W) => Tb.rset_any W v l (rwO o) (h.step hW) hl hr)
  obtain ⟨ao, cap, rfl⟩ := h.shape
  clear h
  obtain ⟨t, r, q, nt, nr, pt, pr, nm, d⟩ := o
  unfold oV
  unfold oCells at K0 ⊢
  dsimp only at *
  go_enter Tryd.func46, Tryd.ntmps46
  go_upto_region 1 with (fail)
  generalize w.alloc (.cells #[.int .i64 t, .int .i64 r, .int .i64 q, .int .i64 nt, .int .i64 nr, .int .i64 pt, .int .i64 pr, .string nm, .bool d] 48) = w0 at K0 ⊢
  obtain ⟨c0, c1, c2, c3, c4, c5, c6, c7, c8⟩ := cell9 K0.out.box
  by_cases hq : nt = pt ∧ nr = pr
  · have E1 := Lib.hid (show skipF l ⟨t, r, q, nt, nr, pt, pr, nm, d⟩ = true by rw [SK.out, decide_eq_true hq]; rfl)
    have E2 := Lib.hid (show doF l ⟨t, r, q, nt, nr, pt, pr, nm, d⟩ = l by rw [DF.out, if_pos E1.out])
    obtain ⟨u1, u2⟩ := yes2 hq
    clear hq SK DF AB ST
    go_wp2
    go_returns
    exact ⟨.slice ao l.length cap, by rw [E1.out]; rfl, by rw [E2.out]; exact HH.out.step K0.out.bel, K0.out.bel, Spr.refl _ _ _⟩
  · have SK2 := Lib.hid (show skipF l ⟨t, r, q, nt, nr, pt, pr, nm, d⟩ = aboveF l nt nr l.length pt pr from by rw [SK.out, decide_eq_false hq]; rfl)
    obtain ⟨ab, hab⟩ : ∃ z, aboveF l nt nr l.length pt pr = z := ⟨_, rfl⟩
    rw [hab] at SK2 AB
    have hn := no2 hq
    clear hq SK hab
    rcases hn with u1 | ⟨u1, u2⟩
    all_goals
      go_wp2_with fail
      refine (AB.out w0 K0.out.bel).mono ?_
      rintro e w1 ⟨rfl, hb⟩
      have K1 := Lib.hid (K0.out.step hb)
      clear hb c0 c1 c2 c3 c4 c5 c6 c7 c8
      obtain ⟨c0, c1, c2, c3, c4, c5, c6, c7, c8⟩ := cell9 K1.out.box
      cases ab with
      | true =>
        have E2 := Lib.hid (show doF l ⟨t, r, q, nt, nr, pt, pr, nm, d⟩ = l by rw [DF.out, if_pos SK2.out])
        clear DF ST AB
        go_wp2
        go_returns
        exact ⟨.slice ao l.length cap, by rw [SK2.out]; rfl, by rw [E2.out]; exact HH.out.step K1.out.bel, K1.out.bel, Spr.refl _ _ _⟩
      | false =>
        have E2 := Lib.hid (show doF l ⟨t, r, q, nt, nr, pt, pr, nm, d⟩ = setF l (rwO ⟨t, r, q, nt, nr, pt, pr, nm, d⟩) by rw [DF.out, if_neg (by rw [SK2.out]; simp)])
        unfold rwO at ST
        dsimp only at ST
        clear DF AB
        go_wp2_with fail
        refine (ST.out w1 K1.out.bel).mono ?_
        rintro e w2 ⟨rv, rfl, ho2, hb⟩
        have hl2 := Tb.own_liesK (enc := Tb.enc6) (k := 6) Tb.enc6_len ho2
        have F2 := Lib.hid (And.intro hl2 (And.intro (K1.out.bel.trans (hb.mono K1.out.bel.size)) (show Spr w.heap.size w2 (.slice ao l.length cap) rv from (own_frs ho2 K1.out.bel.size).spr)))
        clear hl2 ho2 hb
        go_wp2
        go_returns
        exact ⟨rv, by rw [SK2.out]; rfl, by rw [E2.out]; exact F2.out.1, F2.out.2.1, F2.out.2.2⟩
set_option maxHeartbeats 3200000 in
theorem rplay_any (w : World) (v : Value) (T : List Rw) (h : LiesR w v T) (hr : Rise T) (vo : Value) (l : List O) (ho : OLies w vo l) (hl : T.length + l.length ≤ 900) :
    Calls Tryd.prog 44 #[v, vo] w fun e w' => ∃ r, e = .returned r ∧ LiesR w' r (playF T l) ∧ Below w.heap.size w w' ∧ Spr w.heap.size w' v r := by
  have HO := Lib.hid ho
  obtain ⟨ao, cap, rfl⟩ := ho.shape
  have J0 := Lib.hid (And.intro (show LiesR w v (playF T (l.take 0)) from h) (And.intro (Below.refl w.heap.size w) (Spr.refl w.heap.size w v)))
  clear ho h
  go_enter Tryd.func44, Tryd.ntmps44
  go_wp2
  go_loopw [0, 5] (fun tv iv wr => ∃ i : Nat, iv = .int .i64 i ∧ i ≤ l.length ∧ Hid (LiesR wr tv (playF T (l.take i)) ∧ Below w.heap.size w wr ∧ Spr w.heap.size wr v tv)) (fun _ iv _ => l.length - (intOf iv).toNat)
  case atStart => exact ⟨0, rfl, Nat.zero_le _, J0⟩
  case round =>
    obtain ⟨i, rfl, hi, K⟩ := hrel
    obtain ⟨ta, tc, htv⟩ := K.out.1.shape
    subst htv
    by_cases hlt : i < l.length
    · have hi0 : (0 : Int) ≤ (i : Int) := by omega
      have hi1 : (i : Int) < (l.length : Int) := by omega
      have hd : decide ((i : Int) < (l.length : Int)) = true := decide_eq_true hi1
      have HLS := Lib.hid (show i + 1 ≤ l.length from hlt)
      have HW9 := Lib.hid (wrap_nat hlt (show l.length ≤ 100000 by omega))
      have HMS := Lib.hid (meas_nat hlt)
      obtain ⟨g, k, x, rfl, hx, hg, hc⟩ := (HO.out.step K.out.2.1).atK hlt
      have LX := Lib.hid (@ldO wr g (k + i * 9) x hc)
      have PS := Lib.hid (play_snoc T hx)
      have ON := Lib.hid (one_any wr _ _ x K.out.1 (by have := play_len (l.take i) T; rw [List.length_take] at this; omega) (play_rise (l.take i) hr))
      have KB := Lib.hid K.out.2
      clear hx hg hc K
      go_wp2_with (first | (refine Ve.wpList_load_arr rfl (.tmp 18) 48 rfl (.pointer (some ⟨g, k + i * 9, none⟩)) (oV x) rfl LX.out ?_))
      refine ON.out.mono ?_
      rintro e w5 ⟨rv, rfl, hl5, hb, hsp⟩
      have KF := Lib.hid (show LiesR w5 rv (playF T (l.take (i + 1))) ∧ Below w.heap.size w w5 ∧ Spr w.heap.size w5 v rv from ⟨by rw [PS.out]; exact hl5, KB.out.1.trans (hb.mono KB.out.1.size), KB.out.2.trans hsp KB.out.1.size hb.size⟩)
      clear hl5 hb hsp ON LX
      go_wp2
      go_roundw
      case rel => exact ⟨i + 1, by first | (rw [HW9.out]; rfl) | go_num, HLS.out, KF⟩
      case measure => first | (rw [HW9.out]; exact HMS.out) | exact HMS.out
    · have ei : i = l.length := by omega
      subst ei
      have FIN := Lib.hid K.out
      simp only [List.take_length] at FIN ⊢
      clear K
      go_wp2
      go_returns
      exact ⟨_, rfl, FIN.out.1, FIN.out.2⟩
end Go.Proofs.YtbeodechhneeeaaDoor


set_option linter.unusedVariables false
set_option linter.unusedSimpArgs false
set_option maxRecDepth 100000
namespace Go.Proofs.YtbeodechhneeeaaDoor
open Go.RowKit Go.Shelf
open Tb (Rw TabI TM LiesK)

section
variable {ops : Array Oper} {S : World → Prop} {op : Oper} {a : Act}
theorem yields_slh (x y : Operand) (ty : TypeId) (v u r : Value) (hS : ∀ w, (Instr.sliceAt ty v none (some u) none).run Tryd.prog w = .ok r w) (hw : Region.wanted op (yielded ops a.tmps) = true) (ho : op.op = .slice ty x none (some y) none)
    (hx : a.eval x = v) (hy : a.eval y = u) : YieldsIf Tryd.prog ops S op r a :=
  .inl ⟨hw, fun w hw' => by
    unfold execOp
    simp only [ho, Option.map_some, Option.map_none, hx, hy, hS w, Sem.run_bind, Sem.run_pure, Result.andThen_ok]⟩
theorem yields_slt (x y : Operand) (ty : TypeId) (v u r : Value) (hS : ∀ w, (Instr.sliceAt ty v (some u) none none).run Tryd.prog w = .ok r w) (hw : Region.wanted op (yielded ops a.tmps) = true) (ho : op.op = .slice ty x (some y) none none)
    (hx : a.eval x = v) (hy : a.eval y = u) : YieldsIf Tryd.prog ops S op r a :=
  .inl ⟨hw, fun w hw' => by
    unfold execOp
    simp only [ho, Option.map_some, Option.map_none, hx, hy, hS w, Sem.run_bind, Sem.run_pure, Result.andThen_ok]⟩
end
theorem run_size34 (w : World) : (Go.sizeOf 48).run Tryd.prog w = .ok 9 w := by kernel_rfl
theorem head34 {ra : Option Addr} {n rc k : Nat} {w : World} {l : List O} (h : OLies w (.slice ra n rc) l) (hk : k ≤ n) :
    (∀ W, (Instr.sliceAt 22 (.slice ra n rc) none (some (.int .i64 (k : Int))) none).run Tryd.prog W = .ok (.slice ra k rc) W) ∧ OLies w (.slice ra k rc) (l.take k) := by
  obtain ⟨ao, cap, e, h1, h2, h3, h4⟩ := h
  injection e with e1 e2 e3
  subst e1 e2 e3
  have hl : (l.take k).length = k := by rw [List.length_take]; omega
  refine ⟨fun W => ?_, ra, rc, by rw [hl], by rw [hl]; omega, h2, fun e => ?_, fun b hb hne => ?_⟩
  · rw [run_sliceAt_slice (P := Tryd.prog) (h := Tryd.u27), run_slice_h (P := Tryd.prog) (ht := Tryd.u27) (h0 := by omega) (h2 := by omega)]
    rw [show (Go.sizeOf (Tryd.prog.elem 22)).run Tryd.prog W = .ok 9 W from run_size34 W]
    show Result.ok (sliced ra 0 (k : Int).toNat rc 9) W = _
    unfold sliced
    cases ra with
    | none => simp
    | some b =>
      simp
      try rw [show b.add 0 = b from by unfold Addr.add; simp]
      exact fun _ => rfl
  · have := h3 e
    rw [this.1]
    exact ⟨by simp, this.2⟩
  · obtain ⟨g, o, rfl, hg, hc⟩ := h4 b hb (fun e => hne (by rw [e]; simp))
    refine ⟨g, o, rfl, hg, fun j p hj i u hu => hc j p ?_ i u hu⟩
    rw [List.getElem?_take] at hj
    split at hj
    · exact hj
    · cases hj
theorem tail34 {ra : Option Addr} {n rc k : Nat} {w : World} {l : List O} (h : OLies w (.slice ra n rc) l) (hk : k ≤ n) :
    ∃ A, (∀ W, (Instr.sliceAt 22 (.slice ra n rc) (some (.int .i64 (k : Int))) none none).run Tryd.prog W = .ok (.slice A (n - k) (rc - k)) W) ∧ OLies w (.slice A (n - k) (rc - k)) (l.drop k) := by
  obtain ⟨A, h1, h2⟩ := slice_tailK (enc := oc) (k := 9) (t := 22) Tryd.u27 run_size34 (show LiesK oc 9 w (.slice ra n rc) l from h) hk
  refine ⟨A, fun W => ?_, h2⟩
  rw [run_sliceAt_slice (P := Tryd.prog) (h := Tryd.u27)]
  exact h1 W
end Go.Proofs.YtbeodechhneeeaaDoor


set_option linter.unusedVariables false
set_option linter.unusedSimpArgs false
set_option maxRecDepth 100000
namespace Go.Proofs.YtbeodechhneeeaaDoor
open Go.RowKit Go.Shelf
open Tb (Rw TabI TM LiesK)

theorem app34 (w : World) (B : Nat) (v : Value) (l : List O) (x : Value) (m : List O) (hown : w.ownsRow B 48 9 v l.length (cs9 l)) (hs : OLies w x m) (hl : l.length + m.length ≤ 1000) (hB : B ≤ w.heap.size) :
    ∃ va w', (Builtin.append_ #[22, 22] 22 #[v, x]).run Tryd.prog w = .ok va w' ∧ w'.ownsRow B 48 9 va (l ++ m).length (cs9 (l ++ m)) ∧ Below B w w' := by
  obtain ⟨i0, hi9, hz0, hz1, hz2⟩ := info_parts info25
  obtain ⟨va, w', h1, h2, h3, _⟩ := Tb.run_append_src_own (P := Tryd.prog) w B 22 22 22 48 i0 (oV O0) 9 80 Tryd.u27 hi9 hz0 hz1 hz2 rfl (by decide) v l.length (cs9 l) hown x m.length (cs9 m) hs.src (by unfold maxLen; omega) (by omega) hB
  refine ⟨va, w', h1, ?_, (Below.refl B w).grown h3 hB (fun k hk => (own_lt hown k hk).1)⟩
  rw [List.length_append, cs9_append]
  exact h2
end Go.Proofs.YtbeodechhneeeaaDoor


set_option linter.unusedVariables false
set_option linter.unusedSimpArgs false
set_option maxRecDepth 100000
namespace Go.Proofs.YtbeodechhneeeaaDoor
open Go.RowKit Go.Shelf
open Tb (Rw setF getF aboveF Rise TabI TM LiesK LiesR ltS)

/-- The reference's tree, boxed, and a stamp. -/
structure RX (w W : World) (ba : Option Addr) (bn bc : Nat) (ft fr : Int) (la : Option Addr) (ln lc : Nat) (t r : Int) : Prop where
  bel : Below w.heap.size w W
  b1 : W.heap[w.heap.size]? = some (.cells #[.slice ba bn bc, .int .i64 ft, .int .i64 fr, .slice la ln lc] 32 (0, 0))
  b2 : W.heap[w.heap.size + 1]? = some (.cells #[.int .i64 t, .int .i64 r] 46 (0, 0))
theorem RX.step {w W W' : World} {ba : Option Addr} {bn bc : Nat} {ft fr : Int} {la : Option Addr} {ln lc : Nat} {t r : Int} (h : RX w W ba bn bc ft fr la ln lc t r) (hb : Below W.heap.size W W') : RX w W' ba bn bc ft fr la ln lc t r :=
  ⟨h.bel.trans (hb.mono h.bel.size), (hb.block _ (pl_lt h.b1)).trans h.b1, (hb.block _ (pl_lt h.b2)).trans h.b2⟩
theorem ld30 {W : World} {g o : Nat} {a : Option Addr} {n c : Nat} (h : W.cell? ⟨g, o, none⟩ = some (.slice a n c)) : (Instr.loadAt 22 (.pointer (some ⟨g, o, none⟩))).run Tryd.prog W = .ok (.slice a n c) W := by
  go_simp
def rdidF (T : List Rw) : List O → Int → Int → Bool
  | [], _, _ => false
  | o :: L, t, r => if o.t = t ∧ o.r = r then !skipF T o else rdidF (doF T o) L t r
end Go.Proofs.YtbeodechhneeeaaDoor


set_option linter.unusedVariables false
set_option linter.unusedSimpArgs false
set_option maxRecDepth 100000
namespace Go.Proofs.YtbeodechhneeeaaDoor
open Go.RowKit Go.Shelf
open Tb (Rw setF getF aboveF Rise TabI TM LiesK LiesR ltS)

theorem ix29 {g k n c i : Nat} (hi : i < n) (W : World) : (Instr.indexAt 40 (.slice (some ⟨g, k, none⟩) n c) (.int .i64 (i : Int))).run Tryd.prog W = .ok (.pointer (some ⟨g, k + i * 6, none⟩)) W := by
  have h0 : (0 : Int) ≤ (i : Int) := by omega
  have h1 : (i : Int) < (n : Int) := by omega
  go_simp
theorem ld9 {W : World} {g o : Nat} {s : ByteArray} (h : W.cell? ⟨g, o, none⟩ = some (.string s)) : (Instr.loadAt 9 (.pointer (some ⟨g, o, none⟩))).run Tryd.prog W = .ok (.string s) W := by
  go_simp
theorem ld4 {W : World} {g o : Nat} {s : Bool} (h : W.cell? ⟨g, o, none⟩ = some (.bool s)) : (Instr.loadAt 4 (.pointer (some ⟨g, o, none⟩))).run Tryd.prog W = .ok (.bool s) W := by
  go_simp
theorem ld69 {W : World} {g : Nat} {a b : Int} {s : ByteArray} {d : Bool} (h : W.heap[g]? = some (.cells #[.int .i64 a, .int .i64 b, .string s, .bool d] 67 (0, 0))) : (Instr.loadAt 67 (.pointer (some ⟨g, 0, none⟩))).run Tryd.prog W = .ok (.agg #[.int .i64 a, .int .i64 b, .string s, .bool d]) W := by
  obtain ⟨c0, c1, c2, c3⟩ := box4 h
  clear h
  go_simp
theorem bld69 (W : World) (a b : Int) (s : ByteArray) (d : Bool) : (Instr.build 67 #[(0, .agg #[.int .i64 a, .int .i64 b]), (1, .string s), (2, .bool d)]).run Tryd.prog W = .ok (.agg #[.int .i64 a, .int .i64 b, .string s, .bool d]) W := by kernel_rfl
theorem ne69 (W : World) (a b : Int) (s : ByteArray) (d : Bool) : (binOp .neq 67 (.agg #[.int .i64 a, .int .i64 b, .string s, .bool d]) (.agg #[.int .i64 a, .int .i64 b, .string s, .bool d])).run Tryd.prog W = .ok (.bool false) W := by
  go_simp
theorem egt69 : (Tryd.prog.eqGuardType Tryd.prog.depth 67) = false := by kernel_rfl
theorem gn69 (x y : Operand) (a b : Array Value) (w : World) : (eqGuard .neq 67 x y (.agg a) (.agg b)).run Tryd.prog w = .ok () w := run_eqGuard_agg w .neq 67 x y _ _ egt69
/-- A getter's entry, boxed; the row it must be. -/
structure RWI (w W : World) (k : Nat) (x : Rw) : Prop where
  bel : Below w.heap.size w W
  box : W.heap[k]? = some (.cells #[.int .i64 x.pt, .int .i64 x.pr, .string x.nm, .bool x.d] 67 (0, 0))
end Go.Proofs.YtbeodechhneeeaaDoor


set_option linter.unusedVariables false
set_option linter.unusedSimpArgs false
set_option maxRecDepth 100000
namespace Go.Proofs.YtbeodechhneeeaaDoor
open Go.RowKit Go.Shelf
open Tb (Rw setF getF aboveF Rise TabI TM LiesK LiesR ltS)

set_option maxHeartbeats 6400000 in
theorem entries_any (w : World) (q mb : Nat) (l : List Rw) (h : TabI w q mb l) (hr : Rise l) (hk : OkT l) (va : Option Addr) (vn vc : Nat) (hv : LiesR w (.slice va vn vc) l) (hl : l.length ≤ 1000) :
    Calls Tryd.prog 19 #[pv q, .slice va vn vc] w fun e w' => e = .returned (.bool true) ∧ Below w.heap.size w w' := by
  have HR := Lib.hid hr
  have HK := Lib.hid hk
  have HT := Lib.hid h
  have HV := Lib.hid hv
  have ND := Lib.hid (Tb.len_any w q mb l h)
  have TL := Lib.hid (fun W (hW : Below w.heap.size w W) t r ht hr => Tb.get_any W q mb l (h.step hW) t r ht hr)
  obtain ⟨ao, cap, e, _⟩ := id HV.out
  injection e with e1 e2 e3
  subst e1 e2 e3
  clear h hk hv hr
  go_enter Tryd.func19, Tryd.ntmps19
  go_wp2_with fail
  refine ND.out.mono ?_
  rintro e w1 ⟨rfl, hw1⟩
  subst hw1
  have B1 := Lib.hid (Below.refl w.heap.size w)
  clear ND
  go_wp2_with fail
  go_loopw [5] (fun iv wr => ∃ i : Nat, iv = .int .i64 i ∧ i ≤ l.length ∧ Hid (Below w.heap.size w wr)) (fun iv _ => l.length - (intOf iv).toNat)
  case atStart => exact ⟨0, rfl, by omega, B1⟩
  case round =>
    obtain ⟨i, rfl, hi, K⟩ := hrel
    by_cases hlt : i < l.length
    · have hi0 : (0 : Int) ≤ (i : Int) := by omega
      have hi1 : (i : Int) < (l.length : Int) := by omega
      have hd : decide ((i : Int) < (l.length : Int)) = true := decide_eq_true hi1
      have HLS := Lib.hid (show i + 1 ≤ l.length from hlt)
      have HW9 := Lib.hid (wrap_nat hlt (show l.length ≤ 100000 by omega))
      have HMS := Lib.hid (meas_nat hlt)
      obtain ⟨g, o, x, rfl, hx, hg, hc⟩ := HV.out.at' hlt
      have hxm := List.mem_of_getElem? hx
      have hgx : getF l x.t x.r = some x := (Tb.get_some HR.out).2 ⟨hxm, rfl, rfl⟩
      have cs : ∀ W, Below w.heap.size w W → ∀ (j : Nat) u, (Tb.enc6 x)[j]? = some u → W.cell? ⟨g, o + i * 6 + j, none⟩ = some u := fun W hb j u hu => (hb.cell (p := ⟨g, o + i * 6 + j, none⟩) hg).trans (hc j u hu)
      have LN := Lib.hid (fun W (hb : Below w.heap.size w W) => @ld24 W g (o + i * 6) x.t x.r (cs W hb 0 _ rfl) (cs W hb 1 _ rfl))
      have LP := Lib.hid (fun W (hb : Below w.heap.size w W) => @ld24 W g (o + i * 6 + 2) x.pt x.pr (cs W hb 2 _ rfl) (cs W hb 3 _ rfl))
      have LM := Lib.hid (fun W (hb : Below w.heap.size w W) => @ld9 W g (o + i * 6 + 4) x.nm (cs W hb 4 _ rfl))
      have LD := Lib.hid (fun W (hb : Below w.heap.size w W) => @ld4 W g (o + i * 6 + 5) x.d (cs W hb 5 _ rfl))
      have IX := Lib.hid (fun W => @ix29 g o l.length vc i hlt W)
      have TX := TL.out wr K.out x.t x.r (HK.out x hxm).1 (HK.out x hxm).2.1
      have hgv : Tb.gv l x.t x.r = .agg #[.int .i64 x.pt, .int .i64 x.pr, .string x.nm, .bool x.d] := by
        unfold Tb.gv; rw [hgx]
      rw [hgv, hgx] at TX
      have GT := Lib.hid TX
      have LNW := Lib.hid (LN.out wr K.out)
      clear hx hg hc cs hxm hgx hgv TX
      go_wp2_with (first | (refine Ve.wpList_load_arr rfl (.tmp 24) 46 rfl (.pointer (some ⟨g, o + i * 6, none⟩)) (.agg #[.int .i64 x.t, .int .i64 x.r]) rfl LNW.out ?_))
      refine GT.out.mono ?_
      rintro e w5 ⟨rfl, hb⟩
      have K6 := Lib.hid (show RWI w (w5.alloc (.cells #[.int .i64 x.pt, .int .i64 x.pr, .string x.nm, .bool x.d] 67)) w5.heap.size x from ⟨(K.out.trans (hb.mono K.out.size)).alloc (Nat.le_trans K.out.size hb.size) _, heap_alloc_new w5 _⟩)
      clear hb GT LNW LN
      go_upto_region 7 with (fail)
      generalize w5.alloc (.cells #[.int .i64 x.pt, .int .i64 x.pr, .string x.nm, .bool x.d] 67) = w6 at K6 ⊢
      obtain ⟨k6, hk6⟩ : ∃ z, w5.heap.size = z := ⟨_, rfl⟩
      rw [hk6] at K6 ⊢
      clear hk6
      have LE := Lib.hid (fun W (hb : Below w6.heap.size w6 W) => ld69 ((hb.block _ (pl_lt K6.out.box)).trans K6.out.box))
      have LP := Lib.hid (fun W (hb : Below w6.heap.size w6 W) => LP.out W (K6.out.bel.trans (hb.mono K6.out.bel.size)))
      have LM := Lib.hid (fun W (hb : Below w6.heap.size w6 W) => LM.out W (K6.out.bel.trans (hb.mono K6.out.bel.size)))
      have LD := Lib.hid (fun W (hb : Below w6.heap.size w6 W) => LD.out W (K6.out.bel.trans (hb.mono K6.out.bel.size)))
      refine wp_region_held_drew (S := fun w' => Below w6.heap.size w6 w') (by kernel_rfl) (Below.refl _ _).drew (fun hHeld => ?_)
      have BV := Lib.hid (show Below w6.heap.size w6 w6.drew from (Below.refl _ _).drew)
      clear hHeld
      refine take_at (i := 0) 29 ?_ rfl rfl (by kernel_rfl) (by kernel_rfl) (by kernel_rfl) (fun _ _ _ h => h) (.inl ⟨rfl, ?_⟩) BV.out ?_
      rotate_left 1
      · intro w hSw; go_simp; try with_reducible rfl
      simp only [Act.put, List.setIfInBounds_toArray, List.set_cons_zero, List.set_cons_succ]
      refine take_at (i := 1) 30 ?_ rfl rfl (by kernel_rfl) (by kernel_rfl) (by kernel_rfl) (fun _ _ _ h => h) (.inl ⟨rfl, ?_⟩) BV.out ?_
      rotate_left 1
      · intro w hSw; go_simp; try with_reducible rfl
      simp only [Act.put, List.setIfInBounds_toArray, List.set_cons_zero, List.set_cons_succ]
      refine take_at (i := 2) 31 ?_ rfl rfl (by kernel_rfl) (by kernel_rfl) (by kernel_rfl) (fun _ _ _ h => h) (.inl ⟨rfl, ?_⟩) BV.out ?_
      rotate_left 1
      · intro w hSw; go_simp; try with_reducible rfl
      simp only [Act.put, List.setIfInBounds_toArray, List.set_cons_zero, List.set_cons_succ]
      refine take_at (i := 3) 32 (.agg #[.int .i64 x.pt, .int .i64 x.pr, .string x.nm, .bool x.d]) rfl rfl (by kernel_rfl) (by kernel_rfl) (by kernel_rfl) (fun _ _ _ h => h) (yields_ld (.tmp 6) 67 (.pointer (some ⟨k6, 0, none⟩)) _ LE.out rfl rfl rfl) BV.out ?_
      simp only [Act.put, List.setIfInBounds_toArray, List.set_cons_zero, List.set_cons_succ]
      refine take_at (i := 4) 33 ?_ rfl rfl (by kernel_rfl) (by kernel_rfl) (by kernel_rfl) (fun _ _ _ h => h) (.inl ⟨rfl, ?_⟩) BV.out ?_
      rotate_left 1
      · intro w hSw; go_simp; try with_reducible rfl
      simp only [Act.put, List.setIfInBounds_toArray, List.set_cons_zero, List.set_cons_succ]
      refine take_at (i := 5) 34 ?_ rfl rfl (by kernel_rfl) (by kernel_rfl) (by kernel_rfl) (fun _ _ _ h => h) (.inl ⟨rfl, ?_⟩) BV.out ?_
      rotate_left 1
      · intro w hSw; go_simp; try with_reducible rfl
      simp only [Act.put, List.setIfInBounds_toArray, List.set_cons_zero, List.set_cons_succ]
      refine take_at (i := 6) 35 (.pointer (some ⟨g, o + i * 6, none⟩)) rfl rfl (by kernel_rfl) (by kernel_rfl) (by kernel_rfl) (fun _ _ _ h => h) (yields_ix (.tmp 33) (.tmp 34) 40 (.slice (some ⟨g, o, none⟩) l.length vc) (.int .i64 (i : Int)) _ IX.out rfl rfl rfl rfl) BV.out ?_
      simp only [Act.put, List.setIfInBounds_toArray, List.set_cons_zero, List.set_cons_succ]
      refine take_at (i := 7) 36 ?_ rfl rfl (by kernel_rfl) (by kernel_rfl) (by kernel_rfl) (fun _ _ _ h => h) (.inl ⟨rfl, ?_⟩) BV.out ?_
      rotate_left 1
      · intro w hSw; go_simp; try with_reducible rfl
      simp only [Act.put, List.setIfInBounds_toArray, List.set_cons_zero, List.set_cons_succ]
      refine take_at (i := 8) 37 ?_ rfl rfl (by kernel_rfl) (by kernel_rfl) (by kernel_rfl) (fun _ _ _ h => h) (.inl ⟨rfl, ?_⟩) BV.out ?_
      rotate_left 1
      · intro w hSw; go_simp; try with_reducible rfl
      simp only [Act.put, List.setIfInBounds_toArray, List.set_cons_zero, List.set_cons_succ]
      refine take_at (i := 9) 38 (.agg #[.int .i64 x.pt, .int .i64 x.pr]) rfl rfl (by kernel_rfl) (by kernel_rfl) (by kernel_rfl) (fun _ _ _ h => h) (yields_ld (.tmp 37) 46 (.pointer (some ⟨g, o + i * 6 + 2, none⟩)) _ LP.out rfl rfl rfl) BV.out ?_
      simp only [Act.put, List.setIfInBounds_toArray, List.set_cons_zero, List.set_cons_succ]
      refine take_at (i := 10) 39 ?_ rfl rfl (by kernel_rfl) (by kernel_rfl) (by kernel_rfl) (fun _ _ _ h => h) (.inl ⟨rfl, ?_⟩) BV.out ?_
      rotate_left 1
      · intro w hSw; go_simp; try with_reducible rfl
      simp only [Act.put, List.setIfInBounds_toArray, List.set_cons_zero, List.set_cons_succ]
      refine take_at (i := 11) 40 ?_ rfl rfl (by kernel_rfl) (by kernel_rfl) (by kernel_rfl) (fun _ _ _ h => h) (.inl ⟨rfl, ?_⟩) BV.out ?_
      rotate_left 1
      · intro w hSw; go_simp; try with_reducible rfl
      simp only [Act.put, List.setIfInBounds_toArray, List.set_cons_zero, List.set_cons_succ]
      refine take_at (i := 12) 41 (.pointer (some ⟨g, o + i * 6, none⟩)) rfl rfl (by kernel_rfl) (by kernel_rfl) (by kernel_rfl) (fun _ _ _ h => h) (yields_ix (.tmp 39) (.tmp 40) 40 (.slice (some ⟨g, o, none⟩) l.length vc) (.int .i64 (i : Int)) _ IX.out rfl rfl rfl rfl) BV.out ?_
      simp only [Act.put, List.setIfInBounds_toArray, List.set_cons_zero, List.set_cons_succ]
      refine take_at (i := 13) 42 ?_ rfl rfl (by kernel_rfl) (by kernel_rfl) (by kernel_rfl) (fun _ _ _ h => h) (.inl ⟨rfl, ?_⟩) BV.out ?_
      rotate_left 1
      · intro w hSw; go_simp; try with_reducible rfl
      simp only [Act.put, List.setIfInBounds_toArray, List.set_cons_zero, List.set_cons_succ]
      refine take_at (i := 14) 43 ?_ rfl rfl (by kernel_rfl) (by kernel_rfl) (by kernel_rfl) (fun _ _ _ h => h) (.inl ⟨rfl, ?_⟩) BV.out ?_
      rotate_left 1
      · intro w hSw; go_simp; try with_reducible rfl
      simp only [Act.put, List.setIfInBounds_toArray, List.set_cons_zero, List.set_cons_succ]
      refine take_at (i := 15) 44 (.string x.nm) rfl rfl (by kernel_rfl) (by kernel_rfl) (by kernel_rfl) (fun _ _ _ h => h) (yields_ld (.tmp 43) 9 (.pointer (some ⟨g, o + i * 6 + 4, none⟩)) _ LM.out rfl rfl rfl) BV.out ?_
      simp only [Act.put, List.setIfInBounds_toArray, List.set_cons_zero, List.set_cons_succ]
      refine take_at (i := 16) 45 ?_ rfl rfl (by kernel_rfl) (by kernel_rfl) (by kernel_rfl) (fun _ _ _ h => h) (.inl ⟨rfl, ?_⟩) BV.out ?_
      rotate_left 1
      · intro w hSw; go_simp; try with_reducible rfl
      simp only [Act.put, List.setIfInBounds_toArray, List.set_cons_zero, List.set_cons_succ]
      refine take_at (i := 17) 46 ?_ rfl rfl (by kernel_rfl) (by kernel_rfl) (by kernel_rfl) (fun _ _ _ h => h) (.inl ⟨rfl, ?_⟩) BV.out ?_
      rotate_left 1
      · intro w hSw; go_simp; try with_reducible rfl
      simp only [Act.put, List.setIfInBounds_toArray, List.set_cons_zero, List.set_cons_succ]
      refine take_at (i := 18) 47 (.pointer (some ⟨g, o + i * 6, none⟩)) rfl rfl (by kernel_rfl) (by kernel_rfl) (by kernel_rfl) (fun _ _ _ h => h) (yields_ix (.tmp 45) (.tmp 46) 40 (.slice (some ⟨g, o, none⟩) l.length vc) (.int .i64 (i : Int)) _ IX.out rfl rfl rfl rfl) BV.out ?_
      simp only [Act.put, List.setIfInBounds_toArray, List.set_cons_zero, List.set_cons_succ]
      refine take_at (i := 19) 48 ?_ rfl rfl (by kernel_rfl) (by kernel_rfl) (by kernel_rfl) (fun _ _ _ h => h) (.inl ⟨rfl, ?_⟩) BV.out ?_
      rotate_left 1
      · intro w hSw; go_simp; try with_reducible rfl
      simp only [Act.put, List.setIfInBounds_toArray, List.set_cons_zero, List.set_cons_succ]
      refine take_at (i := 20) 49 ?_ rfl rfl (by kernel_rfl) (by kernel_rfl) (by kernel_rfl) (fun _ _ _ h => h) (.inl ⟨rfl, ?_⟩) BV.out ?_
      rotate_left 1
      · intro w hSw; go_simp; try with_reducible rfl
      simp only [Act.put, List.setIfInBounds_toArray, List.set_cons_zero, List.set_cons_succ]
      refine take_at (i := 21) 50 (.bool x.d) rfl rfl (by kernel_rfl) (by kernel_rfl) (by kernel_rfl) (fun _ _ _ h => h) (yields_ld (.tmp 49) 4 (.pointer (some ⟨g, o + i * 6 + 5, none⟩)) _ LD.out rfl rfl rfl) BV.out ?_
      simp only [Act.put, List.setIfInBounds_toArray, List.set_cons_zero, List.set_cons_succ]
      refine take_at (i := 22) 51 (.agg #[.int .i64 x.pt, .int .i64 x.pr, .string x.nm, .bool x.d]) rfl rfl (by kernel_rfl) (by kernel_rfl) (by kernel_rfl) (fun _ _ _ h => h) (yields_bld 67 #[(0, .tmp 38), (1, .tmp 44), (2, .tmp 50)] #[(0, .agg #[.int .i64 x.pt, .int .i64 x.pr]), (1, .string x.nm), (2, .bool x.d)] _ rfl rfl rfl (fun w => bld69 w x.pt x.pr x.nm x.d)) BV.out ?_
      simp only [Act.put, List.setIfInBounds_toArray, List.set_cons_zero, List.set_cons_succ]
      refine take_at (i := 23) 52 (.bool false) rfl rfl (by kernel_rfl) (by kernel_rfl) (by kernel_rfl) (fun _ _ _ h => h) (yields_bin .neq (.tmp 32) (.tmp 51) 67 67 (.agg #[.int .i64 x.pt, .int .i64 x.pr, .string x.nm, .bool x.d]) (.agg #[.int .i64 x.pt, .int .i64 x.pr, .string x.nm, .bool x.d]) _ (fun w => ne69 w x.pt x.pr x.nm x.d) (gn69 _ _ _ _) rfl rfl rfl rfl) BV.out ?_
      simp only [Act.put, List.setIfInBounds_toArray, List.set_cons_zero, List.set_cons_succ]
      refine take_at (i := 24) 53 ?_ rfl rfl (by kernel_rfl) (by kernel_rfl) (by kernel_rfl) (fun _ _ _ h => h) (.inl ⟨rfl, ?_⟩) BV.out ?_
      rotate_left 1
      · intro w hSw; go_simp; try with_reducible rfl
      simp only [Act.put, List.setIfInBounds_toArray, List.set_cons_zero, List.set_cons_succ]
      refine wpAnyH_done (by kernel_rfl) ?_ _
      have KF := Lib.hid (K6.out.bel.trans (BV.out.mono K6.out.bel.size))
      clear BV
      go_wp2
      go_roundw
      case rel => exact ⟨i + 1, by first | (rw [HW9.out]; rfl) | go_num, HLS.out, KF⟩
      case measure => first | (rw [HW9.out]; exact HMS.out) | exact HMS.out
    · have ei : i = l.length := by omega
      subst ei
      go_wp2
      go_returns
      exact ⟨rfl, K.out⟩
end Go.Proofs.YtbeodechhneeeaaDoor

