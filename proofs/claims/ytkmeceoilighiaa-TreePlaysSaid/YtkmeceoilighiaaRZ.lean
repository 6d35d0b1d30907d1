/- Merged by tools/merge.py: PY, RQ, RP, PZ, CX, CP, PP, PQ, RW, RX, RY, RA, RB, QP. -/
import Derived.Test.YtkmeceoilighiaaUQ

set_option linter.unusedVariables false
set_option linter.unusedSimpArgs false
set_option maxRecDepth 100000
namespace Go.Proofs.Ytkmeceoilighiaa
open Go.RowKit Go.Shelf
open Tb (Rw setF getF aboveF Rise TabI TM LiesK LiesR)

/-- What is handed back lies where the old one did, or in a new block. -/
def Spr (n : Nat) (W : World) (v r : Value) : Prop := ∀ k, r.ownBlock = some k → v.ownBlock = some k ∨ (n ≤ k ∧ k < W.heap.size)
theorem Spr.refl (n : Nat) (W : World) (v : Value) : Spr n W v v := fun k e => .inl e
theorem Spr.trans {n m : Nat} {W W' : World} {a b c : Value} (h1 : Spr n W a b) (h2 : Spr m W' b c) (hs : n ≤ m) (hb : W.heap.size ≤ W'.heap.size) : Spr n W' a c := fun k e => (h2 k e).elim (fun e => (h1 k e).elim .inl (fun q => .inr ⟨q.1, Nat.lt_of_lt_of_le q.2 hb⟩)) (fun e => .inr ⟨Nat.le_trans hs e.1, e.2⟩)
theorem Frs.spr {n : Nat} {W : World} {v r : Value} (h : Frs n W r) : Spr n W v r := fun k e => .inr (h k e)
structure PX (w W : World) (o : O) : Prop where
  bel : Below w.heap.size w W
  box : W.heap[w.heap.size]? = some (.cells (oCells o) 34 (0, 0))
theorem PX.step {w W W' : World} {o : O} (h : PX w W o) (hb : Below W.heap.size W W') : PX w W' o := ⟨h.bel.trans (hb.mono h.bel.size), (hb.block _ (pl_lt h.box)).trans h.box⟩
set_option maxHeartbeats 3200000 in
theorem one_any (w : World) (v : Value) (l : List Rw) (o : O) (h : LiesR w v l) (hl : l.length ≤ 1000) (hr : Rise l) :
    Calls Try.prog 53 #[v, oV o] w fun e w' => ∃ r, e = .returned (.tuple #[r, .bool (!skipF l o)]) ∧ LiesR w' r (doF l o) ∧ Below w.heap.size w w' ∧ Spr w.heap.size w' v r := by
  have K0 := Lib.hid (show PX w (w.alloc (.cells (oCells o) 34)) o from ⟨pl_vstep w _, heap_alloc_new w _⟩)
  have HH := Lib.hid h
  have DF := Lib.hid (show doF l o = if skipF l o = true then l else setF l (rwO o) from rfl)
  have SK := Lib.hid (show skipF l o = (decide (o.nt = o.pt ∧ o.nr = o.pr) || aboveF l o.nt o.nr l.length o.pt o.pr) from rfl)
  have AB := Lib.hid (fun W (hW : Below w.heap.size w W) => Tb.rabove_any W v l (h.step hW) o.nt o.nr o.pt o.pr)
  have ST := Lib.hid (fun W (hW : Below w.heap.size w W) => Tb.rset_any W v l (rwO o) (h.step hW) hl hr)
  obtain ⟨ao, cap, rfl⟩ := h.shape
  clear h
  obtain ⟨t, r, q, nt, nr, pt, pr, nm, d⟩ := o
  unfold oV
  unfold oCells at K0 ⊢
  dsimp only at *
  go_enter Try.func53, Try.ntmps53
  go_upto_region 1 with (fail)
  generalize w.alloc (.cells #[.int .i64 t, .int .i64 r, .int .i64 q, .int .i64 nt, .int .i64 nr, .int .i64 pt, .int .i64 pr, .string nm, .bool d] 34) = w0 at K0 ⊢
  obtain ⟨c0, c1, c2, c3, c4, c5, c6, c7, c8⟩ := cell9 K0.out.box
  by_cases hq : nt = pt ∧ nr = pr
  · have E1 := Lib.hid (show skipF l ⟨t, r, q, nt, nr, pt, pr, nm, d⟩ = true by rw [SK.out, decide_eq_true hq]; rfl)
    have E2 := Lib.hid (show doF l ⟨t, r, q, nt, nr, pt, pr, nm, d⟩ = l by rw [DF.out, if_pos E1.out])
    obtain ⟨u1, u2⟩ := yes2 hq
    clear hq SK DF AB ST
    go_wp2
    go_returns
    exact ⟨.slice ao l.length cap, by rw [E1.out]; rfl, by rw [E2.out]; exact HH.out.step K0.out.bel, K0.out.bel, Spr.refl _ _ _⟩
  · have SK2 := Lib.hid (show skipF l ⟨t, r, q, nt, nr, pt, pr, nm, d⟩ = aboveF l nt nr l.length pt pr from by rw [SK.out, decide_eq_false hq]; rfl)
    obtain ⟨ab, hab⟩ : ∃ z, aboveF l nt nr l.length pt pr = z := ⟨_, rfl⟩
    rw [hab] at SK2 AB
    have hn := no2 hq
    clear hq SK hab
    rcases hn with u1 | ⟨u1, u2⟩
    all_goals
      go_wp2_with fail
      refine (AB.out w0 K0.out.bel).mono ?_
      rintro e w1 ⟨rfl, hb⟩
      have K1 := Lib.hid (K0.out.step hb)
      clear hb c0 c1 c2 c3 c4 c5 c6 c7 c8
      obtain ⟨c0, c1, c2, c3, c4, c5, c6, c7, c8⟩ := cell9 K1.out.box
      cases ab with
      | true =>
        have E2 := Lib.hid (show doF l ⟨t, r, q, nt, nr, pt, pr, nm, d⟩ = l by rw [DF.out, if_pos SK2.out])
        clear DF ST AB
        go_wp2
        go_returns
        exact ⟨.slice ao l.length cap, by rw [SK2.out]; rfl, by rw [E2.out]; exact HH.out.step K1.out.bel, K1.out.bel, Spr.refl _ _ _⟩
      | false =>
        have E2 := Lib.hid (show doF l ⟨t, r, q, nt, nr, pt, pr, nm, d⟩ = setF l (rwO ⟨t, r, q, nt, nr, pt, pr, nm, d⟩) by rw [DF.out, if_neg (by rw [SK2.out]; simp)])
        unfold rwO at ST
        dsimp only at ST
        clear DF AB
        go_wp2_with fail
        refine (ST.out w1 K1.out.bel).mono ?_
        rintro e w2 ⟨rv, rfl, ho2, hb⟩
        have hl2 := Tb.own_liesK (enc := Tb.enc6) (k := 6) Tb.enc6_len ho2
        have F2 := Lib.hid (And.intro hl2 (And.intro (K1.out.bel.trans (hb.mono K1.out.bel.size)) (show Spr w.heap.size w2 (.slice ao l.length cap) rv from (own_frs ho2 K1.out.bel.size).spr)))
        clear hl2 ho2 hb
        go_wp2
        go_returns
        exact ⟨rv, by rw [SK2.out]; rfl, by rw [E2.out]; exact F2.out.1, F2.out.2.1, F2.out.2.2⟩
set_option maxHeartbeats 3200000 in
theorem rplay_any (w : World) (v : Value) (T : List Rw) (h : LiesR w v T) (hr : Rise T) (vo : Value) (l : List O) (ho : OLies w vo l) (hl : T.length + l.length ≤ 900) :
    Calls Try.prog 51 #[v, vo] w fun e w' => ∃ r, e = .returned r ∧ LiesR w' r (playF T l) ∧ Below w.heap.size w w' ∧ Spr w.heap.size w' v r := by
  have HO := Lib.hid ho
  obtain ⟨ao, cap, rfl⟩ := ho.shape
  have J0 := Lib.hid (And.intro (show LiesR w v (playF T (l.take 0)) from h) (And.intro (Below.refl w.heap.size w) (Spr.refl w.heap.size w v)))
  clear ho h
  go_enter Try.func51, Try.ntmps51
  go_wp2
  go_loopw [0, 5] (fun tv iv wr => ∃ i : Nat, iv = .int .i64 i ∧ i ≤ l.length ∧ Hid (LiesR wr tv (playF T (l.take i)) ∧ Below w.heap.size w wr ∧ Spr w.heap.size wr v tv)) (fun _ iv _ => l.length - (intOf iv).toNat)
  case atStart => exact ⟨0, rfl, Nat.zero_le _, J0⟩
  case round =>
    obtain ⟨i, rfl, hi, K⟩ := hrel
    obtain ⟨ta, tc, htv⟩ := K.out.1.shape
    subst htv
    by_cases hlt : i < l.length
    · have hi0 : (0 : Int) ≤ (i : Int) := by omega
      have hi1 : (i : Int) < (l.length : Int) := by omega
      have hd : decide ((i : Int) < (l.length : Int)) = true := decide_eq_true hi1
      have HLS := Lib.hid (show i + 1 ≤ l.length from hlt)
      have HW9 := Lib.hid (wrap_nat hlt (show l.length ≤ 100000 by omega))
      have HMS := Lib.hid (meas_nat hlt)
      obtain ⟨g, k, x, rfl, hx, hg, hc⟩ := (HO.out.step K.out.2.1).atK hlt
      have LX := Lib.hid (@ldO wr g (k + i * 9) x hc)
      have PS := Lib.hid (play_snoc T hx)
      have ON := Lib.hid (one_any wr _ _ x K.out.1 (by have := play_len (l.take i) T; rw [List.length_take] at this; omega) (play_rise (l.take i) hr))
      have KB := Lib.hid K.out.2
      clear hx hg hc K
      go_wp2_with (first | (refine Ve.wpList_load_arr rfl (.tmp 18) 34 rfl (.pointer (some ⟨g, k + i * 9, none⟩)) (oV x) rfl LX.out ?_))
      refine ON.out.mono ?_
      rintro e w5 ⟨rv, rfl, hl5, hb, hsp⟩
      have KF := Lib.hid (show LiesR w5 rv (playF T (l.take (i + 1))) ∧ Below w.heap.size w w5 ∧ Spr w.heap.size w5 v rv from ⟨by rw [PS.out]; exact hl5, KB.out.1.trans (hb.mono KB.out.1.size), KB.out.2.trans hsp KB.out.1.size hb.size⟩)
      clear hl5 hb hsp ON LX
      go_wp2
      go_roundw
      case rel => exact ⟨i + 1, by first | (rw [HW9.out]; rfl) | go_num, HLS.out, KF⟩
      case measure => first | (rw [HW9.out]; exact HMS.out) | exact HMS.out
    · have ei : i = l.length := by omega
      subst ei
      have FIN := Lib.hid K.out
      simp only [List.take_length] at FIN ⊢
      clear K
      go_wp2
      go_returns
      exact ⟨_, rfl, FIN.out.1, FIN.out.2⟩
end Go.Proofs.Ytkmeceoilighiaa

set_option linter.unusedVariables false
set_option linter.unusedSimpArgs false
set_option maxRecDepth 100000
namespace Go.Proofs.Ytkmeceoilighiaa
open Go.RowKit Go.Shelf
open Tb (Rw TabI TM LiesK)

section
variable {ops : Array Oper} {S : World → Prop} {op : Oper} {a : Act}
theorem yields_slh (x y : Operand) (ty : TypeId) (v u r : Value) (hS : ∀ w, (Instr.sliceAt ty v none (some u) none).run Try.prog w = .ok r w) (hw : Region.wanted op (yielded ops a.tmps) = true) (ho : op.op = .slice ty x none (some y) none)
    (hx : a.eval x = v) (hy : a.eval y = u) : YieldsIf Try.prog ops S op r a :=
  .inl ⟨hw, fun w hw' => by
    unfold execOp
    simp only [ho, Option.map_some, Option.map_none, hx, hy, hS w, Sem.run_bind, Sem.run_pure, Result.andThen_ok]⟩
theorem yields_slt (x y : Operand) (ty : TypeId) (v u r : Value) (hS : ∀ w, (Instr.sliceAt ty v (some u) none none).run Try.prog w = .ok r w) (hw : Region.wanted op (yielded ops a.tmps) = true) (ho : op.op = .slice ty x (some y) none none)
    (hx : a.eval x = v) (hy : a.eval y = u) : YieldsIf Try.prog ops S op r a :=
  .inl ⟨hw, fun w hw' => by
    unfold execOp
    simp only [ho, Option.map_some, Option.map_none, hx, hy, hS w, Sem.run_bind, Sem.run_pure, Result.andThen_ok]⟩
end
theorem run_size34 (w : World) : (Go.sizeOf 34).run Try.prog w = .ok 9 w := by kernel_rfl
theorem head34 {ra : Option Addr} {n rc k : Nat} {w : World} {l : List O} (h : OLies w (.slice ra n rc) l) (hk : k ≤ n) :
    (∀ W, (Instr.sliceAt 30 (.slice ra n rc) none (some (.int .i64 (k : Int))) none).run Try.prog W = .ok (.slice ra k rc) W) ∧ OLies w (.slice ra k rc) (l.take k) := by
  obtain ⟨ao, cap, e, h1, h2, h3, h4⟩ := h
  injection e with e1 e2 e3
  subst e1 e2 e3
  have hl : (l.take k).length = k := by rw [List.length_take]; omega
  refine ⟨fun W => ?_, ra, rc, by rw [hl], by rw [hl]; omega, h2, fun e => ?_, fun b hb hne => ?_⟩
  · rw [run_sliceAt_slice (P := Try.prog) (h := Try.u27), run_slice_h (P := Try.prog) (ht := Try.u27) (h0 := by omega) (h2 := by omega)]
    rw [show (Go.sizeOf (Try.prog.elem 30)).run Try.prog W = .ok 9 W from run_size34 W]
    show Result.ok (sliced ra 0 (k : Int).toNat rc 9) W = _
    unfold sliced
    cases ra with
    | none => simp
    | some b =>
      simp
      try rw [show b.add 0 = b from by unfold Addr.add; simp]
      exact fun _ => rfl
  · have := h3 e
    rw [this.1]
    exact ⟨by simp, this.2⟩
  · obtain ⟨g, o, rfl, hg, hc⟩ := h4 b hb (fun e => hne (by rw [e]; simp))
    refine ⟨g, o, rfl, hg, fun j p hj i u hu => hc j p ?_ i u hu⟩
    rw [List.getElem?_take] at hj
    split at hj
    · exact hj
    · cases hj
theorem tail34 {ra : Option Addr} {n rc k : Nat} {w : World} {l : List O} (h : OLies w (.slice ra n rc) l) (hk : k ≤ n) :
    ∃ A, (∀ W, (Instr.sliceAt 30 (.slice ra n rc) (some (.int .i64 (k : Int))) none none).run Try.prog W = .ok (.slice A (n - k) (rc - k)) W) ∧ OLies w (.slice A (n - k) (rc - k)) (l.drop k) := by
  obtain ⟨A, h1, h2⟩ := slice_tailK (enc := oc) (k := 9) (t := 30) Try.u27 run_size34 (show LiesK oc 9 w (.slice ra n rc) l from h) hk
  refine ⟨A, fun W => ?_, h2⟩
  rw [run_sliceAt_slice (P := Try.prog) (h := Try.u27)]
  exact h1 W
theorem rem3 {b n : Nat} (hb : b < 256) (hn : 0 < n) (hn2 : n < 100000) (W : World) : (binOp .rem 3 (.int .i64 (b : Int)) (.int .i64 (n : Int))).run Try.prog W = .ok (.int .i64 ((b % n : Nat) : Int)) W := by
  have h0 : ¬ ((n : Int) = 0) := by omega
  go_simp
  rw [if_neg (by omega), Int.tmod_eq_emod_of_nonneg (by omega)]
/-! ### plain -/
theorem addE_of {L : List O} {o : O} (ho : rO o = true) (hn : hasO L o.t o.r = false) : addE 0 0 L o = 0 := by
  unfold addE
  rw [if_neg (by rw [ho]; simp), if_neg ?_, if_neg (by rw [hn]; simp)]
  have ht : 1 ≤ o.t := by
    unfold rO rB St.rightB St.rT at ho
    simp only [Bool.and_eq_true, decide_eq_true_eq] at ho
    omega
  unfold St.cmpS Lib.compareInt
  rw [if_neg (by omega)]
  split
  · omega
  · split <;> omega
def One (l : List O) : Prop := l.Pairwise (fun a b => ¬ (a.t = b.t ∧ a.r = b.r))
theorem One.perm {l m : List O} (h : One l) (hp : l.Perm m) : One m := by
  unfold One at *
  exact (List.Perm.pairwise_iff (R := fun (a b : O) => ¬ (a.t = b.t ∧ a.r = b.r)) (fun {x y} hh e => hh ⟨e.1.symm, e.2.symm⟩) hp).1 h
/-- What is still to come is not there. -/
theorem fresh {u K A B L : List O} {x : O} (hu : One u) (hp : (K ++ (A ++ x :: B)).Perm u) (hm : ∀ y ∈ L, y ∈ K) : hasO L x.t x.r = false := by
  have h := hu.perm hp.symm
  have h := (List.pairwise_append.1 h).2.2
  refine List.any_eq_false.2 (fun a ha => ?_)
  have := h a (hm a ha) x (by simp)
  simpa using this
theorem perm_take {u K A B : List O} {x : O} (hp : (K ++ (A ++ x :: B)).Perm u) : ((x :: K) ++ (A ++ B)).Perm u := by
  refine List.Perm.trans ?_ hp
  have h1 : (x :: K ++ (A ++ B)).Perm (K ++ x :: (A ++ B)) := List.perm_middle.symm
  exact h1.trans (List.Perm.append_left K List.perm_middle.symm)
theorem split_at {α : Type} {l : List α} {k : Nat} {x : α} (h : l[k]? = some x) : l = l.take k ++ x :: l.drop (k + 1) := by
  obtain ⟨h1, h2⟩ := List.getElem?_eq_some_iff.1 h
  rw [← h2, ← List.drop_eq_getElem_cons h1, List.take_append_drop]
/-- How long a slice is. -/
def slLen : Value → Nat
  | .slice _ n _ => n
  | _ => 0
/-- Members of a tree's log, and how many. -/
structure LM (L K u : List O) : Prop where
  lg : LG L K.length
  mem : ∀ y, y ∈ L ↔ y ∈ K
  right : ∀ o ∈ u, rO o = true ∧ OkO o
theorem LM.put {L K u A B : List O} {x : O} (h : LM L K u) (hu : One u) (hp : (K ++ (A ++ x :: B)).Perm u) : addE 0 0 L x = 0 ∧ LM (putO L x) (x :: K) u := by
  have hx : x ∈ u := hp.subset (by simp)
  obtain ⟨h1, h2⟩ := h.right x hx
  have he := addE_of h1 (fresh hu hp (fun y hy => (h.mem y).1 hy))
  refine ⟨he, h.lg.put h2 he, fun y => ?_, h.right⟩
  rw [put_mem, List.mem_cons, h.mem]
theorem LM.end {L1 L2 K1 K2 u : List O} (h1 : LM L1 K1 u) (h2 : LM L2 K2 u) (p1 : K1.Perm u) (p2 : K2.Perm u) : L1 = L2 :=
  riseO_ext h1.lg.rise h2.lg.rise (fun y => by rw [h1.mem, h2.mem, p1.mem_iff, p2.mem_iff])
end Go.Proofs.Ytkmeceoilighiaa

set_option linter.unusedVariables false
set_option linter.unusedSimpArgs false
set_option maxRecDepth 100000
namespace Go.Proofs.Ytkmeceoilighiaa
open Go.RowKit Go.Shelf
open Tb (Rw TabI TM LiesK)

theorem own_base {w : World} {B B' e k n : Nat} {v : Value} {xs : List Value} (h : w.ownsRow B e k v n xs) (hB : B' ≤ B) : w.ownsRow B' e k v n xs := by
  refine ⟨h.1, ?_⟩
  rcases h.2 with h | ⟨g, cap, cur, h1, h2, h3⟩
  · exact .inl h
  · exact .inr ⟨g, cap, cur, h1, Nat.le_trans hB h2, h3⟩
theorem app34 (w : World) (B : Nat) (v : Value) (l : List O) (x : Value) (m : List O) (hown : w.ownsRow B 34 9 v l.length (cs9 l)) (hs : OLies w x m) (hl : l.length + m.length ≤ 1000) (hB : B ≤ w.heap.size) :
    ∃ va w', (Builtin.append_ #[30, 30] 30 #[v, x]).run Try.prog w = .ok va w' ∧ w'.ownsRow B 34 9 va (l ++ m).length (cs9 (l ++ m)) ∧ Below B w w' := by
  obtain ⟨i0, hi9, hz0, hz1, hz2⟩ := info_parts info25
  obtain ⟨va, w', h1, h2, h3, _⟩ := Tb.run_append_src_own (P := Try.prog) w B 30 30 30 34 i0 (oV O0) 9 80 Try.u27 hi9 hz0 hz1 hz2 rfl (by decide) v l.length (cs9 l) hown x m.length (cs9 m) hs.src (by unfold maxLen; omega) (by omega) hB
  refine ⟨va, w', h1, ?_, (Below.refl B w).grown h3 hB (fun k hk => (own_lt hown k hk).1)⟩
  rw [List.length_append, cs9_append]
  exact h2
theorem LM.permK {L K K' u : List O} (h : LM L K u) (hp : K.Perm K') : LM L K' u :=
  ⟨by rw [← hp.length_eq]; exact h.lg, fun y => by rw [h.mem, hp.mem_iff], h.right⟩
/-- Where the two trees lie. -/
structure Geo (wU w1 w2 : World) (p q mb p' q' mb' : Nat) : Prop where
  u1 : wU.heap.size ≤ w1.heap.size
  one : p < w1.heap.size ∧ q < w1.heap.size ∧ mb < w1.heap.size
  two : p' < w2.heap.size ∧ q' < w2.heap.size ∧ mb' < w2.heap.size
  lo : w1.heap.size ≤ p' ∧ w1.heap.size ≤ q' ∧ w1.heap.size ≤ mb'
  le : w1.heap.size ≤ w2.heap.size
/-- The first loop. -/
structure OA1 (wU w1 w2 W : World) (u : List O) (p q mb p' q' mb' i : Nat) : Prop where
  bel : Below wU.heap.size wU W
  sz : w2.heap.size ≤ W.heap.size
  t1 : ∃ L la lc, TreeI W wU.heap.size p q mb [] 0 0 L la lc ∧ LM L (u.take i) u ∧ ∀ k, (lgV la 0 0).ownBlock = some k → w2.heap.size ≤ k
  t2 : TreeI W w1.heap.size p' q' mb' [] 0 0 [] none 0
theorem lgV_some {g k : Nat} (h : (lgV (some ⟨g, 0, none⟩) 0 0).ownBlock = some k) : k = g := by
  have : some g = some k := h
  injection this with e
  exact e.symm
theorem lgV_none {k : Nat} (h : (lgV none 0 0).ownBlock = some k) : False := by cases h
theorem oa_step {wU w1 w2 W W' : World} {u : List O} {p q mb p' q' mb' i : Nat} {L : List O} {la : Option Addr} {lc : Nat} {x : O} (G : Geo wU w1 w2 p q mb p' q' mb') (hb : Below wU.heap.size wU W) (hsz : w2.heap.size ≤ W.heap.size)
    (t1 : TreeI W wU.heap.size p q mb [] 0 0 L la lc) (lm : LM L (u.take i) u) (hk : ∀ k, (lgV la 0 0).ownBlock = some k → w2.heap.size ≤ k) (t2 : TreeI W w1.heap.size p' q' mb' [] 0 0 [] none 0) (hone : One u) (hx : u[i]? = some x)
    (hr : (addE 0 0 L x ≠ 0 ∧ Below W.heap.size W W') ∨ (addE 0 0 L x = 0 ∧ Far (HasT p mb la) W W' ∧ ∃ g lc', TreeI W' wU.heap.size p q mb [] 0 0 (putO L x) (some ⟨g, 0, none⟩) lc' ∧ ((lgV la 0 0).ownBlock = some g ∨ W.heap.size ≤ g))) :
    OA1 wU w1 w2 W' u p q mb p' q' mb' (i + 1) := by
  have hp : (u.take i ++ ([] ++ x :: u.drop (i + 1))).Perm u := by rw [List.nil_append, ← split_at hx]
  obtain ⟨h0, hl⟩ := lm.put hone hp
  rcases hr with ⟨hn, _⟩ | ⟨_, hf, g, lc', ht', hg⟩
  · exact absurd h0 hn
  · refine ⟨hb.trans (hf.belowT t1), Nat.le_trans hsz hf.size, ⟨_, _, _, ht', ?_, fun k e => ?_⟩, t2.keep hf (fun k h1 h2 => ?_)⟩
    · refine hl.permK ?_
      obtain ⟨h1, h2⟩ := List.getElem?_eq_some_iff.1 hx
      rw [List.take_succ_eq_append_getElem h1, h2]
      exact (List.perm_append_singleton x _).symm
    · have := lgV_some e
      subst this
      rcases hg with e | e
      · exact hk _ e
      · exact Nat.le_trans hsz e
    · have hk1 : w1.heap.size ≤ k ∧ k < w2.heap.size := by
        rcases h1 with (rfl | rfl | e) | rfl
        · exact ⟨G.lo.1, G.two.1⟩
        · exact ⟨G.lo.2.2, G.two.2.2⟩
        · exact (lgV_none e).elim
        · exact ⟨G.lo.2.1, G.two.2.1⟩
      rcases h2 with rfl | rfl | e
      · have := G.one.1; omega
      · have := G.one.2.2; omega
      · have := hk _ e; omega
/-- The second loop. -/
structure OA2 (wU w1 w2 w3 W : World) (u L1 : List O) (p q mb p' q' mb' : Nat) (la1 : Option Addr) (lc1 : Nat) (m K : List O) (lv : Value) : Prop where
  bel : Below wU.heap.size wU W
  sz : w3.heap.size ≤ W.heap.size
  t1 : TreeI W wU.heap.size p q mb [] 0 0 L1 la1 lc1
  t2 : ∃ L la lc, TreeI W w1.heap.size p' q' mb' [] 0 0 L la lc ∧ LM L K u ∧ ∀ k, (lgV la 0 0).ownBlock = some k → w3.heap.size ≤ k ∧ lv.ownBlock ≠ some k
  left : W.ownsRow w3.heap.size 34 9 lv m.length (cs9 m)
  perm : (K ++ m).Perm u
theorem ob_step {wU w1 w2 w3 W W' : World} {u L1 : List O} {p q mb p' q' mb' : Nat} {la1 : Option Addr} {lc1 : Nat} {m K A C : List O} {lv : Value} {L : List O} {la : Option Addr} {lc : Nat} {x : O} (G : Geo wU w1 w2 p q mb p' q' mb') (h23 : w2.heap.size ≤ w3.heap.size)
    (hk1 : ∀ k, (lgV la1 0 0).ownBlock = some k → w2.heap.size ≤ k ∧ k < w3.heap.size)
    (hb : Below wU.heap.size wU W) (hsz : w3.heap.size ≤ W.heap.size) (t1 : TreeI W wU.heap.size p q mb [] 0 0 L1 la1 lc1) (t2 : TreeI W w1.heap.size p' q' mb' [] 0 0 L la lc) (lm : LM L K u)
    (hk : ∀ k, (lgV la 0 0).ownBlock = some k → w3.heap.size ≤ k ∧ lv.ownBlock ≠ some k) (hown : W.ownsRow w3.heap.size 34 9 lv m.length (cs9 m)) (hone : One u) (hp : (K ++ (A ++ x :: C)).Perm u)
    (hr : (addE 0 0 L x ≠ 0 ∧ Below W.heap.size W W') ∨ (addE 0 0 L x = 0 ∧ Far (HasT p' mb' la) W W' ∧ ∃ g lc', TreeI W' w1.heap.size p' q' mb' [] 0 0 (putO L x) (some ⟨g, 0, none⟩) lc' ∧ ((lgV la 0 0).ownBlock = some g ∨ W.heap.size ≤ g))) :
    Below wU.heap.size wU W' ∧ W.heap.size ≤ W'.heap.size ∧ TreeI W' wU.heap.size p q mb [] 0 0 L1 la1 lc1 ∧ (∃ L la lc, TreeI W' w1.heap.size p' q' mb' [] 0 0 L la lc ∧ LM L (x :: K) u ∧ ∀ k, (lgV la 0 0).ownBlock = some k → w3.heap.size ≤ k ∧ k < W'.heap.size) ∧ W'.ownsRow w3.heap.size 34 9 lv m.length (cs9 m) := by
  obtain ⟨h0, hl⟩ := lm.put hone hp
  have hle := G.le
  rcases hr with ⟨hn, _⟩ | ⟨_, hf, g, lc', ht', hg⟩
  · exact absurd h0 hn
  · refine ⟨hb.trans ((hf.belowT t2).mono G.u1), hf.size, t1.keep hf (fun k h1 h2 => ?_), ⟨_, _, _, ht', hl, fun k e => ⟨?_, ?_⟩⟩, hf.row hown (fun j hj h2 => ?_)⟩
    · have h3 : k < w1.heap.size ∨ (w2.heap.size ≤ k ∧ k < w3.heap.size) := by
        rcases h1 with (rfl | rfl | e) | rfl
        · exact .inl G.one.1
        · exact .inl G.one.2.2
        · exact .inr (hk1 _ e)
        · exact .inl G.one.2.1
      rcases h2 with rfl | rfl | e
      · have := G.lo.1; have := G.two.1; omega
      · have := G.lo.2.2; have := G.two.2.2; omega
      · have := (hk _ e).1; omega
    · have := lgV_some e
      subst this
      rcases hg with e | e
      · exact (hk _ e).1
      · exact Nat.le_trans hsz e
    · exact (ht'.has (.inr (.inr e))).2
    · have h3 := own_lt hown j hj
      rcases h2 with rfl | rfl | e
      · have := G.two.1; omega
      · have := G.two.2.2; omega
      · exact (hk _ e).2 hj
/-- Behind a round of the second loop. -/
theorem ob_next {wU w1 w2 w3 W W' : World} {u L1 : List O} {p q mb p' q' mb' : Nat} {la1 : Option Addr} {lc1 : Nat} {m' K' : List O} {lv' : Value}
    (hb : Below wU.heap.size wU W) (hsz : w3.heap.size ≤ W.heap.size) (t1 : TreeI W wU.heap.size p q mb [] 0 0 L1 la1 lc1) (hu : wU.heap.size ≤ W.heap.size)
    (t2 : ∃ L la lc, TreeI W w1.heap.size p' q' mb' [] 0 0 L la lc ∧ LM L K' u ∧ ∀ k, (lgV la 0 0).ownBlock = some k → w3.heap.size ≤ k ∧ k < W.heap.size)
    (hW : Below W.heap.size W W') (hown : W'.ownsRow W.heap.size 34 9 lv' m'.length (cs9 m')) (hp : (K' ++ m').Perm u) : OA2 wU w1 w2 w3 W' u L1 p q mb p' q' mb' la1 lc1 m' K' lv' := by
  obtain ⟨L, la, lc, h1, h2, h3⟩ := t2
  refine ⟨hb.trans (hW.mono hu), Nat.le_trans hsz hW.size, t1.step hW, ⟨L, la, lc, h1.step hW, h2, fun k e => ⟨(h3 k e).1, fun e2 => ?_⟩⟩, own_base hown hsz, hp⟩
  have := (own_lt hown k e2).1
  have := (h3 k e).2
  omega
theorem add3 {k : Nat} (hk : k < 100000) (W : World) : (binOp .add 3 (.int .i64 (k : Int)) (.int .i64 1)).run Try.prog W = .ok (.int .i64 ((k + 1 : Nat) : Int)) W := by
  have e : wrap64 ((k : Int) + 1) = (k : Int) + 1 := by unfold wrap64; omega
  go_simp
  rw [IntKind.wrap_i64]
  omega
theorem gadd (x y : Operand) (u v : Value) (w : World) : (eqGuard .add 3 x y u v).run Try.prog w = .ok () w := rfl
theorem ld5 {W : World} {g o : Nat} {b : Int} (c0 : W.cell? ⟨g, o, none⟩ = some (.int .u8 b)) : (Instr.loadAt 5 (.pointer (some ⟨g, o, none⟩))).run Try.prog W = .ok (.int .u8 b) W := by
  go_simp
end Go.Proofs.Ytkmeceoilighiaa

set_option linter.unusedVariables false
set_option linter.unusedSimpArgs false
set_option maxRecDepth 100000
namespace Go.Proofs.Ytkmeceoilighiaa
open Go.RowKit Go.Shelf
open Tb (Rw setF getF aboveF Rise TabI TM LiesK LiesR ltS)

/-- The reference's tree, boxed, and a stamp. -/
structure RX (w W : World) (ba : Option Addr) (bn bc : Nat) (ft fr : Int) (la : Option Addr) (ln lc : Nat) (t r : Int) : Prop where
  bel : Below w.heap.size w W
  b1 : W.heap[w.heap.size]? = some (.cells #[.slice ba bn bc, .int .i64 ft, .int .i64 fr, .slice la ln lc] 32 (0, 0))
  b2 : W.heap[w.heap.size + 1]? = some (.cells #[.int .i64 t, .int .i64 r] 24 (0, 0))
theorem RX.step {w W W' : World} {ba : Option Addr} {bn bc : Nat} {ft fr : Int} {la : Option Addr} {ln lc : Nat} {t r : Int} (h : RX w W ba bn bc ft fr la ln lc t r) (hb : Below W.heap.size W W') : RX w W' ba bn bc ft fr la ln lc t r :=
  ⟨h.bel.trans (hb.mono h.bel.size), (hb.block _ (pl_lt h.b1)).trans h.b1, (hb.block _ (pl_lt h.b2)).trans h.b2⟩
theorem RX.start (w : World) (ba : Option Addr) (bn bc : Nat) (ft fr : Int) (la : Option Addr) (ln lc : Nat) (t r : Int) : RX w ((w.alloc (.cells #[.slice ba bn bc, .int .i64 ft, .int .i64 fr, .slice la ln lc] 32)).alloc (.cells #[.int .i64 t, .int .i64 r] 24)) ba bn bc ft fr la ln lc t r := by
  have B1 := pl_vstep w (.cells #[.slice ba bn bc, .int .i64 ft, .int .i64 fr, .slice la ln lc] 32)
  have N1 := heap_alloc_new w (.cells #[.slice ba bn bc, .int .i64 ft, .int .i64 fr, .slice la ln lc] 32)
  have z1 : (w.alloc (.cells #[.slice ba bn bc, .int .i64 ft, .int .i64 fr, .slice la ln lc] 32)).heap.size = w.heap.size + 1 := by simp
  generalize w.alloc (.cells #[.slice ba bn bc, .int .i64 ft, .int .i64 fr, .slice la ln lc] 32) = w1 at *
  have B2 := pl_vstep w1 (.cells #[.int .i64 t, .int .i64 r] 24)
  have N2 := heap_alloc_new w1 (.cells #[.int .i64 t, .int .i64 r] 24)
  rw [z1] at N2
  exact ⟨B1.trans (B2.mono B1.size), (B2.block _ (pl_lt N1)).trans N1, N2⟩
theorem ld30 {W : World} {g o : Nat} {a : Option Addr} {n c : Nat} (h : W.cell? ⟨g, o, none⟩ = some (.slice a n c)) : (Instr.loadAt 30 (.pointer (some ⟨g, o, none⟩))).run Try.prog W = .ok (.slice a n c) W := by
  go_simp
def rdidF (T : List Rw) : List O → Int → Int → Bool
  | [], _, _ => false
  | o :: L, t, r => if o.t = t ∧ o.r = r then !skipF T o else rdidF (doF T o) L t r
theorem rdid_none : ∀ (L : List O) (T : List Rw) (t r : Int), hasO L t r = false → rdidF T L t r = false
  | [], _, _, _, _ => rfl
  | o :: L, T, t, r, h => by
    have h : (decide (o.t = t ∧ o.r = r) || hasO L t r) = false := h
    obtain ⟨h1, h2⟩ := Bool.or_eq_false_iff.1 h
    unfold rdidF
    rw [if_neg (of_decide_eq_false h1)]
    exact rdid_none L _ t r h2
theorem rdid_at : ∀ (L : List O) (T : List Rw) (i : Nat) (x : O) (t r : Int), hasO (L.take i) t r = false → L[i]? = some x → (x.t = t ∧ x.r = r) → rdidF T L t r = !skipF (playF T (L.take i)) x
  | [], _, _, _, _, _, _, h, _ => by simp at h
  | o :: L, T, 0, x, t, r, _, h, he => by
    injection h with h
    subst h
    unfold rdidF
    rw [if_pos he]
    rfl
  | o :: L, T, i + 1, x, t, r, h1, h, he => by
    have h1 : (decide (o.t = t ∧ o.r = r) || hasO (L.take i) t r) = false := h1
    obtain ⟨q1, q2⟩ := Bool.or_eq_false_iff.1 h1
    unfold rdidF
    rw [if_neg (of_decide_eq_false q1)]
    exact rdid_at L (doF T o) i x t r q2 h he
theorem rdid_did : ∀ (L : List O) (T : List Rw) (t r : Int), RiseO L → didF (stepsF T L) t r = rdidF T L t r
  | [], _, _, _, _ => rfl
  | o :: L, T, t, r, h => by
    obtain ⟨h1, h2⟩ := List.pairwise_cons.1 h
    have ih := rdid_did L (doF T o) t r h2
    unfold didF at ih ⊢
    rw [steps_o] at ih ⊢
    unfold rdidF
    show ((decide (o.t = t ∧ o.r = r) || hasO L t r) && (((stepF T o :: stepsF (doF T o) L)[posF (o :: L) t r]?).map (·.did)).getD false) = _
    rcases ltS_tri o.t o.r t r with ⟨q, q2, _⟩ | ⟨q, q2, _⟩ | ⟨q, q2, q3⟩
    · have e1 : posF (o :: L) t r = posF L t r + 1 := by
        unfold posF
        rw [List.filter_cons_of_pos (p := fun x => ltO x t r) (show ltO o t r = true from q)]
        rfl
      rw [if_neg q2, e1, decide_eq_false q2, Bool.false_or, List.getElem?_cons_succ]
      exact ih
    · have e1 : posF (o :: L) t r = 0 := by
        unfold posF
        rw [List.filter_cons_of_neg (p := fun x => ltO x t r) (by show ¬ ltS o.t o.r t r = true; rw [q]; simp), List.filter_eq_nil_iff.2 (fun b hb hc => by
          have h4 := ltS_trans (h1 b hb) (show ltS b.t b.r t r = true from hc)
          rw [q2.1, q2.2, ltS_irr] at h4; cases h4)]
        rfl
      rw [if_pos q2, e1, decide_eq_true q2]
      show (true && ((some (stepF T o)).map (·.did)).getD false) = _
      unfold stepF
      cases hs : skipF T o with
      | true => rw [if_pos rfl]; rfl
      | false => rw [if_neg (by simp)]; rfl
    · have hn : hasO L t r = false := List.any_eq_false.2 (fun b hb hc => by
        have hc := of_decide_eq_true hc
        have h4 := ltS_trans q3 (h1 b hb)
        rw [hc.1, hc.2, ltS_irr] at h4; cases h4)
      rw [if_neg q2, decide_eq_false q2, hn, rdid_none L _ t r hn]
      rfl
set_option maxHeartbeats 1600000 in
theorem rtable_any (w : World) (ba : Option Addr) (bn bc : Nat) (T : List Rw) (ft fr : Int) (la : Option Addr) (ln lc : Nat) (L : List O) (hT : LiesR w (.slice ba bn bc) T) (hr : Rise T) (hL : OLies w (.slice la ln lc) L) (hl : T.length + L.length ≤ 900) :
    Calls Try.prog 15 #[.agg #[.slice ba bn bc, .int .i64 ft, .int .i64 fr, .slice la ln lc]] w fun e w' => ∃ r, e = .returned r ∧ LiesR w' r (playF T L) ∧ Below w.heap.size w w' := by
  have B1 := pl_vstep w (.cells #[.slice ba bn bc, .int .i64 ft, .int .i64 fr, .slice la ln lc] 32)
  have N1 := heap_alloc_new w (.cells #[.slice ba bn bc, .int .i64 ft, .int .i64 fr, .slice la ln lc] 32)
  obtain ⟨w0, hw0⟩ : ∃ z, w.alloc (.cells #[.slice ba bn bc, .int .i64 ft, .int .i64 fr, .slice la ln lc] 32) = z := ⟨_, rfl⟩
  rw [hw0] at B1 N1
  have HW := Lib.hid hw0
  have B0 := Lib.hid B1
  have PL := Lib.hid (rplay_any w0 (.slice ba bn bc) T (hT.step B1) hr (.slice la ln lc) L (hL.step B1) hl)
  obtain ⟨c0, c1, c2, c3⟩ := box4 N1
  clear hw0 B1 N1 hT hL
  go_enter Try.func15, Try.ntmps15
  go_upto_region 1 with (fail)
  rw [HW.out]
  go_wp2_with fail
  refine PL.out.mono ?_
  rintro e w1 ⟨rv, rfl, h1, hb, _⟩
  have F1 := Lib.hid (And.intro h1 (B0.out.trans (hb.mono B0.out.size)))
  clear h1 hb
  go_wp2
  go_returns
  exact ⟨_, rfl, F1.out.1, F1.out.2⟩
set_option maxHeartbeats 3200000 in
theorem rdid_any (w : World) (ba : Option Addr) (bn bc : Nat) (T : List Rw) (ft fr : Int) (la : Option Addr) (lc : Nat) (L : List O) (hT : LiesR w (.slice ba bn bc) T) (hr : Rise T) (hL : OLies w (.slice la L.length lc) L) (hl : T.length + L.length ≤ 900) (t r : Int) :
    Calls Try.prog 20 #[.agg #[.slice ba bn bc, .int .i64 ft, .int .i64 fr, .slice la L.length lc], .agg #[.int .i64 t, .int .i64 r]] w fun e w' => e = .returned (.bool (rdidF T L t r)) ∧ Below w.heap.size w w' := by
  have K0 := RX.start w ba bn bc ft fr la L.length lc t r
  have HT := Lib.hid hT
  have HL := Lib.hid hL
  obtain ⟨w0, hw0⟩ : ∃ z, (w.alloc (.cells #[.slice ba bn bc, .int .i64 ft, .int .i64 fr, .slice la L.length lc] 32)).alloc (.cells #[.int .i64 t, .int .i64 r] 24) = z := ⟨_, rfl⟩
  rw [hw0] at K0
  have HW := Lib.hid hw0
  have K0 := Lib.hid K0
  clear hw0 hT hL
  obtain ⟨c0, c1, c2, c3⟩ := box4 K0.out.b1
  go_enter Try.func20, Try.ntmps20
  go_upto_region 1 with (fail)
  rw [HW.out]
  go_upto_region 2 with (fail)
  clear c0 c1 c2 c3
  have J0 := Lib.hid (And.intro K0.out (And.intro (show LiesR w0 (.slice ba bn bc) (playF T (L.take 0)) from HT.out.step K0.out.bel) (show hasO (L.take 0) t r = false from rfl)))
  go_wp2_with fail
  go_loopw [5, 6] (fun tv iv wr => ∃ i : Nat, iv = .int .i64 i ∧ i ≤ L.length ∧ Hid (RX w wr ba bn bc ft fr la L.length lc t r ∧ LiesR wr tv (playF T (L.take i)) ∧ hasO (L.take i) t r = false)) (fun _ iv _ => L.length - (intOf iv).toNat)
  case atStart => exact ⟨0, rfl, Nat.zero_le _, J0⟩
  case round =>
    obtain ⟨i, rfl, hi, K⟩ := hrel
    obtain ⟨ta, tc, htv⟩ := K.out.2.1.shape
    subst htv
    obtain ⟨c0, c1, c2, c3⟩ := box4 K.out.1.b1
    by_cases hlt : i < L.length
    · have hi0 : (0 : Int) ≤ (i : Int) := by omega
      have hi1 : (i : Int) < (L.length : Int) := by omega
      have hd : decide ((i : Int) < (L.length : Int)) = true := decide_eq_true hi1
      have HLS := Lib.hid (show i + 1 ≤ L.length from hlt)
      have HW9 := Lib.hid (wrap_nat hlt (show L.length ≤ 100000 by omega))
      have HMS := Lib.hid (meas_nat hlt)
      obtain ⟨g, k, x, rfl, hx, hg, hc⟩ := (HL.out.step K.out.1.bel).atK hlt
      have LX := Lib.hid (@ldO wr g (k + i * 9) x hc)
      have PS := Lib.hid (play_snoc T hx)
      have ON := Lib.hid (one_any wr _ _ x K.out.2.1 (by have := play_len (L.take i) T; rw [List.length_take] at this; omega) (play_rise (L.take i) hr))
      have HX := Lib.hid hx
      have CS := Lib.hid (fun W (hb : Below wr.heap.size wr W) => @ld24 W g (k + i * 9) x.t x.r ((hb.cell (p := ⟨g, k + i * 9 + 0, none⟩) hg).trans (hc 0 _ rfl)) ((hb.cell (p := ⟨g, k + i * 9 + 1, none⟩) hg).trans (hc 1 _ rfl)))
      have IX := Lib.hid (fun W => @ix30 g k L.length lc i hlt W)
      clear hx hg hc
      go_wp2_with (first | (refine Ve.wpList_load_arr rfl (.tmp 23) 34 rfl (.pointer (some ⟨g, k + i * 9, none⟩)) (oV x) rfl LX.out ?_))
      refine ON.out.mono ?_
      rintro e w5 ⟨rv, rfl, hl5, hb, _⟩
      have K5 := Lib.hid (K.out.1.step hb)
      have L5 := Lib.hid (show LiesR w5 rv (playF T (L.take (i + 1))) from by rw [PS.out]; exact hl5)
      have B5 := Lib.hid hb
      obtain ⟨sk, hsk⟩ : ∃ z, skipF (playF T (L.take i)) x = z := ⟨_, rfl⟩
      have HSK := Lib.hid hsk
      rw [hsk]
      clear hl5 hb ON LX c0 c1 c2 c3 hsk
      go_upto_region 7 with (fail)
      have LQ := Lib.hid (fun W (hb : Below w5.heap.size w5 W) => CS.out W (B5.out.trans (hb.mono B5.out.size)))
      have LV := Lib.hid (fun W (hb : Below w5.heap.size w5 W) => @ld30 W w.heap.size 3 _ _ _ (box4 (K5.out.step hb).b1).2.2.2)
      have LT := Lib.hid (fun W (hb : Below w5.heap.size w5 W) => ldSt (K5.out.step hb).b2)
      by_cases he : x.t = t ∧ x.r = r
      · have E24 := Lib.hid (fun W => (eq24 x.t x.r t r W).trans (by rw [decide_eq_true he]))
        have HE := Lib.hid (rdid_at L T i x t r K.out.2.2 HX.out he)
        rw [HSK.out] at HE
        clear he
        refine wp_region_held_drew (S := fun w' => Below w5.heap.size w5 w') (by kernel_rfl) (Below.refl _ _).drew (fun hHeld => ?_)
        have BV := Lib.hid (show Below w5.heap.size w5 w5.drew from (Below.refl _ _).drew)
        clear hHeld
        refine take_at (i := 0) 29 ?_ rfl rfl (by kernel_rfl) (by kernel_rfl) (by kernel_rfl) (fun _ _ _ h => h) (.inl ⟨rfl, ?_⟩) BV.out ?_
        rotate_left 1
        · intro w hSw; go_simp; try with_reducible rfl
        simp only [Act.put, List.setIfInBounds_toArray, List.set_cons_zero, List.set_cons_succ]
        refine take_at (i := 1) 30 (.slice (some ⟨g, k, none⟩) L.length lc) rfl rfl (by kernel_rfl) (by kernel_rfl) (by kernel_rfl) (fun _ _ _ h => h) (yields_ld (.tmp 29) 30 (.pointer (some ⟨w.heap.size, 3, none⟩)) _ LV.out rfl rfl rfl) BV.out ?_
        simp only [Act.put, List.setIfInBounds_toArray, List.set_cons_zero, List.set_cons_succ]
        refine take_at (i := 2) 31 ?_ rfl rfl (by kernel_rfl) (by kernel_rfl) (by kernel_rfl) (fun _ _ _ h => h) (.inl ⟨rfl, ?_⟩) BV.out ?_
        rotate_left 1
        · intro w hSw; go_simp; try with_reducible rfl
        simp only [Act.put, List.setIfInBounds_toArray, List.set_cons_zero, List.set_cons_succ]
        refine take_at (i := 3) 32 (.pointer (some ⟨g, k + i * 9, none⟩)) rfl rfl (by kernel_rfl) (by kernel_rfl) (by kernel_rfl) (fun _ _ _ h => h) (yields_ix (.tmp 30) (.tmp 31) 30 (.slice (some ⟨g, k, none⟩) L.length lc) (.int .i64 (i : Int)) _ IX.out rfl rfl rfl rfl) BV.out ?_
        simp only [Act.put, List.setIfInBounds_toArray, List.set_cons_zero, List.set_cons_succ]
        refine take_at (i := 4) 33 ?_ rfl rfl (by kernel_rfl) (by kernel_rfl) (by kernel_rfl) (fun _ _ _ h => h) (.inl ⟨rfl, ?_⟩) BV.out ?_
        rotate_left 1
        · intro w hSw; go_simp; try with_reducible rfl
        simp only [Act.put, List.setIfInBounds_toArray, List.set_cons_zero, List.set_cons_succ]
        refine take_at (i := 5) 34 (.agg #[.int .i64 x.t, .int .i64 x.r]) rfl rfl (by kernel_rfl) (by kernel_rfl) (by kernel_rfl) (fun _ _ _ h => h) (yields_ld (.tmp 33) 24 (.pointer (some ⟨g, k + i * 9, none⟩)) _ LQ.out rfl rfl rfl) BV.out ?_
        simp only [Act.put, List.setIfInBounds_toArray, List.set_cons_zero, List.set_cons_succ]
        refine take_at (i := 6) 35 (.agg #[.int .i64 t, .int .i64 r]) rfl rfl (by kernel_rfl) (by kernel_rfl) (by kernel_rfl) (fun _ _ _ h => h) (yields_ld (.tmp 3) 24 (.pointer (some ⟨w.heap.size + 1, 0, none⟩)) _ LT.out rfl rfl rfl) BV.out ?_
        simp only [Act.put, List.setIfInBounds_toArray, List.set_cons_zero, List.set_cons_succ]
        refine take_at (i := 7) 36 (.bool true) rfl rfl (by kernel_rfl) (by kernel_rfl) (by kernel_rfl) (fun _ _ _ h => h) (yields_bin .eql (.tmp 34) (.tmp 35) 24 24 (.agg #[.int .i64 x.t, .int .i64 x.r]) (.agg #[.int .i64 t, .int .i64 r]) _ E24.out (g24 _ _ _ _) rfl rfl rfl rfl) BV.out ?_
        simp only [Act.put, List.setIfInBounds_toArray, List.set_cons_zero, List.set_cons_succ]
        refine wpAnyH_done (by kernel_rfl) ?_ _
        have FB := Lib.hid (K5.out.step BV.out).bel
        clear BV
        go_wp2
        go_returns
        exact ⟨by rw [HE.out]; rfl, FB.out⟩
      · have E24 := Lib.hid (fun W => (eq24 x.t x.r t r W).trans (by rw [decide_eq_false he]))
        have HE := Lib.hid (show hasO (L.take (i + 1)) t r = false from by
          obtain ⟨q1, q2⟩ := List.getElem?_eq_some_iff.1 HX.out
          have h1 := K.out.2.2
          unfold hasO at *
          rw [List.take_succ_eq_append_getElem q1, q2, List.any_append, h1]
          show (false || (decide (x.t = t ∧ x.r = r) || false)) = false
          rw [decide_eq_false he]
          rfl)
        clear he
        refine wp_region_held_drew (S := fun w' => Below w5.heap.size w5 w') (by kernel_rfl) (Below.refl _ _).drew (fun hHeld => ?_)
        have BV := Lib.hid (show Below w5.heap.size w5 w5.drew from (Below.refl _ _).drew)
        clear hHeld
        refine take_at (i := 0) 29 ?_ rfl rfl (by kernel_rfl) (by kernel_rfl) (by kernel_rfl) (fun _ _ _ h => h) (.inl ⟨rfl, ?_⟩) BV.out ?_
        rotate_left 1
        · intro w hSw; go_simp; try with_reducible rfl
        simp only [Act.put, List.setIfInBounds_toArray, List.set_cons_zero, List.set_cons_succ]
        refine take_at (i := 1) 30 (.slice (some ⟨g, k, none⟩) L.length lc) rfl rfl (by kernel_rfl) (by kernel_rfl) (by kernel_rfl) (fun _ _ _ h => h) (yields_ld (.tmp 29) 30 (.pointer (some ⟨w.heap.size, 3, none⟩)) _ LV.out rfl rfl rfl) BV.out ?_
        simp only [Act.put, List.setIfInBounds_toArray, List.set_cons_zero, List.set_cons_succ]
        refine take_at (i := 2) 31 ?_ rfl rfl (by kernel_rfl) (by kernel_rfl) (by kernel_rfl) (fun _ _ _ h => h) (.inl ⟨rfl, ?_⟩) BV.out ?_
        rotate_left 1
        · intro w hSw; go_simp; try with_reducible rfl
        simp only [Act.put, List.setIfInBounds_toArray, List.set_cons_zero, List.set_cons_succ]
        refine take_at (i := 3) 32 (.pointer (some ⟨g, k + i * 9, none⟩)) rfl rfl (by kernel_rfl) (by kernel_rfl) (by kernel_rfl) (fun _ _ _ h => h) (yields_ix (.tmp 30) (.tmp 31) 30 (.slice (some ⟨g, k, none⟩) L.length lc) (.int .i64 (i : Int)) _ IX.out rfl rfl rfl rfl) BV.out ?_
        simp only [Act.put, List.setIfInBounds_toArray, List.set_cons_zero, List.set_cons_succ]
        refine take_at (i := 4) 33 ?_ rfl rfl (by kernel_rfl) (by kernel_rfl) (by kernel_rfl) (fun _ _ _ h => h) (.inl ⟨rfl, ?_⟩) BV.out ?_
        rotate_left 1
        · intro w hSw; go_simp; try with_reducible rfl
        simp only [Act.put, List.setIfInBounds_toArray, List.set_cons_zero, List.set_cons_succ]
        refine take_at (i := 5) 34 (.agg #[.int .i64 x.t, .int .i64 x.r]) rfl rfl (by kernel_rfl) (by kernel_rfl) (by kernel_rfl) (fun _ _ _ h => h) (yields_ld (.tmp 33) 24 (.pointer (some ⟨g, k + i * 9, none⟩)) _ LQ.out rfl rfl rfl) BV.out ?_
        simp only [Act.put, List.setIfInBounds_toArray, List.set_cons_zero, List.set_cons_succ]
        refine take_at (i := 6) 35 (.agg #[.int .i64 t, .int .i64 r]) rfl rfl (by kernel_rfl) (by kernel_rfl) (by kernel_rfl) (fun _ _ _ h => h) (yields_ld (.tmp 3) 24 (.pointer (some ⟨w.heap.size + 1, 0, none⟩)) _ LT.out rfl rfl rfl) BV.out ?_
        simp only [Act.put, List.setIfInBounds_toArray, List.set_cons_zero, List.set_cons_succ]
        refine take_at (i := 7) 36 (.bool false) rfl rfl (by kernel_rfl) (by kernel_rfl) (by kernel_rfl) (fun _ _ _ h => h) (yields_bin .eql (.tmp 34) (.tmp 35) 24 24 (.agg #[.int .i64 x.t, .int .i64 x.r]) (.agg #[.int .i64 t, .int .i64 r]) _ E24.out (g24 _ _ _ _) rfl rfl rfl rfl) BV.out ?_
        simp only [Act.put, List.setIfInBounds_toArray, List.set_cons_zero, List.set_cons_succ]
        refine wpAnyH_done (by kernel_rfl) ?_ _
        have KF := Lib.hid (And.intro (K5.out.step BV.out) (And.intro (L5.out.step BV.out) HE.out))
        clear BV
        go_wp2
        go_roundw
        case rel => exact ⟨i + 1, by first | (rw [HW9.out]; rfl) | go_num, HLS.out, KF⟩
        case measure => first | (rw [HW9.out]; exact HMS.out) | exact HMS.out
    · have ei : i = L.length := by omega
      subst ei
      have HE := Lib.hid (rdid_none L T t r (by have := K.out.2.2; rwa [List.take_length] at this))
      have FB := Lib.hid K.out.1.bel
      go_wp2
      go_returns
      exact ⟨by rw [HE.out]; rfl, FB.out⟩
end Go.Proofs.Ytkmeceoilighiaa

set_option linter.unusedVariables false
set_option linter.unusedSimpArgs false
set_option maxRecDepth 100000
namespace Go.Proofs.Ytkmeceoilighiaa
open Go.RowKit Go.Shelf
open Tb (Rw setF dropF getF aboveF Rise TabI TM LiesK TOut)
set_option maxHeartbeats 3200000 in
theorem cut2_any (w : World) (B p q mb : Nat) (T0 : List Rw) (ft fr : Int) (L : List O) (la : Option Addr) (lc : Nat) (h : TreeI w B p q mb T0 ft fr L la lc) (hu : RiseO L) (hl : L.length ≤ 100000) (hne : p ≠ q ∧ p ≠ mb) (t r : Int) :
    Calls Try.prog 14 #[pv p, .agg #[.int .i64 t, .int .i64 r]] w fun e w' => e = .returned (.int .i64 (cutK ft fr L t r : Nat)) ∧
      ((St.cmpS t r ft fr ≤ 0 ∧ Below w.heap.size w w') ∨ (¬ St.cmpS t r ft fr ≤ 0 ∧ w.grownBy w' (some p) ∧ ∃ la' lc', TreeI w' B p q mb (playF T0 (L.take (cutK ft fr L t r))) t r (L.drop (cutK ft fr L t r)) la' lc' ∧ ∀ k, (lgV la' 0 0).ownBlock = some k → w.heap.size ≤ k)) := by
  have hb := pl_vstep w (.cells #[.int .i64 t, .int .i64 r] 24)
  have HB := Lib.hid hb
  have NS := Lib.hid (fun w1 hb => @SB.new w w1 t r (some ⟨q, 0, none⟩) ft fr la L.length lc hb)
  have H := Lib.hid (h.haveL.step hb)
  have CM := Lib.hid (fun W => St.compare_any W t r ft fr)
  have HS := Lib.hid (lies_log h)
  have ep : (stepsF T0 L).map (·.o) = L := steps_o L T0
  have PL := Lib.hid (fun W (hW : Below w.heap.size w W) => place_of W (some ⟨q, 0, none⟩) ft fr la L.length lc (stepsF T0 L) t r ((lies_log h).step hW) (by rw [ep]; exact hu) (by rw [steps_len]; exact hl))
  rw [ep] at PL
  have HT := Lib.hid h
  have CK := Lib.hid (show cutK ft fr L t r = if St.cmpS t r ft fr ≤ 0 then 0 else posF L t r + (if hasO L t r = true then 1 else 0) from rfl)
  have CL := Lib.hid (cutK_le ft fr hu t r)
  have GX := Lib.hid (fun k (W : World) (hW : Below w.heap.size w W) (hk : k ≤ L.length) => slice_tailK Try.u75 run_size89 ((lies_log h).step hW) hk)
  obtain ⟨ps, hps⟩ : ∃ z, posF L t r = z := ⟨_, rfl⟩
  obtain ⟨hs, hhs⟩ : ∃ z, hasO L t r = z := ⟨_, rfl⟩
  obtain ⟨cz, hcz⟩ : ∃ z, St.cmpS t r ft fr = z := ⟨_, rfl⟩
  obtain ⟨ck, hck⟩ : ∃ z, cutK ft fr L t r = z := ⟨_, rfl⟩
  rw [hps, hhs] at PL CK
  rw [hcz] at CM CK ⊢
  rw [hck] at CK CL ⊢
  clear hb h hu hps hhs hcz hck ep
  go_enter Try.func14, Try.ntmps14
  go_wp2_with fail
  refine (H.out _ (Below.refl _ _)).mono ?_
  rintro e w1 ⟨rfl, hb⟩
  have K := Lib.hid (NS.out w1 hb)
  clear hb
  go_upto_region 2 with (fail)
  generalize w1.alloc (.cells #[.pointer (some ⟨q, 0, none⟩), .int .i64 ft, .int .i64 fr, .slice la L.length lc] 77) = w2 at K ⊢
  obtain ⟨k, hk⟩ : ∃ z, w1.heap.size = z := ⟨_, rfl⟩
  rw [hk] at K ⊢
  clear hk
  obtain ⟨⟨s0, s1⟩, g0, g1, g2, g3⟩ := K.out.cells
  go_wp2_with fail
  refine (CM.out w2).mono ?_
  rintro e w3 ⟨rfl, hb⟩
  have K3 := Lib.hid (K.out.step hb)
  clear hb s0 s1 g0 g1 g2 g3 K
  obtain ⟨⟨s0, s1⟩, g0, g1, g2, g3⟩ := K3.out.cells
  by_cases hz : cz ≤ 0
  · have hd : decide (cz ≤ 0) = true := decide_eq_true hz
    have E := Lib.hid (show ck = 0 by rw [CK.out, if_pos hz])
    have HZ := Lib.hid hz
    clear hz
    go_wp2
    go_returns
    exact ⟨by rw [E.out]; rfl, .inl ⟨HZ.out, K3.out.bel⟩⟩
  · have hd : decide (cz ≤ 0) = false := decide_eq_false hz
    have E := Lib.hid (show ck = ps + (if hs = true then 1 else 0) by rw [CK.out, if_neg hz])
    have HZ := Lib.hid hz
    clear hz
    go_wp2_with fail
    refine (PL.out w3 K3.out.bel).mono ?_
    rintro e w4 ⟨rfl, hb⟩
    have K4 := Lib.hid (K3.out.step hb)
    clear hb s0 s1 g0 g1 g2 g3 K3
    obtain ⟨⟨s0, s1⟩, g0, g1, g2, g3⟩ := K4.out.cells
    obtain ⟨A, hsl, hA⟩ := GX.out ck w4 K4.out.bel CL.out
    have CN := Lib.hid (fun W (hW : Below w4.heap.size w4 W) => cloneS_any W A (L.length - ck) (lc - ck) ((stepsF T0 L).drop ck) (hA.step hW) (by rw [List.length_drop, steps_len]; omega))
    have hck0 : (ck : Int) ≤ (L.length : Int) := by have := CL.out; omega
    have hps9 : ps + (if hs = true then 1 else 0) = ck := E.out.symm
    clear hA
    have w4p := K4.out.bel
    have TB := Lib.hid (fun W (hW : Below w4.heap.size w4 W) => (HT.out.step (w4p.trans (hW.mono w4p.size))))
    have hRl : ((stepsF T0 L).drop ck).length = (L.drop ck).length := by rw [List.length_drop, List.length_drop, steps_len]
    have HRL := Lib.hid hRl
    have HLD := Lib.hid (show (L.drop ck).length = L.length - ck from List.length_drop)
    clear hRl w4p
    rcases Bool.eq_false_or_eq_true hs with rfl | rfl
    · have hp1 : (ps : Int) + 1 = (ck : Int) := by simp at hps9; omega
      have hw1 : wrap64 ((ps : Int) + 1) = (ck : Int) := by unfold wrap64; omega
      clear hps9
      go_upto_region 7 with (fail)
      go_wp2_with fail
      refine (CN.out w4 (Below.refl _ _)).mono ?_
      rintro e w5 ⟨v, rfl, hv, hb⟩
      have K5 := Lib.hid (K4.out.step hb)
      have T5 := Lib.hid (TB.out w5 hb)
      obtain ⟨va, vc, rfl⟩ := Tb.own_shapeK hv
      rw [HRL.out] at hv
      have O5 := Lib.hid hv
      clear hb hv s0 s1 g0 g1 g2 g3
      obtain ⟨⟨s0, s1⟩, g0, g1, g2, g3⟩ := K5.out.cells
      obtain ⟨b0, b1, b2, b3⟩ := box4 T5.out.box
      have f3 := frozen_of_row (j := 3) _ _ _ _ T5.out.box
      rw [HRL.out]
      have hpl := HT.out.plt
      have R6 := Lib.hid (Ve.row_setC (j := 3) (u := .slice va (L.length - ck) vc) T5.out.box)
      have G6 := Lib.hid (setc_far (w := w5) (p := p) (j := 3) (.slice va (L.length - ck) vc))
      have S6 := Lib.hid ((G6.out.block _ (pl_lt K5.out.st) (fun e => by injection e with e; omega)).trans K5.out.st)
      go_upto_region 8 with (fail)
      change Code.wp _ _ _ _ (w5.setCell ⟨p, 3, none⟩ (.slice va (L.length - ck) vc))
      generalize w5.setCell ⟨p, 3, none⟩ (.slice va (L.length - ck) vc) = w6 at R6 G6 S6 ⊢
      clear s0 s1 g0 g1 g2 g3 b0 b1 b2 b3 f3
      have s0 : w6.cell? ⟨w.heap.size, 0, none⟩ = some (.int .i64 t) := by rw [cell_of_row _ _ _ _ _ _ S6.out]; rfl
      have s1 : w6.cell? ⟨w.heap.size, 1, none⟩ = some (.int .i64 r) := by rw [cell_of_row _ _ _ _ _ _ S6.out]; rfl
      have b1 : w6.cell? ⟨p, 1, none⟩ = some (.int .i64 ft) := by rw [cell_of_row _ _ _ _ _ _ R6.out]; rfl
      have b2 : w6.cell? ⟨p, 2, none⟩ = some (.int .i64 fr) := by rw [cell_of_row _ _ _ _ _ _ R6.out]; rfl
      have f1 := frozen_of_row (j := 1) _ _ _ _ R6.out
      have f2 := frozen_of_row (j := 2) _ _ _ _ R6.out
      have R7 := Lib.hid (Ve.row_setC (j := 2) (u := .int .i64 r) (Ve.row_setC (j := 1) (u := .int .i64 t) R6.out))
      have G7 := Lib.hid ((G6.out.andThen (setc_far (j := 1) (.int .i64 t)) (fun j e => Or.inr e)).andThen (setc_far (j := 2) (.int .i64 r)) (fun j e => Or.inr e))
      go_upto_region 9 with (fail)
      change Code.wp _ _ _ _ ((w6.setCell ⟨p, 1, none⟩ (.int .i64 t)).setCell ⟨p, 2, none⟩ (.int .i64 r))
      generalize (w6.setCell ⟨p, 1, none⟩ (.int .i64 t)).setCell ⟨p, 2, none⟩ (.int .i64 r) = w7 at R7 G7 ⊢
      clear s0 s1 b1 b2 f1 f2
      go_wp2
      go_returns
      have hb5 := K5.out.bel
      refine ⟨by first | rfl | (congr 2; omega), .inr ⟨by have := HZ.out; omega, (Tb.below_grown hb5 (some p)).andThen G7.out (fun j e => Or.inr e), va, ⟨vc, T5.out.setBox G7.out (by rw [HLD.out]; exact R7.out) (play_take T0 L ck) ?_ (play_rise _ T5.out.r0) hne⟩, fun k e => Nat.le_trans K4.out.bel.size (own_lt O5.out k ((ownB va _ vc 0 0).trans e)).1⟩⟩
      have ho := O5.out
      rw [steps_drop] at ho
      have ho2 := ho.kept G7.out (by
        rcases ho.lt with hlt
        cases hq : (Value.slice va (L.drop ck).length vc).ownBlock with
        | none => exact .inl rfl
        | some j => exact .inr (fun e => by injection e with e; have := (hlt j hq).1; have := K4.out.bel.size; omega))
      exact Ve.own_less ho2 (by have := HT.out.lo; have := K4.out.bel.size; omega)
    · have hp1 : ps = ck := by simpa using hps9
      subst hp1
      clear hps9
      go_upto_region 7 with (fail)
      go_wp2_with fail
      refine (CN.out w4 (Below.refl _ _)).mono ?_
      rintro e w5 ⟨v, rfl, hv, hb⟩
      have K5 := Lib.hid (K4.out.step hb)
      have T5 := Lib.hid (TB.out w5 hb)
      obtain ⟨va, vc, rfl⟩ := Tb.own_shapeK hv
      rw [HRL.out] at hv
      have O5 := Lib.hid hv
      clear hb hv s0 s1 g0 g1 g2 g3
      obtain ⟨⟨s0, s1⟩, g0, g1, g2, g3⟩ := K5.out.cells
      obtain ⟨b0, b1, b2, b3⟩ := box4 T5.out.box
      have f3 := frozen_of_row (j := 3) _ _ _ _ T5.out.box
      rw [HRL.out]
      have hpl := HT.out.plt
      have R6 := Lib.hid (Ve.row_setC (j := 3) (u := .slice va (L.length - ps) vc) T5.out.box)
      have G6 := Lib.hid (setc_far (w := w5) (p := p) (j := 3) (.slice va (L.length - ps) vc))
      have S6 := Lib.hid ((G6.out.block _ (pl_lt K5.out.st) (fun e => by injection e with e; omega)).trans K5.out.st)
      go_upto_region 8 with (fail)
      change Code.wp _ _ _ _ (w5.setCell ⟨p, 3, none⟩ (.slice va (L.length - ps) vc))
      generalize w5.setCell ⟨p, 3, none⟩ (.slice va (L.length - ps) vc) = w6 at R6 G6 S6 ⊢
      clear s0 s1 g0 g1 g2 g3 b0 b1 b2 b3 f3
      have s0 : w6.cell? ⟨w.heap.size, 0, none⟩ = some (.int .i64 t) := by rw [cell_of_row _ _ _ _ _ _ S6.out]; rfl
      have s1 : w6.cell? ⟨w.heap.size, 1, none⟩ = some (.int .i64 r) := by rw [cell_of_row _ _ _ _ _ _ S6.out]; rfl
      have b1 : w6.cell? ⟨p, 1, none⟩ = some (.int .i64 ft) := by rw [cell_of_row _ _ _ _ _ _ R6.out]; rfl
      have b2 : w6.cell? ⟨p, 2, none⟩ = some (.int .i64 fr) := by rw [cell_of_row _ _ _ _ _ _ R6.out]; rfl
      have f1 := frozen_of_row (j := 1) _ _ _ _ R6.out
      have f2 := frozen_of_row (j := 2) _ _ _ _ R6.out
      have R7 := Lib.hid (Ve.row_setC (j := 2) (u := .int .i64 r) (Ve.row_setC (j := 1) (u := .int .i64 t) R6.out))
      have G7 := Lib.hid ((G6.out.andThen (setc_far (j := 1) (.int .i64 t)) (fun j e => Or.inr e)).andThen (setc_far (j := 2) (.int .i64 r)) (fun j e => Or.inr e))
      go_upto_region 9 with (fail)
      change Code.wp _ _ _ _ ((w6.setCell ⟨p, 1, none⟩ (.int .i64 t)).setCell ⟨p, 2, none⟩ (.int .i64 r))
      generalize (w6.setCell ⟨p, 1, none⟩ (.int .i64 t)).setCell ⟨p, 2, none⟩ (.int .i64 r) = w7 at R7 G7 ⊢
      clear s0 s1 b1 b2 f1 f2
      go_wp2
      go_returns
      have hb5 := K5.out.bel
      refine ⟨by first | rfl | (congr 2; omega), .inr ⟨by have := HZ.out; omega, (Tb.below_grown hb5 (some p)).andThen G7.out (fun j e => Or.inr e), va, ⟨vc, T5.out.setBox G7.out (by rw [HLD.out]; exact R7.out) (play_take T0 L ps) ?_ (play_rise _ T5.out.r0) hne⟩, fun k e => Nat.le_trans K4.out.bel.size (own_lt O5.out k ((ownB va _ vc 0 0).trans e)).1⟩⟩
      have ho := O5.out
      rw [steps_drop] at ho
      have ho2 := ho.kept G7.out (by
        rcases ho.lt with hlt
        cases hq : (Value.slice va (L.drop ps).length vc).ownBlock with
        | none => exact .inl rfl
        | some j => exact .inr (fun e => by injection e with e; have := (hlt j hq).1; have := K4.out.bel.size; omega))
      exact Ve.own_less ho2 (by have := HT.out.lo; have := K4.out.bel.size; omega)
end Go.Proofs.Ytkmeceoilighiaa

set_option linter.unusedVariables false
set_option linter.unusedSimpArgs false
set_option maxRecDepth 100000
namespace Go.Proofs.Ytkmeceoilighiaa
open Go.RowKit Go.Shelf
open Tb (Rw TabI TM LiesK ltS Rise)

theorem cmp_high {t r a b : Int} (h : ltS a b t r = true) : ¬ St.cmpS t r a b ≤ 0 := by
  unfold ltS at h
  unfold St.cmpS Lib.compareInt
  split at h
  · rename_i e
    have h := of_decide_eq_true h
    rw [if_pos e.symm, if_neg (by omega), if_pos (by omega)]
    omega
  · rename_i e
    have h := of_decide_eq_true h
    rw [if_neg (fun q => e q.symm), if_neg (by omega), if_pos (by omega)]
    omega
theorem cmp_low {t r a b : Int} (h : ltS a b t r = false) : St.cmpS t r a b ≤ 0 := by
  unfold ltS at h
  unfold St.cmpS Lib.compareInt
  split at h
  · rename_i e
    have h := of_decide_eq_false h
    rw [if_pos e.symm]
    split
    · omega
    · first | omega | (split <;> omega)
  · rename_i e
    have h := of_decide_eq_false h
    rw [if_neg (fun q => e q.symm)]
    split
    · omega
    · first | omega | (split <;> omega)
theorem low_lt {x y : O} {a b : Int} (hx : ltS a b x.t x.r = false) (hy : ltS a b y.t y.r = true) : ltS x.t x.r y.t y.r = true := by
  rcases ltS_tri a b x.t x.r with ⟨h, _⟩ | ⟨_, ⟨e1, e2⟩, _⟩ | ⟨_, _, h⟩
  · rw [hx] at h; cases h
  · rw [← e1, ← e2]; exact hy
  · exact ltS_trans h hy
/-- All of it goes. -/
theorem cut_all (a b : Int) : ∀ {L : List O}, RiseO L → (∀ o ∈ L, ltS a b o.t o.r = false) → posF L a b + (if hasO L a b = true then 1 else 0) = L.length
  | [], _, _ => rfl
  | x :: L, h, hl => by
    obtain ⟨h1, h2⟩ := List.pairwise_cons.1 h
    rcases ltS_tri x.t x.r a b with ⟨q, q2, _⟩ | ⟨q, q2, _⟩ | ⟨_, _, q⟩
    · have ih := cut_all a b h2 (fun o ho => hl o (List.mem_cons_of_mem _ ho))
      have e1 : posF (x :: L) a b = posF L a b + 1 := by
        unfold posF
        rw [List.filter_cons_of_pos (p := fun x => ltO x a b) (show ltO x a b = true from q)]
        rfl
      have e2 : hasO (x :: L) a b = hasO L a b := by
        show (decide (x.t = a ∧ x.r = b) || hasO L a b) = _
        rw [decide_eq_false q2]
        rfl
      rw [e1, e2, List.length_cons]
      omega
    · have hn : L = [] := by
        cases L with
        | nil => rfl
        | cons y L =>
          have h3 := h1 y List.mem_cons_self
          rw [q2.1, q2.2] at h3
          rw [hl y (by simp)] at h3
          cases h3
      subst hn
      have e1 : posF [x] a b = 0 := by
        unfold posF
        rw [List.filter_cons_of_neg (p := fun x => ltO x a b) (by show ¬ ltS x.t x.r a b = true; rw [q]; simp)]
        rfl
      have e2 : hasO [x] a b = true := by
        show (decide (x.t = a ∧ x.r = b) || hasO [] a b) = _
        rw [decide_eq_true q2]
        rfl
      rw [e1, e2]
      rfl
    · rw [hl x List.mem_cons_self] at q
      cases q
theorem right_pos {t r : Int} (h : St.rightB t r = true) : ¬ St.cmpS t r 0 0 ≤ 0 := by
  have ht : 1 ≤ t := by
    unfold St.rightB St.rT at h
    simp only [Bool.and_eq_true, decide_eq_true_eq] at h
    omega
  unfold St.cmpS Lib.compareInt
  rw [if_neg (by omega)]
  split
  · omega
  · split <;> omega
theorem cutK_all {L : List O} {a b : Int} (hr : St.rightB a b = true) (h : RiseO L) (hl : ∀ o ∈ L, ltS a b o.t o.r = false) : cutK 0 0 L a b = L.length := by
  unfold cutK
  rw [if_neg (right_pos hr)]
  exact cut_all a b h hl
theorem addE_old {L : List O} {o : O} {a b : Int} (ho : rO o = true) (hl : ltS a b o.t o.r = false) : addE a b L o = 11 := by
  unfold addE
  rw [if_neg (by rw [ho]; simp), if_pos (cmp_low hl)]
theorem addE_high {L : List O} {o : O} {a b : Int} (ho : rO o = true) (hl : ltS a b o.t o.r = true) (hn : hasO L o.t o.r = false) : addE a b L o = 0 := by
  unfold addE
  rw [if_neg (by rw [ho]; simp), if_neg (cmp_high hl), if_neg (by rw [hn]; simp)]
theorem pos_high {A H : List O} {t r : Int} (h : ∀ x ∈ A, ltS x.t x.r t r = true) : posF (A ++ H) t r = A.length + posF H t r := by
  unfold posF
  rw [List.filter_append, show A.filter (fun x => ltO x t r) = A from List.filter_eq_self.2 (fun x hx => h x hx), List.length_append]
theorem put_high {A H : List O} {x : O} (h : ∀ y ∈ A, ltS y.t y.r x.t x.r = true) : putO (A ++ H) x = A ++ putO H x := by
  unfold putO
  rw [pos_high h, List.take_length_add_append, List.drop_length_add_append, List.append_assoc]
theorem has_app {A H : List O} {t r : Int} : hasO (A ++ H) t r = (hasO A t r || hasO H t r) := by
  unfold hasO
  rw [List.any_append]
/-- The first loop's log: what is not behind 'upto'. -/
structure LK (L u : List O) (i : Nat) (a b : Int) : Prop where
  lg : LG L i
  mem : ∀ y, y ∈ L ↔ y ∈ u.take i ∧ ltS a b y.t y.r = false
/-- The second loop's log: what is behind it. -/
structure LH (H u : List O) (i : Nat) (a b : Int) : Prop where
  lg : LG H i
  mem : ∀ y, y ∈ H ↔ y ∈ u.take i ∧ ltS a b y.t y.r = true
theorem take_mem {u : List O} {i : Nat} {x y : O} (hx : u[i]? = some x) : y ∈ u.take (i + 1) ↔ y ∈ u.take i ∨ y = x := by
  obtain ⟨h1, h2⟩ := List.getElem?_eq_some_iff.1 hx
  rw [List.take_succ_eq_append_getElem h1, h2, List.mem_append, List.mem_singleton]
theorem fresh_take {u L : List O} {i : Nat} {x : O} (hu : One u) (hx : u[i]? = some x) (hm : ∀ y ∈ L, y ∈ u.take i) : hasO L x.t x.r = false :=
  fresh (A := []) (B := u.drop (i + 1)) (K := u.take i) hu (by rw [List.nil_append, ← split_at hx]) hm
theorem LK.put {L u : List O} {i : Nat} {a b : Int} {x : O} (h : LK L u i a b) (hu : One u) (hx : u[i]? = some x) (hr : rO x = true) (ho : OkO x) (hl : ltS a b x.t x.r = false) : addE 0 0 L x = 0 ∧ LK (putO L x) u (i + 1) a b := by
  have he := addE_of hr (fresh_take hu hx (fun y hy => ((h.mem y).1 hy).1))
  refine ⟨he, h.lg.put ho he, fun y => ?_⟩
  rw [put_mem, h.mem, take_mem hx]
  constructor
  · rintro (rfl | ⟨h1, h2⟩)
    · exact ⟨.inr rfl, hl⟩
    · exact ⟨.inl h1, h2⟩
  · rintro ⟨h1 | h1, h2⟩
    · exact .inr ⟨h1, h2⟩
    · exact .inl h1
theorem LK.skip {L u : List O} {i : Nat} {a b : Int} {x : O} (h : LK L u i a b) (hx : u[i]? = some x) (hl : ltS a b x.t x.r = true) : LK L u (i + 1) a b := by
  refine ⟨h.lg.up, fun y => ?_⟩
  rw [h.mem, take_mem hx]
  constructor
  · rintro ⟨h1, h2⟩; exact ⟨.inl h1, h2⟩
  · rintro ⟨h1 | rfl, h2⟩
    · exact ⟨h1, h2⟩
    · rw [hl] at h2; cases h2
theorem LH.skip {L u : List O} {i : Nat} {a b : Int} {x : O} (h : LH L u i a b) (hx : u[i]? = some x) (hl : ltS a b x.t x.r = false) : LH L u (i + 1) a b := by
  refine ⟨h.lg.up, fun y => ?_⟩
  rw [h.mem, take_mem hx]
  constructor
  · rintro ⟨h1, h2⟩; exact ⟨.inl h1, h2⟩
  · rintro ⟨h1 | rfl, h2⟩
    · exact ⟨h1, h2⟩
    · rw [hl] at h2; cases h2
/-- What holds of an op behind 'upto'. -/
structure HI (Lo H u : List O) (i : Nat) (a b : Int) (x : O) : Prop where
  e0 : addE 0 0 (Lo ++ H) x = 0
  e1 : addE a b H x = 0
  num : addN 0 0 (Lo ++ H) x = addN a b H x
  put : putO (Lo ++ H) x = Lo ++ putO H x
  next : LH (putO H x) u (i + 1) a b
theorem LH.put {Lo H u : List O} {i : Nat} {a b : Int} {x : O} (h : LH H u i a b) (k : LK Lo u u.length a b) (hu : One u) (hx : u[i]? = some x) (hr : rO x = true) (ho : OkO x) (hl : ltS a b x.t x.r = true) : HI Lo H u i a b x := by
  have f1 := fresh_take hu hx (fun y hy => ((h.mem y).1 hy).1)
  have hlo : ∀ y ∈ Lo, ltS y.t y.r x.t x.r = true := fun y hy => low_lt ((k.mem y).1 hy).2 hl
  have f0 : hasO Lo x.t x.r = false := List.any_eq_false.2 (fun y hy => by
    have := hlo y hy
    intro hc
    have hc := of_decide_eq_true hc
    rw [hc.1, hc.2, ltS_irr] at this
    cases this)
  have f2 : hasO (Lo ++ H) x.t x.r = false := by rw [has_app, f0, f1]; rfl
  have e0 := addE_of hr f2
  have e1 := addE_high hr hl f1
  refine ⟨e0, e1, ?_, put_high hlo, ?_⟩
  · unfold addN
    rw [if_pos e0, if_pos e1, pos_high hlo, List.length_append, Nat.add_sub_add_left]
  · refine ⟨?_, fun y => ?_⟩
    · refine ⟨put_rise h.lg.rise f1, fun z hz => ?_, fun z hz => ?_, ?_⟩
      · rcases put_mem.1 hz with rfl | hz
        · exact ho
        · exact h.lg.ok z hz
      · rcases put_mem.1 hz with rfl | hz
        · exact hr
        · exact h.lg.right z hz
      · rw [put_len]; have := h.lg.len; omega
    · rw [put_mem, h.mem, take_mem hx]
      constructor
      · rintro (rfl | ⟨h1, h2⟩)
        · exact ⟨.inr rfl, hl⟩
        · exact ⟨.inl h1, h2⟩
      · rintro ⟨h1 | h1, h2⟩
        · exact .inr ⟨h1, h2⟩
        · exact .inl h1
theorem rise_both {Lo H u : List O} {i : Nat} {a b : Int} (h : LH H u i a b) (k : LK Lo u u.length a b) : RiseO (Lo ++ H) :=
  List.pairwise_append.2 ⟨k.lg.rise, h.lg.rise, fun x hx y hy => low_lt ((k.mem x).1 hx).2 ((h.mem y).1 hy).2⟩
/-! ### trees apart -/
def Apart (p q mb : Nat) (la : Option Addr) (p' q' mb' : Nat) (lb : Option Addr) : Prop := ∀ k, (HasT p mb la k ∨ k = q) → (HasT p' mb' lb k ∨ k = q') → False
theorem Apart.symm {p q mb : Nat} {la : Option Addr} {p' q' mb' : Nat} {lb : Option Addr} (h : Apart p q mb la p' q' mb' lb) : Apart p' q' mb' lb p q mb la := fun k h1 h2 => h k h2 h1
theorem TreeI.all {w : World} {B p q mb : Nat} {T0 : List Rw} {ft fr : Int} {L : List O} {la : Option Addr} {lc : Nat} (h : TreeI w B p q mb T0 ft fr L la lc) {k : Nat} (hk : HasT p mb la k ∨ k = q) : B ≤ k ∧ k < w.heap.size := by
  rcases hk with hk | rfl
  · exact h.has hk
  · exact ⟨h.lo.2.1, h.tab.plt⟩
theorem TreeI.weak {w : World} {B B' p q mb : Nat} {T0 : List Rw} {ft fr : Int} {L : List O} {la : Option Addr} {lc : Nat} (h : TreeI w B p q mb T0 ft fr L la lc) (hB : B' ≤ B) : TreeI w B' p q mb T0 ft fr L la lc :=
  ⟨h.box, h.tab, own_base h.log hB, ⟨Nat.le_trans hB h.lo.1, Nat.le_trans hB h.lo.2.1, Nat.le_trans hB h.lo.2.2⟩, h.r0⟩
theorem apart_new {w : World} {B p q mb : Nat} {T0 : List Rw} {ft fr : Int} {L : List O} {la : Option Addr} {lc : Nat} {w' : World} {B' p' q' mb' : Nat} {T0' : List Rw} {ft' fr' : Int} {L' : List O} {lb : Option Addr} {lcb : Nat}
    (h : TreeI w B p q mb T0 ft fr L la lc) (h' : TreeI w' B' p' q' mb' T0' ft' fr' L' lb lcb) (hB : w.heap.size ≤ B') : Apart p q mb la p' q' mb' lb := fun k h1 h2 => by
  have := (h.all h1).2
  have := (h'.all h2).1
  omega
theorem apart_add {w : World} {p q mb : Nat} {la : Option Addr} {g : Nat} {B' p' q' mb' : Nat} {T0' : List Rw} {ft' fr' : Int} {L' : List O} {lb : Option Addr} {lcb : Nat}
    (h' : TreeI w B' p' q' mb' T0' ft' fr' L' lb lcb) (ap : Apart p q mb la p' q' mb' lb) (hg : (lgV la 0 0).ownBlock = some g ∨ w.heap.size ≤ g) : Apart p q mb (some ⟨g, 0, none⟩) p' q' mb' lb := fun k h1 h2 => by
  rcases h1 with (rfl | rfl | e) | rfl
  · exact ap _ (.inl (.inl rfl)) h2
  · exact ap _ (.inl (.inr (.inl rfl))) h2
  · have := lgV_some e
    subst this
    rcases hg with e | e
    · exact ap _ (.inl (.inr (.inr e))) h2
    · have := (h'.all h2).2; omega
  · exact ap _ (.inr rfl) h2
theorem keep_add {w w' : World} {p q mb : Nat} {la : Option Addr} {B' p' q' mb' : Nat} {T0' : List Rw} {ft' fr' : Int} {L' : List O} {lb : Option Addr} {lcb : Nat}
    (h' : TreeI w B' p' q' mb' T0' ft' fr' L' lb lcb) (ap : Apart p q mb la p' q' mb' lb) (hf : Far (HasT p mb la) w w') : TreeI w' B' p' q' mb' T0' ft' fr' L' lb lcb :=
  h'.keep hf (fun k h1 h2 => ap k (.inl h2) h1)
/-- Addition, where nothing stands against it. -/
def AddR (w w' : World) (B p q mb : Nat) (T0 : List Rw) (ft fr : Int) (L' : List O) (la : Option Addr) : Prop := Far (HasT p mb la) w w' ∧ ∃ g lc', TreeI w' B p q mb T0 ft fr L' (some ⟨g, 0, none⟩) lc' ∧ ((lgV la 0 0).ownBlock = some g ∨ w.heap.size ≤ g)
theorem add_ok {w w' : World} {B p q mb : Nat} {T0 : List Rw} {ft fr : Int} {L : List O} {la : Option Addr} {x : O} (h0 : addE ft fr L x = 0)
    (hr : (addE ft fr L x ≠ 0 ∧ Below w.heap.size w w') ∨ (addE ft fr L x = 0 ∧ Far (HasT p mb la) w w' ∧ ∃ g lc', TreeI w' B p q mb T0 ft fr (putO L x) (some ⟨g, 0, none⟩) lc' ∧ ((lgV la 0 0).ownBlock = some g ∨ w.heap.size ≤ g))) : AddR w w' B p q mb T0 ft fr (putO L x) la := by
  rcases hr with ⟨h, _⟩ | ⟨_, h1, h2⟩
  · exact absurd h0 h
  · exact ⟨h1, h2⟩
end Go.Proofs.Ytkmeceoilighiaa

set_option linter.unusedVariables false
set_option linter.unusedSimpArgs false
set_option maxRecDepth 100000
namespace Go.Proofs.Ytkmeceoilighiaa
open Go.RowKit Go.Shelf
open Tb (Rw TabI TM LiesK ltS)

theorem less_lt (x y : O) : lessO x y = ltS x.t x.r y.t y.r := by
  unfold lessO St.lessB ltS
  by_cases h : x.t = y.t
  · simp [h]
  · simp [h]
theorem fold_true (x : O) : ∀ (u acc : List O), u.foldl (stepO x) (acc, true) = (acc ++ u, true)
  | [], acc => by simp
  | y :: u, acc => by
    rw [List.foldl_cons, show stepO x (acc, true) y = (acc ++ [y], true) from by unfold stepO; simp, fold_true x u]
    simp
theorem fold_put (x : O) : ∀ (u acc : List O), RiseO u → hasO u x.t x.r = false → (if (u.foldl (stepO x) (acc, false)).2 then (u.foldl (stepO x) (acc, false)).1 else (u.foldl (stepO x) (acc, false)).1 ++ [x]) = acc ++ putO u x
  | [], acc, _, _ => rfl
  | y :: u, acc, h, hn => by
    obtain ⟨h1, h2⟩ := List.pairwise_cons.1 h
    have hn : (decide (y.t = x.t ∧ y.r = x.r) || hasO u x.t x.r) = false := hn
    obtain ⟨n1, n2⟩ := Bool.or_eq_false_iff.1 hn
    have n1 := of_decide_eq_false n1
    rw [List.foldl_cons]
    rcases ltS_tri y.t y.r x.t x.r with ⟨q, _, q3⟩ | ⟨_, q, _⟩ | ⟨q, _, q3⟩
    · rw [show stepO x (acc, false) y = (acc ++ [y], false) from by unfold stepO; rw [less_lt, q3]; simp, fold_put x u (acc ++ [y]) h2 n2]
      have e : posF (y :: u) x.t x.r = posF u x.t x.r + 1 := by
        unfold posF
        rw [List.filter_cons_of_pos (p := fun z => ltO z x.t x.r) (show ltO y x.t x.r = true from q)]
        rfl
      unfold putO
      rw [e, List.take_succ_cons, List.drop_succ_cons]
      simp
    · exact absurd q n1
    · rw [show stepO x (acc, false) y = (acc ++ [x, y], true) from by unfold stepO; rw [less_lt, q3]; simp, fold_true]
      have e : posF (y :: u) x.t x.r = 0 := by
        unfold posF
        rw [List.filter_eq_nil_iff.2 (fun b hb hc => by
          have hc : ltS b.t b.r x.t x.r = true := hc
          rcases List.mem_cons.1 hb with rfl | hb
          · rw [q] at hc; cases hc
          · have h4 := ltS_trans (h1 b hb) hc
            rw [q] at h4; cases h4)]
        rfl
      unfold putO
      rw [e]
      simp
theorem ins_put {u : List O} {x : O} (h : RiseO u) (hn : hasO u x.t x.r = false) : insO x u = putO u x := fold_put x u [] h hn
theorem put_last {u : List O} {x : O} (h : ∀ y ∈ u, ltS y.t y.r x.t x.r = true) : putO u x = u ++ [x] := by
  have := pos_high (A := u) (H := []) h
  rw [List.append_nil] at this
  unfold putO
  rw [this, show posF ([] : List O) x.t x.r = 0 from rfl, Nat.add_zero, List.take_length, List.drop_length]
theorem srt_rise {L : List O} (h : RiseO L) : ∀ i, i ≤ L.length → srtO (L.take i) = L.take i
  | 0, _ => rfl
  | i + 1, hi => by
    obtain ⟨x, hx⟩ : ∃ z, L[i]? = some z := ⟨_, List.getElem?_eq_getElem (show i < L.length by omega)⟩
    have hs := split_at hx
    have h2 := h
    rw [hs] at h2
    obtain ⟨r1, r2, r3⟩ := List.pairwise_append.1 h2
    have hl : ∀ y ∈ L.take i, ltS y.t y.r x.t x.r = true := fun y hy => r3 y hy x List.mem_cons_self
    have hn : hasO (L.take i) x.t x.r = false := List.any_eq_false.2 (fun b hb hc => by
      have hc := of_decide_eq_true hc
      have := hl b hb
      rw [hc.1, hc.2, ltS_irr] at this; cases this)
    rw [srtO_snoc L i x hx, srt_rise h i (by omega), ins_put r1 hn, put_last hl]
    obtain ⟨q1, q2⟩ := List.getElem?_eq_some_iff.1 hx
    rw [List.take_succ_eq_append_getElem q1, q2]
/-- The reference's sorting of a new op behind a rising log. -/
theorem srt_put {L : List O} {o : O} (h : RiseO L) (hn : hasO L o.t o.r = false) : srtO (L ++ [o]) = putO L o := by
  have h1 := srtO_snoc (L ++ [o]) L.length o (by simp)
  rw [show (L ++ [o]).take (L.length + 1) = L ++ [o] from by rw [List.take_of_length_le (by simp)], List.take_left] at h1
  have h2 := srt_rise h L.length (Nat.le_refl _)
  rw [List.take_length] at h2
  rw [h1, h2, ins_put h hn]
def cntF (L : List O) (o : O) : Nat := (L.filter (fun x => ltS o.t o.r x.t x.r)).length
/-- How many are behind it. -/
theorem cnt_pos {L : List O} {o : O} (h : RiseO L) (hn : hasO L o.t o.r = false) : cntF L o = L.length - posF L o.t o.r := by
  have h1 := (pos_split h o.t o.r).2
  have h2 : L.filter (fun x => ltS o.t o.r x.t x.r) = L.filter (fun x => !ltO x o.t o.r) := List.filter_congr (fun x hx => by
    have hne : ¬ (x.t = o.t ∧ x.r = o.r) := fun hc => List.any_eq_false.1 hn x hx (decide_eq_true hc)
    show ltS o.t o.r x.t x.r = !ltS x.t x.r o.t o.r
    rcases ltS_tri x.t x.r o.t o.r with ⟨q, _, q3⟩ | ⟨_, q, _⟩ | ⟨q, _, q3⟩
    · rw [q, q3]; rfl
    · exact absurd q hne
    · rw [q, q3]; rfl)
  unfold cntF
  rw [h2, ← h1, List.length_drop]
end Go.Proofs.Ytkmeceoilighiaa

set_option linter.unusedVariables false
set_option linter.unusedSimpArgs false
set_option maxRecDepth 100000
namespace Go.Proofs.Ytkmeceoilighiaa
open Go.RowKit Go.Shelf
open Tb (Rw TabI TM LiesK ltS)

def loF (L : List O) (a b : Int) : List O := L.filter (fun x => !ltS a b x.t x.r)
def hiF (L : List O) (a b : Int) : List O := L.filter (fun x => ltS a b x.t x.r)
theorem lo_split {L : List O} (h : RiseO L) (a b : Int) : L.take (loF L a b).length = loF L a b ∧ L.drop (loF L a b).length = hiF L a b := by
  induction L with
  | nil => exact ⟨rfl, rfl⟩
  | cons x L ih =>
    obtain ⟨h1, h2⟩ := List.pairwise_cons.1 h
    obtain ⟨i1, i2⟩ := ih h2
    cases hx : ltS a b x.t x.r with
    | false =>
      have e1 : loF (x :: L) a b = x :: loF L a b := List.filter_cons_of_pos (p := fun (x : O) => !ltS a b x.t x.r) (by show (!ltS a b x.t x.r) = true; rw [hx]; rfl)
      have e2 : hiF (x :: L) a b = hiF L a b := List.filter_cons_of_neg (p := fun (x : O) => ltS a b x.t x.r) (by show ¬ ltS a b x.t x.r = true; rw [hx]; simp)
      rw [e1, e2, List.length_cons, List.take_succ_cons, List.drop_succ_cons, i1, i2]
      exact ⟨rfl, rfl⟩
    | true =>
      have hall : ∀ y ∈ x :: L, ltS a b y.t y.r = true := fun y hy => by
        rcases List.mem_cons.1 hy with rfl | hy
        · exact hx
        · exact ltS_trans hx (h1 y hy)
      have e1 : loF (x :: L) a b = [] := List.filter_eq_nil_iff.2 (fun y hy => by rw [hall y hy]; simp)
      have e2 : hiF (x :: L) a b = x :: L := List.filter_eq_self.2 (fun y hy => hall y hy)
      rw [e1, e2]
      exact ⟨rfl, rfl⟩
theorem lo_len {L : List O} (h : RiseO L) (a b : Int) : posF L a b + (if hasO L a b = true then 1 else 0) = (loF L a b).length := by
  have hr : RiseO (loF L a b) := h.filter _
  have h1 := cut_all a b hr (fun o ho => by
    have := (List.mem_filter.1 ho).2
    simpa using this)
  have e1 : posF (loF L a b) a b = posF L a b := by
    unfold posF loF
    rw [List.filter_filter]
    congr 1
    refine List.filter_congr (fun x hx => ?_)
    show (ltS x.t x.r a b && !ltS a b x.t x.r) = ltS x.t x.r a b
    rcases ltS_tri x.t x.r a b with ⟨q, _, q3⟩ | ⟨q, _, q3⟩ | ⟨q, _, q3⟩ <;> rw [q, q3] <;> rfl
  have e2 : hasO (loF L a b) a b = hasO L a b := by
    cases hh : hasO L a b with
    | true =>
      obtain ⟨x, hx, e⟩ := has_iff.1 hh
      refine has_iff.2 ⟨x, List.mem_filter.2 ⟨hx, ?_⟩, e⟩
      show (!ltS a b x.t x.r) = true
      rw [e.1, e.2, ltS_irr]; rfl
    | false =>
      cases hq : hasO (loF L a b) a b with
      | false => rfl
      | true =>
        obtain ⟨x, hx, e⟩ := has_iff.1 hq
        rw [has_iff.2 ⟨x, (List.mem_filter.1 hx).1, e⟩] at hh
        cases hh
  rw [e1, e2] at h1
  exact h1
theorem lo_cut {L : List O} (h : RiseO L) {a b ft fr : Int} (hc : ¬ St.cmpS a b ft fr ≤ 0) : cutK ft fr L a b = (loF L a b).length ∧ L.take (cutK ft fr L a b) = loF L a b ∧ L.drop (cutK ft fr L a b) = hiF L a b := by
  have e : cutK ft fr L a b = (loF L a b).length := by unfold cutK; rw [if_neg hc, lo_len h]
  rw [e]
  exact ⟨rfl, lo_split h a b⟩
theorem lo_snoc {L : List O} {i : Nat} {x : O} (h : L[i]? = some x) (a b : Int) : loF (L.take (i + 1)) a b = loF (L.take i) a b ++ (if ltS a b x.t x.r = true then [] else [x]) ∧ hiF (L.take (i + 1)) a b = hiF (L.take i) a b ++ (if ltS a b x.t x.r = true then [x] else []) := by
  obtain ⟨h1, h2⟩ := List.getElem?_eq_some_iff.1 h
  unfold loF hiF
  rw [List.take_succ_eq_append_getElem h1, h2, List.filter_append, List.filter_append]
  cases hq : ltS a b x.t x.r with
  | true =>
    rw [List.filter_cons_of_neg (p := fun (x : O) => !ltS a b x.t x.r) (by show ¬ (!ltS a b x.t x.r) = true; rw [hq]; simp), List.filter_cons_of_pos (p := fun (x : O) => ltS a b x.t x.r) hq]
    exact ⟨rfl, rfl⟩
  | false =>
    rw [List.filter_cons_of_pos (p := fun (x : O) => !ltS a b x.t x.r) (by show (!ltS a b x.t x.r) = true; rw [hq]; rfl), List.filter_cons_of_neg (p := fun (x : O) => ltS a b x.t x.r) (by rw [hq]; simp)]
    exact ⟨rfl, rfl⟩
theorem lo_le (L : List O) (i : Nat) (a b : Int) : (loF (L.take i) a b).length ≤ L.length ∧ (hiF (L.take i) a b).length ≤ L.length := by
  have h1 := List.length_filter_le (fun (x : O) => !ltS a b x.t x.r) (L.take i)
  have h2 := List.length_filter_le (fun (x : O) => ltS a b x.t x.r) (L.take i)
  rw [List.length_take] at h1 h2
  exact ⟨Nat.le_trans h1 (Nat.min_le_right _ _), Nat.le_trans h2 (Nat.min_le_right _ _)⟩
end Go.Proofs.Ytkmeceoilighiaa

set_option linter.unusedVariables false
set_option linter.unusedSimpArgs false
set_option maxRecDepth 100000
namespace Go.Proofs.Ytkmeceoilighiaa
open Go.RowKit Go.Shelf
open Tb (Rw setF getF aboveF Rise TabI TM LiesK LiesR ltS)

theorem ix29 {g k n c i : Nat} (hi : i < n) (W : World) : (Instr.indexAt 29 (.slice (some ⟨g, k, none⟩) n c) (.int .i64 (i : Int))).run Try.prog W = .ok (.pointer (some ⟨g, k + i * 6, none⟩)) W := by
  have h0 : (0 : Int) ≤ (i : Int) := by omega
  have h1 : (i : Int) < (n : Int) := by omega
  go_simp
theorem ld9 {W : World} {g o : Nat} {s : ByteArray} (h : W.cell? ⟨g, o, none⟩ = some (.string s)) : (Instr.loadAt 9 (.pointer (some ⟨g, o, none⟩))).run Try.prog W = .ok (.string s) W := by
  go_simp
theorem ld4 {W : World} {g o : Nat} {s : Bool} (h : W.cell? ⟨g, o, none⟩ = some (.bool s)) : (Instr.loadAt 4 (.pointer (some ⟨g, o, none⟩))).run Try.prog W = .ok (.bool s) W := by
  go_simp
theorem ld69 {W : World} {g : Nat} {a b : Int} {s : ByteArray} {d : Bool} (h : W.heap[g]? = some (.cells #[.int .i64 a, .int .i64 b, .string s, .bool d] 69 (0, 0))) : (Instr.loadAt 69 (.pointer (some ⟨g, 0, none⟩))).run Try.prog W = .ok (.agg #[.int .i64 a, .int .i64 b, .string s, .bool d]) W := by
  obtain ⟨c0, c1, c2, c3⟩ := box4 h
  clear h
  go_simp
theorem bld69 (W : World) (a b : Int) (s : ByteArray) (d : Bool) : (Instr.build 69 #[(0, .agg #[.int .i64 a, .int .i64 b]), (1, .string s), (2, .bool d)]).run Try.prog W = .ok (.agg #[.int .i64 a, .int .i64 b, .string s, .bool d]) W := by kernel_rfl
theorem ne69 (W : World) (a b : Int) (s : ByteArray) (d : Bool) : (binOp .neq 69 (.agg #[.int .i64 a, .int .i64 b, .string s, .bool d]) (.agg #[.int .i64 a, .int .i64 b, .string s, .bool d])).run Try.prog W = .ok (.bool false) W := by
  go_simp
theorem egt69 : (Try.prog.eqGuardType Try.prog.depth 69) = false := by kernel_rfl
theorem gn69 (x y : Operand) (a b : Array Value) (w : World) : (eqGuard .neq 69 x y (.agg a) (.agg b)).run Try.prog w = .ok () w := run_eqGuard_agg w .neq 69 x y _ _ egt69
/-- A getter's entry, boxed; the row it must be. -/
structure RWI (w W : World) (k : Nat) (x : Rw) : Prop where
  bel : Below w.heap.size w W
  box : W.heap[k]? = some (.cells #[.int .i64 x.pt, .int .i64 x.pr, .string x.nm, .bool x.d] 69 (0, 0))
set_option maxHeartbeats 6400000 in
theorem rows_any (w : World) (B p q mb : Nat) (T0 : List Rw) (ft fr : Int) (L : List O) (la : Option Addr) (lc : Nat) (h : TreeI w B p q mb T0 ft fr L la lc) (hk : OkT (playF T0 L)) (va : Option Addr) (vn vc : Nat) (hv : LiesR w (.slice va vn vc) (playF T0 L)) (hl : (playF T0 L).length ≤ 1000) :
    Calls Try.prog 16 #[pv p, .slice va vn vc] w fun e w' => e = .returned (.bool true) ∧ Below w.heap.size w w' := by
  have HR := Lib.hid (play_rise L h.r0)
  have HK := Lib.hid hk
  have HT := Lib.hid h
  have HV := Lib.hid hv
  have ND := Lib.hid (nodes_of w (pv p) _ ft fr la L.length lc ((playF T0 L).length : Int) h.haveL (fun W hW => (Tb.len_any W q mb _ (h.tab.step hW)).mono (fun e w' hh => ⟨hh.1, hh.2 ▸ Below.refl _ _⟩)))
  have TL := Lib.hid (fun W (hW : Below w.heap.size w W) t r ht hr => (h.step hW).tells t r ht hr)
  obtain ⟨l, hll⟩ : ∃ z, playF T0 L = z := ⟨_, rfl⟩
  rw [hll] at HR HK HV ND TL hl
  obtain ⟨ao, cap, e, _⟩ := id HV.out
  injection e with e1 e2 e3
  subst e1 e2 e3
  clear h hk hv hll
  go_enter Try.func16, Try.ntmps16
  go_wp2_with fail
  refine ND.out.mono ?_
  rintro e w1 ⟨rfl, hb⟩
  have B1 := Lib.hid hb
  clear hb ND
  go_wp2_with fail
  go_loopw [5] (fun iv wr => ∃ i : Nat, iv = .int .i64 i ∧ i ≤ l.length ∧ Hid (Below w.heap.size w wr)) (fun iv _ => l.length - (intOf iv).toNat)
  case atStart => exact ⟨0, rfl, by omega, B1⟩
  case round =>
    obtain ⟨i, rfl, hi, K⟩ := hrel
    by_cases hlt : i < l.length
    · have hi0 : (0 : Int) ≤ (i : Int) := by omega
      have hi1 : (i : Int) < (l.length : Int) := by omega
      have hd : decide ((i : Int) < (l.length : Int)) = true := decide_eq_true hi1
      have HLS := Lib.hid (show i + 1 ≤ l.length from hlt)
      have HW9 := Lib.hid (wrap_nat hlt (show l.length ≤ 100000 by omega))
      have HMS := Lib.hid (meas_nat hlt)
      obtain ⟨g, o, x, rfl, hx, hg, hc⟩ := HV.out.at' hlt
      have hxm := List.mem_of_getElem? hx
      have hgx : getF l x.t x.r = some x := (Tb.get_some HR.out).2 ⟨hxm, rfl, rfl⟩
      have cs : ∀ W, Below w.heap.size w W → ∀ (j : Nat) u, (Tb.enc6 x)[j]? = some u → W.cell? ⟨g, o + i * 6 + j, none⟩ = some u := fun W hb j u hu => (hb.cell (p := ⟨g, o + i * 6 + j, none⟩) hg).trans (hc j u hu)
      have LN := Lib.hid (fun W (hb : Below w.heap.size w W) => @ld24 W g (o + i * 6) x.t x.r (cs W hb 0 _ rfl) (cs W hb 1 _ rfl))
      have LP := Lib.hid (fun W (hb : Below w.heap.size w W) => @ld24 W g (o + i * 6 + 2) x.pt x.pr (cs W hb 2 _ rfl) (cs W hb 3 _ rfl))
      have LM := Lib.hid (fun W (hb : Below w.heap.size w W) => @ld9 W g (o + i * 6 + 4) x.nm (cs W hb 4 _ rfl))
      have LD := Lib.hid (fun W (hb : Below w.heap.size w W) => @ld4 W g (o + i * 6 + 5) x.d (cs W hb 5 _ rfl))
      have IX := Lib.hid (fun W => @ix29 g o l.length vc i hlt W)
      have TX := TL.out wr K.out x.t x.r (HK.out x hxm).1 (HK.out x hxm).2.1
      have hgv : Tb.gv l x.t x.r = .agg #[.int .i64 x.pt, .int .i64 x.pr, .string x.nm, .bool x.d] := by
        unfold Tb.gv; rw [hgx]
      rw [hgv, hgx] at TX
      have GT := Lib.hid (get_of wr (pv p) _ ft fr la L.length lc x.t x.r x.pt x.pr x.nm x.d true (HT.out.step K.out).haveL TX)
      have LNW := Lib.hid (LN.out wr K.out)
      clear hx hg hc cs hxm hgx hgv TX
      go_wp2_with (first | (refine Ve.wpList_load_arr rfl (.tmp 24) 24 rfl (.pointer (some ⟨g, o + i * 6, none⟩)) (.agg #[.int .i64 x.t, .int .i64 x.r]) rfl LNW.out ?_))
      refine GT.out.mono ?_
      rintro e w5 ⟨rfl, hb⟩
      have K6 := Lib.hid (show RWI w (w5.alloc (.cells #[.int .i64 x.pt, .int .i64 x.pr, .string x.nm, .bool x.d] 69)) w5.heap.size x from ⟨(K.out.trans (hb.mono K.out.size)).alloc (Nat.le_trans K.out.size hb.size) _, heap_alloc_new w5 _⟩)
      clear hb GT LNW LN
      go_upto_region 7 with (fail)
      generalize w5.alloc (.cells #[.int .i64 x.pt, .int .i64 x.pr, .string x.nm, .bool x.d] 69) = w6 at K6 ⊢
      obtain ⟨k6, hk6⟩ : ∃ z, w5.heap.size = z := ⟨_, rfl⟩
      rw [hk6] at K6 ⊢
      clear hk6
      have LE := Lib.hid (fun W (hb : Below w6.heap.size w6 W) => ld69 ((hb.block _ (pl_lt K6.out.box)).trans K6.out.box))
      have LP := Lib.hid (fun W (hb : Below w6.heap.size w6 W) => LP.out W (K6.out.bel.trans (hb.mono K6.out.bel.size)))
      have LM := Lib.hid (fun W (hb : Below w6.heap.size w6 W) => LM.out W (K6.out.bel.trans (hb.mono K6.out.bel.size)))
      have LD := Lib.hid (fun W (hb : Below w6.heap.size w6 W) => LD.out W (K6.out.bel.trans (hb.mono K6.out.bel.size)))
      refine wp_region_held_drew (S := fun w' => Below w6.heap.size w6 w') (by kernel_rfl) (Below.refl _ _).drew (fun hHeld => ?_)
      have BV := Lib.hid (show Below w6.heap.size w6 w6.drew from (Below.refl _ _).drew)
      clear hHeld
      refine take_at (i := 0) 29 ?_ rfl rfl (by kernel_rfl) (by kernel_rfl) (by kernel_rfl) (fun _ _ _ h => h) (.inl ⟨rfl, ?_⟩) BV.out ?_
      rotate_left 1
      · intro w hSw; go_simp; try with_reducible rfl
      simp only [Act.put, List.setIfInBounds_toArray, List.set_cons_zero, List.set_cons_succ]
      refine take_at (i := 1) 30 ?_ rfl rfl (by kernel_rfl) (by kernel_rfl) (by kernel_rfl) (fun _ _ _ h => h) (.inl ⟨rfl, ?_⟩) BV.out ?_
      rotate_left 1
      · intro w hSw; go_simp; try with_reducible rfl
      simp only [Act.put, List.setIfInBounds_toArray, List.set_cons_zero, List.set_cons_succ]
      refine take_at (i := 2) 31 ?_ rfl rfl (by kernel_rfl) (by kernel_rfl) (by kernel_rfl) (fun _ _ _ h => h) (.inl ⟨rfl, ?_⟩) BV.out ?_
      rotate_left 1
      · intro w hSw; go_simp; try with_reducible rfl
      simp only [Act.put, List.setIfInBounds_toArray, List.set_cons_zero, List.set_cons_succ]
      refine take_at (i := 3) 32 (.agg #[.int .i64 x.pt, .int .i64 x.pr, .string x.nm, .bool x.d]) rfl rfl (by kernel_rfl) (by kernel_rfl) (by kernel_rfl) (fun _ _ _ h => h) (yields_ld (.tmp 6) 69 (.pointer (some ⟨k6, 0, none⟩)) _ LE.out rfl rfl rfl) BV.out ?_
      simp only [Act.put, List.setIfInBounds_toArray, List.set_cons_zero, List.set_cons_succ]
      refine take_at (i := 4) 33 ?_ rfl rfl (by kernel_rfl) (by kernel_rfl) (by kernel_rfl) (fun _ _ _ h => h) (.inl ⟨rfl, ?_⟩) BV.out ?_
      rotate_left 1
      · intro w hSw; go_simp; try with_reducible rfl
      simp only [Act.put, List.setIfInBounds_toArray, List.set_cons_zero, List.set_cons_succ]
      refine take_at (i := 5) 34 ?_ rfl rfl (by kernel_rfl) (by kernel_rfl) (by kernel_rfl) (fun _ _ _ h => h) (.inl ⟨rfl, ?_⟩) BV.out ?_
      rotate_left 1
      · intro w hSw; go_simp; try with_reducible rfl
      simp only [Act.put, List.setIfInBounds_toArray, List.set_cons_zero, List.set_cons_succ]
      refine take_at (i := 6) 35 (.pointer (some ⟨g, o + i * 6, none⟩)) rfl rfl (by kernel_rfl) (by kernel_rfl) (by kernel_rfl) (fun _ _ _ h => h) (yields_ix (.tmp 33) (.tmp 34) 29 (.slice (some ⟨g, o, none⟩) l.length vc) (.int .i64 (i : Int)) _ IX.out rfl rfl rfl rfl) BV.out ?_
      simp only [Act.put, List.setIfInBounds_toArray, List.set_cons_zero, List.set_cons_succ]
      refine take_at (i := 7) 36 ?_ rfl rfl (by kernel_rfl) (by kernel_rfl) (by kernel_rfl) (fun _ _ _ h => h) (.inl ⟨rfl, ?_⟩) BV.out ?_
      rotate_left 1
      · intro w hSw; go_simp; try with_reducible rfl
      simp only [Act.put, List.setIfInBounds_toArray, List.set_cons_zero, List.set_cons_succ]
      refine take_at (i := 8) 37 ?_ rfl rfl (by kernel_rfl) (by kernel_rfl) (by kernel_rfl) (fun _ _ _ h => h) (.inl ⟨rfl, ?_⟩) BV.out ?_
      rotate_left 1
      · intro w hSw; go_simp; try with_reducible rfl
      simp only [Act.put, List.setIfInBounds_toArray, List.set_cons_zero, List.set_cons_succ]
      refine take_at (i := 9) 38 (.agg #[.int .i64 x.pt, .int .i64 x.pr]) rfl rfl (by kernel_rfl) (by kernel_rfl) (by kernel_rfl) (fun _ _ _ h => h) (yields_ld (.tmp 37) 24 (.pointer (some ⟨g, o + i * 6 + 2, none⟩)) _ LP.out rfl rfl rfl) BV.out ?_
      simp only [Act.put, List.setIfInBounds_toArray, List.set_cons_zero, List.set_cons_succ]
      refine take_at (i := 10) 39 ?_ rfl rfl (by kernel_rfl) (by kernel_rfl) (by kernel_rfl) (fun _ _ _ h => h) (.inl ⟨rfl, ?_⟩) BV.out ?_
      rotate_left 1
      · intro w hSw; go_simp; try with_reducible rfl
      simp only [Act.put, List.setIfInBounds_toArray, List.set_cons_zero, List.set_cons_succ]
      refine take_at (i := 11) 40 ?_ rfl rfl (by kernel_rfl) (by kernel_rfl) (by kernel_rfl) (fun _ _ _ h => h) (.inl ⟨rfl, ?_⟩) BV.out ?_
      rotate_left 1
      · intro w hSw; go_simp; try with_reducible rfl
      simp only [Act.put, List.setIfInBounds_toArray, List.set_cons_zero, List.set_cons_succ]
      refine take_at (i := 12) 41 (.pointer (some ⟨g, o + i * 6, none⟩)) rfl rfl (by kernel_rfl) (by kernel_rfl) (by kernel_rfl) (fun _ _ _ h => h) (yields_ix (.tmp 39) (.tmp 40) 29 (.slice (some ⟨g, o, none⟩) l.length vc) (.int .i64 (i : Int)) _ IX.out rfl rfl rfl rfl) BV.out ?_
      simp only [Act.put, List.setIfInBounds_toArray, List.set_cons_zero, List.set_cons_succ]
      refine take_at (i := 13) 42 ?_ rfl rfl (by kernel_rfl) (by kernel_rfl) (by kernel_rfl) (fun _ _ _ h => h) (.inl ⟨rfl, ?_⟩) BV.out ?_
      rotate_left 1
      · intro w hSw; go_simp; try with_reducible rfl
      simp only [Act.put, List.setIfInBounds_toArray, List.set_cons_zero, List.set_cons_succ]
      refine take_at (i := 14) 43 ?_ rfl rfl (by kernel_rfl) (by kernel_rfl) (by kernel_rfl) (fun _ _ _ h => h) (.inl ⟨rfl, ?_⟩) BV.out ?_
      rotate_left 1
      · intro w hSw; go_simp; try with_reducible rfl
      simp only [Act.put, List.setIfInBounds_toArray, List.set_cons_zero, List.set_cons_succ]
      refine take_at (i := 15) 44 (.string x.nm) rfl rfl (by kernel_rfl) (by kernel_rfl) (by kernel_rfl) (fun _ _ _ h => h) (yields_ld (.tmp 43) 9 (.pointer (some ⟨g, o + i * 6 + 4, none⟩)) _ LM.out rfl rfl rfl) BV.out ?_
      simp only [Act.put, List.setIfInBounds_toArray, List.set_cons_zero, List.set_cons_succ]
      refine take_at (i := 16) 45 ?_ rfl rfl (by kernel_rfl) (by kernel_rfl) (by kernel_rfl) (fun _ _ _ h => h) (.inl ⟨rfl, ?_⟩) BV.out ?_
      rotate_left 1
      · intro w hSw; go_simp; try with_reducible rfl
      simp only [Act.put, List.setIfInBounds_toArray, List.set_cons_zero, List.set_cons_succ]
      refine take_at (i := 17) 46 ?_ rfl rfl (by kernel_rfl) (by kernel_rfl) (by kernel_rfl) (fun _ _ _ h => h) (.inl ⟨rfl, ?_⟩) BV.out ?_
      rotate_left 1
      · intro w hSw; go_simp; try with_reducible rfl
      simp only [Act.put, List.setIfInBounds_toArray, List.set_cons_zero, List.set_cons_succ]
      refine take_at (i := 18) 47 (.pointer (some ⟨g, o + i * 6, none⟩)) rfl rfl (by kernel_rfl) (by kernel_rfl) (by kernel_rfl) (fun _ _ _ h => h) (yields_ix (.tmp 45) (.tmp 46) 29 (.slice (some ⟨g, o, none⟩) l.length vc) (.int .i64 (i : Int)) _ IX.out rfl rfl rfl rfl) BV.out ?_
      simp only [Act.put, List.setIfInBounds_toArray, List.set_cons_zero, List.set_cons_succ]
      refine take_at (i := 19) 48 ?_ rfl rfl (by kernel_rfl) (by kernel_rfl) (by kernel_rfl) (fun _ _ _ h => h) (.inl ⟨rfl, ?_⟩) BV.out ?_
      rotate_left 1
      · intro w hSw; go_simp; try with_reducible rfl
      simp only [Act.put, List.setIfInBounds_toArray, List.set_cons_zero, List.set_cons_succ]
      refine take_at (i := 20) 49 ?_ rfl rfl (by kernel_rfl) (by kernel_rfl) (by kernel_rfl) (fun _ _ _ h => h) (.inl ⟨rfl, ?_⟩) BV.out ?_
      rotate_left 1
      · intro w hSw; go_simp; try with_reducible rfl
      simp only [Act.put, List.setIfInBounds_toArray, List.set_cons_zero, List.set_cons_succ]
      refine take_at (i := 21) 50 (.bool x.d) rfl rfl (by kernel_rfl) (by kernel_rfl) (by kernel_rfl) (fun _ _ _ h => h) (yields_ld (.tmp 49) 4 (.pointer (some ⟨g, o + i * 6 + 5, none⟩)) _ LD.out rfl rfl rfl) BV.out ?_
      simp only [Act.put, List.setIfInBounds_toArray, List.set_cons_zero, List.set_cons_succ]
      refine take_at (i := 22) 51 (.agg #[.int .i64 x.pt, .int .i64 x.pr, .string x.nm, .bool x.d]) rfl rfl (by kernel_rfl) (by kernel_rfl) (by kernel_rfl) (fun _ _ _ h => h) (yields_bld 69 #[(0, .tmp 38), (1, .tmp 44), (2, .tmp 50)] #[(0, .agg #[.int .i64 x.pt, .int .i64 x.pr]), (1, .string x.nm), (2, .bool x.d)] _ rfl rfl rfl (fun w => bld69 w x.pt x.pr x.nm x.d)) BV.out ?_
      simp only [Act.put, List.setIfInBounds_toArray, List.set_cons_zero, List.set_cons_succ]
      refine take_at (i := 23) 52 (.bool false) rfl rfl (by kernel_rfl) (by kernel_rfl) (by kernel_rfl) (fun _ _ _ h => h) (yields_bin .neq (.tmp 32) (.tmp 51) 69 69 (.agg #[.int .i64 x.pt, .int .i64 x.pr, .string x.nm, .bool x.d]) (.agg #[.int .i64 x.pt, .int .i64 x.pr, .string x.nm, .bool x.d]) _ (fun w => ne69 w x.pt x.pr x.nm x.d) (gn69 _ _ _ _) rfl rfl rfl rfl) BV.out ?_
      simp only [Act.put, List.setIfInBounds_toArray, List.set_cons_zero, List.set_cons_succ]
      refine take_at (i := 24) 53 ?_ rfl rfl (by kernel_rfl) (by kernel_rfl) (by kernel_rfl) (fun _ _ _ h => h) (.inl ⟨rfl, ?_⟩) BV.out ?_
      rotate_left 1
      · intro w hSw; go_simp; try with_reducible rfl
      simp only [Act.put, List.setIfInBounds_toArray, List.set_cons_zero, List.set_cons_succ]
      refine wpAnyH_done (by kernel_rfl) ?_ _
      have KF := Lib.hid (K6.out.bel.trans (BV.out.mono K6.out.bel.size))
      clear BV
      go_wp2
      go_roundw
      case rel => exact ⟨i + 1, by first | (rw [HW9.out]; rfl) | go_num, HLS.out, KF⟩
      case measure => first | (rw [HW9.out]; exact HMS.out) | exact HMS.out
    · have ei : i = l.length := by omega
      subst ei
      go_wp2
      go_returns
      exact ⟨rfl, K.out⟩
end Go.Proofs.Ytkmeceoilighiaa

set_option linter.unusedVariables false
set_option linter.unusedSimpArgs false
set_option maxRecDepth 100000
namespace Go.Proofs.Ytkmeceoilighiaa
open Go.RowKit Go.Shelf
open Tb (Rw setF getF aboveF Rise TabI TM LiesK LiesR ltS)

set_option maxHeartbeats 6400000 in
theorem entries_any (w : World) (q mb : Nat) (l : List Rw) (h : TabI w q mb l) (hr : Rise l) (hk : OkT l) (va : Option Addr) (vn vc : Nat) (hv : LiesR w (.slice va vn vc) l) (hl : l.length ≤ 1000) :
    Calls Try.prog 28 #[pv q, .slice va vn vc] w fun e w' => e = .returned (.bool true) ∧ Below w.heap.size w w' := by
  have HR := Lib.hid hr
  have HK := Lib.hid hk
  have HT := Lib.hid h
  have HV := Lib.hid hv
  have ND := Lib.hid (Tb.len_any w q mb l h)
  have TL := Lib.hid (fun W (hW : Below w.heap.size w W) t r ht hr => Tb.get_any W q mb l (h.step hW) t r ht hr)
  obtain ⟨ao, cap, e, _⟩ := id HV.out
  injection e with e1 e2 e3
  subst e1 e2 e3
  clear h hk hv hr
  go_enter Try.func28, Try.ntmps28
  go_wp2_with fail
  refine ND.out.mono ?_
  rintro e w1 ⟨rfl, hw1⟩
  subst hw1
  have B1 := Lib.hid (Below.refl w.heap.size w)
  clear ND
  go_wp2_with fail
  go_loopw [5] (fun iv wr => ∃ i : Nat, iv = .int .i64 i ∧ i ≤ l.length ∧ Hid (Below w.heap.size w wr)) (fun iv _ => l.length - (intOf iv).toNat)
  case atStart => exact ⟨0, rfl, by omega, B1⟩
  case round =>
    obtain ⟨i, rfl, hi, K⟩ := hrel
    by_cases hlt : i < l.length
    · have hi0 : (0 : Int) ≤ (i : Int) := by omega
      have hi1 : (i : Int) < (l.length : Int) := by omega
      have hd : decide ((i : Int) < (l.length : Int)) = true := decide_eq_true hi1
      have HLS := Lib.hid (show i + 1 ≤ l.length from hlt)
      have HW9 := Lib.hid (wrap_nat hlt (show l.length ≤ 100000 by omega))
      have HMS := Lib.hid (meas_nat hlt)
      obtain ⟨g, o, x, rfl, hx, hg, hc⟩ := HV.out.at' hlt
      have hxm := List.mem_of_getElem? hx
      have hgx : getF l x.t x.r = some x := (Tb.get_some HR.out).2 ⟨hxm, rfl, rfl⟩
      have cs : ∀ W, Below w.heap.size w W → ∀ (j : Nat) u, (Tb.enc6 x)[j]? = some u → W.cell? ⟨g, o + i * 6 + j, none⟩ = some u := fun W hb j u hu => (hb.cell (p := ⟨g, o + i * 6 + j, none⟩) hg).trans (hc j u hu)
      have LN := Lib.hid (fun W (hb : Below w.heap.size w W) => @ld24 W g (o + i * 6) x.t x.r (cs W hb 0 _ rfl) (cs W hb 1 _ rfl))
      have LP := Lib.hid (fun W (hb : Below w.heap.size w W) => @ld24 W g (o + i * 6 + 2) x.pt x.pr (cs W hb 2 _ rfl) (cs W hb 3 _ rfl))
      have LM := Lib.hid (fun W (hb : Below w.heap.size w W) => @ld9 W g (o + i * 6 + 4) x.nm (cs W hb 4 _ rfl))
      have LD := Lib.hid (fun W (hb : Below w.heap.size w W) => @ld4 W g (o + i * 6 + 5) x.d (cs W hb 5 _ rfl))
      have IX := Lib.hid (fun W => @ix29 g o l.length vc i hlt W)
      have TX := TL.out wr K.out x.t x.r (HK.out x hxm).1 (HK.out x hxm).2.1
      have hgv : Tb.gv l x.t x.r = .agg #[.int .i64 x.pt, .int .i64 x.pr, .string x.nm, .bool x.d] := by
        unfold Tb.gv; rw [hgx]
      rw [hgv, hgx] at TX
      have GT := Lib.hid TX
      have LNW := Lib.hid (LN.out wr K.out)
      clear hx hg hc cs hxm hgx hgv TX
      go_wp2_with (first | (refine Ve.wpList_load_arr rfl (.tmp 24) 24 rfl (.pointer (some ⟨g, o + i * 6, none⟩)) (.agg #[.int .i64 x.t, .int .i64 x.r]) rfl LNW.out ?_))
      refine GT.out.mono ?_
      rintro e w5 ⟨rfl, hb⟩
      have K6 := Lib.hid (show RWI w (w5.alloc (.cells #[.int .i64 x.pt, .int .i64 x.pr, .string x.nm, .bool x.d] 69)) w5.heap.size x from ⟨(K.out.trans (hb.mono K.out.size)).alloc (Nat.le_trans K.out.size hb.size) _, heap_alloc_new w5 _⟩)
      clear hb GT LNW LN
      go_upto_region 7 with (fail)
      generalize w5.alloc (.cells #[.int .i64 x.pt, .int .i64 x.pr, .string x.nm, .bool x.d] 69) = w6 at K6 ⊢
      obtain ⟨k6, hk6⟩ : ∃ z, w5.heap.size = z := ⟨_, rfl⟩
      rw [hk6] at K6 ⊢
      clear hk6
      have LE := Lib.hid (fun W (hb : Below w6.heap.size w6 W) => ld69 ((hb.block _ (pl_lt K6.out.box)).trans K6.out.box))
      have LP := Lib.hid (fun W (hb : Below w6.heap.size w6 W) => LP.out W (K6.out.bel.trans (hb.mono K6.out.bel.size)))
      have LM := Lib.hid (fun W (hb : Below w6.heap.size w6 W) => LM.out W (K6.out.bel.trans (hb.mono K6.out.bel.size)))
      have LD := Lib.hid (fun W (hb : Below w6.heap.size w6 W) => LD.out W (K6.out.bel.trans (hb.mono K6.out.bel.size)))
      refine wp_region_held_drew (S := fun w' => Below w6.heap.size w6 w') (by kernel_rfl) (Below.refl _ _).drew (fun hHeld => ?_)
      have BV := Lib.hid (show Below w6.heap.size w6 w6.drew from (Below.refl _ _).drew)
      clear hHeld
      refine take_at (i := 0) 29 ?_ rfl rfl (by kernel_rfl) (by kernel_rfl) (by kernel_rfl) (fun _ _ _ h => h) (.inl ⟨rfl, ?_⟩) BV.out ?_
      rotate_left 1
      · intro w hSw; go_simp; try with_reducible rfl
      simp only [Act.put, List.setIfInBounds_toArray, List.set_cons_zero, List.set_cons_succ]
      refine take_at (i := 1) 30 ?_ rfl rfl (by kernel_rfl) (by kernel_rfl) (by kernel_rfl) (fun _ _ _ h => h) (.inl ⟨rfl, ?_⟩) BV.out ?_
      rotate_left 1
      · intro w hSw; go_simp; try with_reducible rfl
      simp only [Act.put, List.setIfInBounds_toArray, List.set_cons_zero, List.set_cons_succ]
      refine take_at (i := 2) 31 ?_ rfl rfl (by kernel_rfl) (by kernel_rfl) (by kernel_rfl) (fun _ _ _ h => h) (.inl ⟨rfl, ?_⟩) BV.out ?_
      rotate_left 1
      · intro w hSw; go_simp; try with_reducible rfl
      simp only [Act.put, List.setIfInBounds_toArray, List.set_cons_zero, List.set_cons_succ]
      refine take_at (i := 3) 32 (.agg #[.int .i64 x.pt, .int .i64 x.pr, .string x.nm, .bool x.d]) rfl rfl (by kernel_rfl) (by kernel_rfl) (by kernel_rfl) (fun _ _ _ h => h) (yields_ld (.tmp 6) 69 (.pointer (some ⟨k6, 0, none⟩)) _ LE.out rfl rfl rfl) BV.out ?_
      simp only [Act.put, List.setIfInBounds_toArray, List.set_cons_zero, List.set_cons_succ]
      refine take_at (i := 4) 33 ?_ rfl rfl (by kernel_rfl) (by kernel_rfl) (by kernel_rfl) (fun _ _ _ h => h) (.inl ⟨rfl, ?_⟩) BV.out ?_
      rotate_left 1
      · intro w hSw; go_simp; try with_reducible rfl
      simp only [Act.put, List.setIfInBounds_toArray, List.set_cons_zero, List.set_cons_succ]
      refine take_at (i := 5) 34 ?_ rfl rfl (by kernel_rfl) (by kernel_rfl) (by kernel_rfl) (fun _ _ _ h => h) (.inl ⟨rfl, ?_⟩) BV.out ?_
      rotate_left 1
      · intro w hSw; go_simp; try with_reducible rfl
      simp only [Act.put, List.setIfInBounds_toArray, List.set_cons_zero, List.set_cons_succ]
      refine take_at (i := 6) 35 (.pointer (some ⟨g, o + i * 6, none⟩)) rfl rfl (by kernel_rfl) (by kernel_rfl) (by kernel_rfl) (fun _ _ _ h => h) (yields_ix (.tmp 33) (.tmp 34) 29 (.slice (some ⟨g, o, none⟩) l.length vc) (.int .i64 (i : Int)) _ IX.out rfl rfl rfl rfl) BV.out ?_
      simp only [Act.put, List.setIfInBounds_toArray, List.set_cons_zero, List.set_cons_succ]
      refine take_at (i := 7) 36 ?_ rfl rfl (by kernel_rfl) (by kernel_rfl) (by kernel_rfl) (fun _ _ _ h => h) (.inl ⟨rfl, ?_⟩) BV.out ?_
      rotate_left 1
      · intro w hSw; go_simp; try with_reducible rfl
      simp only [Act.put, List.setIfInBounds_toArray, List.set_cons_zero, List.set_cons_succ]
      refine take_at (i := 8) 37 ?_ rfl rfl (by kernel_rfl) (by kernel_rfl) (by kernel_rfl) (fun _ _ _ h => h) (.inl ⟨rfl, ?_⟩) BV.out ?_
      rotate_left 1
      · intro w hSw; go_simp; try with_reducible rfl
      simp only [Act.put, List.setIfInBounds_toArray, List.set_cons_zero, List.set_cons_succ]
      refine take_at (i := 9) 38 (.agg #[.int .i64 x.pt, .int .i64 x.pr]) rfl rfl (by kernel_rfl) (by kernel_rfl) (by kernel_rfl) (fun _ _ _ h => h) (yields_ld (.tmp 37) 24 (.pointer (some ⟨g, o + i * 6 + 2, none⟩)) _ LP.out rfl rfl rfl) BV.out ?_
      simp only [Act.put, List.setIfInBounds_toArray, List.set_cons_zero, List.set_cons_succ]
      refine take_at (i := 10) 39 ?_ rfl rfl (by kernel_rfl) (by kernel_rfl) (by kernel_rfl) (fun _ _ _ h => h) (.inl ⟨rfl, ?_⟩) BV.out ?_
      rotate_left 1
      · intro w hSw; go_simp; try with_reducible rfl
      simp only [Act.put, List.setIfInBounds_toArray, List.set_cons_zero, List.set_cons_succ]
      refine take_at (i := 11) 40 ?_ rfl rfl (by kernel_rfl) (by kernel_rfl) (by kernel_rfl) (fun _ _ _ h => h) (.inl ⟨rfl, ?_⟩) BV.out ?_
      rotate_left 1
      · intro w hSw; go_simp; try with_reducible rfl
      simp only [Act.put, List.setIfInBounds_toArray, List.set_cons_zero, List.set_cons_succ]
      refine take_at (i := 12) 41 (.pointer (some ⟨g, o + i * 6, none⟩)) rfl rfl (by kernel_rfl) (by kernel_rfl) (by kernel_rfl) (fun _ _ _ h => h) (yields_ix (.tmp 39) (.tmp 40) 29 (.slice (some ⟨g, o, none⟩) l.length vc) (.int .i64 (i : Int)) _ IX.out rfl rfl rfl rfl) BV.out ?_
      simp only [Act.put, List.setIfInBounds_toArray, List.set_cons_zero, List.set_cons_succ]
      refine take_at (i := 13) 42 ?_ rfl rfl (by kernel_rfl) (by kernel_rfl) (by kernel_rfl) (fun _ _ _ h => h) (.inl ⟨rfl, ?_⟩) BV.out ?_
      rotate_left 1
      · intro w hSw; go_simp; try with_reducible rfl
      simp only [Act.put, List.setIfInBounds_toArray, List.set_cons_zero, List.set_cons_succ]
      refine take_at (i := 14) 43 ?_ rfl rfl (by kernel_rfl) (by kernel_rfl) (by kernel_rfl) (fun _ _ _ h => h) (.inl ⟨rfl, ?_⟩) BV.out ?_
      rotate_left 1
      · intro w hSw; go_simp; try with_reducible rfl
      simp only [Act.put, List.setIfInBounds_toArray, List.set_cons_zero, List.set_cons_succ]
      refine take_at (i := 15) 44 (.string x.nm) rfl rfl (by kernel_rfl) (by kernel_rfl) (by kernel_rfl) (fun _ _ _ h => h) (yields_ld (.tmp 43) 9 (.pointer (some ⟨g, o + i * 6 + 4, none⟩)) _ LM.out rfl rfl rfl) BV.out ?_
      simp only [Act.put, List.setIfInBounds_toArray, List.set_cons_zero, List.set_cons_succ]
      refine take_at (i := 16) 45 ?_ rfl rfl (by kernel_rfl) (by kernel_rfl) (by kernel_rfl) (fun _ _ _ h => h) (.inl ⟨rfl, ?_⟩) BV.out ?_
      rotate_left 1
      · intro w hSw; go_simp; try with_reducible rfl
      simp only [Act.put, List.setIfInBounds_toArray, List.set_cons_zero, List.set_cons_succ]
      refine take_at (i := 17) 46 ?_ rfl rfl (by kernel_rfl) (by kernel_rfl) (by kernel_rfl) (fun _ _ _ h => h) (.inl ⟨rfl, ?_⟩) BV.out ?_
      rotate_left 1
      · intro w hSw; go_simp; try with_reducible rfl
      simp only [Act.put, List.setIfInBounds_toArray, List.set_cons_zero, List.set_cons_succ]
      refine take_at (i := 18) 47 (.pointer (some ⟨g, o + i * 6, none⟩)) rfl rfl (by kernel_rfl) (by kernel_rfl) (by kernel_rfl) (fun _ _ _ h => h) (yields_ix (.tmp 45) (.tmp 46) 29 (.slice (some ⟨g, o, none⟩) l.length vc) (.int .i64 (i : Int)) _ IX.out rfl rfl rfl rfl) BV.out ?_
      simp only [Act.put, List.setIfInBounds_toArray, List.set_cons_zero, List.set_cons_succ]
      refine take_at (i := 19) 48 ?_ rfl rfl (by kernel_rfl) (by kernel_rfl) (by kernel_rfl) (fun _ _ _ h => h) (.inl ⟨rfl, ?_⟩) BV.out ?_
      rotate_left 1
      · intro w hSw; go_simp; try with_reducible rfl
      simp only [Act.put, List.setIfInBounds_toArray, List.set_cons_zero, List.set_cons_succ]
      refine take_at (i := 20) 49 ?_ rfl rfl (by kernel_rfl) (by kernel_rfl) (by kernel_rfl) (fun _ _ _ h => h) (.inl ⟨rfl, ?_⟩) BV.out ?_
      rotate_left 1
      · intro w hSw; go_simp; try with_reducible rfl
      simp only [Act.put, List.setIfInBounds_toArray, List.set_cons_zero, List.set_cons_succ]
      refine take_at (i := 21) 50 (.bool x.d) rfl rfl (by kernel_rfl) (by kernel_rfl) (by kernel_rfl) (fun _ _ _ h => h) (yields_ld (.tmp 49) 4 (.pointer (some ⟨g, o + i * 6 + 5, none⟩)) _ LD.out rfl rfl rfl) BV.out ?_
      simp only [Act.put, List.setIfInBounds_toArray, List.set_cons_zero, List.set_cons_succ]
      refine take_at (i := 22) 51 (.agg #[.int .i64 x.pt, .int .i64 x.pr, .string x.nm, .bool x.d]) rfl rfl (by kernel_rfl) (by kernel_rfl) (by kernel_rfl) (fun _ _ _ h => h) (yields_bld 69 #[(0, .tmp 38), (1, .tmp 44), (2, .tmp 50)] #[(0, .agg #[.int .i64 x.pt, .int .i64 x.pr]), (1, .string x.nm), (2, .bool x.d)] _ rfl rfl rfl (fun w => bld69 w x.pt x.pr x.nm x.d)) BV.out ?_
      simp only [Act.put, List.setIfInBounds_toArray, List.set_cons_zero, List.set_cons_succ]
      refine take_at (i := 23) 52 (.bool false) rfl rfl (by kernel_rfl) (by kernel_rfl) (by kernel_rfl) (fun _ _ _ h => h) (yields_bin .neq (.tmp 32) (.tmp 51) 69 69 (.agg #[.int .i64 x.pt, .int .i64 x.pr, .string x.nm, .bool x.d]) (.agg #[.int .i64 x.pt, .int .i64 x.pr, .string x.nm, .bool x.d]) _ (fun w => ne69 w x.pt x.pr x.nm x.d) (gn69 _ _ _ _) rfl rfl rfl rfl) BV.out ?_
      simp only [Act.put, List.setIfInBounds_toArray, List.set_cons_zero, List.set_cons_succ]
      refine take_at (i := 24) 53 ?_ rfl rfl (by kernel_rfl) (by kernel_rfl) (by kernel_rfl) (fun _ _ _ h => h) (.inl ⟨rfl, ?_⟩) BV.out ?_
      rotate_left 1
      · intro w hSw; go_simp; try with_reducible rfl
      simp only [Act.put, List.setIfInBounds_toArray, List.set_cons_zero, List.set_cons_succ]
      refine wpAnyH_done (by kernel_rfl) ?_ _
      have KF := Lib.hid (K6.out.bel.trans (BV.out.mono K6.out.bel.size))
      clear BV
      go_wp2
      go_roundw
      case rel => exact ⟨i + 1, by first | (rw [HW9.out]; rfl) | go_num, HLS.out, KF⟩
      case measure => first | (rw [HW9.out]; exact HMS.out) | exact HMS.out
    · have ei : i = l.length := by omega
      subst ei
      go_wp2
      go_returns
      exact ⟨rfl, K.out⟩
end Go.Proofs.Ytkmeceoilighiaa

set_option linter.unusedVariables false
set_option linter.unusedSimpArgs false
set_option maxRecDepth 100000
namespace Go.Proofs.Ytkmeceoilighiaa
open Go.RowKit Go.Shelf
open Tb (Rw TabI TM LiesK)

/-- An act: its kind, its op. -/
def encA (a : Int × O) : List Value := .int .i64 a.1 :: oc a.2
theorem encA_len (a : Int × O) : (encA a).length = 10 := by show (oc a.2).length + 1 = 10; rw [oc_len]
theorem ix22 {g k n c i : Nat} (hi : i < n) (W : World) : (Instr.indexAt 22 (.slice (some ⟨g, k, none⟩) n c) (.int .i64 (i : Int))).run Try.prog W = .ok (.pointer (some ⟨g, k + i * 10, none⟩)) W := by
  have h0 : (0 : Int) ≤ (i : Int) := by omega
  have h1 : (i : Int) < (n : Int) := by omega
  go_simp
def longF (l : List (Int × O)) : Bool := (l.take 40).any (fun a => decide (300 < a.2.nm.size))
theorem long_yes {l : List (Int × O)} {i : Nat} {x : Int × O} (hi : i < 40) (hx : l[i]? = some x) (h : 300 < x.2.nm.size) : longF l = true :=
  List.any_eq_true.2 ⟨x, List.mem_of_getElem? (i := i) (by rw [List.getElem?_take, if_pos hi]; exact hx), decide_eq_true h⟩
theorem long_no {l : List (Int × O)} (h : ∀ (j : Nat) a, j < 40 → l[j]? = some a → a.2.nm.size ≤ 300) : longF l = false :=
  List.any_eq_false.2 (fun a ha => by
    obtain ⟨j, hj⟩ := List.getElem?_of_mem ha
    rw [List.getElem?_take] at hj
    split at hj
    · rename_i h1
      have := h j a h1 hj
      simp
      omega
    · cases hj)
theorem long_le {l : List (Int × O)} (h : longF l = false) {j : Nat} {a : Int × O} (hj : j < 40) (ha : l[j]? = some a) : a.2.nm.size ≤ 300 := by
  rcases Nat.lt_or_ge 300 a.2.nm.size with h1 | h1
  · rw [long_yes hj ha h1] at h; cases h
  · exact h1
set_option maxHeartbeats 1600000 in
theorem long_any (w : World) (v : Value) (l : List (Int × O)) (h : LiesK encA 10 w v l) :
    Calls Try.prog 8 #[v] w fun e w' => e = .returned (.bool (longF l)) ∧ w' = w := by
  have H := Lib.hid h
  have hll := h.len
  obtain ⟨ao, cap, rfl⟩ := h.shape
  clear h
  go_enter Try.func8, Try.ntmps8
  go_wp2
  go_loopw [3] (fun iv wr => ∃ i : Nat, iv = .int .i64 i ∧ i ≤ l.length ∧ i ≤ 40 ∧ Hid (∀ (j : Nat) a, j < i → l[j]? = some a → a.2.nm.size ≤ 300) ∧ wr = w) (fun iv _ => l.length - (intOf iv).toNat)
  case atStart => exact ⟨0, rfl, Nat.zero_le _, by omega, Lib.hid (fun j a hj => by omega), rfl⟩
  case round =>
    obtain ⟨i, rfl, hi, hi40, K, rfl⟩ := hrel
    by_cases hlt : i < l.length
    · have hi0 : (0 : Int) ≤ (i : Int) := by omega
      have hi1 : (i : Int) < (l.length : Int) := by omega
      have hd : decide ((i : Int) < (l.length : Int)) = true := decide_eq_true hi1
      by_cases h40 : i < 40
      · have hi2 : (i : Int) < 40 := by omega
        have hd2 : decide ((i : Int) < 40) = true := decide_eq_true hi2
        have HLS := Lib.hid (And.intro (show i + 1 ≤ l.length from hlt) (show i + 1 ≤ 40 from h40))
        have HW9 := Lib.hid (wrap_nat h40 (by omega))
        have HMS := Lib.hid (meas_nat hlt)
        obtain ⟨g, k, x, rfl, hx, hg, hc⟩ := H.out.at' hlt
        have LX := Lib.hid (@ld9 wr g (k + i * 10 + 8) x.2.nm (hc 8 _ rfl))
        have HX := Lib.hid hx
        clear hx hg hc
        by_cases hs : 300 < x.2.nm.size
        · have hs1 : (300 : Int) < (x.2.nm.size : Int) := by omega
          have hs2 : decide ((x.2.nm.size : Int) > 300) = true := decide_eq_true hs1
          have hs3 : decide ((300 : Int) < (x.2.nm.size : Int)) = true := decide_eq_true hs1
          go_wp2_with (first | (refine Ve.wpList_load_arr rfl (.tmp 18) 9 rfl (.pointer (some ⟨g, k + i * 10 + 8, none⟩)) (.string x.2.nm) rfl LX.out ?_))
          go_returns
          exact ⟨by rw [long_yes h40 HX.out hs]; rfl, rfl⟩
        · have hs1 : ¬ (300 : Int) < (x.2.nm.size : Int) := by omega
          have hs2 : decide ((x.2.nm.size : Int) > 300) = false := decide_eq_false hs1
          have hs3 : decide ((300 : Int) < (x.2.nm.size : Int)) = false := decide_eq_false hs1
          have KF := Lib.hid (show ∀ (j : Nat) a, j < i + 1 → l[j]? = some a → a.2.nm.size ≤ 300 from fun j a hj ha => by
            rcases Nat.lt_or_ge j i with h1 | h1
            · exact K.out j a h1 ha
            · have : j = i := by omega
              subst this
              rw [HX.out] at ha
              injection ha with ha
              subst ha
              omega)
          go_wp2_with (first | (refine Ve.wpList_load_arr rfl (.tmp 18) 9 rfl (.pointer (some ⟨g, k + i * 10 + 8, none⟩)) (.string x.2.nm) rfl LX.out ?_))
          go_roundw
          case rel => exact ⟨i + 1, by first | (rw [HW9.out]; rfl) | go_num, HLS.out.1, HLS.out.2, KF, trivial⟩
          case measure => first | (rw [HW9.out]; exact HMS.out) | exact HMS.out
      · have hi2 : ¬ (i : Int) < 40 := by omega
        have hd2 : decide ((i : Int) < 40) = false := decide_eq_false hi2
        go_wp2
        go_returns
        exact ⟨by rw [long_no (fun j a hj => K.out j a (by omega))]; rfl, rfl⟩
    · have ei : i = l.length := by omega
      subst ei
      go_wp2
      go_returns
      exact ⟨by rw [long_no (fun j a hj ha => K.out j a (List.getElem?_eq_some_iff.1 ha).1 ha)]; rfl, rfl⟩
end Go.Proofs.Ytkmeceoilighiaa

set_option linter.unusedVariables false
set_option linter.unusedSimpArgs false
set_option maxRecDepth 100000
namespace Go.Proofs.Ytkmeceoilighiaa
open Go.RowKit Go.Shelf
open Tb (Rw setF getF aboveF Rise TabI TM LiesK LiesR ltS)

/-- The boxes of the reference's Add. -/
structure RA (w W : World) (ba : Option Addr) (bn bc : Nat) (ft fr : Int) (la : Option Addr) (ln lc : Nat) (o : O) : Prop where
  bel : Below w.heap.size w W
  b1 : W.heap[w.heap.size]? = some (.cells #[.slice ba bn bc, .int .i64 ft, .int .i64 fr, .slice la ln lc] 32 (0, 0))
  b2 : W.heap[w.heap.size + 1]? = some (.cells (oCells o) 34 (0, 0))
  b3 : ∃ y1 y2 y3 y4, W.heap[w.heap.size + 1 + 1]? = some (.cells #[y1, y2, y3, y4] 32 (0, 0))
theorem RA.step {w W W' : World} {ba : Option Addr} {bn bc : Nat} {ft fr : Int} {la : Option Addr} {ln lc : Nat} {o : O} (h : RA w W ba bn bc ft fr la ln lc o) (hb : Below W.heap.size W W') : RA w W' ba bn bc ft fr la ln lc o := by
  obtain ⟨h1, h2, h3, y1, y2, y3, y4, h4⟩ := h
  exact ⟨h1.trans (hb.mono h1.size), (hb.block _ (pl_lt h2)).trans h2, (hb.block _ (pl_lt h3)).trans h3, y1, y2, y3, y4, (hb.block _ (pl_lt h4)).trans h4⟩
theorem RA.start (w : World) (ba : Option Addr) (bn bc : Nat) (ft fr : Int) (la : Option Addr) (ln lc : Nat) (o : O) : RA w (((w.alloc (.cells #[.slice ba bn bc, .int .i64 ft, .int .i64 fr, .slice la ln lc] 32)).alloc (.cells (oCells o) 34)).alloc (.cells #[.slice none 0 0, .int .i64 0, .int .i64 0, .slice none 0 0] 32)) ba bn bc ft fr la ln lc o := by
  have B1 := pl_vstep w (.cells #[.slice ba bn bc, .int .i64 ft, .int .i64 fr, .slice la ln lc] 32)
  have N1 := heap_alloc_new w (.cells #[.slice ba bn bc, .int .i64 ft, .int .i64 fr, .slice la ln lc] 32)
  have z1 : (w.alloc (.cells #[.slice ba bn bc, .int .i64 ft, .int .i64 fr, .slice la ln lc] 32)).heap.size = w.heap.size + 1 := by simp
  generalize w.alloc (.cells #[.slice ba bn bc, .int .i64 ft, .int .i64 fr, .slice la ln lc] 32) = w1 at *
  have B2 := pl_vstep w1 (.cells (oCells o) 34)
  have N2 := heap_alloc_new w1 (.cells (oCells o) 34)
  have z2 : (w1.alloc (.cells (oCells o) 34)).heap.size = w.heap.size + 1 + 1 := by simp [z1]
  rw [z1] at N2
  generalize w1.alloc (.cells (oCells o) 34) = w2 at *
  have B3 := pl_vstep w2 (.cells #[.slice none 0 0, .int .i64 0, .int .i64 0, .slice none 0 0] 32)
  have N3 := heap_alloc_new w2 (.cells #[.slice none 0 0, .int .i64 0, .int .i64 0, .slice none 0 0] 32)
  rw [z2] at N3
  have B12 := B1.trans (B2.mono B1.size)
  exact ⟨B12.trans (B3.mono B12.size), (B3.block _ (by rw [z2]; omega)).trans ((B2.block _ (pl_lt N1)).trans N1), (B3.block _ (pl_lt N2)).trans N2, _, _, _, _, N3⟩
theorem ld29 {W : World} {g o : Nat} {a : Option Addr} {n c : Nat} (h : W.cell? ⟨g, o, none⟩ = some (.slice a n c)) : (Instr.loadAt 29 (.pointer (some ⟨g, o, none⟩))).run Try.prog W = .ok (.slice a n c) W := by
  go_simp
theorem bld32 (W : World) (ba : Option Addr) (bn bc : Nat) (ft fr : Int) (la : Option Addr) (ln lc : Nat) : (Instr.build 32 #[(0, .slice ba bn bc), (1, .agg #[.int .i64 ft, .int .i64 fr]), (2, .slice la ln lc)]).run Try.prog W = .ok (.agg #[.slice ba bn bc, .int .i64 ft, .int .i64 fr, .slice la ln lc]) W := by kernel_rfl
theorem alc32 (W : World) : (Instr.alloc 32 true (.tuple #[])).run Try.prog W = .ok (.pointer (some ⟨W.heap.size, 0, none⟩)) (W.alloc (.cells #[.slice none 0 0, .int .i64 0, .int .i64 0, .slice none 0 0] 32)) := by kernel_rfl
/-- A box of four cells. -/
structure BX4 (W : World) (k : Nat) (T : TypeId) (a b c d : Value) : Prop where
  row : W.heap[k]? = some (.cells #[a, b, c, d] T (0, 0))
theorem BX4.step {W W' : World} {k : Nat} {T : TypeId} {a b c d : Value} (h : BX4 W k T a b c d) (hb : Below W.heap.size W W') : BX4 W' k T a b c d := ⟨(hb.block _ (pl_lt h.row)).trans h.row⟩
theorem liesK_far2 {α : Type} {enc : α → List Value} {n : Nat} {P : Nat → Prop} {W W' : World} (hf : Far P W W') {u : Value} {l : List α} (h : LiesK enc n W u l) (hn : l ≠ [] → ∀ k, u.ownBlock = some k → ¬ P k) : LiesK enc n W' u l := by
  obtain ⟨ao, cap, rfl, hle, hm, h0, hc⟩ := h
  refine ⟨ao, cap, rfl, hle, hm, h0, fun b hbb hne => ?_⟩
  subst hbb
  obtain ⟨g, o, rfl, hg, hc⟩ := hc b rfl hne
  exact ⟨g, o, rfl, Nat.lt_of_lt_of_le hg hf.size, fun j p hj i u hi => (World.cell?_of_block (hf.block g hg (hn hne g rfl))).trans (hc j p hj i u hi)⟩
theorem liesK_far {α : Type} {enc : α → List Value} {n : Nat} {P : Nat → Prop} {W W' : World} (hf : Far P W W') {u : Value} {l : List α} (h : LiesK enc n W u l) (hn : ∀ k, u.ownBlock = some k → ¬ P k) : LiesK enc n W' u l := liesK_far2 hf h (fun _ => hn)
theorem far_setc (W : World) (k j : Nat) (v : Value) : Far (fun i => i = k) W (W.setCell ⟨k, j, none⟩ v) := Far.of_grown (setc_far v) (fun i e => by injection e with e; exact e.symm)
theorem far_set4 (W : World) (k : Nat) (x y z v : Value) : Far (fun i => i = k) W (set4 W k x y z v) := by
  have h1 := far_setc W k 0 x
  have h2 := far_setc (W.setCell ⟨k, 0, none⟩ x) k 1 y
  have h3 := far_setc ((W.setCell ⟨k, 0, none⟩ x).setCell ⟨k, 1, none⟩ y) k 2 z
  have h4 := far_setc (((W.setCell ⟨k, 0, none⟩ x).setCell ⟨k, 1, none⟩ y).setCell ⟨k, 2, none⟩ z) k 3 v
  unfold set4
  exact ((h1.trans h2 (fun _ _ e => e)).trans h3 (fun _ _ e => e)).trans h4 (fun _ _ e => e)
theorem liesK_four {α : Type} {enc : α → List Value} {n : Nat} (hn : 4 < n) (he : ∀ x, (enc x).length = n) {W : World} {k : Nat} {T : TypeId} {a b c d u : Value} {l : List α} (h : LiesK enc n W u l) (hk : W.heap[k]? = some (.cells #[a, b, c, d] T (0, 0))) (hne : l ≠ []) : u.ownBlock ≠ some k := by
  obtain ⟨ao, cap, rfl, hle, hm, h0, hc⟩ := h
  intro e
  cases ao with
  | none => cases e
  | some ad =>
    obtain ⟨g, o, rfl, hg, hc⟩ := hc ad rfl hne
    have e : some g = some k := e
    injection e with e
    subst e
    cases l with
    | nil => exact hne rfl
    | cons p l =>
      have hp : 4 < (enc p).length := by rw [he]; exact hn
      have h4 := hc 0 p rfl 4 (enc p)[4] (List.getElem?_eq_getElem hp)
      rw [cell_of_row _ _ _ _ _ _ hk, Array.getElem?_eq_none (by simp; try omega)] at h4
      cases h4
theorem liesK_set4 {α : Type} {enc : α → List Value} {n : Nat} (hn : 4 < n) (he : ∀ x, (enc x).length = n) {W : World} {k : Nat} {T : TypeId} {a b c d x y z v u : Value} {l : List α} (h : LiesK enc n W u l) (hk : W.heap[k]? = some (.cells #[a, b, c, d] T (0, 0))) : LiesK enc n (set4 W k x y z v) u l :=
  liesK_far2 (far_set4 W k x y z v) h (fun hne g e e2 => liesK_four hn he h hk hne (by rw [e]; exact congrArg some e2))
theorem olies_set4 {W : World} {k : Nat} {T : TypeId} {a b c d x y z v u : Value} {l : List O} (h : OLies W u l) (hk : W.heap[k]? = some (.cells #[a, b, c, d] T (0, 0))) : OLies (set4 W k x y z v) u l :=
  liesK_set4 (enc := oc) (n := 9) (by decide) oc_len h hk
theorem st32 {W : World} {k : Nat} {o1 o4 : Value} {o2 o3 : Value} (h : W.heap[k]? = some (.cells #[o1, o2, o3, o4] 32 (0, 0))) (ba : Option Addr) (bn bc : Nat) (ft fr : Int) (la : Option Addr) (ln lc : Nat) :
    (Instr.storeAt 32 (.pointer (some ⟨k, 0, none⟩)) (.agg #[.slice ba bn bc, .int .i64 ft, .int .i64 fr, .slice la ln lc])).run Try.prog W = .ok () (set4 W k (.slice ba bn bc) (.int .i64 ft) (.int .i64 fr) (.slice la ln lc)) := by
  obtain ⟨z0, z1, z2, z3⟩ := box4 h
  have f0 := frozen_of_row (j := 0) _ _ _ _ h
  have f1 := frozen_of_row (j := 1) _ _ _ _ h
  have f2 := frozen_of_row (j := 2) _ _ _ _ h
  have f3 := frozen_of_row (j := 3) _ _ _ _ h
  unfold set4
  clear h
  go_simp
noncomputable def raddN (ft fr : Int) (L : List O) (o : O) : Int := if addE ft fr L o = 0 then (cntF L o : Int) else 0
noncomputable def raddL (ft fr : Int) (L : List O) (o : O) : List O := if addE ft fr L o = 0 then srtO (L ++ [o]) else L
theorem raddN_ne {ft fr : Int} {L : List O} {o : O} (h : ¬ addE ft fr L o = 0) : raddN ft fr L o = 0 := if_neg h
theorem raddL_ne {ft fr : Int} {L : List O} {o : O} (h : ¬ addE ft fr L o = 0) : raddL ft fr L o = L := if_neg h
theorem cnt_snoc {L : List O} {i : Nat} {x : O} (h : L[i]? = some x) (o : O) : cntF (L.take (i + 1)) o = cntF (L.take i) o + (if ltS o.t o.r x.t x.r = true then 1 else 0) := by
  obtain ⟨h1, h2⟩ := List.getElem?_eq_some_iff.1 h
  unfold cntF
  rw [List.take_succ_eq_append_getElem h1, h2, List.filter_append, List.length_append]
  congr 1
  cases hq : ltS o.t o.r x.t x.r with
  | true => rw [List.filter_cons_of_pos (p := fun (x : O) => ltS o.t o.r x.t x.r) hq]; rfl
  | false => rw [List.filter_cons_of_neg (p := fun (x : O) => ltS o.t o.r x.t x.r) (by show ¬ ltS o.t o.r x.t x.r = true; rw [hq]; simp)]; rfl
set_option maxHeartbeats 12800000 in
theorem radd_any (w : World) (ba : Option Addr) (bn bc : Nat) (ft fr : Int) (la : Option Addr) (lc : Nat) (L : List O) (hL : OLies w (.slice la L.length lc) L) (hl : L.length ≤ 90) (o : O) (hz : o.nm.size ≤ 9223372036854775807) :
    Calls Try.prog 12 #[.agg #[.slice ba bn bc, .int .i64 ft, .int .i64 fr, .slice la L.length lc], oV o] w fun e w' => ∃ a n c, e = .returned (.tuple #[.agg #[.slice ba bn bc, .int .i64 ft, .int .i64 fr, .slice a n c], .int .i64 (raddN ft fr L o), .int .i64 (addE ft fr L o)]) ∧ OLies w' (.slice a n c) (raddL ft fr L o) ∧ Below w.heap.size w w' ∧ Spr w.heap.size w' (.slice la L.length lc) (.slice a n c) := by
  obtain ⟨i0, hi9, hz0, hz1, hz2⟩ := info_parts info25
  have K0 := Lib.hid (RA.start w ba bn bc ft fr la L.length lc o)
  have HL := Lib.hid hL
  have EE : addE ft fr L o = if rO o = false then 2 else if St.cmpS o.t o.r ft fr ≤ 0 then 11 else if hasO L o.t o.r = true then 9 else 0 := rfl
  have RB : rO o = rB o.t o.r o.q o.nt o.nr o.pt o.pr o.nm := rfl
  have RT := Lib.hid (fun W => rright_big W o.t o.r o.q o.nt o.nr o.pt o.pr o.nm o.d hz)
  rw [← RB] at RT
  obtain ⟨rb, hrb⟩ : ∃ z, rO o = z := ⟨_, rfl⟩
  rw [hrb] at RT EE
  have LS := Lib.hid (fun W => Tb.less_any W ft fr o.t o.r)
  have HA := Lib.hid (fun W (hW : Below w.heap.size w W) => hasO_any W (.slice la L.length lc) L (hL.step hW) o.t o.r (by omega))
  obtain ⟨ls, hls⟩ : ∃ z, ltS ft fr o.t o.r = z := ⟨_, rfl⟩
  rw [hls] at LS
  obtain ⟨hs, hhs⟩ : ∃ z, hasO L o.t o.r = z := ⟨_, rfl⟩
  rw [hhs] at HA EE
  have EE := Lib.hid EE
  have HLS := Lib.hid hls
  have HHS := Lib.hid hhs
  clear hL RB hrb hls hhs
  obtain ⟨t, r, q, nt, nr, pt, pr, nm, d⟩ := o
  unfold oV
  unfold oCells
  dsimp only at *
  go_enter Try.func12, Try.ntmps12
  go_upto_region 1 with (fail)
  change Code.wp _ _ _ _ (((w.alloc (.cells #[.slice ba bn bc, .int .i64 ft, .int .i64 fr, .slice la L.length lc] 32)).alloc (.cells #[.int .i64 t, .int .i64 r, .int .i64 q, .int .i64 nt, .int .i64 nr, .int .i64 pt, .int .i64 pr, .string nm, .bool d] 34)).alloc (.cells #[.slice none 0 0, .int .i64 0, .int .i64 0, .slice none 0 0] 32))
  have K0 : Hid (RA w (((w.alloc (.cells #[.slice ba bn bc, .int .i64 ft, .int .i64 fr, .slice la L.length lc] 32)).alloc (.cells #[.int .i64 t, .int .i64 r, .int .i64 q, .int .i64 nt, .int .i64 nr, .int .i64 pt, .int .i64 pr, .string nm, .bool d] 34)).alloc (.cells #[.slice none 0 0, .int .i64 0, .int .i64 0, .slice none 0 0] 32)) ba bn bc ft fr la L.length lc ⟨t, r, q, nt, nr, pt, pr, nm, d⟩) := K0
  generalize (((w.alloc (.cells #[.slice ba bn bc, .int .i64 ft, .int .i64 fr, .slice la L.length lc] 32)).alloc (.cells #[.int .i64 t, .int .i64 r, .int .i64 q, .int .i64 nt, .int .i64 nr, .int .i64 pt, .int .i64 pr, .string nm, .bool d] 34)).alloc (.cells #[.slice none 0 0, .int .i64 0, .int .i64 0, .slice none 0 0] 32)) = w0 at K0 ⊢
  obtain ⟨c0, c1, c2, c3, c4, c5, c6, c7, c8⟩ := cell9 K0.out.b2
  go_wp2_with fail
  refine (RT.out w0).mono ?_
  rintro e w1 ⟨rfl, hb⟩
  have K1 := Lib.hid (K0.out.step hb)
  clear hb c0 c1 c2 c3 c4 c5 c6 c7 c8 RT K0
  cases rb with
  | false =>
    obtain ⟨a0, a1, a2, a3⟩ := box4 K1.out.b1
    obtain ⟨y1, y2, y3, y4, hb3⟩ := K1.out.b3
    obtain ⟨z0, z1, z2, z3⟩ := box4 hb3
    have f0 := frozen_of_row (j := 0) _ _ _ _ hb3
    have f1 := frozen_of_row (j := 1) _ _ _ _ hb3
    have f2 := frozen_of_row (j := 2) _ _ _ _ hb3
    have f3 := frozen_of_row (j := 3) _ _ _ _ hb3
    have BB := Lib.hid (set4_below (x := .slice ba bn bc) (y := .int .i64 ft) (z := .int .i64 fr) (v := .slice la L.length lc) K1.out.bel (show w.heap.size ≤ w.heap.size + 1 + 1 by omega))
    obtain ⟨d0, d1, d2, d3⟩ := box4 (set4_row (x' := .slice ba bn bc) (y' := .int .i64 ft) (z' := .int .i64 fr) (v' := .slice la L.length lc) hb3)
    clear hb3
    have HLF := Lib.hid (HL.out.step BB.out)
    go_wp2_with fail
    unfold set4 at d0 d1 d2 d3

    refine bodyPost_ret (by simp [results, Try.results12, go_sem, d0, d1, d2, d3]; try rfl) rfl ?_
    have hE : addE ft fr L ⟨t, r, q, nt, nr, pt, pr, nm, d⟩ = 2 := by rw [EE.out]; rfl
    have hne : ¬ addE ft fr L ⟨t, r, q, nt, nr, pt, pr, nm, d⟩ = 0 := by rw [hE]; omega
    refine ⟨la, L.length, lc, by rw [raddN_ne hne, hE], by rw [raddL_ne hne]; exact HLF.out, BB.out, Spr.refl _ _ _⟩
  | true =>
    obtain ⟨a0, a1, a2, a3⟩ := box4 K1.out.b1
    obtain ⟨c0, c1, c2, c3, c4, c5, c6, c7, c8⟩ := cell9 K1.out.b2
    go_wp2_with fail
    refine (LS.out w1).mono ?_
    rintro e w2 ⟨rfl, hb⟩
    have K2 := Lib.hid (K1.out.step hb)
    clear hb c0 c1 c2 c3 c4 c5 c6 c7 c8 a0 a1 a2 a3 LS K1
    cases ls with
    | false =>
      have hlow := cmp_low HLS.out
      obtain ⟨a0, a1, a2, a3⟩ := box4 K2.out.b1
      obtain ⟨y1, y2, y3, y4, hb3⟩ := K2.out.b3
      obtain ⟨z0, z1, z2, z3⟩ := box4 hb3
      have f0 := frozen_of_row (j := 0) _ _ _ _ hb3
      have f1 := frozen_of_row (j := 1) _ _ _ _ hb3
      have f2 := frozen_of_row (j := 2) _ _ _ _ hb3
      have f3 := frozen_of_row (j := 3) _ _ _ _ hb3
      have BB := Lib.hid (set4_below (x := .slice ba bn bc) (y := .int .i64 ft) (z := .int .i64 fr) (v := .slice la L.length lc) K2.out.bel (show w.heap.size ≤ w.heap.size + 1 + 1 by omega))
      obtain ⟨d0, d1, d2, d3⟩ := box4 (set4_row (x' := .slice ba bn bc) (y' := .int .i64 ft) (z' := .int .i64 fr) (v' := .slice la L.length lc) hb3)
      clear hb3
      have HLF := Lib.hid (HL.out.step BB.out)
      go_wp2_with fail
      unfold set4 at d0 d1 d2 d3

      refine bodyPost_ret (by simp [results, Try.results12, go_sem, d0, d1, d2, d3]; try rfl) rfl ?_
      have hE : addE ft fr L ⟨t, r, q, nt, nr, pt, pr, nm, d⟩ = 11 := by rw [EE.out, if_neg (by simp), if_pos hlow]
      have hne : ¬ addE ft fr L ⟨t, r, q, nt, nr, pt, pr, nm, d⟩ = 0 := by rw [hE]; omega
      refine ⟨la, L.length, lc, by rw [raddN_ne hne, hE], by rw [raddL_ne hne]; exact HLF.out, BB.out, Spr.refl _ _ _⟩
    | true =>
      have HHI := Lib.hid (cmp_high HLS.out)
      obtain ⟨a0, a1, a2, a3⟩ := box4 K2.out.b1
      obtain ⟨c0, c1, c2, c3, c4, c5, c6, c7, c8⟩ := cell9 K2.out.b2
      go_wp2_with fail
      refine (HA.out w2 K2.out.bel).mono ?_
      rintro e w3 ⟨rfl, hb⟩
      have K3 := Lib.hid (K2.out.step hb)
      clear hb c0 c1 c2 c3 c4 c5 c6 c7 c8 a0 a1 a2 a3 HA K2
      cases hs with
      | true =>
        obtain ⟨a0, a1, a2, a3⟩ := box4 K3.out.b1
        obtain ⟨y1, y2, y3, y4, hb3⟩ := K3.out.b3
        obtain ⟨z0, z1, z2, z3⟩ := box4 hb3
        have f0 := frozen_of_row (j := 0) _ _ _ _ hb3
        have f1 := frozen_of_row (j := 1) _ _ _ _ hb3
        have f2 := frozen_of_row (j := 2) _ _ _ _ hb3
        have f3 := frozen_of_row (j := 3) _ _ _ _ hb3
        have BB := Lib.hid (set4_below (x := .slice ba bn bc) (y := .int .i64 ft) (z := .int .i64 fr) (v := .slice la L.length lc) K3.out.bel (show w.heap.size ≤ w.heap.size + 1 + 1 by omega))
        obtain ⟨d0, d1, d2, d3⟩ := box4 (set4_row (x' := .slice ba bn bc) (y' := .int .i64 ft) (z' := .int .i64 fr) (v' := .slice la L.length lc) hb3)
        clear hb3
        have HLF := Lib.hid (HL.out.step BB.out)
        go_wp2_with fail
        unfold set4 at d0 d1 d2 d3

        refine bodyPost_ret (by simp [results, Try.results12, go_sem, d0, d1, d2, d3]; try rfl) rfl ?_
        have hE : addE ft fr L ⟨t, r, q, nt, nr, pt, pr, nm, d⟩ = 9 := by rw [EE.out, if_neg (by simp), if_neg (show ¬ St.cmpS t r ft fr ≤ 0 from by have := HHI.out; omega)]; rfl
        have hne : ¬ addE ft fr L ⟨t, r, q, nt, nr, pt, pr, nm, d⟩ = 0 := by rw [hE]; omega
        refine ⟨la, L.length, lc, by rw [raddN_ne hne, hE], by rw [raddL_ne hne]; exact HLF.out, BB.out, Spr.refl _ _ _⟩
      | false =>
        have EN : addE ft fr L ⟨t, r, q, nt, nr, pt, pr, nm, d⟩ = 0 := by rw [EE.out, if_neg (by simp), if_neg (show ¬ St.cmpS t r ft fr ≤ 0 from by have := HHI.out; omega)]; rfl
        have EN := Lib.hid EN
        obtain ⟨a0, a1, a2, a3⟩ := box4 K3.out.b1
        go_wp2_with fail
        go_loopw [7, 8] (fun nv iv wr => ∃ i : Nat, iv = .int .i64 i ∧ nv = .int .i64 (cntF (L.take i) ⟨t, r, q, nt, nr, pt, pr, nm, d⟩ : Nat) ∧ i ≤ L.length ∧ Hid (RA w wr ba bn bc ft fr la L.length lc ⟨t, r, q, nt, nr, pt, pr, nm, d⟩)) (fun _ iv _ => L.length - (intOf iv).toNat)
        case atStart => exact ⟨0, rfl, rfl, Nat.zero_le _, K3⟩
        case round =>
          obtain ⟨i, rfl, rfl, hi, K⟩ := hrel
          obtain ⟨a0, a1, a2, a3⟩ := box4 K.out.b1
          by_cases hlt : i < L.length
          · have hi0 : (0 : Int) ≤ (i : Int) := by omega
            have hi1 : (i : Int) < (L.length : Int) := by omega
            have hd : decide ((i : Int) < (L.length : Int)) = true := decide_eq_true hi1
            have HL1 := Lib.hid (show i + 1 ≤ L.length from hlt)
            have HW9 := Lib.hid (wrap_nat hlt (show L.length ≤ 100000 by omega))
            have HMS := Lib.hid (meas_nat hlt)
            obtain ⟨g, k, x, e7, hx, hg, hc⟩ := (HL.out.step K.out.bel).atK hlt
            subst e7
            have LS1 := Lib.hid (fun W (hb : Below wr.heap.size wr W) => @ld24 W (w.heap.size + 1) 0 t r (cell9 (K.out.step hb).b2).1 (cell9 (K.out.step hb).b2).2.1)
            have LV := Lib.hid (fun W (hb : Below wr.heap.size wr W) => @ld30 W w.heap.size 3 _ _ _ (box4 (K.out.step hb).b1).2.2.2)
            have LA := Lib.hid (fun W (hb : Below wr.heap.size wr W) => @ld24 W g (k + i * 9) x.t x.r ((hb.cell (p := ⟨g, k + i * 9 + 0, none⟩) hg).trans (hc 0 _ rfl)) ((hb.cell (p := ⟨g, k + i * 9 + 1, none⟩) hg).trans (hc 1 _ rfl)))
            have IX := Lib.hid (fun W => @ix30 g k L.length lc i hlt W)
            have CN := cnt_snoc hx ⟨t, r, q, nt, nr, pt, pr, nm, d⟩
            dsimp only at CN
            have CL := Lib.hid (show cntF (L.take i) ⟨t, r, q, nt, nr, pt, pr, nm, d⟩ < 100000 from by have h := List.length_filter_le (fun (x : O) => ltS t r x.t x.r) (L.take i); have h2 : cntF (L.take i) ⟨t, r, q, nt, nr, pt, pr, nm, d⟩ ≤ (L.take i).length := h; rw [List.length_take] at h2; omega)
            clear hx hg hc a0 a1 a2 a3
            obtain ⟨cn, hcn⟩ : ∃ z, cntF (L.take i) ⟨t, r, q, nt, nr, pt, pr, nm, d⟩ = z := ⟨_, rfl⟩
            rw [hcn] at CN CL ⊢
            have HWC := Lib.hid (wrap_nat CL.out (Nat.le_refl _))
            clear hcn
            cases hq : ltS t r x.t x.r with
            | true =>
              have LQ := Lib.hid (fun W => (show Calls Try.prog 38 #[.agg #[.int .i64 t, .int .i64 r], .agg #[.int .i64 x.t, .int .i64 x.r]] W fun e w' => e = .returned (.bool true) ∧ Below W.heap.size W w' from by have := Tb.less_any W t r x.t x.r; rwa [hq] at this))
              have CN := Lib.hid (show cntF (L.take (i + 1)) ⟨t, r, q, nt, nr, pt, pr, nm, d⟩ = cn + 1 from by rw [CN, hq]; rfl)
              clear hq
              obtain ⟨a0, a1, a2, a3⟩ := box4 K.out.b1
              go_upto_region 11 with (fail)
              clear a0 a1 a2 a3
              refine wp_region_held_drew (S := fun w' => Below wr.heap.size wr w') (by kernel_rfl) (Below.refl _ _).drew (fun hHeld => ?_)
              have BV := Lib.hid (show Below wr.heap.size wr wr.drew from (Below.refl _ _).drew)
              clear hHeld
              refine take_at (i := 0) 35 ?_ rfl rfl (by kernel_rfl) (by kernel_rfl) (by kernel_rfl) (fun _ _ _ h => h) (.inl ⟨rfl, ?_⟩) BV.out ?_
              rotate_left 1
              · intro w hSw; go_simp; try with_reducible rfl
              simp only [Act.put, List.setIfInBounds_toArray, List.set_cons_zero, List.set_cons_succ]
              refine take_at (i := 1) 36 (.agg #[.int .i64 t, .int .i64 r]) rfl rfl (by kernel_rfl) (by kernel_rfl) (by kernel_rfl) (fun _ _ _ h => h) (yields_ld (.tmp 35) 24 (.pointer (some ⟨w.heap.size + 1, 0, none⟩)) _ LS1.out rfl rfl rfl) BV.out ?_
              simp only [Act.put, List.setIfInBounds_toArray, List.set_cons_zero, List.set_cons_succ]
              refine take_at (i := 2) 37 ?_ rfl rfl (by kernel_rfl) (by kernel_rfl) (by kernel_rfl) (fun _ _ _ h => h) (.inl ⟨rfl, ?_⟩) BV.out ?_
              rotate_left 1
              · intro w hSw; go_simp; try with_reducible rfl
              simp only [Act.put, List.setIfInBounds_toArray, List.set_cons_zero, List.set_cons_succ]
              refine take_at (i := 3) 38 (.slice (some ⟨g, k, none⟩) L.length lc) rfl rfl (by kernel_rfl) (by kernel_rfl) (by kernel_rfl) (fun _ _ _ h => h) (yields_ld (.tmp 37) 30 (.pointer (some ⟨w.heap.size, 3, none⟩)) _ LV.out rfl rfl rfl) BV.out ?_
              simp only [Act.put, List.setIfInBounds_toArray, List.set_cons_zero, List.set_cons_succ]
              refine take_at (i := 4) 39 ?_ rfl rfl (by kernel_rfl) (by kernel_rfl) (by kernel_rfl) (fun _ _ _ h => h) (.inl ⟨rfl, ?_⟩) BV.out ?_
              rotate_left 1
              · intro w hSw; go_simp; try with_reducible rfl
              simp only [Act.put, List.setIfInBounds_toArray, List.set_cons_zero, List.set_cons_succ]
              refine take_at (i := 5) 40 (.pointer (some ⟨g, k + i * 9, none⟩)) rfl rfl (by kernel_rfl) (by kernel_rfl) (by kernel_rfl) (fun _ _ _ h => h) (yields_ix (.tmp 38) (.tmp 39) 30 (.slice (some ⟨g, k, none⟩) L.length lc) (.int .i64 (i : Int)) _ IX.out rfl rfl rfl rfl) BV.out ?_
              simp only [Act.put, List.setIfInBounds_toArray, List.set_cons_zero, List.set_cons_succ]
              refine take_at (i := 6) 41 ?_ rfl rfl (by kernel_rfl) (by kernel_rfl) (by kernel_rfl) (fun _ _ _ h => h) (.inl ⟨rfl, ?_⟩) BV.out ?_
              rotate_left 1
              · intro w hSw; go_simp; try with_reducible rfl
              simp only [Act.put, List.setIfInBounds_toArray, List.set_cons_zero, List.set_cons_succ]
              refine take_at (i := 7) 42 (.agg #[.int .i64 x.t, .int .i64 x.r]) rfl rfl (by kernel_rfl) (by kernel_rfl) (by kernel_rfl) (fun _ _ _ h => h) (yields_ld (.tmp 41) 24 (.pointer (some ⟨g, k + i * 9, none⟩)) _ LA.out rfl rfl rfl) BV.out ?_
              simp only [Act.put, List.setIfInBounds_toArray, List.set_cons_zero, List.set_cons_succ]
              refine wpAnyH_ready (rs := [8]) (by kernel_rfl) (by simp) (br_call (i := 8) 43 38 #[.agg #[.int .i64 t, .int .i64 r], .agg #[.int .i64 x.t, .int .i64 x.r]] rfl rfl rfl (by go_simp) ((LQ.out _).mono ?_) AllReadyH.nil)
              rintro e v1 ⟨rfl, hb⟩
              have BV := Lib.hid (BV.out.trans (hb.mono BV.out.size))
              clear hb
              refine ⟨_, rfl, BV.out, fun _ => ?_⟩
              simp only [Act.put, List.setIfInBounds_toArray, List.set_cons_zero, List.set_cons_succ]
              refine wpAnyH_done (by kernel_rfl) ?_ _
              have KF := Lib.hid (K.out.step BV.out)
              clear BV
              go_wp2
              go_roundw
              case rel => exact ⟨i + 1, by first | (rw [HW9.out]; rfl) | go_num, by first | (rw [CN.out]; done) | (rw [CN.out]; rfl) | (rw [CN.out, HWC.out]; rfl) | go_num, HL1.out, KF⟩
              case measure => first | (rw [HW9.out]; exact HMS.out) | exact HMS.out
            | false =>
              have LQ := Lib.hid (fun W => (show Calls Try.prog 38 #[.agg #[.int .i64 t, .int .i64 r], .agg #[.int .i64 x.t, .int .i64 x.r]] W fun e w' => e = .returned (.bool false) ∧ Below W.heap.size W w' from by have := Tb.less_any W t r x.t x.r; rwa [hq] at this))
              have CN := Lib.hid (show cntF (L.take (i + 1)) ⟨t, r, q, nt, nr, pt, pr, nm, d⟩ = cn from by rw [CN, hq]; rfl)
              clear hq
              obtain ⟨a0, a1, a2, a3⟩ := box4 K.out.b1
              go_upto_region 11 with (fail)
              clear a0 a1 a2 a3
              refine wp_region_held_drew (S := fun w' => Below wr.heap.size wr w') (by kernel_rfl) (Below.refl _ _).drew (fun hHeld => ?_)
              have BV := Lib.hid (show Below wr.heap.size wr wr.drew from (Below.refl _ _).drew)
              clear hHeld
              refine take_at (i := 0) 35 ?_ rfl rfl (by kernel_rfl) (by kernel_rfl) (by kernel_rfl) (fun _ _ _ h => h) (.inl ⟨rfl, ?_⟩) BV.out ?_
              rotate_left 1
              · intro w hSw; go_simp; try with_reducible rfl
              simp only [Act.put, List.setIfInBounds_toArray, List.set_cons_zero, List.set_cons_succ]
              refine take_at (i := 1) 36 (.agg #[.int .i64 t, .int .i64 r]) rfl rfl (by kernel_rfl) (by kernel_rfl) (by kernel_rfl) (fun _ _ _ h => h) (yields_ld (.tmp 35) 24 (.pointer (some ⟨w.heap.size + 1, 0, none⟩)) _ LS1.out rfl rfl rfl) BV.out ?_
              simp only [Act.put, List.setIfInBounds_toArray, List.set_cons_zero, List.set_cons_succ]
              refine take_at (i := 2) 37 ?_ rfl rfl (by kernel_rfl) (by kernel_rfl) (by kernel_rfl) (fun _ _ _ h => h) (.inl ⟨rfl, ?_⟩) BV.out ?_
              rotate_left 1
              · intro w hSw; go_simp; try with_reducible rfl
              simp only [Act.put, List.setIfInBounds_toArray, List.set_cons_zero, List.set_cons_succ]
              refine take_at (i := 3) 38 (.slice (some ⟨g, k, none⟩) L.length lc) rfl rfl (by kernel_rfl) (by kernel_rfl) (by kernel_rfl) (fun _ _ _ h => h) (yields_ld (.tmp 37) 30 (.pointer (some ⟨w.heap.size, 3, none⟩)) _ LV.out rfl rfl rfl) BV.out ?_
              simp only [Act.put, List.setIfInBounds_toArray, List.set_cons_zero, List.set_cons_succ]
              refine take_at (i := 4) 39 ?_ rfl rfl (by kernel_rfl) (by kernel_rfl) (by kernel_rfl) (fun _ _ _ h => h) (.inl ⟨rfl, ?_⟩) BV.out ?_
              rotate_left 1
              · intro w hSw; go_simp; try with_reducible rfl
              simp only [Act.put, List.setIfInBounds_toArray, List.set_cons_zero, List.set_cons_succ]
              refine take_at (i := 5) 40 (.pointer (some ⟨g, k + i * 9, none⟩)) rfl rfl (by kernel_rfl) (by kernel_rfl) (by kernel_rfl) (fun _ _ _ h => h) (yields_ix (.tmp 38) (.tmp 39) 30 (.slice (some ⟨g, k, none⟩) L.length lc) (.int .i64 (i : Int)) _ IX.out rfl rfl rfl rfl) BV.out ?_
              simp only [Act.put, List.setIfInBounds_toArray, List.set_cons_zero, List.set_cons_succ]
              refine take_at (i := 6) 41 ?_ rfl rfl (by kernel_rfl) (by kernel_rfl) (by kernel_rfl) (fun _ _ _ h => h) (.inl ⟨rfl, ?_⟩) BV.out ?_
              rotate_left 1
              · intro w hSw; go_simp; try with_reducible rfl
              simp only [Act.put, List.setIfInBounds_toArray, List.set_cons_zero, List.set_cons_succ]
              refine take_at (i := 7) 42 (.agg #[.int .i64 x.t, .int .i64 x.r]) rfl rfl (by kernel_rfl) (by kernel_rfl) (by kernel_rfl) (fun _ _ _ h => h) (yields_ld (.tmp 41) 24 (.pointer (some ⟨g, k + i * 9, none⟩)) _ LA.out rfl rfl rfl) BV.out ?_
              simp only [Act.put, List.setIfInBounds_toArray, List.set_cons_zero, List.set_cons_succ]
              refine wpAnyH_ready (rs := [8]) (by kernel_rfl) (by simp) (br_call (i := 8) 43 38 #[.agg #[.int .i64 t, .int .i64 r], .agg #[.int .i64 x.t, .int .i64 x.r]] rfl rfl rfl (by go_simp) ((LQ.out _).mono ?_) AllReadyH.nil)
              rintro e v1 ⟨rfl, hb⟩
              have BV := Lib.hid (BV.out.trans (hb.mono BV.out.size))
              clear hb
              refine ⟨_, rfl, BV.out, fun _ => ?_⟩
              simp only [Act.put, List.setIfInBounds_toArray, List.set_cons_zero, List.set_cons_succ]
              refine wpAnyH_done (by kernel_rfl) ?_ _
              have KF := Lib.hid (K.out.step BV.out)
              clear BV
              go_wp2
              go_roundw
              case rel => exact ⟨i + 1, by first | (rw [HW9.out]; rfl) | go_num, by first | (rw [CN.out]; done) | (rw [CN.out]; rfl) | (rw [CN.out, HWC.out]; rfl) | go_num, HL1.out, KF⟩
              case measure => first | (rw [HW9.out]; exact HMS.out) | exact HMS.out
          · have ei : i = L.length := by omega
            subst ei
            have CE := Lib.hid (show cntF (L.take L.length) ⟨t, r, q, nt, nr, pt, pr, nm, d⟩ = cntF L ⟨t, r, q, nt, nr, pt, pr, nm, d⟩ from by rw [List.take_length])
            obtain ⟨cn, hcn⟩ : ∃ z, cntF (L.take L.length) ⟨t, r, q, nt, nr, pt, pr, nm, d⟩ = z := ⟨_, rfl⟩
            rw [hcn] at CE ⊢
            clear hcn
            generalize wr = w4 at *
            have SR := Lib.hid (HL.out.step K.out.bel).src
            have Q3 := Lib.hid (show 0 + L.length ≤ maxLen ∧ (0 + L.length) * 80 ≤ 140737488355328 from by unfold maxLen; omega)
            go_upto_region 15 with (at_builtin; refine Wi.wpList_append_src_own rfl (.tmp 46) (.tmp 48) 30 30 rfl w4.heap.size 34 i0 (oV O0) 9 80 Try.u27 hi9 hz0 hz1 hz2 rfl (by decide) _ 0 [] rfl (World.ownsRow_nil _ _ _ _) _ L.length (cs9 L) rfl SR.out Q3.out.1 Q3.out.2 (Nat.le_refl _) ?_; intro v5 w5 hown hgr hsp; rw [Nat.zero_add, List.nil_append] at hown; obtain ⟨va5, vc5, rfl⟩ := Ve.own_shape hown; have P5 := Lib.hid (And.intro hown ((Below.refl w4.heap.size w4).grown hgr (Nat.le_refl _) (fun k hk => by cases hk))); clear hown hgr hsp)
            try rw [Nat.zero_add]
            have K5 := Lib.hid (K.out.step P5.out.2)
            clear a0 a1 a2 a3 SR Q3
            obtain ⟨c0, c1, c2, c3, c4, c5, c6, c7, c8⟩ := cell9 K5.out.b2
            have OX7 := Lib.hid (own_below P5.out.1 (vstep w5 (.cells #[.int .i64 t, .int .i64 r, .int .i64 q, .int .i64 nt, .int .i64 nr, .int .i64 pt, .int .i64 pr, .string nm, .bool d] 34)))
            have bso7 := bs_op w5 ⟨t, r, q, nt, nr, pt, pr, nm, d⟩
            dsimp only at bso7
            have SR7 := Lib.hid (one_op w5 ⟨t, r, q, nt, nr, pt, pr, nm, d⟩).src
            dsimp only at SR7
            have Q7 := Lib.hid (And.intro (show L.length + 1 ≤ maxLen from by unfold maxLen; omega) (And.intro (show (L.length + 1) * 80 ≤ 140737488355328 from by omega) (show w4.heap.size ≤ (w5.alloc (.cells #[.int .i64 t, .int .i64 r, .int .i64 q, .int .i64 nt, .int .i64 nr, .int .i64 pt, .int .i64 pr, .string nm, .bool d] 34)).heap.size from Nat.le_trans P5.out.2.size (vstep w5 (.cells #[.int .i64 t, .int .i64 r, .int .i64 q, .int .i64 nt, .int .i64 nr, .int .i64 pt, .int .i64 pr, .string nm, .bool d] 34)).size)))
            go_upto_region 16 with (at_builtin; refine Wi.wpList_append_src_own rfl (.tmp 50) (.tmp 52) 30 30 rfl w4.heap.size 34 i0 (oV O0) 9 80 Try.u27 hi9 hz0 hz1 hz2 rfl (by decide) _ _ _ rfl OX7.out _ 1 (cs9 [⟨t, r, q, nt, nr, pt, pr, nm, d⟩]) rfl SR7.out Q7.out.1 Q7.out.2.1 Q7.out.2.2 ?_; intro v8 w8 hown hgr hsp; obtain ⟨va8, vc8, rfl⟩ := Ve.own_shape hown; have P8 := Lib.hid (push_own P5.out.1 P5.out.2.size hown hgr); clear hown hgr hsp)
            have K8 := Lib.hid (K.out.step (P5.out.2.trans P8.out.2))
            clear c0 c1 c2 c3 c4 c5 c6 c7 c8 bso7 OX7 SR7 Q7 K5 P5 K
            have RS := Lib.hid (fun W (hb : Below w8.heap.size w8 W) => rsorted_any W (.slice va8 (L.length + 1) vc8) (L ++ [⟨t, r, q, nt, nr, pt, pr, nm, d⟩]) ((own_olies P8.out.1).step hb) (by rw [List.length_append]; simp; omega))
            have LB0 := Lib.hid (fun W (hb : Below w8.heap.size w8 W) => @ld29 W w.heap.size 0 _ _ _ (box4 (K8.out.step hb).b1).1)
            have LB1 := Lib.hid (fun W (hb : Below w8.heap.size w8 W) => @ld24 W w.heap.size 1 ft fr (box4 (K8.out.step hb).b1).2.1 (box4 (K8.out.step hb).b1).2.2.1)
            have H8 := Lib.hid K8.out.bel.size
            refine wp_region_held_drew (S := fun w' => Below w8.heap.size w8 w') (by kernel_rfl) (Below.refl _ _).drew (fun hHeld => ?_)
            have BV := Lib.hid (show Below w8.heap.size w8 w8.drew from (Below.refl _ _).drew)
            clear hHeld
            refine take_at (i := 0) 54 ?_ rfl rfl (by kernel_rfl) (by kernel_rfl) (by kernel_rfl) (fun _ _ _ h => h) (.inl ⟨rfl, ?_⟩) BV.out ?_
            rotate_left 1
            · intro w hSw; go_simp; try with_reducible rfl
            simp only [Act.put, List.setIfInBounds_toArray, List.set_cons_zero, List.set_cons_succ]
            refine take_at (i := 1) 55 (.slice ba bn bc) rfl rfl (by kernel_rfl) (by kernel_rfl) (by kernel_rfl) (fun _ _ _ h => h) (yields_ld (.tmp 54) 29 (.pointer (some ⟨w.heap.size, 0, none⟩)) _ LB0.out rfl rfl rfl) BV.out ?_
            simp only [Act.put, List.setIfInBounds_toArray, List.set_cons_zero, List.set_cons_succ]
            refine take_at (i := 2) 56 ?_ rfl rfl (by kernel_rfl) (by kernel_rfl) (by kernel_rfl) (fun _ _ _ h => h) (.inl ⟨rfl, ?_⟩) BV.out ?_
            rotate_left 1
            · intro w hSw; go_simp; try with_reducible rfl
            simp only [Act.put, List.setIfInBounds_toArray, List.set_cons_zero, List.set_cons_succ]
            refine take_at (i := 3) 57 (.agg #[.int .i64 ft, .int .i64 fr]) rfl rfl (by kernel_rfl) (by kernel_rfl) (by kernel_rfl) (fun _ _ _ h => h) (yields_ld (.tmp 56) 24 (.pointer (some ⟨w.heap.size, 1, none⟩)) _ LB1.out rfl rfl rfl) BV.out ?_
            simp only [Act.put, List.setIfInBounds_toArray, List.set_cons_zero, List.set_cons_succ]
            refine take_at (i := 4) 58 ?_ rfl rfl (by kernel_rfl) (by kernel_rfl) (by kernel_rfl) (fun _ _ _ h => h) (.inl ⟨rfl, ?_⟩) BV.out ?_
            rotate_left 1
            · intro w hSw; go_simp; try with_reducible rfl
            simp only [Act.put, List.setIfInBounds_toArray, List.set_cons_zero, List.set_cons_succ]
            refine wpAnyH_ready (rs := [5, 7]) (by kernel_rfl) (by simp) (br_call (i := 5) 59 50 #[.slice va8 (L.length + 1) vc8] rfl rfl rfl (by go_simp) ((RS.out _ BV.out).mono ?_) (br_alloc (i := 7) 10 32 _ _ rfl rfl rfl rfl (alc32 w8.drew) (BV.out.trans ((pl_vstep w8.drew _).mono BV.out.size)) (fun _ => ?_) AllReadyH.nil))
            · rintro e v1 ⟨rv, rfl, hso, hb, hfr⟩
              have BVS := Lib.hid BV.out.size
              have BV := Lib.hid (BV.out.trans (hb.mono BV.out.size))
              obtain ⟨ra, rc, hrv⟩ := hso.shape
              subst hrv
              have SO := Lib.hid hso
              have FR := Lib.hid (show Frs w8.heap.size v1 (.slice ra (srtO (L ++ [⟨t, r, q, nt, nr, pt, pr, nm, d⟩])).length rc) from fun k e => ⟨Nat.le_trans BVS.out (hfr k e).1, (hfr k e).2⟩)
              clear hso hfr BVS
              clear hb
              refine ⟨_, rfl, BV.out, fun _ => ?_⟩
              simp only [Act.put, List.setIfInBounds_toArray, List.set_cons_zero, List.set_cons_succ]
              refine take_at (i := 6) 60 (.agg #[.slice ba bn bc, .int .i64 ft, .int .i64 fr, .slice ra (srtO (L ++ [⟨t, r, q, nt, nr, pt, pr, nm, d⟩])).length rc]) rfl rfl (by kernel_rfl) (by kernel_rfl) (by kernel_rfl) (fun _ _ _ h => h) (yields_bld 32 #[(0, .tmp 55), (1, .tmp 57), (2, .tmp 59)] #[(0, .slice ba bn bc), (1, .agg #[.int .i64 ft, .int .i64 fr]), (2, .slice ra (srtO (L ++ [⟨t, r, q, nt, nr, pt, pr, nm, d⟩])).length rc)] _ rfl rfl rfl (fun W => bld32 W ba bn bc ft fr ra _ rc)) BV.out ?_
              simp only [Act.put, List.setIfInBounds_toArray, List.set_cons_zero, List.set_cons_succ]
              refine wpAnyH_ready (rs := [7]) (by kernel_rfl) (by simp) (br_alloc (i := 7) 10 32 _ _ rfl rfl rfl rfl (alc32 v1) (BV.out.trans ((pl_vstep v1 _).mono BV.out.size)) (fun _ => ?_) AllReadyH.nil)
              have KB := Lib.hid (show w8.heap.size ≤ v1.heap.size from BV.out.size)
              obtain ⟨v2, hv2⟩ : ∃ zz, v1.alloc (.cells #[.slice none 0 0, .int .i64 0, .int .i64 0, .slice none 0 0] 32) = zz := ⟨_, rfl⟩
              have hb : Below v1.heap.size v1 v2 := by rw [← hv2]; exact pl_vstep v1 _
              have NB := Lib.hid (show BX4 v2 v1.heap.size 32 (.slice none 0 0) (.int .i64 0) (.int .i64 0) (.slice none 0 0) from ⟨by rw [← hv2]; exact heap_alloc_new v1 _⟩)
              rw [hv2]
              obtain ⟨kb, hkb⟩ : ∃ zz, v1.heap.size = zz := ⟨_, rfl⟩
              rw [hkb] at NB KB ⊢
              clear hv2
              have BV := Lib.hid (BV.out.trans (hb.mono BV.out.size))
              have SO := Lib.hid (SO.out.step hb)
              have FR := Lib.hid (FR.out.step hb)
              clear hb
              clear hkb
              simp only [Act.put, List.setIfInBounds_toArray, List.set_cons_zero, List.set_cons_succ]
              refine wpAnyH_ready (rs := [8]) (by kernel_rfl) (by simp) (br_store (i := 8) 32 (.tmp 10) (.tmp 60) _ _ _ rfl rfl rfl rfl rfl rfl (st32 NB.out.row ba bn bc ft fr ra _ rc) (set4_below BV.out KB.out) (fun _ => ?_) AllReadyH.nil)
              obtain ⟨v3, hv3⟩ : ∃ zz, set4 v2 kb (.slice ba bn bc) (.int .i64 ft) (.int .i64 fr) (.slice ra (srtO (L ++ [⟨t, r, q, nt, nr, pt, pr, nm, d⟩])).length rc) = zz := ⟨_, rfl⟩
              have BV := Lib.hid (show Below w8.heap.size w8 v3 from by rw [← hv3]; exact set4_below BV.out KB.out)
              have N2 := Lib.hid (show v3.heap[kb]? = some (.cells #[.slice ba bn bc, .int .i64 ft, .int .i64 fr, .slice ra (srtO (L ++ [⟨t, r, q, nt, nr, pt, pr, nm, d⟩])).length rc] 32 (0, 0)) from by rw [← hv3]; exact set4_row NB.out.row)
              have SZ := Lib.hid (show v3.heap.size = v2.heap.size from by rw [← hv3]; simp [set4, World.setCell])
              have SO := Lib.hid (show OLies v3 (.slice ra (srtO (L ++ [⟨t, r, q, nt, nr, pt, pr, nm, d⟩])).length rc) (srtO (L ++ [⟨t, r, q, nt, nr, pt, pr, nm, d⟩])) from by rw [← hv3]; exact olies_set4 SO.out NB.out.row)
              have FR := Lib.hid (show Frs w8.heap.size v3 (.slice ra (srtO (L ++ [⟨t, r, q, nt, nr, pt, pr, nm, d⟩])).length rc) from fun k e => ⟨(FR.out k e).1, by rw [SZ.out]; exact (FR.out k e).2⟩)
              rw [hv3]
              clear hv3 SZ NB
              simp only [Act.put, List.setIfInBounds_toArray, List.set_cons_zero, List.set_cons_succ]
              refine wpAnyH_done (by kernel_rfl) ?_ _
              have K9 := Lib.hid (K8.out.step BV.out)
              clear BV K8 RS LB0 LB1
              obtain ⟨n0, n1, n2, n3⟩ := box4 N2.out
              obtain ⟨y1, y2, y3, y4, hb3⟩ := K9.out.b3
              obtain ⟨z0, z1, z2, z3⟩ := box4 hb3
              have f0 := frozen_of_row (j := 0) _ _ _ _ hb3
              have f1 := frozen_of_row (j := 1) _ _ _ _ hb3
              have f2 := frozen_of_row (j := 2) _ _ _ _ hb3
              have f3 := frozen_of_row (j := 3) _ _ _ _ hb3
              obtain ⟨rn, hrn⟩ : ∃ z, (srtO (L ++ [⟨t, r, q, nt, nr, pt, pr, nm, d⟩])).length = z := ⟨_, rfl⟩
              rw [hrn] at n3 SO FR ⊢
              have BB := Lib.hid (set4_below (x := .slice ba bn bc) (y := .int .i64 ft) (z := .int .i64 fr) (v := .slice ra rn rc) K9.out.bel (show w.heap.size ≤ w.heap.size + 1 + 1 by omega))
              obtain ⟨d0, d1, d2, d3⟩ := box4 (set4_row (x' := .slice ba bn bc) (y' := .int .i64 ft) (z' := .int .i64 fr) (v' := .slice ra rn rc) hb3)
              have SO := Lib.hid (olies_set4 (x := .slice ba bn bc) (y := .int .i64 ft) (z := .int .i64 fr) (v := .slice ra rn rc) SO.out hb3)
              have FR := Lib.hid (show Frs w.heap.size (set4 v3 (w.heap.size + 1 + 1) (.slice ba bn bc) (.int .i64 ft) (.int .i64 fr) (.slice ra rn rc)) (.slice ra rn rc) from fun k e => ⟨Nat.le_trans H8.out (FR.out k e).1, by have := (FR.out k e).2; simpa [set4, World.setCell] using this⟩)
              clear hb3 hrn N2 K9
              go_wp2_with fail
              unfold set4 at d0 d1 d2 d3
              refine bodyPost_ret (by simp [results, Try.results12, go_sem, d0, d1, d2, d3]; try rfl) rfl ?_
              refine ⟨ra, rn, rc, by rw [EN.out, show raddN ft fr L ⟨t, r, q, nt, nr, pt, pr, nm, d⟩ = (cn : Int) from by unfold raddN; rw [if_pos EN.out, CE.out]], by rw [show raddL ft fr L ⟨t, r, q, nt, nr, pt, pr, nm, d⟩ = srtO (L ++ [⟨t, r, q, nt, nr, pt, pr, nm, d⟩]) from if_pos EN.out]; exact SO.out, BB.out, FR.out.spr⟩
            · have KB := Lib.hid (show w8.heap.size ≤ w8.drew.heap.size from BV.out.size)
              obtain ⟨v4, hv4⟩ : ∃ zz, w8.drew.alloc (.cells #[.slice none 0 0, .int .i64 0, .int .i64 0, .slice none 0 0] 32) = zz := ⟨_, rfl⟩
              have hb : Below w8.drew.heap.size w8.drew v4 := by rw [← hv4]; exact pl_vstep w8.drew _
              have NB := Lib.hid (show BX4 v4 w8.drew.heap.size 32 (.slice none 0 0) (.int .i64 0) (.int .i64 0) (.slice none 0 0) from ⟨by rw [← hv4]; exact heap_alloc_new w8.drew _⟩)
              rw [hv4]
              obtain ⟨kb, hkb⟩ : ∃ zz, w8.drew.heap.size = zz := ⟨_, rfl⟩
              rw [hkb] at NB KB ⊢
              clear hv4
              have BV := Lib.hid (BV.out.trans (hb.mono BV.out.size))
              clear hb
              clear hkb
              simp only [Act.put, List.setIfInBounds_toArray, List.set_cons_zero, List.set_cons_succ]
              refine wpAnyH_ready (rs := [5]) (by kernel_rfl) (by simp) (br_call (i := 5) 59 50 #[.slice va8 (L.length + 1) vc8] rfl rfl rfl (by go_simp) ((RS.out _ BV.out).mono ?_) AllReadyH.nil)
              rintro e v5 ⟨rv, rfl, hso, hb, hfr⟩
              have BVS := Lib.hid BV.out.size
              have BV := Lib.hid (BV.out.trans (hb.mono BV.out.size))
              have NB := Lib.hid (NB.out.step hb)
              obtain ⟨ra, rc, hrv⟩ := hso.shape
              subst hrv
              have SO := Lib.hid hso
              have FR := Lib.hid (show Frs w8.heap.size v5 (.slice ra (srtO (L ++ [⟨t, r, q, nt, nr, pt, pr, nm, d⟩])).length rc) from fun k e => ⟨Nat.le_trans BVS.out (hfr k e).1, (hfr k e).2⟩)
              clear hso hfr BVS
              clear hb
              refine ⟨_, rfl, BV.out, fun _ => ?_⟩
              simp only [Act.put, List.setIfInBounds_toArray, List.set_cons_zero, List.set_cons_succ]
              refine take_at (i := 6) 60 (.agg #[.slice ba bn bc, .int .i64 ft, .int .i64 fr, .slice ra (srtO (L ++ [⟨t, r, q, nt, nr, pt, pr, nm, d⟩])).length rc]) rfl rfl (by kernel_rfl) (by kernel_rfl) (by kernel_rfl) (fun _ _ _ h => h) (yields_bld 32 #[(0, .tmp 55), (1, .tmp 57), (2, .tmp 59)] #[(0, .slice ba bn bc), (1, .agg #[.int .i64 ft, .int .i64 fr]), (2, .slice ra (srtO (L ++ [⟨t, r, q, nt, nr, pt, pr, nm, d⟩])).length rc)] _ rfl rfl rfl (fun W => bld32 W ba bn bc ft fr ra _ rc)) BV.out ?_
              simp only [Act.put, List.setIfInBounds_toArray, List.set_cons_zero, List.set_cons_succ]
              refine wpAnyH_ready (rs := [8]) (by kernel_rfl) (by simp) (br_store (i := 8) 32 (.tmp 10) (.tmp 60) _ _ _ rfl rfl rfl rfl rfl rfl (st32 NB.out.row ba bn bc ft fr ra _ rc) (set4_below BV.out KB.out) (fun _ => ?_) AllReadyH.nil)
              obtain ⟨v6, hv6⟩ : ∃ zz, set4 v5 kb (.slice ba bn bc) (.int .i64 ft) (.int .i64 fr) (.slice ra (srtO (L ++ [⟨t, r, q, nt, nr, pt, pr, nm, d⟩])).length rc) = zz := ⟨_, rfl⟩
              have BV := Lib.hid (show Below w8.heap.size w8 v6 from by rw [← hv6]; exact set4_below BV.out KB.out)
              have N2 := Lib.hid (show v6.heap[kb]? = some (.cells #[.slice ba bn bc, .int .i64 ft, .int .i64 fr, .slice ra (srtO (L ++ [⟨t, r, q, nt, nr, pt, pr, nm, d⟩])).length rc] 32 (0, 0)) from by rw [← hv6]; exact set4_row NB.out.row)
              have SZ := Lib.hid (show v6.heap.size = v5.heap.size from by rw [← hv6]; simp [set4, World.setCell])
              have SO := Lib.hid (show OLies v6 (.slice ra (srtO (L ++ [⟨t, r, q, nt, nr, pt, pr, nm, d⟩])).length rc) (srtO (L ++ [⟨t, r, q, nt, nr, pt, pr, nm, d⟩])) from by rw [← hv6]; exact olies_set4 SO.out NB.out.row)
              have FR := Lib.hid (show Frs w8.heap.size v6 (.slice ra (srtO (L ++ [⟨t, r, q, nt, nr, pt, pr, nm, d⟩])).length rc) from fun k e => ⟨(FR.out k e).1, by rw [SZ.out]; exact (FR.out k e).2⟩)
              rw [hv6]
              clear hv6 SZ NB
              simp only [Act.put, List.setIfInBounds_toArray, List.set_cons_zero, List.set_cons_succ]
              refine wpAnyH_done (by kernel_rfl) ?_ _
              have K9 := Lib.hid (K8.out.step BV.out)
              clear BV K8 RS LB0 LB1
              obtain ⟨n0, n1, n2, n3⟩ := box4 N2.out
              obtain ⟨y1, y2, y3, y4, hb3⟩ := K9.out.b3
              obtain ⟨z0, z1, z2, z3⟩ := box4 hb3
              have f0 := frozen_of_row (j := 0) _ _ _ _ hb3
              have f1 := frozen_of_row (j := 1) _ _ _ _ hb3
              have f2 := frozen_of_row (j := 2) _ _ _ _ hb3
              have f3 := frozen_of_row (j := 3) _ _ _ _ hb3
              obtain ⟨rn, hrn⟩ : ∃ z, (srtO (L ++ [⟨t, r, q, nt, nr, pt, pr, nm, d⟩])).length = z := ⟨_, rfl⟩
              rw [hrn] at n3 SO FR ⊢
              have BB := Lib.hid (set4_below (x := .slice ba bn bc) (y := .int .i64 ft) (z := .int .i64 fr) (v := .slice ra rn rc) K9.out.bel (show w.heap.size ≤ w.heap.size + 1 + 1 by omega))
              obtain ⟨d0, d1, d2, d3⟩ := box4 (set4_row (x' := .slice ba bn bc) (y' := .int .i64 ft) (z' := .int .i64 fr) (v' := .slice ra rn rc) hb3)
              have SO := Lib.hid (olies_set4 (x := .slice ba bn bc) (y := .int .i64 ft) (z := .int .i64 fr) (v := .slice ra rn rc) SO.out hb3)
              have FR := Lib.hid (show Frs w.heap.size (set4 v6 (w.heap.size + 1 + 1) (.slice ba bn bc) (.int .i64 ft) (.int .i64 fr) (.slice ra rn rc)) (.slice ra rn rc) from fun k e => ⟨Nat.le_trans H8.out (FR.out k e).1, by have := (FR.out k e).2; simpa [set4, World.setCell] using this⟩)
              clear hb3 hrn N2 K9
              go_wp2_with fail
              unfold set4 at d0 d1 d2 d3
              refine bodyPost_ret (by simp [results, Try.results12, go_sem, d0, d1, d2, d3]; try rfl) rfl ?_
              refine ⟨ra, rn, rc, by rw [EN.out, show raddN ft fr L ⟨t, r, q, nt, nr, pt, pr, nm, d⟩ = (cn : Int) from by unfold raddN; rw [if_pos EN.out, CE.out]], by rw [show raddL ft fr L ⟨t, r, q, nt, nr, pt, pr, nm, d⟩ = srtO (L ++ [⟨t, r, q, nt, nr, pt, pr, nm, d⟩]) from if_pos EN.out]; exact SO.out, BB.out, FR.out.spr⟩
end Go.Proofs.Ytkmeceoilighiaa

set_option linter.unusedVariables false
set_option linter.unusedSimpArgs false
set_option maxRecDepth 100000
namespace Go.Proofs.Ytkmeceoilighiaa
open Go.RowKit Go.Shelf
open Tb (Rw setF getF aboveF Rise TabI TM LiesK LiesR ltS)

/-- The boxes of the reference's Cut. -/
structure RC (w W : World) (ba : Option Addr) (bn bc : Nat) (ft fr : Int) (la : Option Addr) (ln lc : Nat) (t r : Int) : Prop where
  bel : Below w.heap.size w W
  b1 : W.heap[w.heap.size]? = some (.cells #[.slice ba bn bc, .int .i64 ft, .int .i64 fr, .slice la ln lc] 32 (0, 0))
  b2 : W.heap[w.heap.size + 1]? = some (.cells #[.int .i64 t, .int .i64 r] 24 (0, 0))
  b3 : ∃ y1 y2 y3 y4, W.heap[w.heap.size + 1 + 1]? = some (.cells #[y1, y2, y3, y4] 32 (0, 0))
theorem RC.step {w W W' : World} {ba : Option Addr} {bn bc : Nat} {ft fr : Int} {la : Option Addr} {ln lc : Nat} {t r : Int} (h : RC w W ba bn bc ft fr la ln lc t r) (hb : Below W.heap.size W W') : RC w W' ba bn bc ft fr la ln lc t r := by
  obtain ⟨h1, h2, h3, y1, y2, y3, y4, h4⟩ := h
  exact ⟨h1.trans (hb.mono h1.size), (hb.block _ (pl_lt h2)).trans h2, (hb.block _ (pl_lt h3)).trans h3, y1, y2, y3, y4, (hb.block _ (pl_lt h4)).trans h4⟩
theorem RC.lateb {w W W' : World} {ba : Option Addr} {bn bc : Nat} {ft fr : Int} {la : Option Addr} {ln lc : Nat} {t r : Int} (h : RC w W ba bn bc ft fr la ln lc t r) (hf : Far (fun k => k = w.heap.size + 1 + 1) W W') :
    Below w.heap.size w W' ∧ W'.heap[w.heap.size]? = some (.cells #[.slice ba bn bc, .int .i64 ft, .int .i64 fr, .slice la ln lc] 32 (0, 0)) ∧ W'.heap[w.heap.size + 1]? = some (.cells #[.int .i64 t, .int .i64 r] 24 (0, 0)) :=
  ⟨h.bel.trans (hf.below h.bel.size (fun k e => by have : k = w.heap.size + 1 + 1 := e; omega)), (hf.block _ (pl_lt h.b1) (by omega)).trans h.b1, (hf.block _ (pl_lt h.b2) (by omega)).trans h.b2⟩
theorem RC.start (w : World) (ba : Option Addr) (bn bc : Nat) (ft fr : Int) (la : Option Addr) (ln lc : Nat) (t r : Int) : RC w (((w.alloc (.cells #[.slice ba bn bc, .int .i64 ft, .int .i64 fr, .slice la ln lc] 32)).alloc (.cells #[.int .i64 t, .int .i64 r] 24)).alloc (.cells #[.slice none 0 0, .int .i64 0, .int .i64 0, .slice none 0 0] 32)) ba bn bc ft fr la ln lc t r := by
  have B1 := pl_vstep w (.cells #[.slice ba bn bc, .int .i64 ft, .int .i64 fr, .slice la ln lc] 32)
  have N1 := heap_alloc_new w (.cells #[.slice ba bn bc, .int .i64 ft, .int .i64 fr, .slice la ln lc] 32)
  have z1 : (w.alloc (.cells #[.slice ba bn bc, .int .i64 ft, .int .i64 fr, .slice la ln lc] 32)).heap.size = w.heap.size + 1 := by simp
  generalize w.alloc (.cells #[.slice ba bn bc, .int .i64 ft, .int .i64 fr, .slice la ln lc] 32) = w1 at *
  have B2 := pl_vstep w1 (.cells #[.int .i64 t, .int .i64 r] 24)
  have N2 := heap_alloc_new w1 (.cells #[.int .i64 t, .int .i64 r] 24)
  have z2 : (w1.alloc (.cells #[.int .i64 t, .int .i64 r] 24)).heap.size = w.heap.size + 1 + 1 := by simp [z1]
  rw [z1] at N2
  generalize w1.alloc (.cells #[.int .i64 t, .int .i64 r] 24) = w2 at *
  have B3 := pl_vstep w2 (.cells #[.slice none 0 0, .int .i64 0, .int .i64 0, .slice none 0 0] 32)
  have N3 := heap_alloc_new w2 (.cells #[.slice none 0 0, .int .i64 0, .int .i64 0, .slice none 0 0] 32)
  rw [z2] at N3
  have B12 := B1.trans (B2.mono B1.size)
  exact ⟨B12.trans (B3.mono B12.size), (B3.block _ (by rw [z2]; omega)).trans ((B2.block _ (pl_lt N1)).trans N1), (B3.block _ (pl_lt N2)).trans N2, _, _, _, _, N3⟩
noncomputable def cutA (ft t : Int) (c : Int) : Int := if c ≤ 0 then ft else t
/-- The two rows of Cut's loop. -/
structure CL (w W : World) (L : List O) (t r : Int) (fv rv : Value) (i : Nat) : Prop where
  first : W.ownsRow w.heap.size 34 9 fv (loF (L.take i) t r).length (cs9 (loF (L.take i) t r))
  rest : W.ownsRow w.heap.size 34 9 rv (hiF (L.take i) t r).length (cs9 (hiF (L.take i) t r))
  ap : ∀ k, fv.ownBlock = some k → rv.ownBlock ≠ some k
theorem CL.step {w W W' : World} {L : List O} {t r : Int} {fv rv : Value} {i : Nat} (h : CL w W L t r fv rv i) (hb : Below W.heap.size W W') : CL w W' L t r fv rv i := ⟨own_below h.first hb, own_below h.rest hb, h.ap⟩
theorem kept_of {W W' : World} {ob : Obj} {B n m : Nat} {v u : Value} {xs ys : List Value} (ho : W.ownsRow B 34 9 v n xs) (hu : W.ownsRow B 34 9 u m ys) (ha : ∀ k, v.ownBlock = some k → u.ownBlock ≠ some k) (hgr : (W.alloc ob).grownBy W' u.ownBlock) : W'.ownsRow B 34 9 v n xs := by
  refine (own_below ho (pl_vstep W ob)).kept hgr ?_
  cases hv : v.ownBlock with
  | none => exact .inl rfl
  | some k => exact .inr (fun e => ha k hv e.symm)
theorem ap_of {W : World} {ob : Obj} {B n : Nat} {v u u' : Value} {xs : List Value} (ho : W.ownsRow B 34 9 v n xs) (ha : ∀ k, v.ownBlock = some k → u.ownBlock ≠ some k) (hsp : Wi.Sprung (W.alloc ob) u u') : ∀ k, v.ownBlock = some k → u'.ownBlock ≠ some k := by
  intro k hk e
  rcases hsp with h | ⟨j, h, hj⟩
  · exact ha k hk (h ▸ e)
  · have := (ho.lt k hk).2
    rw [e] at h
    injection h with h
    have hs : (W.alloc ob).heap.size = W.heap.size + 1 := by simp
    omega
theorem RC.app {w W W' : World} {ba : Option Addr} {bn bc : Nat} {ft fr : Int} {la : Option Addr} {ln lc : Nat} {t r : Int} {u : Value} {m : Nat} {ys : List Value} {ob : Obj} (h : RC w W ba bn bc ft fr la ln lc t r) (ho : W.ownsRow w.heap.size 34 9 u m ys) (hgr : (W.alloc ob).grownBy W' u.ownBlock) : RC w W' ba bn bc ft fr la ln lc t r := by
  have B1 := pl_vstep W ob
  have h1 := h.step B1
  have ho1 := own_below ho B1
  have fb : ∀ {k : Nat} {c : Array Value} {t : TypeId}, (W.alloc ob).heap[k]? = some (.cells c t (0, 0)) → t ≠ 34 → W'.heap[k]? = some (.cells c t (0, 0)) := fun hk ht => (hgr.block _ (pl_lt hk) (fun e => own_cell_ne ho1 hk ht e.symm)).trans hk
  obtain ⟨y1, y2, y3, y4, h3⟩ := h1.b3
  exact ⟨h1.bel.grown hgr h1.bel.size (fun k hk => (ho1.lt k hk).1), fb h1.b1 (by decide), fb h1.b2 (by decide), y1, y2, y3, y4, fb h3 (by decide)⟩
theorem CL.hi {w W W' : World} {L : List O} {t r : Int} {fv rv v' : Value} {i : Nat} {x : O} {ob : Obj} (h : CL w W L t r fv rv i) (hx : L[i]? = some x) (hq : ltS t r x.t x.r = true) (hE : w.heap.size ≤ W.heap.size)
    (hown : W'.ownsRow w.heap.size 34 9 v' ((hiF (L.take i) t r).length + 1) (cs9 (hiF (L.take i) t r) ++ cs9 [x])) (hgr : (W.alloc ob).grownBy W' rv.ownBlock) (hsp : Wi.Sprung (W.alloc ob) rv v') : CL w W' L t r fv v' (i + 1) ∧ Below w.heap.size W W' := by
  obtain ⟨e1, e2⟩ := lo_snoc hx t r
  rw [hq, if_pos rfl, List.append_nil] at e1
  rw [hq, if_pos rfl] at e2
  obtain ⟨q1, q2⟩ := push_own h.rest hE hown hgr
  exact ⟨⟨by rw [e1]; exact kept_of h.first h.rest h.ap hgr, by rw [e2]; exact q1, ap_of h.first h.ap hsp⟩, q2⟩
theorem CL.lo {w W W' : World} {L : List O} {t r : Int} {fv rv v' : Value} {i : Nat} {x : O} {ob : Obj} (h : CL w W L t r fv rv i) (hx : L[i]? = some x) (hq : ltS t r x.t x.r = false) (hE : w.heap.size ≤ W.heap.size)
    (hown : W'.ownsRow w.heap.size 34 9 v' ((loF (L.take i) t r).length + 1) (cs9 (loF (L.take i) t r) ++ cs9 [x])) (hgr : (W.alloc ob).grownBy W' fv.ownBlock) (hsp : Wi.Sprung (W.alloc ob) fv v') : CL w W' L t r v' rv (i + 1) ∧ Below w.heap.size W W' := by
  obtain ⟨e1, e2⟩ := lo_snoc hx t r
  rw [hq, if_neg (by simp)] at e1
  rw [hq, if_neg (by simp), List.append_nil] at e2
  obtain ⟨q1, q2⟩ := push_own h.first hE hown hgr
  have ha : ∀ k, rv.ownBlock = some k → fv.ownBlock ≠ some k := fun k hk e => h.ap k e hk
  have hs := ap_of h.rest ha hsp
  exact ⟨⟨by rw [e1]; exact q1, by rw [e2]; exact kept_of h.rest h.first ha hgr, fun k hk e => hs k e hk⟩, q2⟩
set_option maxHeartbeats 12800000 in
theorem rcut_any (w : World) (ba : Option Addr) (bn bc : Nat) (T0 : List Rw) (ft fr : Int) (la : Option Addr) (lc : Nat) (L : List O) (hT : LiesR w (.slice ba bn bc) T0) (hr : Rise T0) (hL : OLies w (.slice la L.length lc) L) (hu : RiseO L) (hl : T0.length + L.length ≤ 90) (t r : Int) :
    Calls Try.prog 13 #[.agg #[.slice ba bn bc, .int .i64 ft, .int .i64 fr, .slice la L.length lc], .agg #[.int .i64 t, .int .i64 r]] w fun e w' => ∃ a n c a2 n2 c2, e = .returned (.tuple #[.agg #[.slice a n c, .int .i64 (cutA ft t (St.cmpS t r ft fr)), .int .i64 (cutA fr r (St.cmpS t r ft fr)), .slice a2 n2 c2], .int .i64 (cutK ft fr L t r : Nat)]) ∧ LiesR w' (.slice a n c) (playF T0 (L.take (cutK ft fr L t r))) ∧ OLies w' (.slice a2 n2 c2) (L.drop (cutK ft fr L t r)) ∧ Below w.heap.size w w' ∧ Spr w.heap.size w' (.slice ba bn bc) (.slice a n c) ∧ Spr w.heap.size w' (.slice la L.length lc) (.slice a2 n2 c2) := by
  obtain ⟨i0, hi9, hz0, hz1, hz2⟩ := info_parts info25
  have K0 := Lib.hid (RC.start w ba bn bc ft fr la L.length lc t r)
  have HT := Lib.hid hT
  have HL := Lib.hid hL
  have HU := Lib.hid hu
  have LS := Lib.hid (fun W => Tb.less_any W ft fr t r)
  obtain ⟨ls, hls⟩ : ∃ z, ltS ft fr t r = z := ⟨_, rfl⟩
  rw [hls] at LS
  have HLS := Lib.hid hls
  clear hL hT hls hu
  go_enter Try.func13, Try.ntmps13
  go_upto_region 1 with (fail)
  change Code.wp _ _ _ _ (((w.alloc (.cells #[.slice ba bn bc, .int .i64 ft, .int .i64 fr, .slice la L.length lc] 32)).alloc (.cells #[.int .i64 t, .int .i64 r] 24)).alloc (.cells #[.slice none 0 0, .int .i64 0, .int .i64 0, .slice none 0 0] 32))
  have K0 : Hid (RC w (((w.alloc (.cells #[.slice ba bn bc, .int .i64 ft, .int .i64 fr, .slice la L.length lc] 32)).alloc (.cells #[.int .i64 t, .int .i64 r] 24)).alloc (.cells #[.slice none 0 0, .int .i64 0, .int .i64 0, .slice none 0 0] 32)) ba bn bc ft fr la L.length lc t r) := K0
  generalize (((w.alloc (.cells #[.slice ba bn bc, .int .i64 ft, .int .i64 fr, .slice la L.length lc] 32)).alloc (.cells #[.int .i64 t, .int .i64 r] 24)).alloc (.cells #[.slice none 0 0, .int .i64 0, .int .i64 0, .slice none 0 0] 32)) = w0 at K0 ⊢
  obtain ⟨a0, a1, a2, a3⟩ := box4 K0.out.b1
  have c0 : w0.cell? ⟨w.heap.size + 1, 0, none⟩ = some (.int .i64 t) := by rw [cell_of_row _ _ _ _ _ _ K0.out.b2]; rfl
  have c1 : w0.cell? ⟨w.heap.size + 1, 1, none⟩ = some (.int .i64 r) := by rw [cell_of_row _ _ _ _ _ _ K0.out.b2]; rfl
  go_wp2_with fail
  refine (LS.out w0).mono ?_
  rintro e w1 ⟨rfl, hb⟩
  have K1 := Lib.hid (K0.out.step hb)
  clear hb c0 c1 a0 a1 a2 a3 LS K0
  cases ls with
  | false =>
    have HC := cmp_low HLS.out
    have HK : cutK ft fr L t r = 0 := if_pos HC
    have A1 : cutA ft t (St.cmpS t r ft fr) = ft := if_pos HC
    have A2 : cutA fr r (St.cmpS t r ft fr) = fr := if_pos HC
    have HF := Lib.hid (And.intro HK (And.intro A1 A2))
    clear HC HK A1 A2
    obtain ⟨a0, a1, a2, a3⟩ := box4 K1.out.b1
    obtain ⟨y1, y2, y3, y4, hb3⟩ := K1.out.b3
    obtain ⟨z0, z1, z2, z3⟩ := box4 hb3
    have f0 := frozen_of_row (j := 0) _ _ _ _ hb3
    have f1 := frozen_of_row (j := 1) _ _ _ _ hb3
    have f2 := frozen_of_row (j := 2) _ _ _ _ hb3
    have f3 := frozen_of_row (j := 3) _ _ _ _ hb3
    have BB := Lib.hid (set4_below (x := .slice ba bn bc) (y := .int .i64 ft) (z := .int .i64 fr) (v := .slice la L.length lc) K1.out.bel (show w.heap.size ≤ w.heap.size + 1 + 1 by omega))
    obtain ⟨d0, d1, d2, d3⟩ := box4 (set4_row (x' := .slice ba bn bc) (y' := .int .i64 ft) (z' := .int .i64 fr) (v' := .slice la L.length lc) hb3)
    clear hb3
    have HLF := Lib.hid (HL.out.step BB.out)
    have HTF := Lib.hid (HT.out.step BB.out)
    go_wp2_with fail
    unfold set4 at d0 d1 d2 d3
    refine bodyPost_ret (by simp [results, Try.results13, go_sem, d0, d1, d2, d3]; try rfl) rfl ?_
    rw [HF.out.1, HF.out.2.1, HF.out.2.2]
    exact ⟨ba, bn, bc, la, L.length, lc, rfl, HTF.out, HLF.out, BB.out, Spr.refl _ _ _, Spr.refl _ _ _⟩
  | true =>
    have HC := cmp_high HLS.out
    have A1 : cutA ft t (St.cmpS t r ft fr) = t := if_neg HC
    have A2 : cutA fr r (St.cmpS t r ft fr) = r := if_neg HC
    have HF := Lib.hid (And.intro (lo_cut HU.out HC) (And.intro A1 A2))
    clear HC A1 A2
    obtain ⟨a0, a1, a2, a3⟩ := box4 K1.out.b1
    have J0 := Lib.hid (show CL w w1 L t r (.slice none 0 0) (.slice none 0 0) 0 from ⟨by simpa [loF, cs9] using World.ownsRow_nil _ _ _ _, by simpa [hiF, cs9] using World.ownsRow_nil _ _ _ _, fun k e => by cases e⟩)
    go_wp2_with fail
    go_loopw [6, 7, 8] (fun fv rv iv wr => ∃ i : Nat, iv = .int .i64 i ∧ i ≤ L.length ∧ Hid (RC w wr ba bn bc ft fr la L.length lc t r ∧ CL w wr L t r fv rv i)) (fun _ _ iv _ => L.length - (intOf iv).toNat)
    case atStart => exact ⟨0, rfl, Nat.zero_le _, Lib.hid ⟨K1.out, J0.out⟩⟩
    case round =>
      obtain ⟨i, rfl, hi, K⟩ := hrel
      obtain ⟨fa, fc, hfv⟩ := Ve.own_shape K.out.2.first
      obtain ⟨ra, rc, hrv⟩ := Ve.own_shape K.out.2.rest
      subst hfv hrv
      by_cases hlt : i < L.length
      · have hi0 : (0 : Int) ≤ (i : Int) := by omega
        have hi1 : (i : Int) < (L.length : Int) := by omega
        have hd : decide ((i : Int) < (L.length : Int)) = true := decide_eq_true hi1
        have HL1 := Lib.hid (show i + 1 ≤ L.length from hlt)
        have HW9 := Lib.hid (wrap_nat hlt (show L.length ≤ 100000 by omega))
        have HMS := Lib.hid (meas_nat hlt)
        obtain ⟨g, k, x, e7, hx, hg, hc⟩ := (HL.out.step K.out.1.bel).atK hlt
        subst e7
        have HX := Lib.hid hx
        have LT := Lib.hid (fun W (hb : Below wr.heap.size wr W) => ldSt (K.out.1.step hb).b2)
        have LV := Lib.hid (fun W (hb : Below wr.heap.size wr W) => @ld30 W w.heap.size 3 _ _ _ (box4 (K.out.1.step hb).b1).2.2.2)
        have LA := Lib.hid (fun W (hb : Below wr.heap.size wr W) => @ld24 W g (k + i * 9) x.t x.r ((hb.cell (p := ⟨g, k + i * 9 + 0, none⟩) hg).trans (hc 0 _ rfl)) ((hb.cell (p := ⟨g, k + i * 9 + 1, none⟩) hg).trans (hc 1 _ rfl)))
        have LX := Lib.hid (fun W (hb : Below wr.heap.size wr W) => @ldO W g (k + i * 9) x (fun j u hu => (hb.cell (p := ⟨g, k + i * 9 + j, none⟩) hg).trans (hc j u hu)))
        have IX := Lib.hid (fun W => @ix30 g k L.length lc i hlt W)
        have LL := Lib.hid (show (loF (L.take i) t r).length ≤ 90 ∧ (hiF (L.take i) t r).length ≤ 90 from by have := lo_le L i t r; omega)
        have HD := Lib.hid hd
        have HI := Lib.hid (And.intro hi0 hi1)
        clear hx hg hc a0 a1 a2 a3
        obtain ⟨ln1, hln1⟩ : ∃ z, (loF (L.take i) t r).length = z := ⟨_, rfl⟩
        obtain ⟨ln2, hln2⟩ : ∃ z, (hiF (L.take i) t r).length = z := ⟨_, rfl⟩
        rw [hln1] at K LL ⊢
        rw [hln2] at K LL ⊢
        have HN1 := Lib.hid hln1
        have HN2 := Lib.hid hln2
        clear hln1 hln2
        cases hq : ltS t r x.t x.r with
        | true =>
          have LQ := Lib.hid (fun W => (show Calls Try.prog 38 #[.agg #[.int .i64 t, .int .i64 r], .agg #[.int .i64 x.t, .int .i64 x.r]] W fun e w' => e = .returned (.bool true) ∧ Below W.heap.size W w' from by have := Tb.less_any W t r x.t x.r; rwa [hq] at this))
          have HQ := Lib.hid hq
          clear hq
          obtain ⟨a0, a1, a2, a3⟩ := box4 K.out.1.b1
          go_upto_region 8 with (fail)
          clear a0 a1 a2 a3
          refine wp_region_held_drew (S := fun w' => Below wr.heap.size wr w') (by kernel_rfl) (Below.refl _ _).drew (fun hHeld => ?_)
          have BV := Lib.hid (show Below wr.heap.size wr wr.drew from (Below.refl _ _).drew)
          clear hHeld
          refine take_at (i := 0) 22 (.agg #[.int .i64 t, .int .i64 r]) rfl rfl (by kernel_rfl) (by kernel_rfl) (by kernel_rfl) (fun _ _ _ h => h) (yields_ld (.tmp 3) 24 (.pointer (some ⟨w.heap.size + 1, 0, none⟩)) _ LT.out rfl rfl rfl) BV.out ?_
          simp only [Act.put, List.setIfInBounds_toArray, List.set_cons_zero, List.set_cons_succ]
          refine take_at (i := 1) 23 ?_ rfl rfl (by kernel_rfl) (by kernel_rfl) (by kernel_rfl) (fun _ _ _ h => h) (.inl ⟨rfl, ?_⟩) BV.out ?_
          rotate_left 1
          · intro w hSw; go_simp; try with_reducible rfl
          simp only [Act.put, List.setIfInBounds_toArray, List.set_cons_zero, List.set_cons_succ]
          refine take_at (i := 2) 24 (.slice (some ⟨g, k, none⟩) L.length lc) rfl rfl (by kernel_rfl) (by kernel_rfl) (by kernel_rfl) (fun _ _ _ h => h) (yields_ld (.tmp 23) 30 (.pointer (some ⟨w.heap.size, 3, none⟩)) _ LV.out rfl rfl rfl) BV.out ?_
          simp only [Act.put, List.setIfInBounds_toArray, List.set_cons_zero, List.set_cons_succ]
          refine take_at (i := 3) 25 ?_ rfl rfl (by kernel_rfl) (by kernel_rfl) (by kernel_rfl) (fun _ _ _ h => h) (.inl ⟨rfl, ?_⟩) BV.out ?_
          rotate_left 1
          · intro w hSw; go_simp; try with_reducible rfl
          simp only [Act.put, List.setIfInBounds_toArray, List.set_cons_zero, List.set_cons_succ]
          refine take_at (i := 4) 26 (.pointer (some ⟨g, k + i * 9, none⟩)) rfl rfl (by kernel_rfl) (by kernel_rfl) (by kernel_rfl) (fun _ _ _ h => h) (yields_ix (.tmp 24) (.tmp 25) 30 (.slice (some ⟨g, k, none⟩) L.length lc) (.int .i64 (i : Int)) _ IX.out rfl rfl rfl rfl) BV.out ?_
          simp only [Act.put, List.setIfInBounds_toArray, List.set_cons_zero, List.set_cons_succ]
          refine take_at (i := 5) 27 ?_ rfl rfl (by kernel_rfl) (by kernel_rfl) (by kernel_rfl) (fun _ _ _ h => h) (.inl ⟨rfl, ?_⟩) BV.out ?_
          rotate_left 1
          · intro w hSw; go_simp; try with_reducible rfl
          simp only [Act.put, List.setIfInBounds_toArray, List.set_cons_zero, List.set_cons_succ]
          refine take_at (i := 6) 28 (.agg #[.int .i64 x.t, .int .i64 x.r]) rfl rfl (by kernel_rfl) (by kernel_rfl) (by kernel_rfl) (fun _ _ _ h => h) (yields_ld (.tmp 27) 24 (.pointer (some ⟨g, k + i * 9, none⟩)) _ LA.out rfl rfl rfl) BV.out ?_
          simp only [Act.put, List.setIfInBounds_toArray, List.set_cons_zero, List.set_cons_succ]
          refine wpAnyH_ready (rs := [7]) (by kernel_rfl) (by simp) (br_call (i := 7) 29 38 #[.agg #[.int .i64 t, .int .i64 r], .agg #[.int .i64 x.t, .int .i64 x.r]] rfl rfl rfl (by go_simp) ((LQ.out _).mono ?_) AllReadyH.nil)
          rintro e v1 ⟨rfl, hb⟩
          have BV := Lib.hid (BV.out.trans (hb.mono BV.out.size))
          clear hb
          refine ⟨_, rfl, BV.out, fun _ => ?_⟩
          simp only [Act.put, List.setIfInBounds_toArray, List.set_cons_zero, List.set_cons_succ]
          refine wpAnyH_done (by kernel_rfl) ?_ _
          have K6 := Lib.hid (And.intro (K.out.1.step BV.out) (K.out.2.step BV.out))
          have L6 := Lib.hid (LX.out v1 BV.out)
          have hi0 := HI.out.1
          have hi1 := HI.out.2
          clear BV K LA LT LV
          generalize v1 = w6 at *
          obtain ⟨a0, a1, a2, a3⟩ := box4 K6.out.1.b1
          have O6 := Lib.hid (show w6.ownsRow w.heap.size 34 9 (.slice ra ln2 rc) ln2 (cs9 (hiF (L.take i) t r)) from by have := K6.out.2.rest; rwa [HN2.out] at this)
          have OX7 := Lib.hid (own_below O6.out (vstep w6 (.cells #[.int .i64 x.t, .int .i64 x.r, .int .i64 x.q, .int .i64 x.nt, .int .i64 x.nr, .int .i64 x.pt, .int .i64 x.pr, .string x.nm, .bool x.d] 34)))
          have bso7 := bs_op w6 x
          have SR7 := Lib.hid (one_op w6 x).src
          have Q7 := Lib.hid (And.intro (show ln2 + 1 ≤ maxLen from by have := LL.out.2; unfold maxLen; omega) (And.intro (show (ln2 + 1) * 80 ≤ 140737488355328 from by have := LL.out.2; omega) (show w.heap.size ≤ (w6.alloc (.cells #[.int .i64 x.t, .int .i64 x.r, .int .i64 x.q, .int .i64 x.nt, .int .i64 x.nr, .int .i64 x.pt, .int .i64 x.pr, .string x.nm, .bool x.d] 34)).heap.size from Nat.le_trans K6.out.1.bel.size (vstep w6 (.cells #[.int .i64 x.t, .int .i64 x.r, .int .i64 x.q, .int .i64 x.nt, .int .i64 x.nr, .int .i64 x.pt, .int .i64 x.pr, .string x.nm, .bool x.d] 34)).size)))
          go_wp2_with (first
            | (refine Ve.wpList_load_arr rfl (.tmp 34) 34 rfl (.pointer (some ⟨g, k + i * 9, none⟩)) (.agg #[.int .i64 x.t, .int .i64 x.r, .int .i64 x.q, .int .i64 x.nt, .int .i64 x.nr, .int .i64 x.pt, .int .i64 x.pr, .string x.nm, .bool x.d]) rfl L6.out ?_)
            | (at_builtin; refine Wi.wpList_append_src_own rfl (.tmp 30) (.tmp 36) 30 30 rfl w.heap.size 34 i0 (oV O0) 9 80 Try.u27 hi9 hz0 hz1 hz2 rfl (by decide) _ _ _ rfl OX7.out _ 1 (cs9 [x]) rfl SR7.out Q7.out.1 Q7.out.2.1 Q7.out.2.2 ?_; intro v8 w8 hown hgr hsp; obtain ⟨va8, vc8, rfl⟩ := Ve.own_shape hown; have P8 := Lib.hid (And.intro (K6.out.2.hi HX.out HQ.out K6.out.1.bel.size (by rw [HN2.out]; exact hown) hgr hsp) (K6.out.1.app O6.out hgr)); clear hown hgr hsp))
          have KF := Lib.hid (show RC w w8 ba bn bc ft fr (some ⟨g, k, none⟩) L.length lc t r ∧ CL w w8 L t r _ _ (i + 1) from ⟨P8.out.2, P8.out.1.1⟩)
          go_roundw
          case rel => exact ⟨i + 1, by first | (rw [HW9.out]; rfl) | go_num, HL1.out, KF⟩
          case measure => first | (rw [HW9.out]; exact HMS.out) | exact HMS.out
        | false =>
          have LQ := Lib.hid (fun W => (show Calls Try.prog 38 #[.agg #[.int .i64 t, .int .i64 r], .agg #[.int .i64 x.t, .int .i64 x.r]] W fun e w' => e = .returned (.bool false) ∧ Below W.heap.size W w' from by have := Tb.less_any W t r x.t x.r; rwa [hq] at this))
          have HQ := Lib.hid hq
          clear hq
          obtain ⟨a0, a1, a2, a3⟩ := box4 K.out.1.b1
          go_upto_region 8 with (fail)
          clear a0 a1 a2 a3
          refine wp_region_held_drew (S := fun w' => Below wr.heap.size wr w') (by kernel_rfl) (Below.refl _ _).drew (fun hHeld => ?_)
          have BV := Lib.hid (show Below wr.heap.size wr wr.drew from (Below.refl _ _).drew)
          clear hHeld
          refine take_at (i := 0) 22 (.agg #[.int .i64 t, .int .i64 r]) rfl rfl (by kernel_rfl) (by kernel_rfl) (by kernel_rfl) (fun _ _ _ h => h) (yields_ld (.tmp 3) 24 (.pointer (some ⟨w.heap.size + 1, 0, none⟩)) _ LT.out rfl rfl rfl) BV.out ?_
          simp only [Act.put, List.setIfInBounds_toArray, List.set_cons_zero, List.set_cons_succ]
          refine take_at (i := 1) 23 ?_ rfl rfl (by kernel_rfl) (by kernel_rfl) (by kernel_rfl) (fun _ _ _ h => h) (.inl ⟨rfl, ?_⟩) BV.out ?_
          rotate_left 1
          · intro w hSw; go_simp; try with_reducible rfl
          simp only [Act.put, List.setIfInBounds_toArray, List.set_cons_zero, List.set_cons_succ]
          refine take_at (i := 2) 24 (.slice (some ⟨g, k, none⟩) L.length lc) rfl rfl (by kernel_rfl) (by kernel_rfl) (by kernel_rfl) (fun _ _ _ h => h) (yields_ld (.tmp 23) 30 (.pointer (some ⟨w.heap.size, 3, none⟩)) _ LV.out rfl rfl rfl) BV.out ?_
          simp only [Act.put, List.setIfInBounds_toArray, List.set_cons_zero, List.set_cons_succ]
          refine take_at (i := 3) 25 ?_ rfl rfl (by kernel_rfl) (by kernel_rfl) (by kernel_rfl) (fun _ _ _ h => h) (.inl ⟨rfl, ?_⟩) BV.out ?_
          rotate_left 1
          · intro w hSw; go_simp; try with_reducible rfl
          simp only [Act.put, List.setIfInBounds_toArray, List.set_cons_zero, List.set_cons_succ]
          refine take_at (i := 4) 26 (.pointer (some ⟨g, k + i * 9, none⟩)) rfl rfl (by kernel_rfl) (by kernel_rfl) (by kernel_rfl) (fun _ _ _ h => h) (yields_ix (.tmp 24) (.tmp 25) 30 (.slice (some ⟨g, k, none⟩) L.length lc) (.int .i64 (i : Int)) _ IX.out rfl rfl rfl rfl) BV.out ?_
          simp only [Act.put, List.setIfInBounds_toArray, List.set_cons_zero, List.set_cons_succ]
          refine take_at (i := 5) 27 ?_ rfl rfl (by kernel_rfl) (by kernel_rfl) (by kernel_rfl) (fun _ _ _ h => h) (.inl ⟨rfl, ?_⟩) BV.out ?_
          rotate_left 1
          · intro w hSw; go_simp; try with_reducible rfl
          simp only [Act.put, List.setIfInBounds_toArray, List.set_cons_zero, List.set_cons_succ]
          refine take_at (i := 6) 28 (.agg #[.int .i64 x.t, .int .i64 x.r]) rfl rfl (by kernel_rfl) (by kernel_rfl) (by kernel_rfl) (fun _ _ _ h => h) (yields_ld (.tmp 27) 24 (.pointer (some ⟨g, k + i * 9, none⟩)) _ LA.out rfl rfl rfl) BV.out ?_
          simp only [Act.put, List.setIfInBounds_toArray, List.set_cons_zero, List.set_cons_succ]
          refine wpAnyH_ready (rs := [7]) (by kernel_rfl) (by simp) (br_call (i := 7) 29 38 #[.agg #[.int .i64 t, .int .i64 r], .agg #[.int .i64 x.t, .int .i64 x.r]] rfl rfl rfl (by go_simp) ((LQ.out _).mono ?_) AllReadyH.nil)
          rintro e v1 ⟨rfl, hb⟩
          have BV := Lib.hid (BV.out.trans (hb.mono BV.out.size))
          clear hb
          refine ⟨_, rfl, BV.out, fun _ => ?_⟩
          simp only [Act.put, List.setIfInBounds_toArray, List.set_cons_zero, List.set_cons_succ]
          refine wpAnyH_done (by kernel_rfl) ?_ _
          have K6 := Lib.hid (And.intro (K.out.1.step BV.out) (K.out.2.step BV.out))
          have L6 := Lib.hid (LX.out v1 BV.out)
          have hi0 := HI.out.1
          have hi1 := HI.out.2
          clear BV K LA LT LV
          generalize v1 = w6 at *
          obtain ⟨a0, a1, a2, a3⟩ := box4 K6.out.1.b1
          have O6 := Lib.hid (show w6.ownsRow w.heap.size 34 9 (.slice fa ln1 fc) ln1 (cs9 (loF (L.take i) t r)) from by have := K6.out.2.first; rwa [HN1.out] at this)
          have OX7 := Lib.hid (own_below O6.out (vstep w6 (.cells #[.int .i64 x.t, .int .i64 x.r, .int .i64 x.q, .int .i64 x.nt, .int .i64 x.nr, .int .i64 x.pt, .int .i64 x.pr, .string x.nm, .bool x.d] 34)))
          have bso7 := bs_op w6 x
          have SR7 := Lib.hid (one_op w6 x).src
          have Q7 := Lib.hid (And.intro (show ln1 + 1 ≤ maxLen from by have := LL.out.1; unfold maxLen; omega) (And.intro (show (ln1 + 1) * 80 ≤ 140737488355328 from by have := LL.out.1; omega) (show w.heap.size ≤ (w6.alloc (.cells #[.int .i64 x.t, .int .i64 x.r, .int .i64 x.q, .int .i64 x.nt, .int .i64 x.nr, .int .i64 x.pt, .int .i64 x.pr, .string x.nm, .bool x.d] 34)).heap.size from Nat.le_trans K6.out.1.bel.size (vstep w6 (.cells #[.int .i64 x.t, .int .i64 x.r, .int .i64 x.q, .int .i64 x.nt, .int .i64 x.nr, .int .i64 x.pt, .int .i64 x.pr, .string x.nm, .bool x.d] 34)).size)))
          go_wp2_with (first
            | (refine Ve.wpList_load_arr rfl (.tmp 42) 34 rfl (.pointer (some ⟨g, k + i * 9, none⟩)) (.agg #[.int .i64 x.t, .int .i64 x.r, .int .i64 x.q, .int .i64 x.nt, .int .i64 x.nr, .int .i64 x.pt, .int .i64 x.pr, .string x.nm, .bool x.d]) rfl L6.out ?_)
            | (at_builtin; refine Wi.wpList_append_src_own rfl (.tmp 38) (.tmp 44) 30 30 rfl w.heap.size 34 i0 (oV O0) 9 80 Try.u27 hi9 hz0 hz1 hz2 rfl (by decide) _ _ _ rfl OX7.out _ 1 (cs9 [x]) rfl SR7.out Q7.out.1 Q7.out.2.1 Q7.out.2.2 ?_; intro v8 w8 hown hgr hsp; obtain ⟨va8, vc8, rfl⟩ := Ve.own_shape hown; have P8 := Lib.hid (And.intro (K6.out.2.lo HX.out HQ.out K6.out.1.bel.size (by rw [HN1.out]; exact hown) hgr hsp) (K6.out.1.app O6.out hgr)); clear hown hgr hsp))
          have KF := Lib.hid (show RC w w8 ba bn bc ft fr (some ⟨g, k, none⟩) L.length lc t r ∧ CL w w8 L t r _ _ (i + 1) from ⟨P8.out.2, P8.out.1.1⟩)
          go_roundw
          case rel => exact ⟨i + 1, by first | (rw [HW9.out]; rfl) | go_num, HL1.out, KF⟩
          case measure => first | (rw [HW9.out]; exact HMS.out) | exact HMS.out
      · have ei : i = L.length := by omega
        subst ei
        have JE := Lib.hid (show wr.ownsRow w.heap.size 34 9 (.slice fa (loF (L.take L.length) t r).length fc) (loF L t r).length (cs9 (loF L t r)) ∧ wr.ownsRow w.heap.size 34 9 (.slice ra (hiF (L.take L.length) t r).length rc) (hiF L t r).length (cs9 (hiF L t r)) from by
          have h1 := K.out.2.first
          have h2 := K.out.2.rest
          rw [List.take_length] at h1 h2 ⊢
          exact ⟨h1, h2⟩)
        have LE := Lib.hid (show (loF (L.take L.length) t r).length = (loF L t r).length ∧ (hiF (L.take L.length) t r).length = (hiF L t r).length ∧ (loF L t r).length ≤ L.length from by
          have := lo_le L L.length t r
          rw [List.take_length] at *
          exact ⟨rfl, rfl, this.1⟩)
        have KB := Lib.hid K.out.1
        clear K J0
        obtain ⟨ln1, hln1⟩ : ∃ z, (loF (L.take L.length) t r).length = z := ⟨_, rfl⟩
        obtain ⟨ln2, hln2⟩ : ∃ z, (hiF (L.take L.length) t r).length = z := ⟨_, rfl⟩
        rw [hln1] at JE LE ⊢
        rw [hln2] at JE LE ⊢
        clear hln1 hln2
        generalize wr = w9 at *
        obtain ⟨y1, y2, y3, y4, hb3⟩ := KB.out.b3
        have HB3 := Lib.hid hb3
        clear hb3
        have PL := Lib.hid (fun W (hW : Far (fun k => k = w.heap.size + 1 + 1) w9 W) => rplay_any W (.slice ba bn bc) T0 (HT.out.step (KB.out.lateb hW).1) hr (.slice fa ln1 fc) (loF L t r) (own_olies (hW.row JE.out.1 (fun j hj e => own_cell_ne JE.out.1 HB3.out (by decide) (hj.trans (congrArg some e))))) (by have := LE.out.2.2; omega))
        have LB0 := Lib.hid (fun W (hW : Far (fun k => k = w.heap.size + 1 + 1) w9 W) => @ld29 W w.heap.size 0 _ _ _ (box4 (KB.out.lateb hW).2.1).1)
        have LB2 := Lib.hid (fun W (hW : Far (fun k => k = w.heap.size + 1 + 1) w9 W) => ldSt (KB.out.lateb hW).2.2)
        have B3K := Lib.hid (BX4.step (T := 32) ⟨HB3.out⟩ (Below.refl w9.heap.size w9).drew)
        obtain ⟨a0, a1, a2, a3⟩ := box4 KB.out.b1
        go_upto_region 11 with (fail)
        clear a0 a1 a2 a3
        refine wp_region_held_drew (S := Far (fun k => k = w.heap.size + 1 + 1) w9) (by kernel_rfl) ((show Far (fun k => k = w.heap.size + 1 + 1) w9 w9.drew from Far.of_below (Below.refl _ _).drew)) (fun hHeld => ?_)
        have BV := Lib.hid ((show Far (fun k => k = w.heap.size + 1 + 1) w9 w9.drew from Far.of_below (Below.refl _ _).drew))
        clear hHeld
        refine take_at (i := 0) 46 ?_ rfl rfl (by kernel_rfl) (by kernel_rfl) (by kernel_rfl) (fun _ _ _ h => h) (.inl ⟨rfl, ?_⟩) BV.out ?_
        rotate_left 1
        · intro w hSw; go_simp; try with_reducible rfl
        simp only [Act.put, List.setIfInBounds_toArray, List.set_cons_zero, List.set_cons_succ]
        refine take_at (i := 1) 47 (.slice ba bn bc) rfl rfl (by kernel_rfl) (by kernel_rfl) (by kernel_rfl) (fun _ _ _ h => h) (yields_ld (.tmp 46) 29 (.pointer (some ⟨w.heap.size, 0, none⟩)) _ LB0.out rfl rfl rfl) BV.out ?_
        simp only [Act.put, List.setIfInBounds_toArray, List.set_cons_zero, List.set_cons_succ]
        refine take_at (i := 2) 48 ?_ rfl rfl (by kernel_rfl) (by kernel_rfl) (by kernel_rfl) (fun _ _ _ h => h) (.inl ⟨rfl, ?_⟩) BV.out ?_
        rotate_left 1
        · intro w hSw; go_simp; try with_reducible rfl
        simp only [Act.put, List.setIfInBounds_toArray, List.set_cons_zero, List.set_cons_succ]
        refine take_at (i := 4) 50 (.agg #[.int .i64 t, .int .i64 r]) rfl rfl (by kernel_rfl) (by kernel_rfl) (by kernel_rfl) (fun _ _ _ h => h) (yields_ld (.tmp 3) 24 (.pointer (some ⟨w.heap.size + 1, 0, none⟩)) _ LB2.out rfl rfl rfl) BV.out ?_
        simp only [Act.put, List.setIfInBounds_toArray, List.set_cons_zero, List.set_cons_succ]
        refine take_at (i := 5) 51 ?_ rfl rfl (by kernel_rfl) (by kernel_rfl) (by kernel_rfl) (fun _ _ _ h => h) (.inl ⟨rfl, ?_⟩) BV.out ?_
        rotate_left 1
        · intro w hSw; go_simp; try with_reducible rfl
        simp only [Act.put, List.setIfInBounds_toArray, List.set_cons_zero, List.set_cons_succ]
        refine take_at (i := 7) 53 ?_ rfl rfl (by kernel_rfl) (by kernel_rfl) (by kernel_rfl) (fun _ _ _ h => h) (.inl ⟨rfl, ?_⟩) BV.out ?_
        rotate_left 1
        · intro w hSw; go_simp; try with_reducible rfl
        simp only [Act.put, List.setIfInBounds_toArray, List.set_cons_zero, List.set_cons_succ]
        refine take_at (i := 8) 54 ?_ rfl rfl (by kernel_rfl) (by kernel_rfl) (by kernel_rfl) (fun _ _ _ h => h) (.inl ⟨rfl, ?_⟩) BV.out ?_
        rotate_left 1
        · intro w hSw; go_simp; try with_reducible rfl
        simp only [Act.put, List.setIfInBounds_toArray, List.set_cons_zero, List.set_cons_succ]
        have BVS := Lib.hid (show w9.heap.size ≤ w9.drew.heap.size from BV.out.size)
        refine wpAnyH_ready (rs := [3]) (by kernel_rfl) (by simp) (br_call (i := 3) 49 51 #[.slice ba bn bc, .slice fa ln1 fc] rfl rfl rfl (by go_simp) ((PL.out _ BV.out).mono ?_) AllReadyH.nil)
        rintro e v1 ⟨pv0, rfl, hpl, hb, hsp⟩
        have BV := Lib.hid (BV.out.trans (Far.of_below (P := fun _ => False) hb) (fun _ _ q => q.elim))
        have B3K := Lib.hid (B3K.out.step hb)
        obtain ⟨pa, pc, hpv⟩ := hpl.shape
        subst hpv
        have HPL := Lib.hid hpl
        have HSP := Lib.hid (show Spr w.heap.size v1 (.slice ba bn bc) (.slice pa (playF T0 (loF L t r)).length pc) from fun k e => (hsp k e).elim .inl (fun q => .inr ⟨Nat.le_trans (Nat.le_trans KB.out.bel.size BVS.out) q.1, q.2⟩))
        clear hpl hsp BVS
        clear hb
        refine ⟨_, rfl, BV.out, fun _ => ?_⟩
        simp only [Act.put, List.setIfInBounds_toArray, List.set_cons_zero, List.set_cons_succ]
        refine take_at (i := 6) 52 (.agg #[.slice pa (playF T0 (loF L t r)).length pc, .int .i64 t, .int .i64 r, .slice ra ln2 rc]) rfl rfl (by kernel_rfl) (by kernel_rfl) (by kernel_rfl) (fun _ _ _ h => h) (yields_bld 32 #[(0, .tmp 49), (1, .tmp 50), (2, .tmp 51)] #[(0, .slice pa (playF T0 (loF L t r)).length pc), (1, .agg #[.int .i64 t, .int .i64 r]), (2, .slice ra ln2 rc)] _ rfl rfl rfl (fun W => bld32 W pa _ pc t r ra ln2 rc)) BV.out ?_
        simp only [Act.put, List.setIfInBounds_toArray, List.set_cons_zero, List.set_cons_succ]
        refine wpAnyH_ready (rs := [9]) (by kernel_rfl) (by simp) (br_store (i := 9) 32 (.tmp 4) (.tmp 52) _ _ _ rfl rfl rfl rfl rfl rfl (st32 B3K.out.row pa _ pc t r ra ln2 rc) (BV.out.trans (far_set4 v1 (w.heap.size + 1 + 1) _ _ _ _) (fun _ _ e => e)) (fun _ => ?_) AllReadyH.nil)
        obtain ⟨v2, hv2⟩ : ∃ zz, set4 v1 (w.heap.size + 1 + 1) (.slice pa (playF T0 (loF L t r)).length pc) (.int .i64 t) (.int .i64 r) (.slice ra ln2 rc) = zz := ⟨_, rfl⟩
        have BV := Lib.hid (show Far (fun k => k = w.heap.size + 1 + 1) w9 v2 from by rw [← hv2]; exact BV.out.trans (far_set4 v1 (w.heap.size + 1 + 1) _ _ _ _) (fun _ _ e => e))
        have ND := Lib.hid (show v2.heap[w.heap.size + 1 + 1]? = some (.cells #[.slice pa (playF T0 (loF L t r)).length pc, .int .i64 t, .int .i64 r, .slice ra ln2 rc] 32 (0, 0)) from by rw [← hv2]; exact set4_row B3K.out.row)
        have HPL := Lib.hid (show LiesR v2 (.slice pa (playF T0 (loF L t r)).length pc) (playF T0 (loF L t r)) from by rw [← hv2]; exact liesK_set4 (enc := Tb.enc6) (n := 6) (by decide) Tb.enc6_len HPL.out B3K.out.row)
        have HSP := Lib.hid (show Spr w.heap.size v2 (.slice ba bn bc) (.slice pa (playF T0 (loF L t r)).length pc) from fun k e => (HSP.out k e).elim .inl (fun q => .inr ⟨q.1, by rw [← hv2]; have := q.2; simpa [set4, World.setCell] using this⟩))
        rw [hv2]
        clear hv2 B3K
        simp only [Act.put, List.setIfInBounds_toArray, List.set_cons_zero, List.set_cons_succ]
        refine take_at (i := 10) 5 ?_ rfl rfl (by kernel_rfl) (by kernel_rfl) (by kernel_rfl) (fun _ _ _ h => h) (.inl ⟨rfl, ?_⟩) BV.out ?_
        rotate_left 1
        · intro w hSw; go_simp; try with_reducible rfl
        simp only [Act.put, List.setIfInBounds_toArray, List.set_cons_zero, List.set_cons_succ]
        refine wpAnyH_done (by kernel_rfl) ?_ _
        have O9 := Lib.hid (BV.out.row JE.out.2 (fun j hj e => own_cell_ne JE.out.2 HB3.out (by decide) (hj.trans (congrArg some e))))
        have BF := Lib.hid (KB.out.lateb BV.out).1
        clear BV PL LB0 LB2 JE
        obtain ⟨d0, d1, d2, d3⟩ := box4 ND.out
        clear ND
        obtain ⟨pn, hpn⟩ : ∃ z, (playF T0 (loF L t r)).length = z := ⟨_, rfl⟩
        rw [hpn] at d0 HPL HSP ⊢
        clear hpn
        go_wp2_with fail
        refine bodyPost_ret (by simp [results, Try.results13, go_sem, d0, d1, d2, d3]; try rfl) rfl ?_
        rw [HF.out.1.1, HF.out.2.1, HF.out.2.2]
        refine ⟨pa, pn, pc, ra, ln2, rc, by rw [← LE.out.1], ?_, ?_, BF.out, HSP.out, (own_frs O9.out (Nat.le_refl _)).spr⟩
        · have h := HF.out.1.2.1
          rw [HF.out.1.1] at h
          rw [h]
          exact HPL.out
        · have h := HF.out.1.2.2
          rw [HF.out.1.1] at h
          rw [h]
          exact own_olies O9.out
end Go.Proofs.Ytkmeceoilighiaa

set_option linter.unusedVariables false
set_option linter.unusedSimpArgs false
set_option maxRecDepth 100000
namespace Go.Proofs.Ytkmeceoilighiaa
open Go.RowKit Go.Shelf
open Tb (Rw setF getF aboveF Rise TabI TM LiesK LiesR ltS)

/-- A slice that lies in none of the tree's blocks, nor in a box. -/
def Away (W : World) (v : Value) (k6 p q mb : Nat) (la : Option Addr) : Prop := ∀ k, v.ownBlock = some k → k < W.heap.size ∧ ¬ HasT p mb la k ∧ k ≠ q ∧ k ≠ k6
theorem Away.step {W W' : World} {v : Value} {k6 p q mb : Nat} {la : Option Addr} (h : Away W v k6 p q mb la) (hs : W.heap.size ≤ W'.heap.size) : Away W' v k6 p q mb la := fun k e => ⟨Nat.lt_of_lt_of_le (h k e).1 hs, (h k e).2⟩
/-- The tree, and the reference's, boxed. -/
structure P2 (w W : World) (k6 p q mb : Nat) (a b : Int) (T0 : List Rw) (ft fr : Int) (L : List O) (la : Option Addr) (lc : Nat) (T1 : List Rw) (gt gr : Int) (M : List O) (ba : Option Addr) (bn bc : Nat) (ra : Option Addr) (rc : Nat) : Prop where
  bel : Below w.heap.size w W
  b3 : W.heap[w.heap.size]? = some (.cells #[.int .i64 a, .int .i64 b] 24 (0, 0))
  b6 : W.heap[k6]? = some (.cells #[.slice ba bn bc, .int .i64 gt, .int .i64 gr, .slice ra M.length rc] 32 (0, 0))
  h6 : w.heap.size < k6
  tree : TreeI W (w.heap.size + 1) p q mb T0 ft fr L la lc
  base : LiesR W (.slice ba bn bc) T1
  log : OLies W (.slice ra M.length rc) M
  apB : Away W (.slice ba bn bc) k6 p q mb la
  apL : Away W (.slice ra M.length rc) k6 p q mb la
section
variable {w W W' : World} {k6 p q mb : Nat} {a b : Int} {T0 : List Rw} {ft fr : Int} {L : List O} {la : Option Addr} {lc : Nat} {T1 : List Rw} {gt gr : Int} {M : List O} {ba : Option Addr} {bn bc : Nat} {ra : Option Addr} {rc : Nat}
theorem P2.step (h : P2 w W k6 p q mb a b T0 ft fr L la lc T1 gt gr M ba bn bc ra rc) (hb : Below W.heap.size W W') : P2 w W' k6 p q mb a b T0 ft fr L la lc T1 gt gr M ba bn bc ra rc :=
  ⟨h.bel.trans (hb.mono h.bel.size), (hb.block _ (pl_lt h.b3)).trans h.b3, (hb.block _ (pl_lt h.b6)).trans h.b6, h.h6, h.tree.step hb, h.base.step hb, h.log.step hb, h.apB.step hb.size, h.apL.step hb.size⟩
theorem P2.not6 (h : P2 w W k6 p q mb a b T0 ft fr L la lc T1 gt gr M ba bn bc ra rc) : ¬ HasT p mb la k6 ∧ k6 ≠ q := by
  refine ⟨?_, cell_ne h.b6 h.tree.tab.box (by decide)⟩
  rintro (e | e | e)
  · exact cell_ne h.b6 h.tree.box (by decide) e
  · exact map_ne h.b6 h.tree.tab.map e
  · exact own_cell_ne h.tree.log h.b6 (by decide) (by rw [← e]; exact ownB _ _ _ _ _)
theorem P2.lt6 (h : P2 w W k6 p q mb a b T0 ft fr L la lc T1 gt gr M ba bn bc ra rc) : ∀ k, HasT p mb la k ∨ k = q ∨ k = k6 → k < W.heap.size := by
  rintro k (e | e | e)
  · exact (h.tree.has e).2
  · rw [e]; exact h.tree.tab.plt
  · rw [e]; exact pl_lt h.b6
theorem P2.not3 (h : P2 w W k6 p q mb a b T0 ft fr L la lc T1 gt gr M ba bn bc ra rc) : ¬ HasT p mb la w.heap.size := by
  intro e
  have := (h.tree.has e).1
  omega
/-- Behind the tree's Add. -/
theorem P2.add {L2 : List O} (h : P2 w W k6 p q mb a b T0 ft fr L la lc T1 gt gr M ba bn bc ra rc) (hr : AddR W W' (w.heap.size + 1) p q mb T0 ft fr L2 la) : ∃ g lc', P2 w W' k6 p q mb a b T0 ft fr L2 (some ⟨g, 0, none⟩) lc' T1 gt gr M ba bn bc ra rc := by
  obtain ⟨hf, g, lc', h1, hg⟩ := hr
  have aw : ∀ {v : Value}, Away W v k6 p q mb la → Away W' v k6 p q mb (some ⟨g, 0, none⟩) := fun hv k e => by
    obtain ⟨q1, q2, q3, q4⟩ := hv k e
    refine ⟨Nat.lt_of_lt_of_le q1 hf.size, ?_, q3, q4⟩
    rintro (e1 | e1 | e1)
    · exact q2 (.inl e1)
    · exact q2 (.inr (.inl e1))
    · have := lgV_some e1
      subst this
      rcases hg with hg | hg
      · exact q2 (.inr (.inr hg))
      · omega
  refine ⟨g, lc', h.bel.trans ((hf.belowT h.tree).mono (by omega)), (hf.block _ (pl_lt h.b3) h.not3).trans h.b3, (hf.block _ (pl_lt h.b6) h.not6.1).trans h.b6, h.h6, h1, liesK_far hf h.base (fun k e => (h.apB k e).2.1), liesK_far (enc := oc) (n := 9) hf h.log (fun k e => (h.apL k e).2.1), aw h.apB, aw h.apL⟩
/-- Behind the tree's Cut. -/
theorem P2.cut {T2 : List Rw} {t r : Int} {L2 : List O} {la' : Option Addr} {lc' : Nat} (h : P2 w W k6 p q mb a b T0 ft fr L la lc T1 gt gr M ba bn bc ra rc) (hg : W.grownBy W' (some p)) (ht : TreeI W' (w.heap.size + 1) p q mb T2 t r L2 la' lc') (hk : ∀ k, (lgV la' 0 0).ownBlock = some k → W.heap.size ≤ k) :
    P2 w W' k6 p q mb a b T2 t r L2 la' lc' T1 gt gr M ba bn bc ra rc := by
  have hf : Far (fun k => k = p) W W' := Far.of_grown hg (fun k e => by injection e with e; exact e.symm)
  have aw : ∀ {v : Value}, Away W v k6 p q mb la → Away W' v k6 p q mb la' := fun hv k e => by
    obtain ⟨q1, q2, q3, q4⟩ := hv k e
    refine ⟨Nat.lt_of_lt_of_le q1 hf.size, ?_, q3, q4⟩
    rintro (e1 | e1 | e1)
    · exact q2 (.inl e1)
    · exact q2 (.inr (.inl e1))
    · have := hk k e1; omega
  have np : ∀ k, ¬ HasT p mb la k → ¬ k = p := fun k hn e => hn (.inl e)
  refine ⟨h.bel.trans ((hf.below (B := w.heap.size + 1) (by have := h.bel.size; have := h.tree.lo.1; have := h.tree.plt; omega) (fun k e => by have e : k = p := e; rw [e]; exact h.tree.lo.1)).mono (by omega)), (hf.block _ (pl_lt h.b3) (np _ h.not3)).trans h.b3, (hf.block _ (pl_lt h.b6) (np _ h.not6.1)).trans h.b6, h.h6, ht, liesK_far hf h.base (fun k e => np _ (h.apB k e).2.1), liesK_far (enc := oc) (n := 9) hf h.log (fun k e => np _ (h.apL k e).2.1), aw h.apB, aw h.apL⟩
theorem Away.spr {W1 : World} {v r : Value} (h : Away W1 v k6 p q mb la) (hs : Spr W1.heap.size W v r) (hall : ∀ k, HasT p mb la k ∨ k = q ∨ k = k6 → k < W1.heap.size) (hw : W1.heap.size ≤ W.heap.size) : Away W r k6 p q mb la := by
  intro k e
  rcases hs k e with e | ⟨h1, h2⟩
  · exact h.step hw k e
  · exact ⟨h2, fun e => by have := hall k (.inl e); omega, fun e => by have := hall k (.inr (.inl e)); omega, fun e => by have := hall k (.inr (.inr e)); omega⟩
/-- Behind the store of the reference's new value. -/
theorem P2.put {T2 : List Rw} {t r : Int} {M2 : List O} {ba' : Option Addr} {bn' bc' : Nat} {ra' : Option Addr} {rc' : Nat} (h : P2 w W k6 p q mb a b T0 ft fr L la lc T1 gt gr M ba bn bc ra rc) (hB : LiesR W (.slice ba' bn' bc') T2) (hM : OLies W (.slice ra' M2.length rc') M2)
    (a1 : Away W (.slice ba' bn' bc') k6 p q mb la) (a2 : Away W (.slice ra' M2.length rc') k6 p q mb la) : P2 w (set4 W k6 (.slice ba' bn' bc') (.int .i64 t) (.int .i64 r) (.slice ra' M2.length rc')) k6 p q mb a b T0 ft fr L la lc T2 t r M2 ba' bn' bc' ra' rc' := by
  have hf := far_set4 W k6 (.slice ba' bn' bc') (.int .i64 t) (.int .i64 r) (.slice ra' M2.length rc')
  have h6 := h.h6
  refine ⟨set4_below h.bel (by omega), (hf.block _ (pl_lt h.b3) (by omega)).trans h.b3, set4_row h.b6, h6, h.tree.keep hf (fun k hk e => ?_), liesK_set4 (enc := Tb.enc6) (n := 6) (by decide) Tb.enc6_len hB h.b6, olies_set4 hM h.b6, a1.step hf.size, a2.step hf.size⟩
  have e : k = k6 := e
  subst e
  rcases hk with hk | hk
  · exact h.not6.1 hk
  · exact h.not6.2 hk
end
/-- What the log and the rows are like, behind so many acts. -/
structure PF (T : List Rw) (L : List O) (n : Nat) : Prop where
  rise : RiseO L
  okL : OkL L
  okT : OkT T
  riseT : Rise T
  len : T.length + L.length ≤ n
theorem PF.nil : PF [] [] 0 := ⟨List.Pairwise.nil, fun o h => (List.not_mem_nil h).elim, okT_nil, List.Pairwise.nil, Nat.le_refl _⟩
theorem PF.up {T : List Rw} {L : List O} {n : Nat} (h : PF T L n) : PF T L (n + 1) := ⟨h.rise, h.okL, h.okT, h.riseT, Nat.le_succ_of_le h.len⟩
theorem PF.put {T : List Rw} {L : List O} {n : Nat} (h : PF T L n) {ft fr : Int} {o : O} (ho : OkO o) (he : addE ft fr L o = 0) : PF T (putO L o) (n + 1) := by
  obtain ⟨h1, h2⟩ := addE_zero he
  refine ⟨put_rise h.rise h2, fun x hx => ?_, h.okT, h.riseT, ?_⟩
  · rcases put_mem.1 hx with rfl | hx
    · exact ho
    · exact h.okL x hx
  · rw [put_len]; have := h.len; omega
theorem PF.cut {T : List Rw} {L : List O} {n : Nat} (h : PF T L n) (k : Nat) : PF (playF T (L.take k)) (L.drop k) (n + 1) := by
  refine ⟨h.rise.sublist (List.drop_sublist _ _), fun x hx => h.okL x (List.mem_of_mem_drop hx), play_okT _ h.okT (fun x hx => h.okL x (List.mem_of_mem_take hx)), play_rise _ h.riseT, ?_⟩
  have h1 := play_len (L.take k) T
  have h2 := h.len
  have h3 : (L.take k).length + (L.drop k).length = L.length := by rw [← List.length_append, List.take_append_drop]
  omega
theorem radd_is {T : List Rw} {L : List O} {n : Nat} (h : PF T L n) (ft fr : Int) (o : O) : raddN ft fr L o = addN ft fr L o ∧ raddL ft fr L o = if addE ft fr L o = 0 then putO L o else L := by
  unfold raddN raddL addN
  by_cases he : addE ft fr L o = 0
  · obtain ⟨h1, h2⟩ := addE_zero he
    rw [if_pos he, if_pos he, if_pos he, cnt_pos h.rise h2, srt_put h.rise h2]
    exact ⟨rfl, by rw [if_pos he]⟩
  · rw [if_neg he, if_neg he, if_neg he]
    exact ⟨rfl, by rw [if_neg he]⟩
theorem ne3 (a : Int) (W : World) : (binOp .neq 3 (.int .i64 a) (.int .i64 a)).run Try.prog W = .ok (.bool false) W := by
  go_simp
theorem gne3 (x y : Operand) (a b : Int) (w : World) : (eqGuard .neq 3 x y (.int .i64 a) (.int .i64 b)).run Try.prog w = .ok () w := by kernel_rfl
theorem neB (v : Bool) (W : World) : (binOp .neq 4 (.bool v) (.bool v)).run Try.prog W = .ok (.bool false) W := by
  cases v <;> go_simp
theorem gneB (x y : Operand) (a b : Bool) (w : World) : (eqGuard .neq 4 x y (.bool a) (.bool b)).run Try.prog w = .ok () w := by kernel_rfl
theorem neS24 (a b : Int) (W : World) : (binOp .neq 24 (.agg #[.int .i64 a, .int .i64 b]) (.agg #[.int .i64 a, .int .i64 b])).run Try.prog W = .ok (.bool false) W := by
  go_simp
theorem gneS24 (x y : Operand) (a b : Array Value) (w : World) : (eqGuard .neq 24 x y (.agg a) (.agg b)).run Try.prog w = .ok () w := run_eqGuard_agg w .neq 24 x y _ _ egt24
theorem ld32 {W : World} {k : Nat} {ba : Option Addr} {bn bc : Nat} {ft fr : Int} {la : Option Addr} {ln lc : Nat} (h : W.heap[k]? = some (.cells #[.slice ba bn bc, .int .i64 ft, .int .i64 fr, .slice la ln lc] 32 (0, 0))) :
    (Instr.loadAt 32 (.pointer (some ⟨k, 0, none⟩))).run Try.prog W = .ok (.agg #[.slice ba bn bc, .int .i64 ft, .int .i64 fr, .slice la ln lc]) W := by
  obtain ⟨c0, c1, c2, c3⟩ := box4 h
  clear h
  go_simp
theorem ld3 {W : World} {g o : Nat} {a : Int} (h : W.cell? ⟨g, o, none⟩ = some (.int .i64 a)) : (Instr.loadAt 3 (.pointer (some ⟨g, o, none⟩))).run Try.prog W = .ok (.int .i64 a) W := by
  go_simp
end Go.Proofs.Ytkmeceoilighiaa
