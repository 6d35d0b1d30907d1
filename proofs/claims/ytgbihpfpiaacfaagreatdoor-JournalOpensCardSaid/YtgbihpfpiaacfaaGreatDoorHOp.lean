/- Merged by tools/merge.py: KT, KR, KU, KV, KW, KX, CRJ, KY, KP, HOpens. -/
import Derived.Test.YtgbihpfpiaacfaaGreatDoorCLater
import Derived.Test.YtgbihpfpiaacfaaGreatDoorCOwn
import Derived.Test.YtgbihpfpiaacfaaGreatDoorCRMath
import Derived.Test.YtgbihpfpiaacfaaGreatDoorCReA
import Derived.Test.YtgbihpfpiaacfaaGreatDoorCReD
import Derived.Test.YtgbihpfpiaacfaaGreatDoorCReE
import Derived.Test.YtgbihpfpiaacfaaGreatDoorCReF
import Derived.Test.YtgbihpfpiaacfaaGreatDoorCSBase
import Derived.Test.YtgbihpfpiaacfaaGreatDoorCSumA
import Derived.Test.YtgbihpfpiaacfaaGreatDoorCSumB
import Derived.Test.YtgbihpfpiaacfaaGreatDoorCSumD
import Derived.Test.YtgbihpfpiaacfaaGreatDoorCSumE
import Derived.Test.YtgbihpfpiaacfaaGreatDoorCSumM
import Derived.Test.YtgbihpfpiaacfaaGreatDoorCards
import Derived.Test.YtgbihpfpiaacfaaGreatDoorKZ
import Derived.Test.YtgbihpfpiaacfaaGreatDoorTie
import Derived.Below
import Derived.Deep.Quiet
import Derived.BigQuiet
import Derived.WalkKit
import Derived.WalkSpells
import Derived.Lib.Hide
import Derived.Lib.Walk
import Derived.OneCell
import Derived.LoopTactic
import Derived.Deep.Cut
import Derived.Outline
import Derived.Handy
import Derived.RegionTactic
import Derived.ChangeAlike
import Derived.Deep.QuietTactic
import Derived.Lib.AppendZerosOnto
import Derived.Laws.Rows
import Derived.Laws.MakeOwn
import Derived.Lib.SlBytesConst
import Derived.ProofKit
import Derived.LaidMore
import Derived.OpenShut
import Derived.Stop.Joined
import Derived.SevenTiedAt
import Derived.Carry
import Derived.Lib.SmallJoins
import Derived.Deep.Slices
import Derived.Shelf.Vars
import Derived.Lay

set_option linter.unusedVariables false
namespace Go.Proofs.YtgbihpfpiaacfaaGreatDoor

theorem Rc.n4_app {p q : List Nat} (h : 4 ≤ p.length) : Rc.n4 (p ++ q) = Rc.n4 p := by
  match p, h with
  | a :: b :: c :: d :: r, _ => rfl
theorem Rc.fst_torn {b p q : List Nat} (h : Rc.rec b = p ++ q) (hq : q ≠ []) (hb : b.length ≤ 65536) : (Rc.fst p).2.2 ≠ 0 := by
  have hl := congrArg List.length h
  rw [Rc.rec_length, List.length_append] at hl
  have hq1 : 0 < q.length := by cases q with | nil => exact absurd rfl hq | cons => simp
  unfold Rc.fst
  by_cases h1 : p.length < 4
  · rw [if_pos h1]; exact (by decide)
  · have e : Rc.n4 p = b.length := by
      have e1 : Rc.n4 (Rc.rec b) = b.length := by
        unfold Rc.rec Rc.seal'
        rw [List.append_assoc]
        exact Rc.n4_le4 _ _ (by omega)
      rw [h, Rc.n4_app (by omega)] at e1
      exact e1
    rw [if_neg h1, e, if_neg (by omega), if_pos (by omega)]
    exact (by decide)
theorem recs_tail : ∀ (L : List (List Nat)) (at_ : Nat) (p : List Nat), (∀ b ∈ L, b.length ≤ 65536) → (Rc.fst p).2.2 ≠ 0 → (Rc.recsAt at_ (cat L ++ p)).map (·.2) = L ∧ Rc.takes (Rc.recsAt at_ (cat L ++ p)) = (cat L).length
  | [], at_, p, _, hp => by
    show (Rc.recsAt at_ p).map _ = [] ∧ Rc.takes (Rc.recsAt at_ p) = 0
    rw [Rc.recsAt_no hp]
    exact ⟨rfl, rfl⟩
  | b :: L, at_, p, h, hp => by
    have e : cat (b :: L) ++ p = Rc.rec b ++ (cat L ++ p) := by simp [cat]
    have e2 : (cat (b :: L)).length = (Rc.rec b).length + (cat L).length := by rw [← List.length_append]; simp [cat]
    rw [e, Rc.recs_one b (cat L ++ p) (h b (List.mem_cons_self ..)) at_]
    obtain ⟨h1, h2⟩ := recs_tail L (at_ + (b.length + 8)) p (fun x hx => h x (List.mem_cons_of_mem _ hx)) hp
    refine ⟨by rw [List.map_cons, h1], ?_⟩
    show b.length + 8 + Rc.takes _ = _
    rw [h2, e2, Rc.rec_length]
/-- What a segment says whose last record may be torn. -/
theorem recs_torn (L : List (List Nat)) (b : List Nat) (k : Nat) (h : ∀ x ∈ L, x.length ≤ 65536) (hb : b.length ≤ 65536) (hk : k ≤ b.length + 8) :
    (k = b.length + 8 ∧ cat L ++ (Rc.rec b).take k = cat (L ++ [b]) ∧ (Rc.recs (cat L ++ (Rc.rec b).take k)).map (·.2) = L ++ [b] ∧ Rc.takes (Rc.recs (cat L ++ (Rc.rec b).take k)) = (cat (L ++ [b])).length) ∨
    (k < b.length + 8 ∧ (Rc.recs (cat L ++ (Rc.rec b).take k)).map (·.2) = L ∧ Rc.takes (Rc.recs (cat L ++ (Rc.rec b).take k)) = (cat L).length) := by
  by_cases e : k = b.length + 8
  · have ht : (Rc.rec b).take k = Rc.rec b := List.take_of_length_le (by rw [Rc.rec_length]; omega)
    refine .inl ⟨e, by rw [ht, cat_snoc], ?_⟩
    rw [ht, ← cat_snoc]
    exact recs_cat (L ++ [b]) 0 (fun x hx => by
      rcases List.mem_append.1 hx with hx | hx
      · exact h x hx
      · rw [List.mem_singleton.1 hx]; exact hb)
  · refine .inr ⟨by omega, ?_⟩
    exact recs_tail L 0 _ h (Rc.fst_torn (List.take_append_drop k (Rc.rec b)).symm (fun q => by
      have := congrArg List.length q
      rw [List.length_drop, Rc.rec_length] at this
      simp at this
      omega) hb)
end Go.Proofs.YtgbihpfpiaacfaaGreatDoor

set_option linter.unusedVariables false
set_option linter.unusedSimpArgs false
set_option maxRecDepth 100000
namespace Go.Proofs.YtgbihpfpiaacfaaGreatDoor
open Go.RowKit Go.Shelf Go.WideMaps Go.Maps

theorem cut_same {w : World} {B d : Nat} {s : DS} (h : DK w B d s) {nm : ByteArray} {x : Fl} (hx : getF s.l nm = some x) {n : Nat} (hn : x.b.length = n) (hs : x.s = (n : Int)) : setF s.l (cutF x n) = s.l := by
  have hc : cutF x n = x := by
    unfold cutF
    rw [List.take_of_length_le (by omega), ← hs]
  rw [hc]
  have hm := get_mem hx
  obtain ⟨i, hi⟩ := List.mem_iff_getElem?.1 hm.1
  rw [set_at (DK.rise h) hi rfl]
  exact List.ext_getElem? (fun j => by
    by_cases e : i = j
    · subst e
      rw [List.getElem?_set_self (List.getElem?_eq_some_iff.1 hi).1, hi]
    · rw [List.getElem?_set_ne e])
theorem cut_un (w : World) (B d : Nat) (s : DS) (h : DK w B d s) (nm : ByteArray) (hs : nm.size ≤ maxLen) (hl : s.l.length < 100000) (n : Nat) (hf : fnd s nm = 0) (hn : n ≤ (fval s nm).b.length) (ha : s.ar = false) :
    Calls Tryz.prog 74 #[pv d, .string nm, .int .i64 (n : Int)] w fun e w' => e = .returned (.int .i64 0) ∧ Out B d s { s with l := setF s.l (cutF (fval s nm) n) } w w' := by
  refine (cut_go w B d s h nm hs hl n hf hn).mono ?_
  rintro e w' (⟨h1, _⟩ | ⟨_, rfl, ho⟩)
  · rw [tk_un ha] at h1; omega
  · rw [aft_un ha] at ho
    exact ⟨rfl, ho⟩
theorem sync_un (w : World) (B d : Nat) (s : DS) (h : DK w B d s) (nm : ByteArray) (hs : nm.size ≤ maxLen) (hl : s.l.length < 100000) (hf : fnd s nm = 0) (ha : s.ar = false) :
    Calls Tryz.prog 63 #[pv d, .string nm] w fun e w' => e = .returned (.int .i64 0) ∧ Out B d s { s with l := setF s.l (cutF (fval s nm) (fval s nm).b.length) } w w' := by
  refine (sync_go w B d s h nm hs hl hf).mono ?_
  rintro e w' (⟨h1, _⟩ | ⟨_, rfl, ho⟩)
  · rw [tk_un ha] at h1; omega
  · rw [aft_un ha] at ho
    exact ⟨rfl, ho⟩
set_option maxHeartbeats 3200000 in
theorem settle_any (w : World) (B q d : Nat) (s : DS) (most f : Int) (l n hv : Nat) (h : JK w B q d s most f l (n : Int)) (hl : 1 ≤ l ∧ l < 100) (hf : fnd s (sg l) = 0) (hb : (fval s (sg l)).b.length = hv) (hn : n ≤ hv) (ha : s.ar = false) (hll : s.l.length < 100000) :
    Calls Tryz.prog 58 #[.pointer (some ⟨q, 0, none⟩), .int .i64 (hv : Int)] w fun e w' => e = .returned (.int .i64 0) ∧ Out B d s { s with l := setF s.l (cutF (fval s (sg l)) n) } w w' := by
  have hx := (fnd_some hf).1
  have hsz : (sg l).size ≤ maxLen := by have := sg_size hl.2; unfold maxLen; omega
  have NA := Lib.hid (name_any w l hl.2 hl.1)
  have SU := Lib.hid (sure_any w B d s h.dk (sg l) hsz)
  rw [hx] at SU
  dsimp only at SU
  have HS := Lib.hid (h.dk.sure _ (get_mem hx).1)
  have CU := Lib.hid (fun (W : World) (hb : Below w.heap.size w W) => cut_un W B d s (h.dk.step hb) (sg l) hsz hll n hf (by omega) ha)
  have SY := Lib.hid (fun (W : World) (hb : Below w.heap.size w W) => sync_un W B d s (h.dk.step hb) (sg l) hsz hll hf ha)
  have HDK := Lib.hid h.dk
  have HX := Lib.hid hx
  have HB := Lib.hid hb
  have c0 : w.cell? ⟨q, 0, none⟩ = some (pv d) := (cell_of_row _ _ _ _ _ _ h.box).trans rfl
  have c3 : w.cell? ⟨q, 3, none⟩ = some (.int .i64 (l : Int)) := (cell_of_row _ _ _ _ _ _ h.box).trans rfl
  have c4 : w.cell? ⟨q, 4, none⟩ = some (.int .i64 (n : Int)) := (cell_of_row _ _ _ _ _ _ h.box).trans rfl
  obtain ⟨x, hx0⟩ : ∃ x, fval s (sg l) = x := ⟨_, rfl⟩
  rw [hx0] at SU HS CU SY HX HB ⊢
  clear h hx hf hx0 hb
  by_cases hlt : (n : Int) < (hv : Int)
  · go_enter Tryz.func58, Tryz.ntmps58
    go_wp2_with fail
    refine NA.out.mono ?_
    rintro e w1 ⟨rfl, rfl⟩
    go_wp2_with fail
    go_region_with (refine (CU.out _ (by first | exact Below.refl _ _ | exact (Below.refl _ _).drew)).mono ?_; rintro e w2 ⟨rfl, ho⟩; have OO := Lib.hid (show Out B d s { s with l := setF s.l (cutF x n) } w w2 from ho.of_below (show Below w.heap.size w _ from by first | exact Below.refl _ _ | exact (Below.refl _ _).drew)); clear ho)
    all_goals clear CU SY
    all_goals go_wp2
    all_goals go_returns
    all_goals exact ⟨rfl, OO.out⟩
  · have e : n = hv := by omega
    subst e
    by_cases hs : x.s < (n : Int)
    · rw [HB.out] at SY
      clear CU
      have CU := Lib.hid trivial
      go_enter Tryz.func58, Tryz.ntmps58
      go_wp2_with fail
      refine NA.out.mono ?_
      rintro e w1 ⟨rfl, rfl⟩
      go_wp2_with fail
      refine SU.out.mono ?_
      rintro e w2 ⟨rfl, rfl⟩
      go_wp2_with fail
      refine (SY.out _ (Below.refl _ _)).mono ?_
      rintro e w3 ⟨rfl, ho⟩
      have OO := Lib.hid ho
      clear ho CU SY
      go_wp2
      go_returns
      exact ⟨rfl, OO.out⟩
    · have e := cut_same HDK.out HX.out HB.out (by have := HS.out; have := HB.out; omega)
      have OO := Lib.hid (show Out B d s { s with l := setF s.l (cutF x n) } w w from by rw [e]; exact Out.refl HDK.out)
      clear e CU SY
      go_enter Tryz.func58, Tryz.ntmps58
      go_wp2_with fail
      refine NA.out.mono ?_
      rintro e w1 ⟨rfl, rfl⟩
      go_wp2_with fail
      refine SU.out.mono ?_
      rintro e w2 ⟨rfl, rfl⟩
      go_wp2
      go_returns
      exact ⟨rfl, OO.out⟩
theorem flatS_le (fb : Nat → List Nat) : ∀ ns : List Nat, (ns.flatMap (says1 fb)).length ≤ (ns.map (fun n => (fb n).length)).sum
  | [] => Nat.zero_le _
  | n :: ns => by
    have h1 := flatS_le fb ns
    have h2 := takes_len (Rc.recs (fb n))
    have h4 : Rc.takes (Rc.recs (fb n)) ≤ (fb n).length := Rc.recsAt_takes _ 0 (fb n) (Nat.le_refl _)
    simp only [List.flatMap_cons, List.length_append, List.map_cons, List.sum_cons]
    have h3 : (says1 fb n).length = (Rc.recs (fb n)).length := List.length_map _
    omega
/-- How many bytes the records of the segment before the i-th take. -/
def tt (fb : Nat → List Nat) (ns : List Nat) (i : Nat) : Int := if i = 0 then 0 else ((Rc.takes (Rc.recs (fb ((ns[i - 1]?).getD 0))) : Nat) : Int)
theorem tt_up {fb : Nat → List Nat} {ns : List Nat} {i m : Nat} (h : ns[i]? = some m) : tt fb ns (i + 1) = ((Rc.takes (Rc.recs (fb m)) : Nat) : Int) := by
  unfold tt
  rw [if_neg (by omega), Nat.add_sub_cancel, h]
  rfl
theorem Says.box2 {W : World} {E q d : Nat} {v u : Value} {L : List (List Nat)} {vs : List Value} {a1 a2 a3 a4 : Int} (hr : W.ownsRow E 39 1 v vs.length vs) (hl : vs.length = L.length) (he : ∀ (i : Nat) u b, vs[i]? = some u → L[i]? = some b → Rc.Lies W u b) (hw : ∀ u ∈ vs, ∀ g, u.ownBlock = some g → E ≤ g)
    (hq : W.heap[q]? = some (.cells #[pv d, .int .i64 a1, .int .i64 a2, .int .i64 a3, .int .i64 a4] 74 (0, 0))) : ∃ vs : List Value, (W.setCell ⟨q, 4, none⟩ u).ownsRow E 39 1 v vs.length vs ∧ vs.length = L.length ∧ (∀ (i : Nat) x b, vs[i]? = some x → L[i]? = some b → Rc.Lies (W.setCell ⟨q, 4, none⟩ u) x b) ∧ ∀ u ∈ vs, ∀ g, u.ownBlock = some g → E ≤ g := by
  have oth : ∀ g, g ≠ q → (W.setCell ⟨q, 4, none⟩ u).heap[g]? = W.heap[g]? := fun g hne => Below.heap_setCell W ⟨q, 4, none⟩ u g (fun e => hne e)
  refine ⟨vs, row_at hr (fun g e => oth g (fun e2 => ?_)), hl, fun i x b hu hL => ?_, hw⟩
  · rcases hr.2 with ⟨q', _⟩ | ⟨g', cap, cur, q', hE, hg, _⟩
    · rw [q'] at e; cases e
    · rw [q'] at e
      have e : g' = g := by simpa [Value.ownBlock] using e
      subst e
      rw [e2, hq] at hg
      injection hg with hg
      injection hg with _ hg _
      cases hg
  · have hl := he i x b hu hL
    refine lies_apart hl (by simp [World.setCell]) (fun hn g e hgl => oth g (fun e2 => ?_))
    exact lies_box hl hn hq (fun j x => by
      match j with
      | 0 => simp
      | 1 => simp
      | 2 => simp
      | 3 => simp
      | 4 => simp
      | j + 5 => simp) (by rw [← e2]; exact e)
theorem says_far {W W' : World} {E : Nat} {v : Value} {L : List (List Nat)} {P : Nat → Prop} (h : ∃ vs : List Value, W.ownsRow E 39 1 v vs.length vs ∧ vs.length = L.length ∧ (∀ (i : Nat) x b, vs[i]? = some x → L[i]? = some b → Rc.Lies W x b) ∧ ∀ u ∈ vs, ∀ g, u.ownBlock = some g → E ≤ g) (hf : Far P W W') (hP : ∀ k, P k → k < E) (h39 : ∀ k cs, W.heap[k]? = some (.cells cs 39 (0, 0)) → ¬ P k) : Says W' E v L := by
  obtain ⟨vs, h1, h2, h3, h4⟩ := h
  refine ⟨vs, hf.row h1 (fun j e hj => ?_), h2, fun i x b hx hb => ?_⟩
  · obtain ⟨cs, hc⟩ := own39 h1 e
    exact h39 j cs hc hj
  · refine lies_apart (h3 i x b hx hb) hf.size (fun hn g e hgl => hf.block g hgl (fun hg => ?_))
    have := h4 x (List.mem_of_getElem? hx) g e
    have := hP g hg
    omega
namespace Tn
/-- What stands between two rounds: L is what was told by the segments before, ms the marks of their loops. -/
structure RL (w : World) (lo E k : Nat) (L : List (List Nat)) (rs : List (Nat × List Nat)) (ms : List Nat) (i : Nat) (vs : List Value) (ov : Value) (W : World) : Prop where
  b1 : W.heap[k]? = some (.cells #[ov] 30 (0, 0))
  row : W.ownsRow w.heap.size 39 1 ov vs.length vs
  away : ∀ g, ov.ownBlock = some g → g < lo ∨ E ≤ g
  len : vs.length = L.length + i
  each : ∀ (j : Nat) u p, vs[j]? = some u → (L ++ rs.map (·.2))[j]? = some p → Rc.Lies W u p ∧ (p ≠ [] → ∀ g, u.ownBlock = some g → ov.ownBlock ≠ some g)
  b2 : W.heap[k + 1]? = some (.cells #[.int .i64 ((Rc.takes (rs.take i) : Nat) : Int)] 3 (0, 0))
  bel : Below w.heap.size w W
  size : E ≤ W.heap.size
  mks : ∀ D ∈ ms, w.heap.size ≤ D ∧ D < lo ∧ W.heap[D]? = some (.deferred (some []))
  low : ∀ u ∈ vs, ∀ g, u.ownBlock = some g → w.heap.size ≤ g
def RM (w : World) (lo E k : Nat) (L : List (List Nat)) (rs : List (Nat × List Nat)) (ms : List Nat) (i : Nat) (W : World) : Prop := ∃ vs ov, RL w lo E k L rs ms i vs ov W
theorem RM.own {w : World} {lo E k B : Nat} {L : List (List Nat)} {rs : List (Nat × List Nat)} {ms : List Nat} (hB : w.heap.size ≤ B) (hlo : lo ≤ B) : OwnFrom B (RM w lo E k L rs ms) := by
  intro i W W' row h hg hr
  obtain ⟨vs, ov, h⟩ := h
  have nb : ∀ {g : Nat} {cs : Array Value} {t : TypeId} {fr : Nat × Nat}, W.heap[g]? = some (.cells cs t fr) → W'.heap[g]? = some (.cells cs t fr) := fun {g cs t fr} hb => (hg.block g (lt_of_block hb) (fun e => by
    obtain ⟨_, o, ho, hc⟩ := hr _ e.symm
    rw [hb] at ho
    cases ho
    cases hc)).trans hb
  refine ⟨vs, ov, nb h.b1, ?_, h.away, h.len, fun j u p hu hp => ⟨lies_keptN (h.each j u p hu hp).1 hg (fun g e => .inr (hr g e).2), (h.each j u p hu hp).2⟩, nb h.b2, h.bel.grown hg h.bel.size (fun g e => Nat.le_trans hB (hr g e).1), Nat.le_trans h.size hg.size, fun D hD => ?_, h.low⟩
  · refine ⟨h.row.1, ?_⟩
    rcases h.row.2 with q | ⟨g, cap, cur, rfl, hE, hb, q⟩
    · exact .inl q
    · exact .inr ⟨g, cap, cur, rfl, hE, nb hb, q⟩
  · obtain ⟨m1, m2, m3⟩ := h.mks D hD
    exact ⟨m1, m2, (hg.block D (Array.getElem?_eq_some_iff.1 m3).1 (fun e => by have := (hr D e.symm).1; omega)).trans m3⟩
theorem RL.push {w : World} {E k lo : Nat} {L : List (List Nat)} {ms : List Nat} {rs : List (Nat × List Nat)} {i : Nat} {vs : List Value} {ov v' : Value} {W W3 : World} {a : Option Addr} {c : Nat} {p : Nat × List Nat} {t : Int} (h : RL w lo E k L rs ms i vs ov W) (hp : rs[i]? = some p) (hk : w.heap.size ≤ k) (hkl : k + 1 < lo) (hwE : w.heap.size ≤ E) (hloE : lo ≤ E)
    (hL : Rc.Lies W (.slice a p.2.length c) p.2) (hfr : ∀ ad, a = some ad → ov.ownBlock ≠ some ad.block) (hlow : ∀ ad, a = some ad → w.heap.size ≤ ad.block) (ho : W3.ownsRow w.heap.size 39 1 v' (vs ++ [Value.slice a p.2.length c]).length (vs ++ [Value.slice a p.2.length c])) (hg : (W.alloc (.cells #[.slice a p.2.length c] 39)).grownBy W3 ov.ownBlock)
    (hs : Sprung (W.alloc (.cells #[.slice a p.2.length c] 39)) ov v') (ht : t = ((Rc.takes (rs.take (i + 1)) : Nat) : Int)) :
    W3.heap[k]? = some (.cells #[ov] 30 (0, 0)) ∧ (W3.setCell ⟨k, 0, none⟩ v').heap[k + 1]? = some (.cells #[.int .i64 ((Rc.takes (rs.take i) : Nat) : Int)] 3 (0, 0)) ∧
    RM w lo E k L rs ms (i + 1) ((W3.setCell ⟨k, 0, none⟩ v').setCell ⟨k + 1, 0, none⟩ (.int .i64 t)) ∧ Rc.KeepRow lo E W ((W3.setCell ⟨k, 0, none⟩ v').setCell ⟨k + 1, 0, none⟩ (.int .i64 t)) ∧ KeepsOthers W ((W3.setCell ⟨k, 0, none⟩ v').setCell ⟨k + 1, 0, none⟩ (.int .i64 t)) := by
  have hB := vstep W (.cells #[.slice a p.2.length c] 39)
  obtain ⟨W2, hW2⟩ : ∃ z, W.alloc (.cells #[.slice a p.2.length c] 39) = z := ⟨_, rfl⟩
  have hK0 := KeepsOthers.alloc W (.cells #[.slice a p.2.length c] 39)
  rw [hW2] at hB hg hs hK0
  have hr2 : W2.ownsRow w.heap.size 39 1 ov vs.length vs := own_belowK h.row hB
  have own39 : ∀ g, ov.ownBlock = some g → w.heap.size ≤ g ∧ ∃ cs, W2.heap[g]? = some (.cells cs 39 (0, 0)) := by
    intro g hg'
    rcases hr2.2 with ⟨rfl, _⟩ | ⟨g', cap, cur, rfl, hE, hb, _⟩
    · cases hg'
    · have : g' = g := by simpa [Value.ownBlock] using hg'
      subst this
      exact ⟨hE, cur, hb⟩
  have nb : ∀ {g : Nat} {cs : Array Value} {t : TypeId} {fr : Nat × Nat}, W.heap[g]? = some (.cells cs t fr) → t ≠ 39 → W3.heap[g]? = some (.cells cs t fr) := fun {g cs t fr} hb ht => by
    have hb2 := (hB.block g (lt_of_block hb)).trans hb
    refine (hg.block g (lt_of_block hb2) (fun e => ?_)).trans hb2
    obtain ⟨_, cs', h'⟩ := own39 g e.symm
    rw [hb2] at h'
    injection h' with h'
    injection h' with _ h' _
    exact ht h'
  have q1 := nb h.b1 (by decide)
  have q2 := nb h.b2 (by decide)
  have hkk : k + 1 ≠ k := by omega
  have s1 : (W3.setCell ⟨k, 0, none⟩ v').heap[k]? = some (.cells #[v'] 30 (0, 0)) := row_setC (j := 0) q1
  have s2 : (W3.setCell ⟨k, 0, none⟩ v').heap[k + 1]? = _ := (Below.heap_setCell W3 ⟨k, 0, none⟩ v' (k + 1) (by show ¬ (k + 1 = k); omega)).trans q2
  have s3 := row_setC (j := 0) (u := .int .i64 t) s2
  have s4 : ((W3.setCell ⟨k, 0, none⟩ v').setCell ⟨k + 1, 0, none⟩ (.int .i64 t)).heap[k]? = _ := (Below.heap_setCell (W3.setCell ⟨k, 0, none⟩ v') ⟨k + 1, 0, none⟩ (.int .i64 t) k (by show ¬ (k = k + 1); omega)).trans s1
  have oth : ∀ g, g ≠ k → g ≠ k + 1 → ((W3.setCell ⟨k, 0, none⟩ v').setCell ⟨k + 1, 0, none⟩ (.int .i64 t)).heap[g]? = W3.heap[g]? := fun g e1 e2 =>
    (Below.heap_setCell (W3.setCell ⟨k, 0, none⟩ v') ⟨k + 1, 0, none⟩ (.int .i64 t) g (by show ¬ (g = k + 1); exact e2)).trans (Below.heap_setCell W3 ⟨k, 0, none⟩ v' g (by show ¬ (g = k); exact e1))
  have hE3 : E ≤ W3.heap.size := Nat.le_trans h.size (Nat.le_trans hB.size hg.size)
  have hk3 := lt_of_block q1
  have hk4 := lt_of_block q2
  have set2 : ∀ {u : Value} {bs : List Nat}, Rc.Lies W3 u bs → (bs ≠ [] → u.ownBlock ≠ some k ∧ u.ownBlock ≠ some (k + 1)) → Rc.Lies ((W3.setCell ⟨k, 0, none⟩ v').setCell ⟨k + 1, 0, none⟩ (.int .i64 t)) u bs := by
    intro u bs hl hne
    obtain ⟨ao, cap, rfl, l1, l2, l3, l4⟩ := hl
    refine ⟨ao, cap, rfl, l1, l2, l3, fun b hb hn => ?_⟩
    obtain ⟨g, o, rfl, hgl, hc⟩ := l4 b hb hn
    have := hne hn
    rw [hb] at this
    have e1 : g ≠ k := fun e => this.1 (by rw [e]; rfl)
    have e2 : g ≠ k + 1 := fun e => this.2 (by rw [e]; rfl)
    exact ⟨g, o, rfl, by simpa [World.setCell] using hgl, fun j x hj => (World.cell?_of_block (a := ⟨g, o + j, none⟩) (oth g e1 e2)).trans (hc j x hj)⟩
  -- bytes do not lie in the boxes
  have nbox : ∀ {u : Value} {bs : List Nat}, Rc.Lies W u bs → bs ≠ [] → u.ownBlock ≠ some k ∧ u.ownBlock ≠ some (k + 1) := by
    intro u bs hl hne
    obtain ⟨ao, cap, rfl, l1, l2, l3, l4⟩ := hl
    cases ao with
    | none => exact absurd (l3 rfl).1 hne
    | some b =>
      obtain ⟨g, o, rfl, hgl, hc⟩ := l4 b rfl hne
      have hpos : 0 < bs.length := by cases bs with | nil => exact absurd rfl hne | cons => simp
      have hc0 := hc 0 bs[0] (List.getElem?_eq_getElem hpos)
      have tell : ∀ (g' : Nat) (cv : Value) (t' : TypeId), W.heap[g']? = some (.cells #[cv] t' (0, 0)) → (∀ x : Int, cv ≠ .int .u8 x) → g ≠ g' := fun g' cv t' hb hcv e => by
        subst e
        rw [cell_of_row _ _ _ _ _ _ hb] at hc0
        have h0 : o + 0 = 0 := by
          have := (Array.getElem?_eq_some_iff.1 hc0).1
          simp at this
          omega
        rw [h0] at hc0
        simp at hc0
        exact hcv _ hc0
      refine ⟨fun e => ?_, fun e => ?_⟩
      · have e : g = k := by simpa [Value.ownBlock] using e
        refine tell k ov 30 h.b1 (fun x hx => ?_) e
        rcases h.row.2 with ⟨q, _⟩ | ⟨_, _, _, q, _⟩ <;> (rw [q] at hx; cases hx)
      · have e : g = k + 1 := by simpa [Value.ownBlock] using e
        exact tell (k + 1) _ 3 h.b2 (fun x hx => by cases hx) e
  have keep : ∀ {u : Value} {bs : List Nat}, Rc.Lies W u bs → (bs ≠ [] → ∀ g, u.ownBlock = some g → ov.ownBlock ≠ some g) → Rc.Lies ((W3.setCell ⟨k, 0, none⟩ v').setCell ⟨k + 1, 0, none⟩ (.int .i64 t)) u bs := by
    intro u bs hl hne
    exact set2 (lies_keptN (hl.later hB) hg (fun g e => .inl (fun hn e2 => hne hn g e2 e))) (nbox hl)
  have newB : ∀ {u : Value} {bs : List Nat}, Rc.Lies W u bs → (bs ≠ [] → ∀ g, u.ownBlock = some g → ov.ownBlock ≠ some g) → bs ≠ [] → ∀ g, u.ownBlock = some g → v'.ownBlock ≠ some g := by
    intro u bs hl hne hn g hu hv
    rcases hs with hs | ⟨z, hs, hz⟩
    · exact hne hn g hu (hs ▸ hv)
    · rw [hs] at hv
      injection hv with hv
      subst hv
      obtain ⟨ao, cap, rfl, l1, l2, l3, l4⟩ := hl
      cases ao with
      | none => cases hu
      | some b =>
        obtain ⟨g', o, rfl, hgl, _⟩ := l4 b rfl hn
        have : g' = z := by simpa [Value.ownBlock] using hu
        have := hB.size
        omega
  have hLn : p.2 ≠ [] → ∀ g, (Value.slice a p.2.length c).ownBlock = some g → ov.ownBlock ≠ some g := fun _ g e => by
    cases a with
    | none => cases e
    | some ad =>
      have e : ad.block = g := by simpa [Value.ownBlock] using e
      subst e
      exact hfr ad rfl
  have hbelow : Below w.heap.size w ((W3.setCell ⟨k, 0, none⟩ v').setCell ⟨k + 1, 0, none⟩ (.int .i64 t)) := by
    have hb2 : Below w.heap.size w W2 := h.bel.trans (hB.mono h.bel.size)
    have hb3 : Below w.heap.size w W3 := hb2.grown hg hb2.size (fun g e => (own39 g e).1)
    exact (hb3.setCell (p := ⟨k, 0, none⟩) hk _).setCell (p := ⟨k + 1, 0, none⟩) (by show w.heap.size ≤ k + 1; omega) _
  have hlow2 : ∀ u ∈ vs ++ [Value.slice a p.2.length c], ∀ g, u.ownBlock = some g → w.heap.size ≤ g := fun u hu g e => by
    rcases List.mem_append.1 hu with hu | hu
    · exact h.low u hu g e
    · rw [List.mem_singleton.1 hu] at e
      cases a with
      | none => cases e
      | some ad =>
        have e : ad.block = g := by simpa [Value.ownBlock] using e
        subst e
        exact hlow ad rfl
  refine ⟨q1, s2, ⟨vs ++ [Value.slice a p.2.length c], v', s4, ?_, ?_, by rw [List.length_append, h.len]; rfl, ?_, by rw [← ht]; exact s3, hbelow, by simpa [World.setCell] using hE3, ?_, hlow2⟩, ?_, ?_⟩
  · refine ⟨ho.1, ?_⟩
    rcases ho.2 with q | ⟨g, cap, cur, e, hE, hb, q⟩
    · exact .inl q
    · refine .inr ⟨g, cap, cur, e, hE, (oth g (fun e1 => ?_) (fun e1 => ?_)).trans hb, q⟩
      · subst e1
        rw [q1] at hb
        injection hb with hb
        injection hb with _ hb _
        cases hb
      · subst e1
        rw [q2] at hb
        injection hb with hb
        injection hb with _ hb _
        cases hb
  · intro g e
    rcases hs with hs | ⟨z, hs, hz⟩
    · exact h.away g (hs ▸ e)
    · rw [hs] at e
      injection e with e
      have := hB.size
      have := h.size
      omega
  · intro j u pj hu hpj
    by_cases hj : j < vs.length
    · rw [List.getElem?_append_left hj] at hu
      obtain ⟨e1, e2⟩ := h.each j u pj hu hpj
      exact ⟨keep e1 e2, newB e1 e2⟩
    · have hj2 : j = vs.length := by
        have := (List.getElem?_eq_some_iff.1 hu).1
        simp at this
        omega
      subst hj2
      rw [List.getElem?_append_right (Nat.le_refl _), Nat.sub_self] at hu
      have hu : Value.slice a p.2.length c = u := by simpa using hu
      rw [h.len, List.getElem?_append_right (Nat.le_add_right _ _), Nat.add_sub_cancel_left, List.getElem?_map, hp] at hpj
      injection hpj with hpj
      subst hu hpj
      exact ⟨keep hL hLn, newB hL hLn⟩
  · intro D hD
    obtain ⟨m1, m2, m3⟩ := h.mks D hD
    have m4 := (hB.block D (Array.getElem?_eq_some_iff.1 m3).1).trans m3
    have m5 := (hg.block D (Array.getElem?_eq_some_iff.1 m4).1 (fun e => by
      obtain ⟨_, cs, hb⟩ := own39 D e.symm
      rw [m4] at hb
      cases hb)).trans m4
    refine ⟨m1, m2, (oth D (fun e => ?_) (fun e => ?_)).trans m5⟩
    · subst e; rw [q1] at m5; cases m5
    · subst e; rw [q2] at m5; cases m5
  · intro g hg1 hg2 o ho' hc
    have e1 := (hB.block g (Array.getElem?_eq_some_iff.1 ho').1).trans ho'
    have e2 := (hg.block g (Array.getElem?_eq_some_iff.1 e1).1 (fun e => by have := h.away g e.symm; omega)).trans e1
    exact (oth g (by omega) (by omega)).trans e2
  · exact ((hK0.trans (KeepsOthers.of_grownBy hg (fun j o e hj => by
      obtain ⟨_, cs, hb⟩ := own39 j e
      rw [hb] at hj
      injection hj with hj
      subst hj
      rfl))).trans (KeepsOthers.setCell _ _ _)).trans (KeepsOthers.setCell _ _ _)theorem RL.says {w : World} {lo E k : Nat} {L : List (List Nat)} {rs : List (Nat × List Nat)} {ms : List Nat} {vs : List Value} {ov : Value} {W : World} (h : RL w lo E k L rs ms rs.length vs ov W) : Says W w.heap.size ov (L ++ rs.map (·.2)) :=
  ⟨vs, h.row, by rw [h.len, List.length_append, List.length_map], fun i u b hu hL => (h.each i u b hu hL).1⟩structure RHd (w : World) (k : Nat) (L : List (List Nat)) (ms : List Nat) (vs : List Value) (ov : Value) (x : Int) (W : World) : Prop where
  b1 : W.heap[k]? = some (.cells #[ov] 30 (0, 0))
  row : W.ownsRow w.heap.size 39 1 ov vs.length vs
  len : vs.length = L.length
  each : ∀ (j : Nat) u p, vs[j]? = some u → L[j]? = some p → Rc.Lies W u p ∧ (p ≠ [] → ∀ g, u.ownBlock = some g → ov.ownBlock ≠ some g)
  b2 : W.heap[k + 1]? = some (.cells #[.int .i64 x] 3 (0, 0))
  bel : Below w.heap.size w W
  mks : ∀ D ∈ ms, w.heap.size ≤ D ∧ W.heap[D]? = some (.deferred (some []))
  low : ∀ u ∈ vs, ∀ g, u.ownBlock = some g → w.heap.size ≤ g
theorem RHd.step {w W W' : World} {k : Nat} {L : List (List Nat)} {ms : List Nat} {vs : List Value} {ov : Value} {x : Int} (h : RHd w k L ms vs ov x W) (hb : Below W.heap.size W W') : RHd w k L ms vs ov x W' :=
  ⟨(hb.block _ (lt_of_block h.b1)).trans h.b1, own_belowK h.row hb, h.len, fun j u p hu hp => ⟨(h.each j u p hu hp).1.later hb, (h.each j u p hu hp).2⟩, (hb.block _ (lt_of_block h.b2)).trans h.b2, h.bel.trans (hb.mono h.bel.size),
   fun D hD => ⟨(h.mks D hD).1, (hb.block _ (Array.getElem?_eq_some_iff.1 (h.mks D hD).2).1).trans (h.mks D hD).2⟩, h.low⟩
theorem RHd.zero {w W : World} {k : Nat} {L : List (List Nat)} {ms : List Nat} {vs : List Value} {ov : Value} {x : Int} (h : RHd w k L ms vs ov x W) (hk : w.heap.size ≤ k + 1) : RHd w k L ms vs ov 0 (W.setCell ⟨k + 1, 0, none⟩ (.int .i64 0)) := by
  have oth : ∀ g, g ≠ k + 1 → (W.setCell ⟨k + 1, 0, none⟩ (.int .i64 0)).heap[g]? = W.heap[g]? := fun g hne => Below.heap_setCell W ⟨k + 1, 0, none⟩ (.int .i64 0) g (fun e => hne e)
  refine ⟨(oth k (by omega)).trans h.b1, row_at h.row (fun g e => oth g (fun e2 => ?_)), h.len, fun j u p hu hp => ⟨?_, (h.each j u p hu hp).2⟩, row_setC (j := 0) h.b2, h.bel.setCell (p := ⟨k + 1, 0, none⟩) hk _, fun D hD => ⟨(h.mks D hD).1, (oth D (fun e => ?_)).trans (h.mks D hD).2⟩, h.low⟩
  · rcases h.row.2 with ⟨q', _⟩ | ⟨g', cap, cur, q', hE, hg, _⟩
    · rw [q'] at e; cases e
    · rw [q'] at e
      have e : g' = g := by simpa [Value.ownBlock] using e
      subst e
      rw [e2, h.b2] at hg
      injection hg with hg
      injection hg with _ hg _
      cases hg
  · refine lies_apart (h.each j u p hu hp).1 (by simp [World.setCell]) (fun hn g e hgl => oth g (fun e2 => ?_))
    exact lies_box (h.each j u p hu hp).1 hn h.b2 (fun j x => by
      match j with
      | 0 => simp
      | j + 1 => simp) (by rw [← e2]; exact e)
  · have := (h.mks D hD).2
    rw [e, h.b2] at this
    cases this
theorem RHd.rl {w W W' : World} {k : Nat} {L : List (List Nat)} {rs : List (Nat × List Nat)} {ms : List Nat} {vs : List Value} {ov : Value} (h : RHd w k L ms vs ov 0 W) (hb : Below W.heap.size W W') : RL w W.heap.size W'.heap.size k L rs ms 0 vs ov W' := by
  have H := h.step hb
  refine ⟨H.b1, H.row, fun g e => ?_, by rw [H.len]; rfl, fun j u p hu hp => ?_, H.b2, H.bel, Nat.le_refl _, fun D hD => ⟨(H.mks D hD).1, (Array.getElem?_eq_some_iff.1 (h.mks D hD).2).1, (H.mks D hD).2⟩, h.low⟩
  · rcases h.row.2 with ⟨q', _⟩ | ⟨g', cap, cur, q', hE, hg, _⟩
    · rw [q'] at e; cases e
    · rw [q'] at e
      have e : g' = g := by simpa [Value.ownBlock] using e
      subst e
      exact .inl (lt_of_block hg)
  · have hj : j < L.length := by rw [← H.len]; exact (List.getElem?_eq_some_iff.1 hu).1
    rw [List.getElem?_append_left hj] at hp
    exact H.each j u p hu hp
theorem RL.hd {w : World} {lo E k D : Nat} {L : List (List Nat)} {rs : List (Nat × List Nat)} {ms : List Nat} {vs : List Value} {ov : Value} {W : World} (h : RL w lo E k L rs ms rs.length vs ov W) (hD : W.heap[D]? = some (.deferred (some []))) (hw : w.heap.size ≤ D) :
    RHd w k (L ++ rs.map (·.2)) (D :: ms) vs ov ((Rc.takes rs : Nat) : Int) W := by
  refine ⟨h.b1, h.row, by rw [h.len, List.length_append, List.length_map], h.each, ?_, h.bel, fun D' hD' => ?_, h.low⟩
  · have := h.b2
    rw [List.take_length] at this
    exact this
  · rcases List.mem_cons.1 hD' with rfl | e
    · exact ⟨hw, hD⟩
    · exact ⟨(h.mks D' e).1, (h.mks D' e).2.2⟩end Tn
open Tn
attribute [local go_sem] Oper.semAt_some
set_option maxHeartbeats 12800000 in
theorem read_gen (n : Nat) (hn : 4 ≤ n) (w : World) (B q d : Nat) (s : DS) (most f sz : Int) (l : Nat) (h : JK w B q d s most f (l : Int) sz) (fb : Nat → List Nat) (ns : List Nat) (N : Nat) (hN : ns.length = N) (hN1 : 1 ≤ N) (hNb : N ≤ 1000) (hlast : ns[N - 1]? = some l) (hr : ∀ m ∈ ns, 1 ≤ m ∧ m < 100)
    (hf : ∀ m ∈ ns, fnd s (sg m) = 0 ∧ (fval s (sg m)).b = bi (fb m)) (hb : ∀ m ∈ ns, Rc.Byt (fb m)) (htot : (ns.map (fun m => (fb m).length)).sum ≤ 45000) (hw : ∀ m ∈ ns, m < l → Rc.takes (Rc.recs (fb m)) = (fb m).length) (hle : ∀ m ∈ ns, m ≤ l) (har : s.ar = false) (hll : s.l.length < 100000) (hfs : ∀ x ∈ s.l, x.b.length ≤ 100000000)
    (g cap : Nat) (hg : ∀ (i m : Nat), ns[i]? = some m → w.cell? ⟨g, i, none⟩ = some (.int .i64 (m : Int))) :
    CallsIn Fence.wide n Tryz.prog 39 #[.pointer (some ⟨q, 0, none⟩), .slice (some ⟨g, 0, none⟩) N cap] w fun e w' => ∃ v, e = .returned (.tuple #[v, .int .i64 0]) ∧ Says w' w.heap.size v (ns.flatMap (says1 fb)) ∧ JK w' B q d { s with l := setF s.l (cutF (fval s (sg l)) (Rc.takes (Rc.recs (fb l)))) } most f l ((Rc.takes (Rc.recs (fb l)) : Nat) : Int) ∧ Far (Lh d s q) w w' := by
  have h1 : 1 ≤ n := by omega
  have hro : Fence.wide.round = none := rfl
  obtain ⟨W0, hW0⟩ : ∃ z, (w.alloc (.cells #[.slice none 0 0] 30)).alloc (.cells #[.int .i64 0] 3) = z := ⟨_, rfl⟩
  have b1 := vstep w (.cells #[.slice none 0 0] 30)
  have b2 := vstep (w.alloc (.cells #[.slice none 0 0] 30)) (.cells #[.int .i64 0] 3)
  have n1 := heap_alloc_new w (.cells #[.slice none 0 0] 30)
  have n2 := heap_alloc_new (w.alloc (.cells #[.slice none 0 0] 30)) (.cells #[.int .i64 0] 3)
  have n1 := (b2.block _ (lt_of_block n1)).trans n1
  rw [World.size_alloc] at n2
  have B0 := Lib.hid (b1.trans (b2.mono b1.size))
  rw [hW0] at n1 n2 B0
  have N1 := Lib.hid n1
  have N2 := Lib.hid n2
  have HJ := Lib.hid h
  have HG := Lib.hid hg
  have HR := Lib.hid hr
  have HF := Lib.hid hf
  have HBY := Lib.hid hb
  have HTOT := Lib.hid htot
  have HWH := Lib.hid hw
  have HLE := Lib.hid hle
  have HAR := Lib.hid har
  have HLL := Lib.hid hll
  have HFS := Lib.hid hfs
  have HNL := Lib.hid hN
  have HN1 := Lib.hid hN1
  have HLA := Lib.hid hlast
  have HNB := Lib.hid hNb
  have HW := Lib.hid hW0
  have k2 : W0.cell? ⟨w.heap.size + 1, 0, none⟩ = some (.int .i64 0) := (cell_of_row _ _ _ _ _ _ N2.out).trans rfl
  have z2 : W0.frozen? ⟨w.heap.size + 1, 0, none⟩ = false := frozen_of_row _ _ _ _ _ N2.out
  obtain ⟨I, hI⟩ : ∃ I : Act → World → Prop, I = fun a W => ∃ (i : Nat) (ms : List Nat) (vs : List Value) (ov : Value) (u2 u3 u9 u10 u11 u12 u13 u14 u18 u19 u20 u21 u22 u23 u24 u25 u26 u27 u28 u29 u30 u31 u32 u33 u34 u35 u36 u37 u38 u39 u40 u41 u42 u43 u44 u45 u46 u47 u48 u49 u50 u51 u52 u53 u54 u55 u56 u57 u58 u59 u60 u61 u62 u63 u64 u65 u66 u67 u68 : Value), a = { tmps := #[.pointer (some ⟨q, 0, none⟩), .slice (some ⟨g, 0, none⟩) N cap, u2, u3, .slice none 0 0, .int .i64 0, .pointer (some ⟨w.heap.size, 0, none⟩), .int .i64 (ll fb ns i), .pointer (some ⟨w.heap.size + 1, 0, none⟩), u9, u10, u11, u12, u13, u14, .slice (some ⟨g, 0, none⟩) N cap, .int .i64 (N : Int), .int .i64 (i : Int), u18, u19, u20, u21, u22, u23, u24, u25, u26, u27, u28, u29, u30, u31, u32, u33, u34, u35, u36, u37, u38, u39, u40, u41, u42, u43, u44, u45, u46, u47, u48, u49, u50, u51, u52, u53, u54, u55, u56, u57, u58, u59, u60, u61, u62, u63, u64, u65, u66, u67, u68], defers := ms.map mkd } ∧ i ≤ N ∧ ms.Nodup ∧ Tn.RHd w w.heap.size ((ns.take i).flatMap (says1 fb)) ms vs ov (tt fb ns i) W := ⟨_, rfl⟩
  have HI := Lib.hid hI
  have I0 := Lib.hid (show Tn.RHd w w.heap.size [] [] [] (.slice none 0 0) 0 W0 from ⟨N1.out, World.ownsRow_nil _ _ _ _, rfl, fun j u p hu _ => (by simp at hu), N2.out, B0.out, (fun D hD => by cases hD), (fun u hu => by cases hu)⟩)
  clear b1 b2 n1 n2 hW0 h hg hr hf hb htot hw hle har hll hfs hN hN1 hNb hlast hI
  refine callsIn_of_wp_marks Tryz.func39 rfl trivial ?_ hro
  simp only [Tryz.ntmps39, List.size_toArray, List.length_cons, List.length_nil, Nat.reduceAdd, Nat.reduceSub, Array.replicate_succ, Array.replicate_zero, List.push_toArray, List.append_toArray, List.nil_append, List.cons_append]
  gi_wp2_with fail
  rw [HW.out]
  have SS : W0.setCell ⟨w.heap.size + 1, 0, none⟩ (.int .i64 0) = W0 := by
    have := setRow_self W0 (w.heap.size + 1) #[.int .i64 0] 3 (0, 0) N2.out
    rw [setCell_eq_setRow W0 (w.heap.size + 1) 0 #[.int .i64 0] 3 (0, 0) (.int .i64 0) N2.out]
    exact this
  try rw [SS]
  clear SS k2 z2
  refine wpIn_loop I (muN N) ?h0 ?round
  case h0 =>
    rw [HI.out]
    exact ⟨0, [], [], .slice none 0 0, _, _, _, _, _, _, _, _, _, _, _, _, _, _, _, _, _, _, _, _, _, _, _, _, _, _, _, _, _, _, _, _, _, _, _, _, _, _, _, _, _, _, _, _, _, _, _, _, _, _, _, _, _, _, _, _, _, _, _, rfl, Nat.zero_le _, List.nodup_nil, I0.out⟩
  case round =>
    intro a W hIa
    rw [HI.out] at hIa
    obtain ⟨i, ms, vs, ov, u2, u3, u9, u10, u11, u12, u13, u14, u18, u19, u20, u21, u22, u23, u24, u25, u26, u27, u28, u29, u30, u31, u32, u33, u34, u35, u36, u37, u38, u39, u40, u41, u42, u43, u44, u45, u46, u47, u48, u49, u50, u51, u52, u53, u54, u55, u56, u57, u58, u59, u60, u61, u62, u63, u64, u65, u66, u67, u68, rfl, hiN, hnd, hH⟩ := hIa
    have HH := Lib.hid hH
    have HND := Lib.hid hnd
    have JW := Lib.hid (HJ.out.step HH.out.bel)
    clear hH hnd I0
    by_cases hlt : i < N
    · have hltI : (i : Int) < (N : Int) := by omega
      obtain ⟨m, hm⟩ : ∃ m, ns[i]? = some m := ⟨_, List.getElem?_eq_getElem (by rw [HNL.out]; exact hlt)⟩
      have HM := Lib.hid hm
      have MM := Lib.hid (List.mem_of_getElem? hm)
      have gi : W.cell? ⟨g, i, none⟩ = some (.int .i64 (m : Int)) := (HH.out.bel.cell (p := ⟨g, i, none⟩) (World.block_lt_of_cell? w _ (HG.out i m hm))).trans (HG.out i m hm)
      have NA := Lib.hid (fun W => callsIn_wide (n := n - 1).2 (name_any W m (HR.out m MM.out).2 (HR.out m MM.out).1))
      have RD := Lib.hid (fun W1 (hb : Below W.heap.size W W1) => callsIn_wide (n := n - 1).2 (read_any W1 B d s (JW.out.dk.step hb) (Nat.le_trans JW.out.size hb.size) (sg m) (by have := sg_size (HR.out m MM.out).2; unfold maxLen; omega) HFS.out))
      rw [(HF.out m MM.out).1, (HF.out m MM.out).2, bi_flat, bi_len] at RD
      have c0 : W.cell? ⟨q, 0, none⟩ = some (pv d) := (cell_of_row _ _ _ _ _ _ JW.out.box).trans rfl
      have HLT := Lib.hid hlt
      clear hm
      gi_wp2_with fail
      refine wpIn_mono (Q := fun ex a' w' => match ex with
        | .normal => ∃ ra rc, a' = { tmps := #[.pointer (some ⟨q, 0, none⟩), .slice (some ⟨g, 0, none⟩) N cap, u2, u3, .slice none 0 0, .int .i64 0, .pointer (some ⟨w.heap.size, 0, none⟩), .int .i64 (ll fb ns i), .pointer (some ⟨w.heap.size + 1, 0, none⟩), u9, .int .i64 (m : Int), .slice ra (fb m).length rc, .int .i64 0, u13, u14, .slice (some ⟨g, 0, none⟩) N cap, .int .i64 (N : Int), .int .i64 (i : Int), .bool true, .pointer (some ⟨g, i, none⟩), .int .i64 (m : Int), .tuple #[.slice ra (fb m).length rc, .int .i64 0], .pointer (some ⟨q, 0, none⟩), .pointer (some ⟨q, 0, none⟩), .pointer (some ⟨q, 0, none⟩), pv d, .int .i64 (m : Int), .string (sg m), .tuple #[.slice ra (fb m).length rc, .int .i64 0], .slice ra (fb m).length rc, .int .i64 0, u31, u32, u33, u34, u35, u36, u37, u38, u39, u40, u41, u42, u43, u44, u45, u46, u47, u48, u49, u50, u51, u52, u53, u54, u55, u56, u57, u58, u59, u60, u61, u62, u63, u64, u65, u66, u67, u68], defers := ms.map mkd } ∧ Hid (w'.ownsRow W.heap.size 5 1 (.slice ra (fb m).length rc) (fb m).length (Rc.u8s (fb m)) ∧ Below W.heap.size W w')
        | _ => False) ?_ (fun ex a' w6 hp => ?_)
      · gi_region_with (first
          | (refine ⟨trivial, ?_⟩; refine (NA.out _).mono ?_; rintro e wz ⟨rfl, hwz⟩; subst hwz)
          | (refine ⟨trivial, ?_⟩; refine (RD.out _ (by first | exact Below.refl _ _ | exact (Below.refl _ _).drew)).mono ?_; rintro e w6 ⟨rv, rfl, ho6, hb6⟩; obtain ⟨ra, rc, rfl⟩ := own_shapeK ho6; have H6 := Lib.hid (show w6.ownsRow W.heap.size 5 1 (.slice ra (fb m).length rc) (fb m).length (Rc.u8s (fb m)) ∧ Below W.heap.size W w6 from ⟨ho6, by first | exact hb6 | exact (Below.refl W.heap.size W).drew.trans hb6⟩); clear ho6 hb6))
        all_goals exact ⟨ra, rc, rfl, H6⟩
      cases ex with
      | normal =>
        obtain ⟨ra, rc, rfl, H6⟩ := hp
        have H6' := Lib.hid (HH.out.step H6.out.2)
        have HZ := Lib.hid (H6'.out.zero (by omega))
        have k26 : w6.cell? ⟨w.heap.size + 1, 0, none⟩ = some (.int .i64 (tt fb ns i)) := (cell_of_row _ _ _ _ _ _ H6'.out.b2).trans rfl
        have z26 : w6.frozen? ⟨w.heap.size + 1, 0, none⟩ = false := frozen_of_row _ _ _ _ _ H6'.out.b2
        have WK := Lib.hid (show w.heap.size + 1 < W.heap.size from lt_of_block HH.out.b2)
        have LB := Lib.hid (show Rc.Lies (w6.setCell ⟨w.heap.size + 1, 0, none⟩ (.int .i64 0)) (.slice ra (fb m).length rc) (fb m) from Rc.lies_set_far (Rc.own_lies H6.out.1) (fun ad nn cc e => by
          rcases H6.out.1.2 with ⟨q', _⟩ | ⟨g', cap', cur, q', hE, hg, _⟩
          · rw [q'] at e; cases e
          · rw [q'] at e
            injection e with e _ _
            injection e with e
            subst e
            have := WK.out
            show g' ≠ w.heap.size + 1
            omega))
        have BZ := Lib.hid (show Below w.heap.size w (w6.setCell ⟨w.heap.size + 1, 0, none⟩ (.int .i64 0)) from HZ.out.bel)
        obtain ⟨wz, hwz⟩ : ∃ z, w6.setCell ⟨w.heap.size + 1, 0, none⟩ (.int .i64 0) = z := ⟨_, rfl⟩
        have ez : w6.heap.size = wz.heap.size := by rw [← hwz]; simp [World.setCell]
        rw [hwz] at HZ LB BZ
        have HWZ := Lib.hid hwz
        have EZ := Lib.hid ez
        have LEN := Lib.hid (show (fb m).length ≤ 45000 from Nat.le_trans (sum_mem (fun m => (fb m).length) ns m MM.out) HTOT.out)
        have ALL := Lib.hid (callsIn_wide (n := n - 1).2 (Rc.all_any wz _ (fb m) LB.out (by have := LEN.out; omega)))
        have kq := fun W => func_nil12 wz.heap.size W
        clear c0 gi NA RD hwz ez
        gi_wp2_with fail
        rw [HWZ.out]
        refine ⟨trivial, ?_⟩
        refine ALL.out.mono ?_
        rintro e w7 ⟨r, rfl, hc, hLI, hs7, hb7⟩
        have hRd : Rc.Rd wz.heap.size w7.heap.size wz.heap.size (fb m) w7 := ⟨Nat.le_refl _, hs7, r, hc, hLI⟩
        have B7 := Lib.hid (BZ.out.trans (hb7.mono BZ.out.size))
        have RL0 := Lib.hid (HZ.out.rl (rs := Rc.recs (fb m)) hb7)
        have I0 : Tn.RM w wz.heap.size w7.heap.size w.heap.size ((ns.take i).flatMap (says1 fb)) (Rc.recs (fb m)) ms 0 w7 := ⟨vs, ov, RL0.out⟩
        have Z7 := Lib.hid (show wz.heap.size < w7.heap.size from hs7)
        have WZK := Lib.hid (show w.heap.size + 1 < wz.heap.size from by have := WK.out; have := H6.out.2.size; have := EZ.out; omega)
        have TK := Lib.hid (HWH.out m MM.out)
        have TKL := Lib.hid (Rc.recsAt_takes _ 0 (fb m) (Nat.le_refl _))
        have BYM := Lib.hid (HBY.out m MM.out)
        have LL := Lib.hid (show ((ns.take i).flatMap (says1 fb)).length ≤ 45000 from Nat.le_trans (flatS_le fb (ns.take i)) (Nat.le_trans (sum_take (fun m => (fb m).length) ns i) HTOT.out))
        clear ALL k26 z26 hc hLI hs7 hb7
        gi_wp2_with fail
        clear kq
        refine Rc.range_all (by omega) BYM.out (by have := LEN.out; omega) rfl hRd rfl (Tn.RM w wz.heap.size w7.heap.size w.heap.size ((ns.take i).flatMap (says1 fb)) (Rc.recs (fb m)) ms) (Tn.RM.own B7.out.size (Nat.le_of_lt Z7.out)) I0
          (fun kk vv => { tmps := #[.pointer (some ⟨q, 0, none⟩), .slice (some ⟨g, 0, none⟩) N cap, u2, u3, .slice none 0 0, .int .i64 0, .pointer (some ⟨w.heap.size, 0, none⟩), .int .i64 ((fb m).length : Int), .pointer (some ⟨w.heap.size + 1, 0, none⟩), u9, .int .i64 (m : Int), .slice ra (fb m).length rc, .int .i64 0, .int .i64 (kk : Int), vv, .slice (some ⟨g, 0, none⟩) N cap, .int .i64 (N : Int), .int .i64 (i : Int), .bool true, .pointer (some ⟨g, i, none⟩), .int .i64 (m : Int), .tuple #[.slice ra (fb m).length rc, .int .i64 0], .pointer (some ⟨q, 0, none⟩), .pointer (some ⟨q, 0, none⟩), .pointer (some ⟨q, 0, none⟩), pv d, .int .i64 (m : Int), .string (sg m), .tuple #[.slice ra (fb m).length rc, .int .i64 0], .slice ra (fb m).length rc, .int .i64 0, .int .i64 0, .bool false, u33, .slice ra (fb m).length rc, .int .i64 ((fb m).length : Int), .slice ra (fb m).length rc, .func (.func 72) #[] #[.pointer (some ⟨wz.heap.size, 0, none⟩)], .int .i64 (kk : Int), vv, u40, u41, u42, u43, u44, u45, u46, u47, u48, u49, u50, u51, u52, u53, u54, u55, u56, u57, u58, u59, u60, u61, u62, u63, u64, u65, u66, u67, u68], defers := [] }) ?assign ?body ?done
        case assign =>
          intro l2 kk v W K hK
          gi_wp2
          exact hK
        case body =>
          rintro l2 j p ao c W00 W1 hI0 hKc hfr hI1 hget hL
          obtain ⟨vs1, ov1, R1⟩ := hI1
          obtain ⟨vs0, ov0, R0⟩ := hI0
          have eo : ov0 = ov1 := by
            have := hKc _ _ R0.b1 rfl
            rw [R1.b1] at this
            injection this with this
            injection this with this _ _
            simpa using this.symm
          subst eo
          have hfr2 : ∀ ad, ao = some ad → ov0.ownBlock ≠ some ad.block := fun ad e e2 => by
            have h1 := (R0.row.lt _ e2).2
            have h2 := hfr ad e
            omega
          obtain ⟨oa, oc, eov⟩ := own_shapeK R1.row
          have RR := Lib.hid R1
          have HLx := Lib.hid hL
          have HFR := Lib.hid hfr2
          have HLO := Lib.hid (show ∀ ad, ao = some ad → w.heap.size ≤ ad.block from fun ad e => Nat.le_trans R0.bel.size (hfr ad e))
          have HGT := Lib.hid hget
          have PA := Lib.hid (show p.1 = Rc.takes ((Rc.recs (fb m)).take j) from by have := rec_at _ 0 (fb m) j p hget; rw [Nat.zero_add] at this; exact this)
          have TS := Lib.hid (takes_snoc hget)
          have TL := Lib.hid (show Rc.takes ((Rc.recs (fb m)).take (j + 1)) ≤ 45000 from by
            have h1 := Rc.takes_append ((Rc.recs (fb m)).take (j + 1)) ((Rc.recs (fb m)).drop (j + 1))
            rw [List.take_append_drop] at h1
            have h9 := TKL.out
            rw [show Rc.takes (Rc.recsAt 0 (fb m)) = Rc.takes (Rc.recs (fb m)) from rfl] at h9
            have := LEN.out
            omega)
          have LV := Lib.hid (show vs1.length ≤ 100000 from by
            rw [R1.len]
            have h3 := takes_len ((Rc.recs (fb m)).take (j + 1))
            rw [List.length_take] at h3
            have h4 := (List.getElem?_eq_some_iff.1 hget).1
            have := TL.out
            have := LL.out
            omega)
          have SZC := Lib.hid (fun W => CallsIn.inRound l2 (callsIn_wide (n := n - 1 - 1 - 1).2 (Rc.size_nat W p.2.length (by have := TL.out; have := TS.out; omega))))
          have x0 : W1.cell? ⟨w.heap.size, 0, none⟩ = some ov0 := (cell_of_row _ _ _ _ _ _ R1.b1).trans rfl
          rw [eov] at x0
          have HX := Lib.hid (heap_alloc_new W1 (.cells #[.slice ao p.2.length c] 39))
          have OX := Lib.hid (own_belowK R1.row (vstep W1 (.cells #[.slice ao p.2.length c] 39)))
          have EX := Lib.hid (show w.heap.size ≤ (W1.alloc (.cells #[.slice ao p.2.length c] 39)).heap.size from Nat.le_trans R1.bel.size (vstep W1 _).size)
          have TV : ((p.1 : Int) + ((p.2.length : Int) + 8)) = ((Rc.takes ((Rc.recs (fb m)).take (j + 1)) : Nat) : Int) := by rw [TS.out, PA.out]; omega
          have HTV := Lib.hid TV
          clear hKc hfr hL hget R1 R0 hfr2 hRd I0 TV
          have hd1 : 1 ≤ n - 1 - 1 := by omega
          gi_wp2_with (first
            | (gi_at_builtin; go_loud (refine wpListIn_pushV rfl (.tmp 40) (.tmp 42) rfl w.heap.size ov0 vs1 (.slice ao p.2.length c) W1.heap.size (by rw [eov]; rfl) rfl HX.out rfl OX.out (by have := LV.out; omega) EX.out ?_; intro v3 W3 hown hgr hsp; have RP := Lib.hid (Tn.RL.push (t := (p.1 : Int) + ((p.2.length : Int) + 8)) RR.out HGT.out (Nat.le_refl _) WZK.out B7.out.size (Nat.le_of_lt Z7.out) HLx.out HFR.out HLO.out hown hgr hsp HTV.out); rw [show (vs1 ++ [Value.slice ao p.2.length c]).length = vs1.length + 1 from by simp] at hown; obtain ⟨va3, vc3, rfl⟩ := own_shapeK hown; have x3 := (cell_of_row _ _ _ _ _ _ RP.out.1).trans (show (#[ov0] : Array Value)[0]? = some ov0 from rfl); rw [eov] at x3; have f3 := frozen_of_row (j := 0) _ _ _ _ RP.out.1; have x4 := (cell_of_row _ _ _ _ _ _ RP.out.2.1).trans (show (#[Value.int .i64 ((Rc.takes ((Rc.recs (fb m)).take j) : Nat) : Int)] : Array Value)[0]? = some _ from rfl); have f4 := frozen_of_row (j := 0) _ _ _ _ RP.out.2.1; clear hown hgr hsp)))
          have hwv : wrap64 ((p.1 : Int) + ((p.2.length : Int) + 8)) = (p.1 : Int) + ((p.2.length : Int) + 8) := by
            have h1 := HTV.out
            have h2 := TL.out
            unfold wrap64
            omega
          have RQ := Lib.hid RP.out.2.2
          refine ⟨trivial, ?_⟩
          refine (SZC.out _).mono ?_
          rintro e W4 ⟨rfl, hW4⟩
          subst hW4
          gi_wp2
          exact ⟨RQ.out.2.2, RQ.out.2.1, RQ.out.1⟩
        case done =>
          rintro D W1 hD hI1 hK
          obtain ⟨vs1, ov1, R1⟩ := hI1
          have H1 := Lib.hid (show Tn.RHd w w.heap.size ((ns.take (i + 1)).flatMap (says1 fb)) (D :: ms) vs1 ov1 (tt fb ns (i + 1)) W1 from by
            have := R1.hd hK (Nat.le_trans B7.out.size hD)
            rw [flat_snoc HM.out, tt_up HM.out]
            exact this)
          have ND := Lib.hid (show (D :: ms).Nodup from List.nodup_cons.2 ⟨fun e => by have := (RL0.out.mks D e).2.1; have := Z7.out; omega, HND.out⟩)
          have EL := Lib.hid (ll_up (fb := fb) HM.out)
          have ET := Lib.hid (tt_up (fb := fb) HM.out)
          have J1 := Lib.hid (HJ.out.step H1.out.bel)
          have c3 : W1.cell? ⟨q, 3, none⟩ = some (.int .i64 (l : Int)) := (cell_of_row _ _ _ _ _ _ J1.out.box).trans rfl
          have y1 : W1.cell? ⟨w.heap.size + 1, 0, none⟩ = some (.int .i64 ((Rc.takes (Rc.recs (fb m)) : Nat) : Int)) := by rw [← ET.out]; exact (cell_of_row _ _ _ _ _ _ H1.out.b2).trans rfl
          have NL := Lib.hid (show N ≤ 100000 from Nat.le_trans HNB.out (by omega))
          have hwi : wrap64 ((i : Int) + 1) = ((i + 1 : Nat) : Int) := wrap_up HLT.out NL.out
          clear hRd I0 R1 hK
          by_cases hml : (m : Int) < (l : Int)
          · have hff : ¬ (((Rc.takes (Rc.recs (fb m)) : Nat) : Int) < ((fb m).length : Int)) := by have := TK.out (by omega); omega
            gi_wp2
            (rw [HI.out, ← EL.out]; refine ⟨⟨i + 1, D :: ms, vs1, ov1, _, _, _, _, _, _, _, _, _, _, _, _, _, _, _, _, _, _, _, _, _, _, _, _, _, _, _, _, _, _, _, _, _, _, _, _, _, _, _, _, _, _, _, _, _, _, _, _, _, _, _, _, _, _, _, _, _, _, _, rfl, HLT.out, ND.out, H1.out⟩, ?_⟩)
            (show N - (((i + 1 : Nat) : Int)).toNat < N - ((i : Int)).toNat; have := HLT.out; omega)
          · gi_wp2
            (rw [HI.out, ← EL.out]; refine ⟨⟨i + 1, D :: ms, vs1, ov1, _, _, _, _, _, _, _, _, _, _, _, _, _, _, _, _, _, _, _, _, _, _, _, _, _, _, _, _, _, _, _, _, _, _, _, _, _, _, _, _, _, _, _, _, _, _, _, _, _, _, _, _, _, _, _, _, _, _, _, rfl, HLT.out, ND.out, H1.out⟩, ?_⟩)
            (show N - (((i + 1 : Nat) : Int)).toNat < N - ((i : Int)).toNat; have := HLT.out; omega)
      | ret => exact hp.elim
      | exit id => exact hp.elim
      | goto t => exact hp.elim
      | panic ch => exact hp.elim
      | outgrown => exact hp.elim
    · have hge : ¬ ((i : Int) < (N : Int)) := by omega
      obtain rfl : i = N := by omega
      have LLN : ll fb ns i = ((fb l).length : Int) := by
        have := ll_up (fb := fb) HLA.out
        rwa [Nat.sub_add_cancel HN1.out] at this
      have H2 := HH.out
      have TTN : tt fb ns i = ((Rc.takes (Rc.recs (fb l)) : Nat) : Int) := by
        have := tt_up (fb := fb) HLA.out
        rwa [Nat.sub_add_cancel HN1.out] at this
      rw [TTN, List.take_of_length_le (by rw [HNL.out]; omega)] at H2
      rw [LLN]
      have HH2 := Lib.hid H2
      have ML := Lib.hid (List.mem_of_getElem? HLA.out)
      have FS := Lib.hid (fnd_some (HF.out l ML.out).1)
      obtain ⟨oa, oc, eov⟩ := own_shapeK HH2.out.row
      have y1 : W.cell? ⟨w.heap.size + 1, 0, none⟩ = some (.int .i64 ((Rc.takes (Rc.recs (fb l)) : Nat) : Int)) := (cell_of_row _ _ _ _ _ _ HH2.out.b2).trans rfl
      have c4 : W.cell? ⟨q, 4, none⟩ = some (.int .i64 sz) := (cell_of_row _ _ _ _ _ _ JW.out.box).trans rfl
      have f4 := frozen_of_row (j := 4) _ _ _ _ JW.out.box
      have JS := Lib.hid (JW.out.sized ((Rc.takes (Rc.recs (fb l)) : Nat) : Int))
      have hq : q ≠ w.heap.size := by have := HJ.out.lt; omega
      have hbox : (W.setCell ⟨q, 4, none⟩ (.int .i64 ((Rc.takes (Rc.recs (fb l)) : Nat) : Int))).heap[w.heap.size]? = some (.cells #[ov] 30 (0, 0)) := (Below.heap_setCell W ⟨q, 4, none⟩ (.int .i64 ((Rc.takes (Rc.recs (fb l)) : Nat) : Int)) w.heap.size (by show ¬ (w.heap.size = q); omega)).trans HH2.out.b1
      have y0 : (W.setCell ⟨q, 4, none⟩ (.int .i64 ((Rc.takes (Rc.recs (fb l)) : Nat) : Int))).cell? ⟨w.heap.size, 0, none⟩ = some ov := (cell_of_row _ _ _ _ _ _ hbox).trans rfl
      rw [eov] at y0
      have MK := Lib.hid (show ∀ D ∈ ms, w.heap.size ≤ D ∧ (W.setCell ⟨q, 4, none⟩ (.int .i64 ((Rc.takes (Rc.recs (fb l)) : Nat) : Int))).heap[D]? = some (.deferred (some [])) from fun D hD => ⟨(HH2.out.mks D hD).1, (Below.heap_setCell W ⟨q, 4, none⟩ (.int .i64 ((Rc.takes (Rc.recs (fb l)) : Nat) : Int)) D (fun e => by
        have e : D = q := e
        have := (HH2.out.mks D hD).2
        rw [e, JW.out.box] at this
        cases this)).trans (HH2.out.mks D hD).2⟩)
      have EOV := Lib.hid eov
      have SE := Lib.hid (fun W' (hb : Below (W.setCell ⟨q, 4, none⟩ (.int .i64 ((Rc.takes (Rc.recs (fb l)) : Nat) : Int))).heap.size (W.setCell ⟨q, 4, none⟩ (.int .i64 ((Rc.takes (Rc.recs (fb l)) : Nat) : Int))) W') => callsIn_wide (n := n - 1).2 (settle_any W' B q d s most f l (Rc.takes (Rc.recs (fb l))) (fb l).length (JS.out.step hb) (HR.out l ML.out) (HF.out l ML.out).1 (by rw [(HF.out l ML.out).2, bi_len]) (Rc.recsAt_takes _ 0 (fb l) (Nat.le_refl _)) HAR.out HLL.out))
      have HBX := Lib.hid hbox
      have HDB := Lib.hid (fun k (hk : Has d s k) => (HJ.out.dk.base k hk).2)
      have LOW := Lib.hid HH2.out.low
      have SLO := Lib.hid (show ∃ vs : List Value, (W.setCell ⟨q, 4, none⟩ (.int .i64 ((Rc.takes (Rc.recs (fb l)) : Nat) : Int))).ownsRow w.heap.size 39 1 ov vs.length vs ∧ vs.length = (ns.flatMap (says1 fb)).length ∧ (∀ (i : Nat) u b, vs[i]? = some u → (ns.flatMap (says1 fb))[i]? = some b → Rc.Lies (W.setCell ⟨q, 4, none⟩ (.int .i64 ((Rc.takes (Rc.recs (fb l)) : Nat) : Int))) u b) ∧ ∀ u ∈ vs, ∀ g, u.ownBlock = some g → w.heap.size ≤ g from Says.box2 (u := .int .i64 ((Rc.takes (Rc.recs (fb l)) : Nat) : Int)) HH2.out.row HH2.out.len (fun i u b hu hL => (HH2.out.each i u b hu hL).1) HH2.out.low JW.out.box)
      clear hbox H2 LLN
      gi_wp2_with fail
      obtain ⟨W8, hW8⟩ : ∃ z, W.setCell ⟨q, 4, none⟩ (.int .i64 ((Rc.takes (Rc.recs (fb l)) : Nat) : Int)) = z := ⟨_, rfl⟩
      have FW := Lib.hid (show Far (Lh d s q) w W8 from by
        rw [← hW8]
        exact (Far.of_below (P := Lh d s q) HH2.out.bel).trans (far_set W q 4 _) (fun _ _ e => .inr e))
      rw [hW8] at JS y0 MK SE HBX SLO ⊢
      clear c4 f4 y1
      refine wpIn_mono (Q := fun ex a' w' => match ex with
        | .normal => (∀ W', (results Tryz.f39 a'.tmps).run Tryz.prog W' = .ok (.tuple #[ov, .int .i64 0]) W') ∧ a'.defers = ms.map mkd ∧ Hid (Out B d s { s with l := setF s.l (cutF (fval s (sg l)) (Rc.takes (Rc.recs (fb l)))) } W8 w')
        | _ => False) ?_ (fun ex a' w9 hp => ?_)
      · gi_region_with (refine ⟨trivial, ?_⟩; refine (SE.out _ (by first | exact Below.refl _ _ | exact (Below.refl _ _).drew)).mono ?_; rintro e wz ⟨rfl, hoz⟩; (have OZ := Lib.hid (show Out B d s { s with l := setF s.l (cutF (fval s (sg l)) (Rc.takes (Rc.recs (fb l)))) } W8 wz from hoz.of_below (show Below W8.heap.size W8 _ from by first | exact Below.refl _ _ | exact (Below.refl _ _).drew)); have yz : wz.cell? ⟨w.heap.size, 0, none⟩ = some (.slice oa vs.length oc) := by (rw [← EOV.out]; exact (cell_of_row _ _ _ _ _ _ ((OZ.out.far.block _ (lt_of_block HBX.out) (fun hk => Nat.lt_irrefl _ (HDB.out _ hk))).trans HBX.out)).trans rfl)); clear hoz)
        all_goals exact ⟨fun W' => by rw [EOV.out]; simp [results, Tryz.f39, go_sem, Act.put], rfl, (by first | exact OZ | exact Lib.hid (OZ.out.then_below (Below.refl _ _).drew))⟩
      · cases ex with
        | normal =>
          obtain ⟨hr, hdf, hb9⟩ := hp
          obtain ⟨tm, df⟩ := a'
          dsimp only at hr hdf
          subst hdf
          gi_wp2
          have K9 := Lib.hid (show ∀ D ∈ ms, w9.heap[D]? = some (.deferred (some [])) from fun D hD => (hb9.out.far.block D (Array.getElem?_eq_some_iff.1 (MK.out D hD).2).1 (fun hk => by have := HDB.out _ hk; have := (MK.out D hD).1; omega)).trans (MK.out D hD).2)
          have JT := Lib.hid (JS.out.out hb9.out)
          refine leaves_marks ms _ _ (by simp) HND.out K9.out ?_
          have hfD := shut_far ms w9
          have hSY := shut_says ms w9 HND.out K9.out (says_far SLO.out hb9.out.far (fun k hk => HDB.out k hk) (fun k cs hc hk => has39 JS.out.dk hc hk))
          have hJX : JK (shut w9 ms) B q d { s with l := setF s.l (cutF (fval s (sg l)) (Rc.takes (Rc.recs (fb l)))) } most f l ((Rc.takes (Rc.recs (fb l)) : Nat) : Int) := ⟨JT.out.dk.still hfD (fun k hk e => by
            rcases hb9.out.sub k hk with q1 | q1
            · have := (HJ.out.dk.base k q1).2; have := (MK.out k e).1; omega
            · have := (Array.getElem?_eq_some_iff.1 (MK.out k e).2).1; omega), (hfD.block q JT.out.lt (fun e => by have := HJ.out.lt; have := (MK.out q e).1; omega)).trans JT.out.box, JT.out.nq, JT.out.bq⟩
          exact ⟨_, hr _, ov, rfl, hSY, hJX, ((FW.out.trans hb9.out.far (fun _ _ e => .inl e)).trans hfD (fun k hk e => by have := (MK.out k e).1; omega))⟩
        | ret => exact hp.elim
        | exit id => exact hp.elim
        | goto t => exact hp.elim
        | panic ch => exact hp.elim
        | outgrown => exact hp.elim
end Go.Proofs.YtgbihpfpiaacfaaGreatDoor

set_option linter.unusedVariables false
set_option linter.unusedSimpArgs false
set_option maxRecDepth 100000
namespace Go.Proofs.YtgbihpfpiaacfaaGreatDoor
open Go.RowKit Go.Shelf Go.WideMaps Go.Maps

set_option maxHeartbeats 6400000 in
theorem open_gen (w : World) (B d : Nat) (s : DS) (h : DK w B d s) (hB : B ≤ w.heap.size) (hd : s.dn = false) (har : s.ar = false) (hll : s.l.length < 100000) (most : Int) (hm : 16 ≤ most ∧ most ≤ 16777216) (f M : Nat) (hf1 : 1 ≤ f) (hfM : f + M < 100)
    (segc : Calls Tryz.prog 38 #[pv d] w fun e w' => ∃ v, e = .returned v ∧ w'.ownsRow w.heap.size 3 1 v (M + 1) ((ints (List.range' f (M + 1))).flatMap enI) ∧ Below w.heap.size w w')
    (fb : Nat → List Nat) (hF : ∀ m, f ≤ m → m ≤ f + M → fnd s (sg m) = 0 ∧ (fval s (sg m)).b = bi (fb m)) (hby : ∀ m, f ≤ m → m ≤ f + M → Rc.Byt (fb m)) (htot : ((List.range' f (M + 1)).map (fun m => (fb m).length)).sum ≤ 45000) (hw : ∀ m, f ≤ m → m < f + M → Rc.takes (Rc.recs (fb m)) = (fb m).length) (hfs : ∀ x ∈ s.l, x.b.length ≤ 100000000) :
    Calls Tryz.prog 11 #[pv d, .int .i64 most] w fun e w' => ∃ q sv, e = .returned (.tuple #[.pointer (some ⟨q, 0, none⟩), sv, .int .i64 0]) ∧ w.heap.size ≤ q ∧ JK w' B q d { s with l := setF s.l (cutF (fval s (sg (f + M))) (Rc.takes (Rc.recs (fb (f + M))))) } most (f : Int) ((f + M : Nat) : Int) ((Rc.takes (Rc.recs (fb (f + M))) : Nat) : Int) ∧ Says w' w.heap.size sv ((List.range' f (M + 1)).flatMap (says1 fb)) ∧ Far (Has d s) w w' := by
  have D := Lib.hid (down_any w B d s h)
  rw [hd] at D
  have inr : ∀ m, m ∈ List.range' f (M + 1) → f ≤ m ∧ m ≤ f + M := fun m hm => by have := List.mem_range'_1.1 hm; omega
  have SG := Lib.hid segc
  have HD := Lib.hid h
  have HF := Lib.hid hF
  have HBY := Lib.hid hby
  have HTOT := Lib.hid htot
  have HWH := Lib.hid hw
  have HLL := Lib.hid (And.intro har hll)
  have HFS := Lib.hid hfs
  have HB := Lib.hid hB
  have INR := Lib.hid inr
  have HFM := Lib.hid (And.intro hf1 hfM)
  have hm1 : ¬ (most < 16) := by omega
  have hm2 : ¬ (16777216 < most) := by omega
  clear h hB hd segc hF hby htot hw har hll hfs inr hf1 hfM
  go_enter Tryz.func11, Tryz.ntmps11
  go_wp2_with fail
  refine D.out.mono ?_
  rintro e w1 ⟨rfl, rfl⟩
  go_wp2_with fail
  refine SG.out.mono ?_
  rintro e w2 ⟨nv, rfl, ho, hb2⟩
  obtain ⟨g, cap, rfl⟩ : ∃ g cap, nv = .slice (some ⟨g, 0, none⟩) (M + 1) cap := by
    rcases ho.2 with ⟨_, e⟩ | ⟨g, cap, _, e, _⟩
    · cases e
    · exact ⟨g, cap, e⟩
  have GC := Lib.hid (show ∀ W, Below w2.heap.size w2 W → ∀ (i m : Nat), (List.range' f (M + 1))[i]? = some m → W.cell? ⟨g, i, none⟩ = some (.int .i64 (m : Int)) from fun W hW i m hi => by
    have := (own_belowK ho hW).cells (g := g) rfl i (.int .i64 (m : Int)) (enI_at _ i _ (by unfold ints; rw [List.getElem?_map, hi]; rfl))
    rwa [rk_addr, Nat.zero_add] at this)
  have FT := Lib.hid (show Far (Has d s) w w2 from Far.of_below hb2)
  have D2 := Lib.hid (HD.out.step hb2)
  clear ho hb2 D SG
  obtain ⟨WT, hWT⟩ : ∃ z, w2 = z := ⟨_, rfl⟩
  rw [hWT] at GC FT D2 ⊢
  clear hWT
  have R0 := Lib.hid (show (List.range' f (M + 1))[0]? = some f from by rw [List.getElem?_range' (by omega)]; simp)
  have RM0 := Lib.hid (show (List.range' f (M + 1))[M]? = some (f + M) from by rw [List.getElem?_range' (by omega)]; simp)
  have hn0 : ¬ (((M + 1 : Nat) : Int) = 0) := by omega
  have hn0' : ¬ ((M : Int) + 1 = 0) := by omega
  go_wp2_with fail
  have hg0 := GC.out WT (Below.refl _ _) 0 f R0.out
  have hgM := GC.out WT (Below.refl _ _) M (f + M) RM0.out
  have hwr : IntKind.i64.wrap ((M : Int) + 1 - 1) = (M : Int) := by have := HFM.out; rw [IntKind.wrap_i64]; omega
  have hwr2 : IntKind.i64.wrap (((M + 1 : Nat) : Int) - 1) = (M : Int) := by have := HFM.out; rw [IntKind.wrap_i64]; omega
  have hwM : IntKind.i64.wrap (M : Int) = (M : Int) := by have := HFM.out; rw [IntKind.wrap_i64]; omega
  have hwM2 : wrap64 (M : Int) = (M : Int) := by have := HFM.out; unfold wrap64; omega
  go_region
  have NB := Lib.hid (show ((WT.alloc (.cells #[pv d, .int .i64 most, .int .i64 (f : Int), .int .i64 ((f : Int) + (M : Int)), .int .i64 0] 74)).drew).heap[WT.heap.size]? = some (.cells #[pv d, .int .i64 most, .int .i64 (f : Int), .int .i64 ((f : Int) + (M : Int)), .int .i64 0] 74 (0, 0)) from heap_alloc_new WT _)
  have BA := Lib.hid (vstep WT (.cells #[pv d, .int .i64 most, .int .i64 (f : Int), .int .i64 ((f : Int) + (M : Int)), .int .i64 0] 74)).drew
  obtain ⟨WV, hWV⟩ : ∃ z, (WT.alloc (.cells #[pv d, .int .i64 most, .int .i64 (f : Int), .int .i64 ((f : Int) + (M : Int)), .int .i64 0] 74)).drew = z := ⟨_, rfl⟩
  rw [hWV] at NB BA ⊢
  obtain ⟨q, hq⟩ : ∃ z, WT.heap.size = z := ⟨_, rfl⟩
  have JV := Lib.hid (show JK WV B q d s most (f : Int) ((f + M : Nat) : Int) 0 from ⟨D2.out.step BA.out, by rw [← hq]; exact NB.out, fun e => by have := (D2.out.base _ e).2; omega, by have := HB.out; have := FT.out.size; omega⟩)
  have HQ := Lib.hid hq
  rw [hq] at BA ⊢
  clear NB hWV hq hg0 hgM
  have c2 : WV.cell? ⟨q, 2, none⟩ = some (.int .i64 (f : Int)) := (cell_of_row _ _ _ _ _ _ JV.out.box).trans rfl
  have c3 : WV.cell? ⟨q, 3, none⟩ = some (.int .i64 ((f : Int) + (M : Int))) := (cell_of_row _ _ _ _ _ _ JV.out.box).trans rfl
  have hwr3 : IntKind.i64.wrap ((f : Int) + (M : Int) - (f : Int)) = (M : Int) := by have := HFM.out; rw [IntKind.wrap_i64]; omega
  have hge1 : ¬ ((M : Int) + 1 ≤ (M : Int)) := by omega
  have hge2 : ¬ (((M + 1 : Nat) : Int) ≤ (M : Int)) := by omega
  go_wp2_with fail
  go_region
  have BX := Lib.hid (show Below WV.heap.size WV WV.drew from (Below.refl _ _).drew)
  obtain ⟨WX, hWX⟩ : ∃ z, WV.drew = z := ⟨_, rfl⟩
  rw [hWX] at BX ⊢
  clear hWX c2 c3
  have JX := Lib.hid (JV.out.step BX.out)
  have BAX := Lib.hid (show Below WT.heap.size WT WX from by rw [HQ.out]; exact BA.out.trans (BX.out.mono (by have := BA.out.size; have := HQ.out; omega)))
  have RR := Lib.hid (callsIn_wide.1 (read_gen 4 (Nat.le_refl _) WX B q d s most (f : Int) 0 (f + M) JX.out fb (List.range' f (M + 1)) (M + 1) (List.length_range' ..) (by omega) (by have := HFM.out; omega) (by rw [Nat.add_sub_cancel]; exact RM0.out) (fun m hm => by have := INR.out m hm; have := HFM.out; omega)
    (fun m hm => HF.out m (INR.out m hm).1 (INR.out m hm).2) (fun m hm => HBY.out m (INR.out m hm).1 (INR.out m hm).2) HTOT.out (fun m hm hml => HWH.out m (INR.out m hm).1 hml) (fun m hm => (INR.out m hm).2) HLL.out.1 HLL.out.2 HFS.out g cap (GC.out WX BAX.out)))
  go_wp2_with fail
  refine RR.out.mono ?_
  rintro e WY ⟨v, rfl, hsy, hjy, hfy⟩
  have EN := Lib.hid (And.intro hsy (And.intro hjy hfy))
  clear hsy hjy hfy RR
  go_wp2
  go_returns
  have hwx : w.heap.size ≤ WX.heap.size := Nat.le_trans FT.out.size (BAX.out.size)
  have hqw : w.heap.size ≤ q := by rw [← HQ.out]; exact FT.out.size
  obtain ⟨vs, h1, h2, h3⟩ := EN.out.1
  refine ⟨q, v, rfl, hqw, EN.out.2.1, ⟨vs, own_lower h1 hwx, h2, h3⟩, (FT.out.trans (Far.of_below (P := fun _ => False) BAX.out) (fun _ _ e => e.elim)).trans EN.out.2.2 ?_⟩
  rintro k hk (e | e)
  · exact e
  · omega
theorem segs_sg (w : World) (B d : Nat) (s : DS) (h : DK w B d s) (ks : List Nat) (hks : nms s.l = ks.map sg) (f M : Nat) (hp : ks.Perm (List.range' f (M + 1))) (hf1 : 1 ≤ f) (hfM : f + M < 100) :
    Calls Tryz.prog 38 #[pv d] w fun e w' => ∃ v, e = .returned v ∧ w'.ownsRow w.heap.size 3 1 v (M + 1) ((ints (List.range' f (M + 1))).flatMap enI) ∧ Below w.heap.size w w' := by
  refine (segs_any w B d s h ks hks (fun n hn => by have := List.mem_range'_1.1 (hp.mem_iff.1 hn); omega) (by rw [hp.length_eq, List.length_range']; omega)).mono ?_
  rintro e w' ⟨v, kz, rfl, ho, hpz, hsz, hb⟩
  have hk : kz = ints (List.range' f (M + 1)) := List.Perm.eq_of_pairwise (le := fun x y : Int => x ≤ y) (fun a b _ _ h1 h2 => by omega) hsz (sorted_range (M + 1) f) (hpz.trans (hp.map _))
  subst hk
  have hlen : (ints (List.range' f (M + 1))).length = M + 1 := by unfold ints; rw [List.length_map, List.length_range']
  rw [hlen] at ho
  exact ⟨v, rfl, ho, hb⟩
end Go.Proofs.YtgbihpfpiaacfaaGreatDoor

set_option linter.unusedVariables false
set_option linter.unusedSimpArgs false
set_option maxRecDepth 100000
namespace Go.Proofs.YtgbihpfpiaacfaaGreatDoor
open Go.RowKit Go.Sort Go.Shelf

/-- "log.08" and "log.". -/
def o8 : ByteArray := ⟨#[108, 111, 103, 46, 48, 56]⟩
def oE : ByteArray := ⟨#[108, 111, 103, 46]⟩
theorem fm_some {ks : List (ByteArray × Option Nat)} {i n : Nat} {z : ByteArray} (h : ks[i]? = some (z, some n)) : ints ((ks.take (i + 1)).filterMap (·.2)) = ints ((ks.take i).filterMap (·.2)) ++ [(n : Int)] := by
  rw [List.take_add_one, h]
  simp [ints]
theorem fm_none {ks : List (ByteArray × Option Nat)} {i : Nat} {z : ByteArray} (h : ks[i]? = some (z, none)) : ints ((ks.take (i + 1)).filterMap (·.2)) = ints ((ks.take i).filterMap (·.2)) := by
  rw [List.take_add_one, h]
  simp [ints]
set_option maxHeartbeats 3200000 in
theorem segs_odd (w : World) (B d : Nat) (s : DS) (h : DK w B d s) (ks : List (ByteArray × Option Nat)) (hks : nms s.l = ks.map (·.1)) (hr : ∀ x ∈ ks, (∃ n, x = (sg n, some n) ∧ 1 ≤ n ∧ n < 100) ∨ x = (o8, none) ∨ x = (oE, none)) (hl : ks.length < 1000) (ev : Value) (hv : w.cell? ⟨0, 0, none⟩ = some ev) (hev : ev = .nilIface ∨ ∃ te pe, ev = .iface te pe) :
    Calls Tryz.prog 38 #[pv d] w fun e w' => ∃ (v : Value) (kz : List Int), e = .returned v ∧ w'.ownsRow w.heap.size 3 1 v kz.length (kz.flatMap enI) ∧ kz.Perm (ints (ks.filterMap (·.2))) ∧ kz.Pairwise (fun x y => x ≤ y) ∧ Below w.heap.size w w' := by
  have hll : s.l.length = ks.length := by have := congrArg List.length hks; unfold nms at this; simpa using this
  have NM := Lib.hid (names_any w B d s h (by omega))
  obtain ⟨i0, hi9, hz0, hz1, hz2⟩ := info_parts info3
  have NL := Lib.hid hl
  have NR := Lib.hid hr
  have HV0 := Lib.hid (And.intro hv hev)
  rw [hks] at NM
  clear h hl hr hks hll hv hev
  go_enter Tryz.func38, Tryz.ntmps38
  go_wp2_with fail
  refine NM.out.mono ?_
  rintro e w1 ⟨v, rfl, ho, hb⟩
  have hlm : (ks.map (·.1)).length = ks.length := List.length_map _
  rw [hlm] at ho
  obtain ⟨va, vc, rfl⟩ := own_shapeK ho
  have OW := Lib.hid ho
  have B1 := Lib.hid hb
  clear ho hb NM hlm
  go_wp2_with fail
  go_loopw [3, 11] (fun ov kv wr => ∃ i : Nat, kv = .int .i64 i ∧ i ≤ ks.length ∧ Hid (wr.ownsRow w1.heap.size 3 1 ov (ints ((ks.take i).filterMap (·.2))).length ((ints ((ks.take i).filterMap (·.2))).flatMap enI) ∧ Below w1.heap.size w1 wr)) (fun _ kv _ => ks.length - (intOf kv).toNat)
  case atStart => exact ⟨0, rfl, Nat.zero_le _, Lib.hid ⟨World.ownsRow_nil _ _ _ _, Below.refl _ _⟩⟩
  case round =>
    obtain ⟨i, rfl, hi, hK⟩ := hrel
    obtain ⟨oa, oc, rfl⟩ := own_shapeK hK.out.1
    have KK := Lib.hid hK.out
    clear hK
    by_cases hlt : i < ks.length
    · have HW1 := Lib.hid (wrap_up hlt (Nat.le_of_lt (Nat.lt_of_lt_of_le NL.out (by decide))))
      have HM1 := Lib.hid (meas_up hlt)
      have HL1 := Lib.hid (show i + 1 ≤ ks.length from hlt)
      obtain ⟨x, hn⟩ : ∃ x, ks[i]? = some x := ⟨_, List.getElem?_eq_getElem hlt⟩
      have HN := NR.out x (List.mem_of_getElem? hn)
      have O1 := own_belowK OW.out KK.out.2
      obtain ⟨g, hg⟩ : ∃ g, va = some ⟨g, 0, none⟩ := by
        rcases O1.2 with ⟨_, e⟩ | ⟨g, _, _, e, _⟩
        · omega
        · injection e with e; exact ⟨g, e⟩
      subst hg
      have cg := O1.cells (g := g) rfl i (.string x.1) (by rw [flat_T, List.map_map, List.getElem?_map, hn]; rfl)
      rw [rk_addr, Nat.zero_add] at cg
      obtain ⟨m, hm⟩ : ∃ m, ints ((ks.take i).filterMap (·.2)) = m := ⟨_, rfl⟩
      have LM := Lib.hid (show m.length ≤ 1000 from by rw [← hm]; unfold ints; rw [List.length_map]; have := List.length_filterMap_le (fun x : ByteArray × Option Nat => x.2) (ks.take i); rw [List.length_take] at this; have := NL.out; omega)
      have LB := Lib.hid (show m.length + 1 ≤ maxLen ∧ (m.length + 1) * 8 ≤ 140737488355328 from by have := LM.out; unfold maxLen; omega)
      have hi0 : (0 : Int) ≤ (i : Int) := by omega
      have hi1 : (i : Int) < (ks.length : Int) := by omega
      have BWR := Lib.hid (show Below w.heap.size w wr from B1.out.trans (KK.out.2.mono B1.out.size))
      have CV := Lib.hid (show wr.cell? ⟨0, 0, none⟩ = some ev from (BWR.out.cell (p := ⟨0, 0, none⟩) (World.block_lt_of_cell? w _ HV0.out.1)).trans HV0.out.1)
      rcases HN with ⟨n, rfl, hn1, hn2⟩ | rfl | rfl
      · have TR := Lib.hid (Tryz.strings_TrimPrefix (sg n) ⟨#[108, 111, 103, 46]⟩ wr)
        rw [trim_sg, show (⟨(Lib.decDigits n).toArray⟩ : ByteArray) = dg n from rfl] at TR
        have AT := Lib.hid (Tryz.strconv_Atoi (dg n) (n : Int) (by have := dg_size hn2; omega) (by show Lib.atoi (Lib.decDigits n).toArray.toList = _; exact atoi_dg hn2) wr)
        have SN := Lib.hid (fm_some hn)
        rw [hm] at SN KK ⊢
        have HR := Lib.hid (And.intro hn1 hn2)
        clear hm hn O1 hn1 hn2
        go_wp2_with fail
        refine TR.out.mono ?_
        rintro e w2 ⟨rfl, rfl⟩
        go_wp2_with fail
        refine AT.out.mono ?_
        rintro e w3 ⟨rfl, t, hw3⟩
        have B3 := Lib.hid (show Below w2.heap.size w2 w3 from by rw [hw3]; exact Joins.below_bytesWorld _ _ _ _ (Nat.le_refl _))
        have NA := Lib.hid (name_any w3 n HR.out.2 HR.out.1)
        clear TR AT hw3 cg
        have teq2 : ((sg n).toList == (sg n).toList) = true := by simp
        go_wp2_with fail
        refine NA.out.mono ?_
        rintro e w4 ⟨rfl, rfl⟩
        have HX := Lib.hid (show (w3.alloc (.cells #[.int .i64 (n : Int)] 3)).heap[w3.heap.size]? = some (.cells (enI (n : Int)).toArray 3 (0, 0)) from heap_alloc_new w3 _)
        have OB := Lib.hid (own_belowK KK.out.1 (B3.out.trans ((vstep w3 (.cells #[.int .i64 (n : Int)] 3)).mono B3.out.size)))
        have B5 := Lib.hid (KK.out.2.trans ((B3.out.trans ((vstep w3 (.cells #[.int .i64 (n : Int)] 3)).mono B3.out.size)).mono KK.out.2.size))
        go_wp2_with (at_builtin; refine wpList_pushK rfl (.tmp 29) (.tmp 31) 54 rfl enI_len (by decide) enI_one w1.heap.size 3 i0 (.int .i64 0) 8 Tryz.uI hi9 hz0 hz1 hz2 rfl (.slice oa m.length oc) m (n : Int) w3.heap.size rfl rfl HX.out OB.out LB.out.1 LB.out.2 B5.out.size ?_; intro v6 w6 hown hgr; have O6 := Lib.hid hown; have B6 := Lib.hid (B5.out.grown hgr B5.out.size (fun k e => (OB.out.lt k e).1)); clear hown hgr)
        go_roundw
        case rel => exact ⟨i + 1, by rw [HW1.out], HL1.out, Lib.hid ⟨by rw [SN.out]; exact O6.out, B6.out⟩⟩
        case measure => first | (rw [HW1.out]; exact HM1.out) | exact HM1.out
      · have TR := Lib.hid (Tryz.strings_TrimPrefix o8 ⟨#[108, 111, 103, 46]⟩ wr)
        rw [show (⟨(Lib.trimPrefix o8.data.toList (⟨#[108, 111, 103, 46]⟩ : ByteArray).data.toList).toArray⟩ : ByteArray) = ⟨#[48, 56]⟩ from by decide] at TR
        have AT := Lib.hid (Tryz.strconv_Atoi ⟨#[48, 56]⟩ 8 (by decide) (by decide) wr)
        have SN := Lib.hid (fm_none hn)
        rw [hm] at SN KK ⊢
        clear hm hn O1
        go_wp2_with fail
        refine TR.out.mono ?_
        rintro e w2 ⟨rfl, rfl⟩
        go_wp2_with fail
        refine AT.out.mono ?_
        rintro e w3 ⟨rfl, t, hw3⟩
        have B3 := Lib.hid (show Below w2.heap.size w2 w3 from by rw [hw3]; exact Joins.below_bytesWorld _ _ _ _ (Nat.le_refl _))
        have NA := Lib.hid (name_any w3 8 (by decide) (by decide))
        clear TR AT hw3 cg
        have teq2 : ((sg 8).toList == o8.toList) = false := by first | kernel_rfl | decide +kernel | rfl
        go_wp2_with fail
        refine NA.out.mono ?_
        rintro e w4 ⟨rfl, rfl⟩
        have O6 := Lib.hid (own_belowK KK.out.1 B3.out)
        have B6 := Lib.hid (KK.out.2.trans (B3.out.mono KK.out.2.size))
        go_wp2
        go_roundw
        case rel => exact ⟨i + 1, by rw [HW1.out], HL1.out, Lib.hid ⟨by rw [SN.out]; exact O6.out, B6.out⟩⟩
        case measure => first | (rw [HW1.out]; exact HM1.out) | exact HM1.out
      · have TR := Lib.hid (Tryz.strings_TrimPrefix oE ⟨#[108, 111, 103, 46]⟩ wr)
        rw [show (⟨(Lib.trimPrefix oE.data.toList (⟨#[108, 111, 103, 46]⟩ : ByteArray).data.toList).toArray⟩ : ByteArray) = ⟨#[]⟩ from by decide] at TR
        have AT := Lib.hid (Tryz.strconv_Atoi_err ⟨#[]⟩ (by decide) (by decide) ev wr CV.out HV0.out.2)
        have SN := Lib.hid (fm_none hn)
        rw [hm] at SN KK ⊢
        clear hm hn O1
        go_wp2_with fail
        refine TR.out.mono ?_
        rintro e w2 ⟨rfl, rfl⟩
        go_wp2_with fail
        refine AT.out.mono ?_
        rintro e w3 ⟨N, rfl, -, -, hb3⟩
        have B3 := Lib.hid hb3
        clear TR AT hb3 cg
        have O6 := Lib.hid (own_belowK KK.out.1 B3.out)
        have B6 := Lib.hid (KK.out.2.trans (B3.out.mono KK.out.2.size))
        go_wp2
        go_roundw
        case rel => exact ⟨i + 1, by rw [HW1.out], HL1.out, Lib.hid ⟨by rw [SN.out]; exact O6.out, B6.out⟩⟩
        case measure => first | (rw [HW1.out]; exact HM1.out) | exact HM1.out
    · have hnl : ¬ ((i : Int) < (ks.length : Int)) := by omega
      have hti : ks.take i = ks := List.take_of_length_le (by omega)
      rw [hti] at KK ⊢
      have SO := Lib.hid (sortI_own wr _ _ _ KK.out.1 (by unfold ints; rw [List.length_map]; have := List.length_filterMap_le (fun x : ByteArray × Option Nat => x.2) ks; have := NL.out; omega))
      obtain ⟨m, hm⟩ : ∃ m, ints (ks.filterMap (·.2)) = m := ⟨_, rfl⟩
      have HMM := Lib.hid hm
      rw [hm] at SO KK
      try rw [hm]
      clear hti
      go_wp2_with fail
      refine SO.out.mono ?_
      rintro e w4 ⟨rfl, l', hp, hs, ho, hg⟩
      have FF := Lib.hid (show w4.ownsRow w.heap.size 3 1 (.slice oa m.length oc) l'.length (l'.flatMap enI) ∧ l'.Perm (ints (ks.filterMap (·.2))) ∧ l'.Pairwise (fun x y => x ≤ y) ∧ Below w.heap.size w w4 from
        ⟨own_lower ho B1.out.size, by rw [HMM.out]; exact hp, hs, B1.out.trans ((KK.out.2.grown hg KK.out.2.size (fun k e => (KK.out.1.lt k e).1)).mono B1.out.size)⟩)
      clear hp hs ho hg SO
      go_wp2
      go_returns
      exact ⟨.slice oa m.length oc, l', rfl, FF.out⟩
end Go.Proofs.YtgbihpfpiaacfaaGreatDoor

set_option linter.unusedVariables false
set_option linter.unusedSimpArgs false
set_option maxRecDepth 100000
namespace Go.Proofs.YtgbihpfpiaacfaaGreatDoor
open Go.RowKit Go.Shelf Go.WideMaps Go.Maps
open Tn
attribute [local go_sem] Oper.semAt_some
set_option maxHeartbeats 12800000 in
theorem read_bad (n : Nat) (hn : 4 ≤ n) (w : World) (B q d : Nat) (s : DS) (most f sz : Int) (l : Nat) (h : JK w B q d s most f (l : Int) sz) (fb : Nat → List Nat) (ns : List Nat) (N : Nat) (hN : ns.length = N) (hN1 : 1 ≤ N) (hNb : N ≤ 1000) (hlast : ns[N - 1]? = some l) (hr : ∀ m ∈ ns, 1 ≤ m ∧ m < 100)
    (hf : ∀ m ∈ ns, fnd s (sg m) = 0 ∧ (fval s (sg m)).b = bi (fb m)) (hb : ∀ m ∈ ns, Rc.Byt (fb m)) (htot : (ns.map (fun m => (fb m).length)).sum ≤ 45000) (m0 : Nat) (hm0 : ns[0]? = some m0) (hml0 : m0 < l) (hbad : Rc.takes (Rc.recs (fb m0)) < (fb m0).length) (hfs : ∀ x ∈ s.l, x.b.length ≤ 100000000)
    (g cap : Nat) (hg : ∀ (i m : Nat), ns[i]? = some m → w.cell? ⟨g, i, none⟩ = some (.int .i64 (m : Int))) :
    CallsIn Fence.wide n Tryz.prog 39 #[.pointer (some ⟨q, 0, none⟩), .slice (some ⟨g, 0, none⟩) N cap] w fun e w' => e = .returned (.tuple #[.slice none 0 0, .int .i64 4]) ∧ Below w.heap.size w w' := by
  have h1 : 1 ≤ n := by omega
  have hro : Fence.wide.round = none := rfl
  obtain ⟨W0, hW0⟩ : ∃ z, (w.alloc (.cells #[.slice none 0 0] 30)).alloc (.cells #[.int .i64 0] 3) = z := ⟨_, rfl⟩
  have b1 := vstep w (.cells #[.slice none 0 0] 30)
  have b2 := vstep (w.alloc (.cells #[.slice none 0 0] 30)) (.cells #[.int .i64 0] 3)
  have n1 := heap_alloc_new w (.cells #[.slice none 0 0] 30)
  have n2 := heap_alloc_new (w.alloc (.cells #[.slice none 0 0] 30)) (.cells #[.int .i64 0] 3)
  have n1 := (b2.block _ (lt_of_block n1)).trans n1
  rw [World.size_alloc] at n2
  have B0 := Lib.hid (b1.trans (b2.mono b1.size))
  rw [hW0] at n1 n2 B0
  have N1 := Lib.hid n1
  have N2 := Lib.hid n2
  have HJ := Lib.hid h
  have HG := Lib.hid hg
  have HR := Lib.hid hr
  have HF := Lib.hid hf
  have HBY := Lib.hid hb
  have HTOT := Lib.hid htot
  have HBAD := Lib.hid (And.intro hm0 (And.intro hml0 hbad))
  have HFS := Lib.hid hfs
  have HNL := Lib.hid hN
  have HN1 := Lib.hid hN1
  have HLA := Lib.hid hlast
  have HNB := Lib.hid hNb
  have HW := Lib.hid hW0
  have k2 : W0.cell? ⟨w.heap.size + 1, 0, none⟩ = some (.int .i64 0) := (cell_of_row _ _ _ _ _ _ N2.out).trans rfl
  have z2 : W0.frozen? ⟨w.heap.size + 1, 0, none⟩ = false := frozen_of_row _ _ _ _ _ N2.out
  obtain ⟨I, hI⟩ : ∃ I : Act → World → Prop, I = fun a W => ∃ (i : Nat) (ms : List Nat) (vs : List Value) (ov : Value) (u2 u3 u9 u10 u11 u12 u13 u14 u18 u19 u20 u21 u22 u23 u24 u25 u26 u27 u28 u29 u30 u31 u32 u33 u34 u35 u36 u37 u38 u39 u40 u41 u42 u43 u44 u45 u46 u47 u48 u49 u50 u51 u52 u53 u54 u55 u56 u57 u58 u59 u60 u61 u62 u63 u64 u65 u66 u67 u68 : Value), a = { tmps := #[.pointer (some ⟨q, 0, none⟩), .slice (some ⟨g, 0, none⟩) N cap, u2, u3, .slice none 0 0, .int .i64 0, .pointer (some ⟨w.heap.size, 0, none⟩), .int .i64 (ll fb ns i), .pointer (some ⟨w.heap.size + 1, 0, none⟩), u9, u10, u11, u12, u13, u14, .slice (some ⟨g, 0, none⟩) N cap, .int .i64 (N : Int), .int .i64 (i : Int), u18, u19, u20, u21, u22, u23, u24, u25, u26, u27, u28, u29, u30, u31, u32, u33, u34, u35, u36, u37, u38, u39, u40, u41, u42, u43, u44, u45, u46, u47, u48, u49, u50, u51, u52, u53, u54, u55, u56, u57, u58, u59, u60, u61, u62, u63, u64, u65, u66, u67, u68], defers := ms.map mkd } ∧ i ≤ N ∧ ms.Nodup ∧ Tn.RHd w w.heap.size ((ns.take i).flatMap (says1 fb)) ms vs ov (tt fb ns i) W ∧ i = 0 ∧ ms = [] := ⟨_, rfl⟩
  have HI := Lib.hid hI
  have I0 := Lib.hid (show Tn.RHd w w.heap.size [] [] [] (.slice none 0 0) 0 W0 from ⟨N1.out, World.ownsRow_nil _ _ _ _, rfl, fun j u p hu _ => (by simp at hu), N2.out, B0.out, (fun D hD => by cases hD), (fun u hu => by cases hu)⟩)
  clear b1 b2 n1 n2 hW0 h hg hr hf hb htot hm0 hml0 hbad hfs hN hN1 hNb hlast hI
  refine callsIn_of_wp_marks Tryz.func39 rfl trivial ?_ hro
  simp only [Tryz.ntmps39, List.size_toArray, List.length_cons, List.length_nil, Nat.reduceAdd, Nat.reduceSub, Array.replicate_succ, Array.replicate_zero, List.push_toArray, List.append_toArray, List.nil_append, List.cons_append]
  gi_wp2_with fail
  rw [HW.out]
  have SS : W0.setCell ⟨w.heap.size + 1, 0, none⟩ (.int .i64 0) = W0 := by
    have := setRow_self W0 (w.heap.size + 1) #[.int .i64 0] 3 (0, 0) N2.out
    rw [setCell_eq_setRow W0 (w.heap.size + 1) 0 #[.int .i64 0] 3 (0, 0) (.int .i64 0) N2.out]
    exact this
  try rw [SS]
  clear SS k2 z2
  refine wpIn_loop I (muN N) ?h0 ?round
  case h0 =>
    rw [HI.out]
    exact ⟨0, [], [], .slice none 0 0, _, _, _, _, _, _, _, _, _, _, _, _, _, _, _, _, _, _, _, _, _, _, _, _, _, _, _, _, _, _, _, _, _, _, _, _, _, _, _, _, _, _, _, _, _, _, _, _, _, _, _, _, _, _, _, _, _, _, _, rfl, Nat.zero_le _, List.nodup_nil, I0.out, rfl, rfl⟩
  case round =>
    intro a W hIa
    rw [HI.out] at hIa
    obtain ⟨i, ms, vs, ov, u2, u3, u9, u10, u11, u12, u13, u14, u18, u19, u20, u21, u22, u23, u24, u25, u26, u27, u28, u29, u30, u31, u32, u33, u34, u35, u36, u37, u38, u39, u40, u41, u42, u43, u44, u45, u46, u47, u48, u49, u50, u51, u52, u53, u54, u55, u56, u57, u58, u59, u60, u61, u62, u63, u64, u65, u66, u67, u68, rfl, hiN, hnd, hH, rfl, hms⟩ := hIa
    have HMS := Lib.hid hms
    clear hms
    have HH := Lib.hid hH
    have HND := Lib.hid hnd
    have JW := Lib.hid (HJ.out.step HH.out.bel)
    clear hH hnd I0
    by_cases hlt : 0 < N
    · have hltI : ((0 : Nat) : Int) < (N : Int) := by omega
      obtain ⟨m, hm⟩ : ∃ m, ns[0]? = some m := ⟨m0, HBAD.out.1⟩
      have hmm : m = m0 := by have := HBAD.out.1; rw [hm] at this; injection this
      subst hmm
      have HM := Lib.hid hm
      have MM := Lib.hid (List.mem_of_getElem? hm)
      have gi : W.cell? ⟨g, 0, none⟩ = some (.int .i64 (m : Int)) := (HH.out.bel.cell (p := ⟨g, 0, none⟩) (World.block_lt_of_cell? w _ (HG.out 0 m hm))).trans (HG.out 0 m hm)
      have NA := Lib.hid (fun W => callsIn_wide (n := n - 1).2 (name_any W m (HR.out m MM.out).2 (HR.out m MM.out).1))
      have RD := Lib.hid (fun W1 (hb : Below W.heap.size W W1) => callsIn_wide (n := n - 1).2 (read_any W1 B d s (JW.out.dk.step hb) (Nat.le_trans JW.out.size hb.size) (sg m) (by have := sg_size (HR.out m MM.out).2; unfold maxLen; omega) HFS.out))
      rw [(HF.out m MM.out).1, (HF.out m MM.out).2, bi_flat, bi_len] at RD
      have c0 : W.cell? ⟨q, 0, none⟩ = some (pv d) := (cell_of_row _ _ _ _ _ _ JW.out.box).trans rfl
      have HLT := Lib.hid hlt
      clear hm
      gi_wp2_with fail
      refine wpIn_mono (Q := fun ex a' w' => match ex with
        | .normal => ∃ ra rc, a' = { tmps := #[.pointer (some ⟨q, 0, none⟩), .slice (some ⟨g, 0, none⟩) N cap, u2, u3, .slice none 0 0, .int .i64 0, .pointer (some ⟨w.heap.size, 0, none⟩), .int .i64 (ll fb ns 0), .pointer (some ⟨w.heap.size + 1, 0, none⟩), u9, .int .i64 (m : Int), .slice ra (fb m).length rc, .int .i64 0, u13, u14, .slice (some ⟨g, 0, none⟩) N cap, .int .i64 (N : Int), .int .i64 ((0 : Nat) : Int), .bool true, .pointer (some ⟨g, 0, none⟩), .int .i64 (m : Int), .tuple #[.slice ra (fb m).length rc, .int .i64 0], .pointer (some ⟨q, 0, none⟩), .pointer (some ⟨q, 0, none⟩), .pointer (some ⟨q, 0, none⟩), pv d, .int .i64 (m : Int), .string (sg m), .tuple #[.slice ra (fb m).length rc, .int .i64 0], .slice ra (fb m).length rc, .int .i64 0, u31, u32, u33, u34, u35, u36, u37, u38, u39, u40, u41, u42, u43, u44, u45, u46, u47, u48, u49, u50, u51, u52, u53, u54, u55, u56, u57, u58, u59, u60, u61, u62, u63, u64, u65, u66, u67, u68], defers := ms.map mkd } ∧ Hid (w'.ownsRow W.heap.size 5 1 (.slice ra (fb m).length rc) (fb m).length (Rc.u8s (fb m)) ∧ Below W.heap.size W w')
        | _ => False) ?_ (fun ex a' w6 hp => ?_)
      · gi_region_with (first
          | (refine ⟨trivial, ?_⟩; refine (NA.out _).mono ?_; rintro e wz ⟨rfl, hwz⟩; subst hwz)
          | (refine ⟨trivial, ?_⟩; refine (RD.out _ (by first | exact Below.refl _ _ | exact (Below.refl _ _).drew)).mono ?_; rintro e w6 ⟨rv, rfl, ho6, hb6⟩; obtain ⟨ra, rc, rfl⟩ := own_shapeK ho6; have H6 := Lib.hid (show w6.ownsRow W.heap.size 5 1 (.slice ra (fb m).length rc) (fb m).length (Rc.u8s (fb m)) ∧ Below W.heap.size W w6 from ⟨ho6, by first | exact hb6 | exact (Below.refl W.heap.size W).drew.trans hb6⟩); clear ho6 hb6))
        all_goals exact ⟨ra, rc, rfl, H6⟩
      cases ex with
      | normal =>
        obtain ⟨ra, rc, rfl, H6⟩ := hp
        have H6' := Lib.hid (HH.out.step H6.out.2)
        have HZ := Lib.hid (H6'.out.zero (by omega))
        have k26 : w6.cell? ⟨w.heap.size + 1, 0, none⟩ = some (.int .i64 (tt fb ns 0)) := (cell_of_row _ _ _ _ _ _ H6'.out.b2).trans rfl
        have z26 : w6.frozen? ⟨w.heap.size + 1, 0, none⟩ = false := frozen_of_row _ _ _ _ _ H6'.out.b2
        have WK := Lib.hid (show w.heap.size + 1 < W.heap.size from lt_of_block HH.out.b2)
        have LB := Lib.hid (show Rc.Lies (w6.setCell ⟨w.heap.size + 1, 0, none⟩ (.int .i64 0)) (.slice ra (fb m).length rc) (fb m) from Rc.lies_set_far (Rc.own_lies H6.out.1) (fun ad nn cc e => by
          rcases H6.out.1.2 with ⟨q', _⟩ | ⟨g', cap', cur, q', hE, hg, _⟩
          · rw [q'] at e; cases e
          · rw [q'] at e
            injection e with e _ _
            injection e with e
            subst e
            have := WK.out
            show g' ≠ w.heap.size + 1
            omega))
        have BZ := Lib.hid (show Below w.heap.size w (w6.setCell ⟨w.heap.size + 1, 0, none⟩ (.int .i64 0)) from HZ.out.bel)
        obtain ⟨wz, hwz⟩ : ∃ z, w6.setCell ⟨w.heap.size + 1, 0, none⟩ (.int .i64 0) = z := ⟨_, rfl⟩
        have ez : w6.heap.size = wz.heap.size := by rw [← hwz]; simp [World.setCell]
        rw [hwz] at HZ LB BZ
        have HWZ := Lib.hid hwz
        have EZ := Lib.hid ez
        have LEN := Lib.hid (show (fb m).length ≤ 45000 from Nat.le_trans (sum_mem (fun m => (fb m).length) ns m MM.out) HTOT.out)
        have ALL := Lib.hid (callsIn_wide (n := n - 1).2 (Rc.all_any wz _ (fb m) LB.out (by have := LEN.out; omega)))
        have kq := fun W => func_nil12 wz.heap.size W
        clear c0 gi NA RD hwz ez
        gi_wp2_with fail
        rw [HWZ.out]
        refine ⟨trivial, ?_⟩
        refine ALL.out.mono ?_
        rintro e w7 ⟨r, rfl, hc, hLI, hs7, hb7⟩
        have hRd : Rc.Rd wz.heap.size w7.heap.size wz.heap.size (fb m) w7 := ⟨Nat.le_refl _, hs7, r, hc, hLI⟩
        have B7 := Lib.hid (BZ.out.trans (hb7.mono BZ.out.size))
        have RL0 := Lib.hid (HZ.out.rl (rs := Rc.recs (fb m)) hb7)
        have I0 : Tn.RM w wz.heap.size w7.heap.size w.heap.size ((ns.take 0).flatMap (says1 fb)) (Rc.recs (fb m)) ms 0 w7 := ⟨vs, ov, RL0.out⟩
        have Z7 := Lib.hid (show wz.heap.size < w7.heap.size from hs7)
        have WZK := Lib.hid (show w.heap.size + 1 < wz.heap.size from by have := WK.out; have := H6.out.2.size; have := EZ.out; omega)
        have TKL := Lib.hid (Rc.recsAt_takes _ 0 (fb m) (Nat.le_refl _))
        have BYM := Lib.hid (HBY.out m MM.out)
        have LL := Lib.hid (show ((ns.take 0).flatMap (says1 fb)).length ≤ 45000 from Nat.le_trans (flatS_le fb (ns.take 0)) (Nat.le_trans (sum_take (fun m => (fb m).length) ns 0) HTOT.out))
        clear ALL k26 z26 hc hLI hs7 hb7
        gi_wp2_with fail
        clear kq
        refine Rc.range_all (by omega) BYM.out (by have := LEN.out; omega) rfl hRd rfl (Tn.RM w wz.heap.size w7.heap.size w.heap.size ((ns.take 0).flatMap (says1 fb)) (Rc.recs (fb m)) ms) (Tn.RM.own B7.out.size (Nat.le_of_lt Z7.out)) I0
          (fun kk vv => { tmps := #[.pointer (some ⟨q, 0, none⟩), .slice (some ⟨g, 0, none⟩) N cap, u2, u3, .slice none 0 0, .int .i64 0, .pointer (some ⟨w.heap.size, 0, none⟩), .int .i64 ((fb m).length : Int), .pointer (some ⟨w.heap.size + 1, 0, none⟩), u9, .int .i64 (m : Int), .slice ra (fb m).length rc, .int .i64 0, .int .i64 (kk : Int), vv, .slice (some ⟨g, 0, none⟩) N cap, .int .i64 (N : Int), .int .i64 ((0 : Nat) : Int), .bool true, .pointer (some ⟨g, 0, none⟩), .int .i64 (m : Int), .tuple #[.slice ra (fb m).length rc, .int .i64 0], .pointer (some ⟨q, 0, none⟩), .pointer (some ⟨q, 0, none⟩), .pointer (some ⟨q, 0, none⟩), pv d, .int .i64 (m : Int), .string (sg m), .tuple #[.slice ra (fb m).length rc, .int .i64 0], .slice ra (fb m).length rc, .int .i64 0, .int .i64 0, .bool false, u33, .slice ra (fb m).length rc, .int .i64 ((fb m).length : Int), .slice ra (fb m).length rc, .func (.func 72) #[] #[.pointer (some ⟨wz.heap.size, 0, none⟩)], .int .i64 (kk : Int), vv, u40, u41, u42, u43, u44, u45, u46, u47, u48, u49, u50, u51, u52, u53, u54, u55, u56, u57, u58, u59, u60, u61, u62, u63, u64, u65, u66, u67, u68], defers := [] }) ?assign ?body ?done
        case assign =>
          intro l2 kk v W K hK
          gi_wp2
          exact hK
        case body =>
          rintro l2 j p ao c W00 W1 hI0 hKc hfr hI1 hget hL
          obtain ⟨vs1, ov1, R1⟩ := hI1
          obtain ⟨vs0, ov0, R0⟩ := hI0
          have eo : ov0 = ov1 := by
            have := hKc _ _ R0.b1 rfl
            rw [R1.b1] at this
            injection this with this
            injection this with this _ _
            simpa using this.symm
          subst eo
          have hfr2 : ∀ ad, ao = some ad → ov0.ownBlock ≠ some ad.block := fun ad e e2 => by
            have h1 := (R0.row.lt _ e2).2
            have h2 := hfr ad e
            omega
          obtain ⟨oa, oc, eov⟩ := own_shapeK R1.row
          have RR := Lib.hid R1
          have HLx := Lib.hid hL
          have HFR := Lib.hid hfr2
          have HLO := Lib.hid (show ∀ ad, ao = some ad → w.heap.size ≤ ad.block from fun ad e => Nat.le_trans R0.bel.size (hfr ad e))
          have HGT := Lib.hid hget
          have PA := Lib.hid (show p.1 = Rc.takes ((Rc.recs (fb m)).take j) from by have := rec_at _ 0 (fb m) j p hget; rw [Nat.zero_add] at this; exact this)
          have TS := Lib.hid (takes_snoc hget)
          have TL := Lib.hid (show Rc.takes ((Rc.recs (fb m)).take (j + 1)) ≤ 45000 from by
            have h1 := Rc.takes_append ((Rc.recs (fb m)).take (j + 1)) ((Rc.recs (fb m)).drop (j + 1))
            rw [List.take_append_drop] at h1
            have h9 := TKL.out
            rw [show Rc.takes (Rc.recsAt 0 (fb m)) = Rc.takes (Rc.recs (fb m)) from rfl] at h9
            have := LEN.out
            omega)
          have LV := Lib.hid (show vs1.length ≤ 100000 from by
            rw [R1.len]
            have h3 := takes_len ((Rc.recs (fb m)).take (j + 1))
            rw [List.length_take] at h3
            have h4 := (List.getElem?_eq_some_iff.1 hget).1
            have := TL.out
            have := LL.out
            omega)
          have SZC := Lib.hid (fun W => CallsIn.inRound l2 (callsIn_wide (n := n - 1 - 1 - 1).2 (Rc.size_nat W p.2.length (by have := TL.out; have := TS.out; omega))))
          have x0 : W1.cell? ⟨w.heap.size, 0, none⟩ = some ov0 := (cell_of_row _ _ _ _ _ _ R1.b1).trans rfl
          rw [eov] at x0
          have HX := Lib.hid (heap_alloc_new W1 (.cells #[.slice ao p.2.length c] 39))
          have OX := Lib.hid (own_belowK R1.row (vstep W1 (.cells #[.slice ao p.2.length c] 39)))
          have EX := Lib.hid (show w.heap.size ≤ (W1.alloc (.cells #[.slice ao p.2.length c] 39)).heap.size from Nat.le_trans R1.bel.size (vstep W1 _).size)
          have TV : ((p.1 : Int) + ((p.2.length : Int) + 8)) = ((Rc.takes ((Rc.recs (fb m)).take (j + 1)) : Nat) : Int) := by rw [TS.out, PA.out]; omega
          have HTV := Lib.hid TV
          clear hKc hfr hL hget R1 R0 hfr2 hRd I0 TV
          have hd1 : 1 ≤ n - 1 - 1 := by omega
          gi_wp2_with (first
            | (gi_at_builtin; go_loud (refine wpListIn_pushV rfl (.tmp 40) (.tmp 42) rfl w.heap.size ov0 vs1 (.slice ao p.2.length c) W1.heap.size (by rw [eov]; rfl) rfl HX.out rfl OX.out (by have := LV.out; omega) EX.out ?_; intro v3 W3 hown hgr hsp; have RP := Lib.hid (Tn.RL.push (t := (p.1 : Int) + ((p.2.length : Int) + 8)) RR.out HGT.out (Nat.le_refl _) WZK.out B7.out.size (Nat.le_of_lt Z7.out) HLx.out HFR.out HLO.out hown hgr hsp HTV.out); rw [show (vs1 ++ [Value.slice ao p.2.length c]).length = vs1.length + 1 from by simp] at hown; obtain ⟨va3, vc3, rfl⟩ := own_shapeK hown; have x3 := (cell_of_row _ _ _ _ _ _ RP.out.1).trans (show (#[ov0] : Array Value)[0]? = some ov0 from rfl); rw [eov] at x3; have f3 := frozen_of_row (j := 0) _ _ _ _ RP.out.1; have x4 := (cell_of_row _ _ _ _ _ _ RP.out.2.1).trans (show (#[Value.int .i64 ((Rc.takes ((Rc.recs (fb m)).take j) : Nat) : Int)] : Array Value)[0]? = some _ from rfl); have f4 := frozen_of_row (j := 0) _ _ _ _ RP.out.2.1; clear hown hgr hsp)))
          have hwv : wrap64 ((p.1 : Int) + ((p.2.length : Int) + 8)) = (p.1 : Int) + ((p.2.length : Int) + 8) := by
            have h1 := HTV.out
            have h2 := TL.out
            unfold wrap64
            omega
          have RQ := Lib.hid RP.out.2.2
          refine ⟨trivial, ?_⟩
          refine (SZC.out _).mono ?_
          rintro e W4 ⟨rfl, hW4⟩
          subst hW4
          gi_wp2
          exact ⟨RQ.out.2.2, RQ.out.2.1, RQ.out.1⟩
        case done =>
          rintro D W1 hD hI1 hK
          obtain ⟨vs1, ov1, R1⟩ := hI1
          have H1 := Lib.hid (show Tn.RHd w w.heap.size ((ns.take (0 + 1)).flatMap (says1 fb)) (D :: ms) vs1 ov1 (tt fb ns (0 + 1)) W1 from by
            have := R1.hd hK (Nat.le_trans B7.out.size hD)
            rw [flat_snoc HM.out, tt_up HM.out]
            exact this)
          have ND := Lib.hid (show (D :: ms).Nodup from List.nodup_cons.2 ⟨fun e => by have := (RL0.out.mks D e).2.1; have := Z7.out; omega, HND.out⟩)
          have EL := Lib.hid (ll_up (fb := fb) HM.out)
          have ET := Lib.hid (tt_up (fb := fb) HM.out)
          have J1 := Lib.hid (HJ.out.step H1.out.bel)
          have c3 : W1.cell? ⟨q, 3, none⟩ = some (.int .i64 (l : Int)) := (cell_of_row _ _ _ _ _ _ J1.out.box).trans rfl
          have y1 : W1.cell? ⟨w.heap.size + 1, 0, none⟩ = some (.int .i64 ((Rc.takes (Rc.recs (fb m)) : Nat) : Int)) := by rw [← ET.out]; exact (cell_of_row _ _ _ _ _ _ H1.out.b2).trans rfl
          clear hRd I0 R1 hK
          have hml : (m : Int) < (l : Int) := by have := HBAD.out.2.1; omega
          have hff : ((Rc.takes (Rc.recs (fb m)) : Nat) : Int) < ((fb m).length : Int) := by have := HBAD.out.2.2; omega
          have K9 := Lib.hid (show ∀ D' ∈ D :: ms, W1.heap[D']? = some (.deferred (some [])) from fun D' hD' => (H1.out.mks D' hD').2)
          have BF := Lib.hid (show Below w.heap.size w (shut W1 (D :: ms)) from H1.out.bel.trans ((shut_far (D :: ms) W1).below H1.out.bel.size (fun k hk => (H1.out.mks k hk).1)))
          gi_wp2
          refine leaves_marks (D :: ms) _ _ (by simp) ND.out K9.out ?_
          exact ⟨.tuple #[.slice none 0 0, .int .i64 4], by simp [results, Tryz.f39, go_sem], rfl, BF.out⟩
      | ret => exact hp.elim
      | exit id => exact hp.elim
      | goto t => exact hp.elim
      | panic ch => exact hp.elim
      | outgrown => exact hp.elim
    · exact absurd hlt (by have := HN1.out; omega)

end Go.Proofs.YtgbihpfpiaacfaaGreatDoor

set_option linter.unusedVariables false
set_option linter.unusedSimpArgs false
set_option maxRecDepth 100000
namespace Go.Proofs.YtgbihpfpiaacfaaGreatDoor
open Go.RowKit Go.Shelf Go.WideMaps Go.Maps

set_option maxHeartbeats 6400000 in
theorem open_bad (w : World) (B d : Nat) (s : DS) (h : DK w B d s) (hB : B ≤ w.heap.size) (hd : s.dn = false) (har : s.ar = false) (hll : s.l.length < 100000) (most : Int) (hm : 16 ≤ most ∧ most ≤ 16777216) (f M : Nat) (hf1 : 1 ≤ f) (hfM : f + M < 100)
    (segc : Calls Tryz.prog 38 #[pv d] w fun e w' => ∃ v, e = .returned v ∧ w'.ownsRow w.heap.size 3 1 v (M + 1) ((ints (List.range' f (M + 1))).flatMap enI) ∧ Below w.heap.size w w')
    (fb : Nat → List Nat) (hF : ∀ m, f ≤ m → m ≤ f + M → fnd s (sg m) = 0 ∧ (fval s (sg m)).b = bi (fb m)) (hby : ∀ m, f ≤ m → m ≤ f + M → Rc.Byt (fb m)) (htot : ((List.range' f (M + 1)).map (fun m => (fb m).length)).sum ≤ 45000) (hM1 : 1 ≤ M) (hbad : Rc.takes (Rc.recs (fb f)) < (fb f).length) (hfs : ∀ x ∈ s.l, x.b.length ≤ 100000000) :
    Calls Tryz.prog 11 #[pv d, .int .i64 most] w fun e w' => e = .returned (.tuple #[.pointer none, .slice none 0 0, .int .i64 4]) ∧ Below w.heap.size w w' := by
  have D := Lib.hid (down_any w B d s h)
  rw [hd] at D
  have inr : ∀ m, m ∈ List.range' f (M + 1) → f ≤ m ∧ m ≤ f + M := fun m hm => by have := List.mem_range'_1.1 hm; omega
  have SG := Lib.hid segc
  have HD := Lib.hid h
  have HF := Lib.hid hF
  have HBY := Lib.hid hby
  have HTOT := Lib.hid htot
  have HBAD := Lib.hid (And.intro hM1 hbad)
  have HLL := Lib.hid (And.intro har hll)
  have HFS := Lib.hid hfs
  have HB := Lib.hid hB
  have INR := Lib.hid inr
  have HFM := Lib.hid (And.intro hf1 hfM)
  have hm1 : ¬ (most < 16) := by omega
  have hm2 : ¬ (16777216 < most) := by omega
  clear h hB hd segc hF hby htot hM1 hbad har hll hfs inr hf1 hfM
  go_enter Tryz.func11, Tryz.ntmps11
  go_wp2_with fail
  refine D.out.mono ?_
  rintro e w1 ⟨rfl, rfl⟩
  go_wp2_with fail
  refine SG.out.mono ?_
  rintro e w2 ⟨nv, rfl, ho, hb2⟩
  obtain ⟨g, cap, rfl⟩ : ∃ g cap, nv = .slice (some ⟨g, 0, none⟩) (M + 1) cap := by
    rcases ho.2 with ⟨_, e⟩ | ⟨g, cap, _, e, _⟩
    · cases e
    · exact ⟨g, cap, e⟩
  have GC := Lib.hid (show ∀ W, Below w2.heap.size w2 W → ∀ (i m : Nat), (List.range' f (M + 1))[i]? = some m → W.cell? ⟨g, i, none⟩ = some (.int .i64 (m : Int)) from fun W hW i m hi => by
    have := (own_belowK ho hW).cells (g := g) rfl i (.int .i64 (m : Int)) (enI_at _ i _ (by unfold ints; rw [List.getElem?_map, hi]; rfl))
    rwa [rk_addr, Nat.zero_add] at this)
  have FT := Lib.hid (show Far (Has d s) w w2 from Far.of_below hb2)
  have FTB := Lib.hid hb2
  have D2 := Lib.hid (HD.out.step hb2)
  clear ho hb2 D SG
  obtain ⟨WT, hWT⟩ : ∃ z, w2 = z := ⟨_, rfl⟩
  rw [hWT] at GC FT FTB D2 ⊢
  clear hWT
  have R0 := Lib.hid (show (List.range' f (M + 1))[0]? = some f from by rw [List.getElem?_range' (by omega)]; simp)
  have RM0 := Lib.hid (show (List.range' f (M + 1))[M]? = some (f + M) from by rw [List.getElem?_range' (by omega)]; simp)
  have hn0 : ¬ (((M + 1 : Nat) : Int) = 0) := by omega
  have hn0' : ¬ ((M : Int) + 1 = 0) := by omega
  go_wp2_with fail
  have hg0 := GC.out WT (Below.refl _ _) 0 f R0.out
  have hgM := GC.out WT (Below.refl _ _) M (f + M) RM0.out
  have hwr : IntKind.i64.wrap ((M : Int) + 1 - 1) = (M : Int) := by have := HFM.out; rw [IntKind.wrap_i64]; omega
  have hwr2 : IntKind.i64.wrap (((M + 1 : Nat) : Int) - 1) = (M : Int) := by have := HFM.out; rw [IntKind.wrap_i64]; omega
  have hwM : IntKind.i64.wrap (M : Int) = (M : Int) := by have := HFM.out; rw [IntKind.wrap_i64]; omega
  have hwM2 : wrap64 (M : Int) = (M : Int) := by have := HFM.out; unfold wrap64; omega
  go_region
  have NB := Lib.hid (show ((WT.alloc (.cells #[pv d, .int .i64 most, .int .i64 (f : Int), .int .i64 ((f : Int) + (M : Int)), .int .i64 0] 74)).drew).heap[WT.heap.size]? = some (.cells #[pv d, .int .i64 most, .int .i64 (f : Int), .int .i64 ((f : Int) + (M : Int)), .int .i64 0] 74 (0, 0)) from heap_alloc_new WT _)
  have BA := Lib.hid (vstep WT (.cells #[pv d, .int .i64 most, .int .i64 (f : Int), .int .i64 ((f : Int) + (M : Int)), .int .i64 0] 74)).drew
  obtain ⟨WV, hWV⟩ : ∃ z, (WT.alloc (.cells #[pv d, .int .i64 most, .int .i64 (f : Int), .int .i64 ((f : Int) + (M : Int)), .int .i64 0] 74)).drew = z := ⟨_, rfl⟩
  rw [hWV] at NB BA ⊢
  obtain ⟨q, hq⟩ : ∃ z, WT.heap.size = z := ⟨_, rfl⟩
  have JV := Lib.hid (show JK WV B q d s most (f : Int) ((f + M : Nat) : Int) 0 from ⟨D2.out.step BA.out, by rw [← hq]; exact NB.out, fun e => by have := (D2.out.base _ e).2; omega, by have := HB.out; have := FT.out.size; omega⟩)
  have HQ := Lib.hid hq
  rw [hq] at BA ⊢
  clear NB hWV hq hg0 hgM
  have c2 : WV.cell? ⟨q, 2, none⟩ = some (.int .i64 (f : Int)) := (cell_of_row _ _ _ _ _ _ JV.out.box).trans rfl
  have c3 : WV.cell? ⟨q, 3, none⟩ = some (.int .i64 ((f : Int) + (M : Int))) := (cell_of_row _ _ _ _ _ _ JV.out.box).trans rfl
  have hwr3 : IntKind.i64.wrap ((f : Int) + (M : Int) - (f : Int)) = (M : Int) := by have := HFM.out; rw [IntKind.wrap_i64]; omega
  have hge1 : ¬ ((M : Int) + 1 ≤ (M : Int)) := by omega
  have hge2 : ¬ (((M + 1 : Nat) : Int) ≤ (M : Int)) := by omega
  go_wp2_with fail
  go_region
  have BX := Lib.hid (show Below WV.heap.size WV WV.drew from (Below.refl _ _).drew)
  obtain ⟨WX, hWX⟩ : ∃ z, WV.drew = z := ⟨_, rfl⟩
  rw [hWX] at BX ⊢
  clear hWX c2 c3
  have JX := Lib.hid (JV.out.step BX.out)
  have BAX := Lib.hid (show Below WT.heap.size WT WX from by rw [HQ.out]; exact BA.out.trans (BX.out.mono (by have := BA.out.size; have := HQ.out; omega)))
  have RR := Lib.hid (callsIn_wide.1 (read_bad 4 (Nat.le_refl _) WX B q d s most (f : Int) 0 (f + M) JX.out fb (List.range' f (M + 1)) (M + 1) (List.length_range' ..) (by omega) (by have := HFM.out; omega) (by rw [Nat.add_sub_cancel]; exact RM0.out) (fun m hm => by have := INR.out m hm; have := HFM.out; omega)
    (fun m hm => HF.out m (INR.out m hm).1 (INR.out m hm).2) (fun m hm => HBY.out m (INR.out m hm).1 (INR.out m hm).2) HTOT.out f R0.out (by have := HBAD.out.1; omega) HBAD.out.2 HFS.out g cap (GC.out WX BAX.out)))
  go_wp2_with fail
  refine RR.out.mono ?_
  rintro e WY ⟨rfl, hby⟩
  have EN := Lib.hid hby
  clear hby RR
  go_wp2
  go_returns
  exact ⟨rfl, (FTB.out.trans (BAX.out.mono FTB.out.size)).trans (EN.out.mono (Nat.le_trans FTB.out.size BAX.out.size))⟩
set_option maxHeartbeats 6400000 in
theorem open_gap (w : World) (B d : Nat) (s : DS) (h : DK w B d s) (hd : s.dn = false) (segc : Calls Tryz.prog 38 #[pv d] w fun e w' => ∃ v, e = .returned v ∧ w'.ownsRow w.heap.size 3 1 v 2 ([(7 : Int), 9].flatMap enI) ∧ Below w.heap.size w w') :
    Calls Tryz.prog 11 #[pv d, .int .i64 64] w fun e w' => e = .returned (.tuple #[.pointer none, .slice none 0 0, .int .i64 4]) ∧ Below w.heap.size w w' := by
  have D := Lib.hid (down_any w B d s h)
  rw [hd] at D
  have SG := Lib.hid segc
  clear h hd segc
  go_enter Tryz.func11, Tryz.ntmps11
  go_wp2_with fail
  refine D.out.mono ?_
  rintro e w1 ⟨rfl, rfl⟩
  go_wp2_with fail
  refine SG.out.mono ?_
  rintro e w2 ⟨nv, rfl, ho, hb2⟩
  obtain ⟨g, cap, rfl⟩ : ∃ g cap, nv = .slice (some ⟨g, 0, none⟩) 2 cap := by
    rcases ho.2 with ⟨_, e⟩ | ⟨g, cap, _, e, _⟩
    · cases e
    · exact ⟨g, cap, e⟩
  have g0 : w2.cell? ⟨g, 0, none⟩ = some (.int .i64 7) := by simpa [rk_addr] using ho.cells (g := g) rfl 0 (.int .i64 7) rfl
  have g1 : w2.cell? ⟨g, 1, none⟩ = some (.int .i64 9) := by simpa [rk_addr] using ho.cells (g := g) rfl 1 (.int .i64 9) rfl
  have B2 := Lib.hid hb2
  clear ho hb2 D SG
  obtain ⟨WT, hWT⟩ : ∃ z, w2 = z := ⟨_, rfl⟩
  rw [hWT] at g0 g1 B2 ⊢
  clear hWT
  go_wp2_with fail
  go_region
  have NB := Lib.hid (show ((WT.alloc (.cells #[pv d, .int .i64 64, .int .i64 7, .int .i64 9, .int .i64 0] 74)).drew).heap[WT.heap.size]? = some (.cells #[pv d, .int .i64 64, .int .i64 7, .int .i64 9, .int .i64 0] 74 (0, 0)) from heap_alloc_new WT _)
  have BA := Lib.hid (vstep WT (.cells #[pv d, .int .i64 64, .int .i64 7, .int .i64 9, .int .i64 0] 74)).drew
  obtain ⟨WV, hWV⟩ : ∃ z, (WT.alloc (.cells #[pv d, .int .i64 64, .int .i64 7, .int .i64 9, .int .i64 0] 74)).drew = z := ⟨_, rfl⟩
  rw [hWV] at NB BA ⊢
  clear hWV g0 g1
  have c2 : WV.cell? ⟨WT.heap.size, 2, none⟩ = some (.int .i64 7) := (cell_of_row _ _ _ _ _ _ NB.out).trans rfl
  have c3 : WV.cell? ⟨WT.heap.size, 3, none⟩ = some (.int .i64 9) := (cell_of_row _ _ _ _ _ _ NB.out).trans rfl
  go_wp2_with fail
  go_region
  go_wp2
  go_returns
  exact ⟨rfl, B2.out.trans ((BA.out.trans ((Below.refl _ _).drew.mono BA.out.size)).mono B2.out.size)⟩
end Go.Proofs.YtgbihpfpiaacfaaGreatDoor


set_option linter.unusedVariables false
set_option linter.unusedSimpArgs false
set_option maxRecDepth 100000

/-! ### of CLater -/
set_option linter.unusedVariables false
namespace Go.Proofs.YtgbihpfpiaacfaaGreatDoor.Rc
open Go.RowKit

theorem Later.below {w : World} (x : Later w) : Below w.heap.size w x.w := x.property
instance (w : World) : Nonempty (Later w) := ⟨⟨w, Below.refl _ _⟩⟩

end Go.Proofs.YtgbihpfpiaacfaaGreatDoor.Rc



/-! ### of CSBase -/
set_option linter.unusedVariables false
namespace Go.Proofs.YtgbihpfpiaacfaaGreatDoor.Rc
open Go.RowKit

theorem src_one (w : World) (x : Nat) (T : TypeId) : Src Tryz.prog 1 39 (.slice (some ⟨w.heap.size, 0, none⟩) 1 1) 1 (u8s [x]) (w.alloc (.cells #[.int .u8 (x : Int)] T)) := by
  refine Src.ofSlice _ Tryz.underlying39 _ _ _ _ rfl ?_ (u8s_one _)
  intro j u hj
  match j, hj with
  | 0, hj =>
    have e : u = .int .u8 (x : Int) := by simpa [u8s] using hj.symm
    rw [e]
    exact cell_of_one (heap_alloc_new w (.cells #[.int .u8 (x : Int)] T))
  | j + 1, hj => simp [u8s] at hj
theorem own_kept {w w' : World} {B e n size : Nat} {v : Value} {xs : List Value} (h : w.ownsRow B e size v n xs) (hb : Below w.heap.size w w') : w'.ownsRow B e size v n xs :=
  h.kept (row := none) ⟨hb.os, hb.tape, hb.output, hb.size, fun k hk _ => hb.block k hk⟩ (by cases h : v.ownBlock <;> simp)
end Go.Proofs.YtgbihpfpiaacfaaGreatDoor.Rc



/-! ### of CSumB -/
set_option linter.unusedVariables false
namespace Go.Proofs.YtgbihpfpiaacfaaGreatDoor.Rc
open Go.RowKit

set_option maxRecDepth 100000 in
set_option maxHeartbeats 1600000 in
theorem rmore_any (w : World) (c : Nat) (v : Value) (bs : List Nat) (hc : c < 4294967296) (h : Lies w v bs) (hb : Byt bs) :
    Calls Tryz.prog 114 #[.int .u32 c, v] w fun e w' => e = .returned (.int .u32 ((more c bs : Nat) : Int)) ∧ w = w' := by
  have H := Lib.hid h
  have hcm : bs.length ≤ maxLen := by obtain ⟨_, _, _, h1, h2, _⟩ := h; omega
  unfold maxLen at hcm
  obtain ⟨ao, cap, rfl, _⟩ := h
  obtain ⟨r0, hr0⟩ : ∃ r0, r0 = 4294967295 - c := ⟨_, rfl⟩
  have e0 : (4294967295 : Int) - (c : Int) = (r0 : Int) := by omega
  have hr0l : r0 < 4294967296 := by omega
  have HR0 := Lib.hid hr0
  have HB := Lib.hid hb
  clear hr0 hb
  go_enter Tryz.func114, Tryz.ntmps114
  go_wp2
  go_loop [5, 6, 7, 8, 9] (fun rv iv _ _ _ => ∃ i r : Nat, iv = .int .i64 i ∧ i ≤ bs.length ∧ rv = .int .u32 r ∧ r < 4294967296 ∧ Hid (r = reg r0 (bs.take i))) (fun _ iv _ _ _ => bs.length - (intOf iv).toNat)
  case atStart => exact ⟨0, r0, rfl, by omega, rfl, hr0l, Lib.hid rfl⟩
  case round =>
    obtain ⟨i, r, rfl, hi, rfl, hr, hS⟩ := hrel
    by_cases hlt : i < bs.length
    · obtain ⟨x, hx⟩ : ∃ x, bs[i]? = some x := ⟨_, List.getElem?_eq_getElem hlt⟩
      have hx256 := HB.out.at hx
      have htk := take_snoc' bs i x hx
      obtain ⟨ao', cap', e, _, _, h0, hcl⟩ := H.out
      injection e with e1 e2 e3
      subst e1 e3
      cases ao with
      | none => have := (h0 rfl).1; rw [this] at hlt; simp at hlt
      | some b =>
        obtain ⟨k, o, rfl, _, hcl⟩ := hcl b rfl (ne_of_lt hlt)
        have d := hcl i x hx
        have HN : Hid (stn 8 (r ^^^ x) = reg r0 (bs.take (i + 1))) := Lib.hid (by
          rw [htk, reg_snoc, ← hS.out]; rfl)
        clear hcl h0 hx htk hS
        go_wp2
        go_loop [5, 7, 8, 9] (fun rv xv jv _ => ∃ j s z : Nat, jv = .int .i64 j ∧ j ≤ 8 ∧ rv = .int .u32 s ∧ s < 4294967296 ∧ xv = .int .u8 z ∧ z < 256 ∧ Hid (s ^^^ z = stn j (r ^^^ x) ∧ z = x / 2 ^ j)) (fun _ _ jv _ => 8 - (intOf jv).toNat)
        case atStart => exact ⟨0, r, x, rfl, by omega, rfl, hr, rfl, hx256, Lib.hid ⟨rfl, by simp⟩⟩
        case round =>
          obtain ⟨j, s, z, rfl, hj, rfl, hs, rfl, hz, hI⟩ := hrel
          by_cases hlj : j < 8
          · obtain ⟨q, hq⟩ : ∃ q, q = s / 2 := ⟨_, rfl⟩
            obtain ⟨z', hz'⟩ : ∃ z', z' = z / 2 := ⟨_, rfl⟩
            have e2 : (s : Int) / 2 = (q : Int) := by omega
            have e3 : (z : Int) / 2 = (z' : Int) := by omega
            have hz256 : z' < 256 := by omega
            have hq32 : q < 4294967296 := by omega
            have hzj : z' = x / 2 ^ (j + 1) := by rw [hz', hI.out.2, Nat.div_div_eq_div_mul, ← Nat.pow_succ]
            have hst := stn_succ j (r ^^^ x)
            rw [← hI.out.1] at hst
            by_cases hp : s % 2 = z % 2
            · have hb1 := bit_step s z q (by rw [if_pos hp, hq])
              have HN2 : Hid (q ^^^ z' = stn (j + 1) (r ^^^ x) ∧ z' = x / 2 ^ (j + 1)) := Lib.hid ⟨by rw [hz', hb1, hst], hzj⟩
              have hcase : ((s : Int) % 2 = 0 ∧ (z : Int) % 2 = 0) ∨ ((s : Int) % 2 = 1 ∧ (z : Int) % 2 = 1) := by omega
              clear hb1 hst hzj hp hq hz' hI
              rcases hcase with ⟨p1, p2⟩ | ⟨p1, p2⟩
              all_goals
                go_wp2
                go_round
                case rel => exact ⟨j + 1, q, z', by go_num, by omega, rfl, hq32, rfl, hz256, HN2⟩
                case measure => simp [intOf]; omega
            · obtain ⟨t, ht⟩ : ∃ t, t = q ^^^ rule := ⟨_, rfl⟩
              have hb1 := bit_step s z t (by rw [if_neg hp, ht, hq])
              have ht32 : t < 4294967296 := by rw [ht]; exact xor_lt _ _ hq32 rule_lt
              have e4 : bits .xor .u32 (q : Int) 2197175160 = (t : Int) := by
                rw [show (2197175160 : Int) = ((rule : Nat) : Int) from rfl, x32 _ _ hq32 rule_lt, ht]
              have HN2 : Hid (t ^^^ z' = stn (j + 1) (r ^^^ x) ∧ z' = x / 2 ^ (j + 1)) := Lib.hid ⟨by rw [hz', hb1, hst], hzj⟩
              have hcase : ((s : Int) % 2 = 0 ∧ (z : Int) % 2 = 1) ∨ ((s : Int) % 2 = 1 ∧ (z : Int) % 2 = 0) := by omega
              clear hb1 hst hzj hp hq hz' hI ht
              rcases hcase with ⟨p1, p2⟩ | ⟨p1, p2⟩
              all_goals
                go_wp2
                go_round
                case rel => exact ⟨j + 1, t, z', by go_num, by omega, rfl, ht32, rfl, hz256, HN2⟩
                case measure => simp [intOf]; omega
          · obtain rfl : j = 8 := by omega
            have E : s = reg r0 (bs.take (i + 1)) := by
              have h1 := hI.out.2
              rw [Nat.div_eq_of_lt (by omega)] at h1
              have h2 := hI.out.1
              rw [h1, Nat.xor_zero] at h2
              rw [h2, HN.out]
            have HE := Lib.hid E
            clear E hI
            go_wp2
            go_round
            case rel => exact ⟨i + 1, s, by go_num, by omega, rfl, hs, HE⟩
            case measure => simp [intOf]; omega
    · have hie : i = bs.length := by omega
      have E : (more c bs : Nat) = 4294967295 - r := by
        unfold more
        rw [hS.out, hie, List.take_length, HR0.out]
      have e1 : (4294967295 : Int) - (r : Int) = ((more c bs : Nat) : Int) := by rw [E]; omega
      clear E hS hie
      go_wp2
      go_returns
      exact ⟨rfl, rfl⟩

end Go.Proofs.YtgbihpfpiaacfaaGreatDoor.Rc



/-! ### of CSumD -/
set_option linter.unusedVariables false
namespace Go.Proofs.YtgbihpfpiaacfaaGreatDoor.Rc
open Go.RowKit

set_option maxRecDepth 100000 in
set_option maxHeartbeats 800000 in
theorem rseal_any (w : World) (v : Value) (bs : List Nat) (h : Lies w v bs) (hb : Byt bs) (hl : bs.length ≤ 200000) :
    Calls Tryz.prog 89 #[v] w fun e w' => ∃ r, e = .returned r ∧ RowOut w w' r (seal' bs) := by
  obtain ⟨i0, hi, hz0, hz1, hz2⟩ := info_parts Tryz.info5
  have H := Lib.hid (rmore_any w 0 v bs (by omega) h hb)
  have hm := more_lt 0 bs
  have HS := Lib.hid h.src
  have HZ : Hid (seal' bs = bs ++ le4 (more 0 bs)) := Lib.hid rfl
  generalize more 0 bs = s0 at *
  obtain ⟨ao, cap, rfl, _⟩ := h
  clear hb
  go_enter Tryz.func89, Tryz.ntmps89
  go_wp2_with fail
  refine H.out.mono ?_
  rintro e w1 ⟨rfl, rfl⟩
  go_wp2_with (at_builtin; refine wpList_append_src_own rfl (.tmp 8) (.tmp 9) 39 39 rfl w.heap.size 5 i0 (.int .u8 0) 1 1 Tryz.underlying39 hi hz0 hz1 hz2 rfl (by decide) _ 0 [] rfl (World.ownsRow_nil _ _ _ _) _ bs.length (u8s bs) rfl HS.out (by unfold maxLen; omega) (by omega) (by omega) ?_; intro v3 w3 hown hgr hspr; rw [Nat.zero_add, List.nil_append] at hown; have K := Lib.hid (And.intro hown ((Below.refl w.heap.size w).grown hgr (Nat.le_refl _) (fun k hk => by simp [Act.eval, Value.ownBlock] at hk))); clear hown hgr hspr)
  obtain ⟨va, vc, rfl⟩ := own_shape K.out.1
  go_loopw [3, 4, 5] (fun sv bv iv wr => ∃ (i s : Nat) (cs : List Nat), iv = .int .i64 i ∧ i ≤ 4 ∧ sv = .int .u32 s ∧ s < 4294967296 ∧ cs.length ≤ 200004 ∧ Hid (s = s0 / 256 ^ i ∧ cs = bs ++ (le4 s0).take i) ∧ wr.ownsRow w.heap.size 5 1 bv cs.length (u8s cs) ∧ Below w.heap.size w wr) (fun _ _ iv _ => 4 - (intOf iv).toNat)
  case atStart => exact ⟨0, s0, bs, rfl, by omega, rfl, hm, by omega, Lib.hid ⟨by simp, by simp⟩, K.out.1, K.out.2⟩
  case round =>
    obtain ⟨i, s, cs, rfl, hi4, rfl, hs, hcs, hS, hW, hE⟩ := hrel
    have HW := Lib.hid hW
    have HE := Lib.hid hE
    have hB2 := hE.size
    obtain ⟨ba, bc, rfl⟩ := own_shape hW
    clear hW hE
    by_cases hlt : i < 4
    · obtain ⟨x, hx⟩ : ∃ x, x = s % 256 := ⟨_, rfl⟩
      obtain ⟨q, hq⟩ : ∃ q, q = s / 256 := ⟨_, rfl⟩
      have e1 : (s : Int) % 256 = (x : Int) := by omega
      have e2 : (s : Int) / 256 = (q : Int) := by omega
      have e3 : IntKind.u8.wrap (x : Int) = (x : Int) := by rw [IntKind.wrap_u8']; omega
      have hq32 : q < 4294967296 := by omega
      have hcl : (cs ++ [x]).length ≤ 200004 := by
        rw [hS.out.2, List.append_assoc, List.length_append, List.length_append, List.length_take]
        have : (le4 s0).length = 4 := rfl
        simp; omega
      have HN : Hid (q = s0 / 256 ^ (i + 1) ∧ cs ++ [x] = bs ++ (le4 s0).take (i + 1)) := Lib.hid ⟨by rw [hq, hS.out.1, Nat.div_div_eq_div_mul, ← Nat.pow_succ], by
        rw [hS.out.2, List.append_assoc]
        congr 1
        rw [hx, hS.out.1]
        rcases (show i = 0 ∨ i = 1 ∨ i = 2 ∨ i = 3 by omega) with rfl | rfl | rfl | rfl <;> simp [le4]⟩
      have hcl3 : cs.length + 1 ≤ 200004 := by rw [List.length_append] at hcl; simpa using hcl
      clear hx hq hS
      go_wp2_with (at_builtin; refine wpList_append_src_own rfl (.tmp 15) (.tmp 19) 39 39 rfl w.heap.size 5 i0 (.int .u8 0) 1 1 Tryz.underlying39 hi hz0 hz1 hz2 rfl (by decide) _ _ _ rfl (HW.out.alloc _) _ 1 _ rfl (src_one _ x 5) (by unfold maxLen; omega) (by omega) (by simp; omega) ?_; intro v3 w3 hown hgr hspr; have K2 := Lib.hid (And.intro hown ((HE.out.alloc hB2 _).grown hgr (by simp; omega) (fun k hk => (HW.out.lt k hk).1))); clear hown hgr hspr)
      go_roundw
      case rel => exact ⟨i + 1, q, cs ++ [x], by go_num, by omega, rfl, hq32, hcl, HN, by rw [u8s_append, List.length_append]; exact K2.out.1, K2.out.2⟩
      case measure => simp [intOf]; omega
    · have HX : Hid (cs = seal' bs) := Lib.hid (by
        rw [HZ.out, hS.out.2, show i = 4 by omega]
        rfl)
      clear hS
      go_wp2
      go_returns
      exact ⟨_, rfl, by rw [← HX.out]; exact ⟨HW.out, HE.out⟩⟩

end Go.Proofs.YtgbihpfpiaacfaaGreatDoor.Rc



/-! ### of CReA -/
set_option linter.unusedVariables false
namespace Go.Proofs.YtgbihpfpiaacfaaGreatDoor.Rc
open Go.RowKit

set_option maxRecDepth 100000 in
set_option maxHeartbeats 1600000 in
theorem ropen_far (w00 w : World) (hX : Below w00.heap.size w00 w) (v : Value) (bs : List Nat) (hh : Lies w00 v bs) (hb : Byt bs) (hl2 : bs.length ≤ 200000) (ok : Bool) (hok : ok = true ↔ Sealed bs) :
    Calls Tryz.prog 65 #[v] w fun e w' => ∃ r, e = .returned (.tuple #[r, .bool ok]) ∧ (Lies w' r (if ok then bs.take (bs.length - 4) else []) ∧ Far w00 r (if ok then bs.take (bs.length - 4) else [])) ∧ Below w.heap.size w w' := by
  have h := hh.later hX
  by_cases hl : bs.length < 4
  · have e : ok = false := by
      cases ok with
      | false => rfl
      | true => exact absurd (hok.1 rfl).1 (by omega)
    subst e
    obtain ⟨ao, cap, rfl, _⟩ := h
    clear hok
    go_enter Tryz.func65, Tryz.ntmps65
    go_wp2
    go_returns
    exact ⟨_, rfl, ⟨Lies.nil _, Far.nil _ _⟩, Below.refl _ _⟩
  · have H := Lib.hid h
    obtain ⟨ao, cap, rfl, hcap, hmx, h0, hc⟩ := h
    cases ao with
    | none => have := (h0 rfl).1; rw [this] at hl; simp at hl
    | some b =>
      obtain ⟨k, o, rfl, hk, hcc⟩ := hc b rfl (ne_of_lt (i := 0) (by omega))
      obtain ⟨n, hn⟩ : ∃ n, n = bs.length - 4 := ⟨_, rfl⟩
      have HF0 : Hid (Far w00 (.slice (some ⟨k, o, none⟩) n cap) (bs.take n)) := Lib.hid (fun ad n' c' e hne => by
        injection e with e1 _ _
        injection e1 with e1
        subst e1
        obtain ⟨ao', cap', e', _, _, _, hc'⟩ := hh
        injection e' with e1 _ _
        obtain ⟨k', o', e2, hk', _⟩ := hc' ⟨k, o, none⟩ e1.symm (fun e => hne (by rw [e]; simp))
        injection e2 with e3 _ _
        subst e3
        exact hk')
      have hlen : bs.length = n + 4 := by omega
      have e1 : (bs.length : Int) - 4 = (n : Int) := by omega
      have hn2 : n ≤ 199996 := by omega
      have ew : wrap64 (n : Int) = (n : Int) := by unfold wrap64; omega
      have hncap : n < cap := by omega
      have L1 := Lib.hid (H.out.take n (by omega))
      have R := Lib.hid (rseal_any w _ _ L1.out (hb.take n) (by rw [List.length_take]; omega))
      have HS : Hid (ok = true ↔ seal' (bs.take n) = bs) := Lib.hid (by
        rw [hok]; unfold Sealed; rw [← hn]
        exact ⟨fun h => h.2, fun h => ⟨by omega, h⟩⟩)
      have hsl : (seal' (bs.take n)).length = n + 4 := by rw [seal_length, List.length_take]; omega
      generalize seal' (bs.take n) = ss at *
      have HC := Lib.hid hcc
      rw [← hn]
      have HLN := Lib.hid hlen
      rw [hlen] at e1 ⊢
      clear hok h0 hc hcc hn hb hlen hl hl2 hcap
      go_enter Tryz.func65, Tryz.ntmps65
      go_wp2_with fail
      refine R.out.mono ?_
      rintro e w1 ⟨r, rfl, ho⟩
      have hLs := own_lies ho.1
      obtain ⟨ra, rc, rfl⟩ := own_shape ho.1
      rw [hsl] at hLs
      obtain ⟨ra', rc', re, _, _, hz, hcs⟩ := hLs
      injection re with re1 re2 re3
      clear re2
      subst re1 re3
      have HB := Lib.hid ho.2
      cases ra with
      | none => have := (hz rfl).1; rw [this] at hsl; simp at hsl
      | some rb =>
        obtain ⟨k2, o2, rfl, hk2, hcs⟩ := hcs rb rfl (ne_of_lt (i := 0) (by omega))
        have HC2 := Lib.hid hcs
        have HSL := Lib.hid hsl
        clear ho hz hcs
        rw [hsl]
        go_wp2
        go_loopw [6] (fun iv wr => ∃ i : Nat, iv = .int .i64 i ∧ i ≤ n + 4 ∧ Hid (∀ j, j < i → ss[j]? = bs[j]?) ∧ ∃ q, wr = w1.drewN q) (fun iv _ => n + 4 - (intOf iv).toNat)
        case atStart => exact ⟨0, rfl, by omega, Lib.hid (fun j hj => absurd hj (Nat.not_lt_zero _)), 0, rfl⟩
        case round =>
          obtain ⟨i, rfl, hi, hS, q, rfl⟩ := hrel
          have HBq := Lib.hid (HB.out.trans ((below_drewN w1 q).mono HB.out.size))
          by_cases hlt : i < n + 4
          · obtain ⟨x, hx⟩ : ∃ x, bs[i]? = some x := ⟨_, List.getElem?_eq_getElem (by rw [HLN.out]; exact hlt)⟩
            obtain ⟨y, hy⟩ : ∃ y, ss[i]? = some y := ⟨_, List.getElem?_eq_getElem (by rw [HSL.out]; exact hlt)⟩
            have d1 := (HB.out.cell (p := ⟨k, o + i, none⟩) hk).trans (HC.out i x hx)
            have d2 := HC2.out i y hy
            by_cases hxy : x = y
            · subst hxy
              have HN : Hid (∀ j, j < i + 1 → ss[j]? = bs[j]?) := Lib.hid (fun j hj => by
                by_cases e : j = i
                · rw [e, hx, hy]
                · exact hS.out j (by omega))
              clear hx hy hS
              go_wp2
              go_quiet (fail)
              go_wp2
              go_roundw
              case rel => exact ⟨i + 1, by go_num, by omega, HN, _, rfl⟩
              case measure => simp [intOf]; omega
            · have e : ok = false := by
                cases ok with
                | false => rfl
                | true =>
                  have := HS.out.1 rfl
                  rw [this, hx] at hy
                  injection hy with hy
                  exact absurd hy hxy
              have t1 := neb_ (y : Int) (x : Int) (by omega)
              subst e
              clear hx hy hS hxy
              go_wp2
              go_quiet (fail)
              go_wp2
              go_returns
              exact ⟨_, rfl, ⟨Lies.nil _, Far.nil _ _⟩, HBq.out.trans ⟨rfl, rfl, rfl, Nat.le_refl _, fun _ _ => rfl⟩⟩
          · have e : ok = true := by
              rw [HS.out]
              apply List.ext_getElem?
              intro j
              by_cases hj : j < n + 4
              · exact hS.out j (by omega)
              · rw [List.getElem?_eq_none (by rw [HSL.out]; omega), List.getElem?_eq_none (by rw [HLN.out]; omega)]
            subst e
            have HL := Lib.hid (L1.out.later HBq.out)
            clear hS
            go_wp2
            go_returns
            exact ⟨_, rfl, ⟨HL.out, HF0.out⟩, HBq.out⟩

end Go.Proofs.YtgbihpfpiaacfaaGreatDoor.Rc



/-! ### of CReE -/
set_option linter.unusedVariables false
namespace Go.Proofs.YtgbihpfpiaacfaaGreatDoor.Rc
open Go.RowKit Go.Shelf
attribute [local go_sem] Oper.semAt_some

theorem recsAt_count (at_ : Nat) (bs : List Nat) : (recsAt at_ bs).length ≤ bs.length := by
  have h : ∀ l : List (Nat × List Nat), l.length ≤ takes l := by
    intro l
    induction l with
    | nil => exact Nat.le_refl _
    | cons p l ih => show l.length + 1 ≤ p.2.length + 8 + takes l; omega
  exact Nat.le_trans (h _) (recsAt_takes _ _ _ (Nat.le_refl _))

end Go.Proofs.YtgbihpfpiaacfaaGreatDoor.Rc



/-! ### of CReH -/
set_option linter.unusedVariables false
namespace Go.Proofs.YtgbihpfpiaacfaaGreatDoor.Rc
open Go.RowKit

/-- What the reference's First leaves: what it hands back lay there ahead of it. -/
def Firsted0 (w00 w : World) (x : List Nat) (n e : Nat) (en : Ending) (w' : World) : Prop := ∃ r, en = .returned (.tuple #[r, .int .i64 (n : Int), .int .i64 (e : Int)]) ∧ Lies w00 r x ∧ Below w.heap.size w w'
theorem lies_back {w00 w' : World} {r : Value} {x : List Nat} (h : Lies w' r x) (hf : Far w00 r x) (hb : Below w00.heap.size w00 w') : Lies w00 r x := by
  obtain ⟨ao, cap, rfl, h1, h2, h3, h4⟩ := h
  refine ⟨ao, cap, rfl, h1, h2, h3, fun b hbb hne => ?_⟩
  obtain ⟨k, o, rfl, hk, hc⟩ := h4 b hbb hne
  have hlo := hf _ _ _ (by rw [hbb]) hne
  exact ⟨k, o, rfl, hlo, fun j y hj => (hb.cell (p := ⟨k, o + j, none⟩) hlo).symm.trans (hc j y hj)⟩

theorem lies_fourAt {w : World} {v : Value} {bs : List Nat} {at_ : Nat} (h : Lies w v bs) (hl : 4 ≤ (bs.drop at_).length) :
    ∃ g o cap b0 b1 b2 b3, v = .slice (some ⟨g, o, none⟩) bs.length cap ∧ bs.length ≤ cap ∧ cap ≤ maxLen ∧ g < w.heap.size ∧ w.cell? ⟨g, o + at_, none⟩ = some (.int .u8 ((b0 : Nat) : Int)) ∧ w.cell? ⟨g, o + (at_ + 1), none⟩ = some (.int .u8 ((b1 : Nat) : Int)) ∧ w.cell? ⟨g, o + (at_ + 2), none⟩ = some (.int .u8 ((b2 : Nat) : Int)) ∧ w.cell? ⟨g, o + (at_ + 3), none⟩ = some (.int .u8 ((b3 : Nat) : Int)) ∧ n4 (bs.drop at_) = b0 + 256 * b1 + 65536 * b2 + 16777216 * b3 ∧ b0 ∈ bs ∧ b1 ∈ bs ∧ b2 ∈ bs ∧ b3 ∈ bs := by
  obtain ⟨ao, cap, e, h1, h2, h3, h4⟩ := h
  cases ao with
  | none => have := (h3 rfl).1; rw [this] at hl; simp at hl
  | some b =>
    obtain ⟨g, o, rfl, hg, hc⟩ := h4 b rfl (fun e => by rw [e] at hl; simp at hl)
    have hget : ∀ k, bs[at_ + k]? = (bs.drop at_)[k]? := fun k => by rw [List.getElem?_drop]
    have hmem : ∀ x ∈ bs.drop at_, x ∈ bs := fun x hx => List.mem_of_mem_drop hx
    match hd : bs.drop at_, hl with
    | b0 :: b1 :: b2 :: b3 :: r, _ =>
      rw [hd] at hget hmem
      exact ⟨g, o, cap, b0, b1, b2, b3, e, h1, h2, hg, hc (at_ + 0) b0 (hget 0), hc (at_ + 1) b1 (hget 1), hc (at_ + 2) b2 (hget 2), hc (at_ + 3) b3 (hget 3), rfl, hmem _ (by simp), hmem _ (by simp), hmem _ (by simp), hmem _ (by simp)⟩

set_option maxRecDepth 100000 in
set_option maxHeartbeats 400000 in
theorem rfirst_short (w00 w : World) (v : Value) (bs : List Nat) (at_ : Nat) (h : Lies w00 v bs) (hat : at_ ≤ bs.length) (hl2 : bs.length ≤ 200000) (hl : (bs.drop at_).length < 4) : Calls Tryz.prog 50 #[v, .int .i64 (at_ : Int)] w (Firsted0 w00 w [] 0 3) := by
  rw [List.length_drop] at hl
  have hd : (bs.length : Int) - (at_ : Int) < 4 := by omega
  have hd0 : (0 : Int) ≤ (bs.length : Int) - (at_ : Int) := by omega
  obtain ⟨ao, cap, rfl, _⟩ := h
  go_enter Tryz.func50, Tryz.ntmps50
  go_wp2
  go_returns
  exact ⟨_, rfl, Lies.nil _, Below.refl _ _⟩

/-- A part of it. -/
theorem slice_mid {w : World} {ra : Option Addr} {n rc at_ m : Nat} {bs : List Nat} (h : Lies w (.slice ra n rc) bs) (hat : at_ + m ≤ n) :
    ∃ A, (∀ W, (Instr.slice 39 (.slice ra n rc) (some (.int .i64 (at_ : Int))) (some (.int .i64 ((at_ : Int) + (m : Int)))) none).run Tryz.prog W = .ok (.slice A m (rc - at_)) W) ∧ Lies w (.slice A m (rc - at_)) ((bs.drop at_).take m) := by
  obtain ⟨A, _, hL⟩ := slice_tail h (at_ := at_) (by omega)
  have hn : bs.length = n := by obtain ⟨_, _, e, _⟩ := h; injection e with _ e _; exact e.symm
  have hcap : n ≤ rc := by obtain ⟨_, _, e, h1, _⟩ := h; injection e with _ _ e; subst e; omega
  refine ⟨if rc = at_ then ra else ra.map (·.add (at_ * 1)), fun W => ?_, ?_⟩
  · rw [run_slice_lh (P := Tryz.prog) (ht := Tryz.underlying39) (h0 := by omega) (h1 := by omega) (h2 := by omega)]
    show Result.ok (Value.slice (if rc = at_ then ra else ra.map (·.add (at_ * 1))) (((at_ : Int) + (m : Int)).toNat - at_) (rc - at_)) W = _
    rw [show ((at_ : Int) + (m : Int)).toNat - at_ = m by omega]
  · obtain ⟨A2, hrun, hL2⟩ := slice_tail h (at_ := at_) (by omega)
    have hrun2 := hrun w
    rw [run_slice_l (P := Tryz.prog) (ht := Tryz.underlying39) (h0 := by omega) (h1 := by omega)] at hrun2
    have e : (if rc = at_ then ra else ra.map (·.add (at_ * 1))) = A2 := by
      have h2 : Result.ok (Value.slice (if rc = at_ then ra else ra.map (·.add (at_ * 1))) (n - at_) (rc - at_)) w = Result.ok (Value.slice A2 (n - at_) (rc - at_)) w := hrun2
      injection h2 with h2 _
      injection h2
    rw [e]
    exact hL2.take m (by omega)

set_option maxRecDepth 100000 in
set_option maxHeartbeats 800000 in
theorem rfirst_big (w00 w : World) (hX : Below w00.heap.size w00 w) (v : Value) (bs : List Nat) (at_ : Nat) (h00 : Lies w00 v bs) (hb : Byt bs) (hat : at_ ≤ bs.length) (hl : 4 ≤ (bs.drop at_).length) (hl2 : bs.length ≤ 200000) (hn : 65536 < n4 (bs.drop at_)) : Calls Tryz.prog 50 #[v, .int .i64 (at_ : Int)] w (Firsted0 w00 w [] 0 6) := by
  have h := h00.later hX
  obtain ⟨g, o, cap, b0, b1, b2, b3, rfl, hcap, hmx, hg, c0, c1, c2, c3, he, m0, m1, m2, m3⟩ := lies_fourAt h hl
  have h0 := hb b0 m0
  have h1 := hb b1 m1
  have h2 := hb b2 m2
  have h3 := hb b3 m3
  rw [List.length_drop] at *
  generalize hN : n4 (bs.drop at_) = N at *
  have HN : Hid ((b0 : Int) + 256 * (b1 : Int) + 65536 * (b2 : Int) + 16777216 * (b3 : Int) = (N : Int)) := Lib.hid (by omega)
  have i0 : (at_ : Int) < (bs.length : Int) := by omega
  have i1 : (at_ : Int) + 1 < (bs.length : Int) := by omega
  have i2 : (at_ : Int) + 2 < (bs.length : Int) := by omega
  have i3 : (at_ : Int) + 3 < (bs.length : Int) := by omega
  have ip : (0 : Int) ≤ (at_ : Int) := by omega
  have p1 : (0 : Int) ≤ (at_ : Int) + 1 := by omega
  have p2 : (0 : Int) ≤ (at_ : Int) + 2 := by omega
  have p3 : (0 : Int) ≤ (at_ : Int) + 3 := by omega
  have hat2 : at_ ≤ 200000 := by omega
  have hd : (4 : Int) ≤ (bs.length : Int) - (at_ : Int) := by omega
  clear he hN hb h m0 m1 m2 m3
  have w1 : IntKind.i64.wrap ((at_ : Int) + 1) = (at_ : Int) + 1 := by rw [IntKind.wrap_i64]; omega
  have w2 : IntKind.i64.wrap ((at_ : Int) + 2) = (at_ : Int) + 2 := by rw [IntKind.wrap_i64]; omega
  have w3 : IntKind.i64.wrap ((at_ : Int) + 3) = (at_ : Int) + 3 := by rw [IntKind.wrap_i64]; omega
  have n1 : ((at_ : Int) + 1).toNat = at_ + 1 := by omega
  have n2 : ((at_ : Int) + 2).toNat = at_ + 2 := by omega
  have n3 : ((at_ : Int) + 3).toNat = at_ + 3 := by omega
  go_enter Tryz.func50, Tryz.ntmps50
  go_wp2
  go_quiet (fail)
  rw [HN.out]
  clear w1 w2 w3 n1 n2 n3
  go_wp2
  go_returns
  exact ⟨_, rfl, Lies.nil _, below_drewN _ _⟩

set_option maxRecDepth 100000 in
set_option maxHeartbeats 800000 in
theorem rfirst_torn (w00 w : World) (hX : Below w00.heap.size w00 w) (v : Value) (bs : List Nat) (at_ : Nat) (h00 : Lies w00 v bs) (hb : Byt bs) (hat : at_ ≤ bs.length) (hl : 4 ≤ (bs.drop at_).length) (hl2 : bs.length ≤ 200000) (hn : n4 (bs.drop at_) ≤ 65536) (hs : bs.length - at_ < n4 (bs.drop at_) + 8) : Calls Tryz.prog 50 #[v, .int .i64 (at_ : Int)] w (Firsted0 w00 w [] 0 3) := by
  have h := h00.later hX
  obtain ⟨g, o, cap, b0, b1, b2, b3, rfl, hcap, hmx, hg, c0, c1, c2, c3, he, m0, m1, m2, m3⟩ := lies_fourAt h hl
  have h0 := hb b0 m0
  have h1 := hb b1 m1
  have h2 := hb b2 m2
  have h3 := hb b3 m3
  rw [List.length_drop] at *
  generalize hN : n4 (bs.drop at_) = N at *
  have HN : Hid ((b0 : Int) + 256 * (b1 : Int) + 65536 * (b2 : Int) + 16777216 * (b3 : Int) = (N : Int)) := Lib.hid (by omega)
  have i0 : (at_ : Int) < (bs.length : Int) := by omega
  have i1 : (at_ : Int) + 1 < (bs.length : Int) := by omega
  have i2 : (at_ : Int) + 2 < (bs.length : Int) := by omega
  have i3 : (at_ : Int) + 3 < (bs.length : Int) := by omega
  have ip : (0 : Int) ≤ (at_ : Int) := by omega
  have p1 : (0 : Int) ≤ (at_ : Int) + 1 := by omega
  have p2 : (0 : Int) ≤ (at_ : Int) + 2 := by omega
  have p3 : (0 : Int) ≤ (at_ : Int) + 3 := by omega
  have hat2 : at_ ≤ 200000 := by omega
  have hd : (4 : Int) ≤ (bs.length : Int) - (at_ : Int) := by omega
  have hd2 : (bs.length : Int) - (at_ : Int) < (N : Int) + 8 := by omega
  clear he hN hb h m0 m1 m2 m3
  have w1 : IntKind.i64.wrap ((at_ : Int) + 1) = (at_ : Int) + 1 := by rw [IntKind.wrap_i64]; omega
  have w2 : IntKind.i64.wrap ((at_ : Int) + 2) = (at_ : Int) + 2 := by rw [IntKind.wrap_i64]; omega
  have w3 : IntKind.i64.wrap ((at_ : Int) + 3) = (at_ : Int) + 3 := by rw [IntKind.wrap_i64]; omega
  have n1 : ((at_ : Int) + 1).toNat = at_ + 1 := by omega
  have n2 : ((at_ : Int) + 2).toNat = at_ + 2 := by omega
  have n3 : ((at_ : Int) + 3).toNat = at_ + 3 := by omega
  go_enter Tryz.func50, Tryz.ntmps50
  go_wp2
  go_quiet (fail)
  rw [HN.out]
  clear w1 w2 w3 n1 n2 n3
  go_wp2
  go_returns
  exact ⟨_, rfl, Lies.nil _, below_drewN _ _⟩

set_option maxRecDepth 100000 in
set_option maxHeartbeats 800000 in
theorem rfirst_sum (w00 w : World) (hX : Below w00.heap.size w00 w) (v : Value) (bs : List Nat) (at_ : Nat) (h00 : Lies w00 v bs) (hb : Byt bs) (hat : at_ ≤ bs.length) (hl : 4 ≤ (bs.drop at_).length) (hl2 : bs.length ≤ 200000) (hn : n4 (bs.drop at_) ≤ 65536) (hs : n4 (bs.drop at_) + 8 ≤ bs.length - at_) (hno : ¬ Sealed ((bs.drop at_).take (n4 (bs.drop at_) + 8))) : Calls Tryz.prog 50 #[v, .int .i64 (at_ : Int)] w (Firsted0 w00 w [] 0 5) := by
  have h := h00.later hX
  obtain ⟨g, o, cap, b0, b1, b2, b3, rfl, hcap, hmx, hg, c0, c1, c2, c3, he, m0, m1, m2, m3⟩ := lies_fourAt h hl
  have h0 := hb b0 m0
  have h1 := hb b1 m1
  have h2 := hb b2 m2
  have h3 := hb b3 m3
  rw [List.length_drop] at *
  generalize hN : n4 (bs.drop at_) = N at *
  have HN : Hid ((b0 : Int) + 256 * (b1 : Int) + 65536 * (b2 : Int) + 16777216 * (b3 : Int) = (N : Int)) := Lib.hid (by omega)
  have i0 : (at_ : Int) < (bs.length : Int) := by omega
  have i1 : (at_ : Int) + 1 < (bs.length : Int) := by omega
  have i2 : (at_ : Int) + 2 < (bs.length : Int) := by omega
  have i3 : (at_ : Int) + 3 < (bs.length : Int) := by omega
  have ip : (0 : Int) ≤ (at_ : Int) := by omega
  have p1 : (0 : Int) ≤ (at_ : Int) + 1 := by omega
  have p2 : (0 : Int) ≤ (at_ : Int) + 2 := by omega
  have p3 : (0 : Int) ≤ (at_ : Int) + 3 := by omega
  have hat2 : at_ ≤ 200000 := by omega
  have hd : (4 : Int) ≤ (bs.length : Int) - (at_ : Int) := by omega
  have hd2 : (N : Int) + 8 ≤ (bs.length : Int) - (at_ : Int) := by omega
  obtain ⟨A, hsl, hLm⟩ := slice_mid (m := N + 8) h00 (at_ := at_) (by omega)
  have HX0 := Lib.hid hX
  have hlt : ((bs.drop at_).take (N + 8)).length = N + 8 := by rw [List.length_take, List.length_drop]; omega
  have R := Lib.hid (fun W (hW : Below w.heap.size w W) => ropen_far w00 W (hX.trans (hW.mono hX.size)) _ ((bs.drop at_).take (N + 8)) hLm ((hb.drop _).take _) (by rw [hlt]; omega) false ⟨fun h => (by cases h), fun h => absurd h hno⟩)
  have e5 : (at_ : Int) + ((N + 8 : Nat) : Int) = (at_ : Int) + (N : Int) + 8 := by omega
  rw [e5] at hsl
  clear he hN hb h m0 m1 m2 m3 hlt hno hLm e5
  have w1 : IntKind.i64.wrap ((at_ : Int) + 1) = (at_ : Int) + 1 := by rw [IntKind.wrap_i64]; omega
  have w2 : IntKind.i64.wrap ((at_ : Int) + 2) = (at_ : Int) + 2 := by rw [IntKind.wrap_i64]; omega
  have w3 : IntKind.i64.wrap ((at_ : Int) + 3) = (at_ : Int) + 3 := by rw [IntKind.wrap_i64]; omega
  have n1 : ((at_ : Int) + 1).toNat = at_ + 1 := by omega
  have n2 : ((at_ : Int) + 2).toNat = at_ + 2 := by omega
  have n3 : ((at_ : Int) + 3).toNat = at_ + 3 := by omega
  go_enter Tryz.func50, Tryz.ntmps50
  go_wp2
  go_quiet (fail)
  rw [HN.out]
  clear w1 w2 w3 n1 n2 n3
  go_wp2_with fail
  refine (R.out _ (below_drewN _ _)).mono ?_
  rintro e w2 ⟨r, rfl, ⟨hr, hfar⟩, hb2⟩
  have B2 := Lib.hid ((below_drewN w nq).trans (hb2.mono (below_drewN w nq).size))
  obtain ⟨ra, rc, rfl⟩ := lies_shape hr
  clear hr hfar hb2
  go_wp2
  go_returns
  exact ⟨_, rfl, Lies.nil _, B2.out⟩

set_option maxRecDepth 100000 in
set_option maxHeartbeats 800000 in
theorem rfirst_ok (w00 w : World) (hX : Below w00.heap.size w00 w) (v : Value) (bs : List Nat) (at_ : Nat) (h00 : Lies w00 v bs) (hb : Byt bs) (hat : at_ ≤ bs.length) (hl : 4 ≤ (bs.drop at_).length) (hl2 : bs.length ≤ 200000) (hn : n4 (bs.drop at_) ≤ 65536) (hs : n4 (bs.drop at_) + 8 ≤ bs.length - at_) (hyes : Sealed ((bs.drop at_).take (n4 (bs.drop at_) + 8))) : Calls Tryz.prog 50 #[v, .int .i64 (at_ : Int)] w (Firsted0 w00 w (((bs.drop at_).take (n4 (bs.drop at_) + 4)).drop 4) (n4 (bs.drop at_) + 8) 0) := by
  have h := h00.later hX
  obtain ⟨g, o, cap, b0, b1, b2, b3, rfl, hcap, hmx, hg, c0, c1, c2, c3, he, m0, m1, m2, m3⟩ := lies_fourAt h hl
  have h0 := hb b0 m0
  have h1 := hb b1 m1
  have h2 := hb b2 m2
  have h3 := hb b3 m3
  rw [List.length_drop] at *
  generalize hN : n4 (bs.drop at_) = N at *
  have HN : Hid ((b0 : Int) + 256 * (b1 : Int) + 65536 * (b2 : Int) + 16777216 * (b3 : Int) = (N : Int)) := Lib.hid (by omega)
  have i0 : (at_ : Int) < (bs.length : Int) := by omega
  have i1 : (at_ : Int) + 1 < (bs.length : Int) := by omega
  have i2 : (at_ : Int) + 2 < (bs.length : Int) := by omega
  have i3 : (at_ : Int) + 3 < (bs.length : Int) := by omega
  have ip : (0 : Int) ≤ (at_ : Int) := by omega
  have p1 : (0 : Int) ≤ (at_ : Int) + 1 := by omega
  have p2 : (0 : Int) ≤ (at_ : Int) + 2 := by omega
  have p3 : (0 : Int) ≤ (at_ : Int) + 3 := by omega
  have hat2 : at_ ≤ 200000 := by omega
  have hd : (4 : Int) ≤ (bs.length : Int) - (at_ : Int) := by omega
  have hd2 : (N : Int) + 8 ≤ (bs.length : Int) - (at_ : Int) := by omega
  obtain ⟨A, hsl, hLm⟩ := slice_mid (m := N + 8) h00 (at_ := at_) (by omega)
  have HX0 := Lib.hid hX
  have hlt : ((bs.drop at_).take (N + 8)).length = N + 8 := by rw [List.length_take, List.length_drop]; omega
  have R := Lib.hid (fun W (hW : Below w.heap.size w W) => ropen_far w00 W (hX.trans (hW.mono hX.size)) _ ((bs.drop at_).take (N + 8)) hLm ((hb.drop _).take _) (by rw [hlt]; omega) true ⟨fun _ => hyes, fun _ => rfl⟩)
  rw [if_pos rfl, hlt, show N + 8 - 4 = N + 4 by omega, List.take_take, Nat.min_eq_left (by omega)] at R
  have hl4 : ((bs.drop at_).take (N + 4)).length = N + 4 := by rw [List.length_take, List.length_drop]; omega
  generalize (bs.drop at_).take (N + 4) = inn at *
  have HL4 := Lib.hid hl4
  have e5 : (at_ : Int) + ((N + 8 : Nat) : Int) = (at_ : Int) + (N : Int) + 8 := by omega
  rw [e5] at hsl
  clear he hN hb h m0 m1 m2 m3 hlt hyes hl4 hLm e5
  have w1 : IntKind.i64.wrap ((at_ : Int) + 1) = (at_ : Int) + 1 := by rw [IntKind.wrap_i64]; omega
  have w2 : IntKind.i64.wrap ((at_ : Int) + 2) = (at_ : Int) + 2 := by rw [IntKind.wrap_i64]; omega
  have w3 : IntKind.i64.wrap ((at_ : Int) + 3) = (at_ : Int) + 3 := by rw [IntKind.wrap_i64]; omega
  have n1 : ((at_ : Int) + 1).toNat = at_ + 1 := by omega
  have n2 : ((at_ : Int) + 2).toNat = at_ + 2 := by omega
  have n3 : ((at_ : Int) + 3).toNat = at_ + 3 := by omega
  go_enter Tryz.func50, Tryz.ntmps50
  go_wp2
  go_quiet (fail)
  rw [HN.out]
  clear w1 w2 w3 n1 n2 n3
  go_wp2_with fail
  refine (R.out _ (below_drewN _ _)).mono ?_
  rintro e w2 ⟨r, rfl, ⟨hr, hfar⟩, hb2⟩
  have B2 := Lib.hid ((below_drewN w nq).trans (hb2.mono (below_drewN w nq).size))
  obtain ⟨ra, rc, rfl⟩ := lies_shape hr
  have hr0 := lies_back hr hfar (HX0.out.trans (B2.out.mono HX0.out.size))
  rw [HL4.out] at hr0 ⊢
  obtain ⟨A2, hs2, hL2⟩ := slice_tail (at_ := 4) hr0 (by omega)
  have HL2 := Lib.hid hL2
  rw [show N + 4 - 4 = N by omega] at HL2 hs2
  have hs3 : ∀ W, (Instr.slice 39 (.slice ra (N + 4) rc) (some (.int .i64 4)) none none).run Tryz.prog W = .ok (.slice A2 N (rc - 4)) W := hs2
  clear hr hr0 hfar hb2 hL2 hs2 hsl
  go_wp2
  go_returns
  exact ⟨_, rfl, HL2.out, B2.out⟩

theorem rfirst0_any (w00 w : World) (hX : Below w00.heap.size w00 w) (v : Value) (bs : List Nat) (at_ : Nat) (h : Lies w00 v bs) (hb : Byt bs) (hat : at_ ≤ bs.length) (hl2 : bs.length ≤ 200000) : Calls Tryz.prog 50 #[v, .int .i64 (at_ : Int)] w (Firsted0 w00 w (fst (bs.drop at_)).1 (fst (bs.drop at_)).2.1 (fst (bs.drop at_)).2.2) := by
  unfold fst
  by_cases h1 : (bs.drop at_).length < 4
  · rw [if_pos h1]; exact rfirst_short w00 w v bs at_ h hat hl2 h1
  · by_cases h2 : 65536 < n4 (bs.drop at_)
    · rw [if_neg h1, if_pos h2]; exact rfirst_big w00 w hX v bs at_ h hb hat (by omega) hl2 h2
    · by_cases h3 : (bs.drop at_).length < n4 (bs.drop at_) + 8
      · rw [if_neg h1, if_neg h2, if_pos h3]; exact rfirst_torn w00 w hX v bs at_ h hb hat (by omega) hl2 (by omega) (by rw [List.length_drop] at h3; exact h3)
      · have h3' : n4 (bs.drop at_) + 8 ≤ bs.length - at_ := by rw [List.length_drop] at h3; omega
        by_cases h4 : Sealed ((bs.drop at_).take (n4 (bs.drop at_) + 8))
        · rw [if_neg h1, if_neg h2, if_neg h3, if_pos h4]; exact rfirst_ok w00 w hX v bs at_ h hb hat (by omega) hl2 (by omega) h3' h4
        · rw [if_neg h1, if_neg h2, if_neg h3, if_neg h4]; exact rfirst_sum w00 w hX v bs at_ h hb hat (by omega) hl2 (by omega) h3' h4

end Go.Proofs.YtgbihpfpiaacfaaGreatDoor.Rc



/-! ### of CReJ -/
set_option linter.unusedVariables false
namespace Go.Proofs.YtgbihpfpiaacfaaGreatDoor.Rc
open Go.RowKit

theorem Tryz.info3 : (Tryz.prog.info? 3).map (fun i => (i.zero, i.size, i.bytes)) = some (some (.int .i64 0), 1, 8) := by kernel_rfl
theorem Tryz.info22 : (Tryz.prog.info? 39).map (fun i => (i.zero, i.size, i.bytes)) = some (some (.slice none 0 0), 1, 24) := by kernel_rfl

/-- A record as it was read: where it begins, the slice, what it says. -/
abbrev Rc := Nat × Value × List Nat
def ats (l : List Rc) : List Value := l.map fun p => .int .i64 (p.1 : Int)
def ins (l : List Rc) : List Value := l.map fun p => p.2.1
def both (l : List Rc) : List (Nat × List Nat) := l.map fun p => (p.1, p.2.2)
/-- What the reference's All leaves. -/
structure AllOut (w w' : World) (bs : List Nat) (v1 v2 : Value) (l : List Rc) : Prop where
  own1 : w'.ownsRow w.heap.size 3 1 v1 l.length (ats l)
  own2 : w'.ownsRow w.heap.size 39 1 v2 l.length (ins l)
  each : ∀ p ∈ l, Lies w p.2.1 p.2.2
  below : Below w.heap.size w w'
theorem own_apart {w : World} {B C e f : Nat} {v u : Value} {n m : Nat} {xs ys : List Value} (h : w.ownsRow B e 1 v n xs) (k : w.ownsRow C f 1 u m ys) (hef : e ≠ f) : v.ownBlock = none ∨ v.ownBlock ≠ u.ownBlock := by
  rcases h.2 with ⟨rfl, _⟩ | ⟨g, cap, cur, rfl, _, hg, _⟩
  · exact .inl rfl
  · rcases k.2 with ⟨rfl, _⟩ | ⟨g', cap', cur', rfl, _, hg', _⟩
    · exact .inr (by simp [Value.ownBlock])
    · refine .inr (fun e2 => hef ?_)
      have e3 : g = g' := by simpa [Value.ownBlock] using e2
      subst e3
      rw [hg] at hg'
      injection hg' with hg'
      injection hg'
theorem src_int (w : World) (x : Int) (T : TypeId) : Src Tryz.prog 1 54 (.slice (some ⟨w.heap.size, 0, none⟩) 1 1) 1 [.int .i64 x] (w.alloc (.cells #[.int .i64 x] T)) := by
  refine Src.ofSlice _ Tryz.underlying54 _ _ _ _ rfl ?_ (by simp [Value.oneCell'])
  intro j u hj
  match j, hj with
  | 0, hj =>
    have e : u = .int .i64 x := by simpa using hj.symm
    rw [e]
    exact cell_of_one (heap_alloc_new w (.cells #[.int .i64 x] T))
  | j + 1, hj => simp at hj
theorem src_sl (w : World) (a : Option Addr) (n c : Nat) (T : TypeId) : Src Tryz.prog 1 30 (.slice (some ⟨w.heap.size, 0, none⟩) 1 1) 1 [.slice a n c] (w.alloc (.cells #[.slice a n c] T)) := by
  refine Src.ofSlice _ Tryz.underlying30 _ _ _ _ rfl ?_ (by simp [Value.oneCell'])
  intro j u hj
  match j, hj with
  | 0, hj =>
    have e : u = .slice a n c := by simpa using hj.symm
    rw [e]
    exact cell_of_one (heap_alloc_new w (.cells #[.slice a n c] T))
  | j + 1, hj => simp at hj

set_option maxRecDepth 100000 in
set_option maxHeartbeats 1600000 in
theorem rall_any (w : World) (v : Value) (bs : List Nat) (h : Lies w v bs) (hb : Byt bs) (hl : bs.length ≤ 200000) :
    Calls Tryz.prog 35 #[v] w fun e w' => ∃ v1 v2 l, e = .returned (.tuple #[v1, v2, .int .i64 (takes (recs bs) : Int)]) ∧ both l = recs bs ∧ AllOut w w' bs v1 v2 l := by
  obtain ⟨i3, hi3, hz03, hz13, hz23⟩ := info_parts Tryz.info3
  obtain ⟨i2, hi2, hz02, hz12, hz22⟩ := info_parts Tryz.info22
  have H := Lib.hid h
  have HB := Lib.hid hb
  obtain ⟨ao, cap, rfl, _⟩ := h
  clear hb
  go_enter Tryz.func35, Tryz.ntmps35
  go_wp2
  go_loopw [5, 6, 7] (fun av iv ev wr => ∃ (en : Nat) (l : List Rc), ev = .int .i64 (en : Int) ∧ en ≤ bs.length ∧ l.length ≤ 200000 ∧ Hid (recs bs = both l ++ recsAt en (bs.drop en) ∧ en = takes (both l) ∧ AllOut w wr bs av iv l)) (fun _ _ ev _ => bs.length - (intOf ev).toNat)
  case atStart => exact ⟨0, [], rfl, Nat.zero_le _, Nat.zero_le _, Lib.hid ⟨rfl, rfl, World.ownsRow_nil _ _ _ _, World.ownsRow_nil _ _ _ _, (fun p hp => by cases hp), Below.refl _ _⟩⟩
  case round =>
    obtain ⟨en, l, rfl, hen, hll, hI⟩ := hrel
    have hX := hI.out.2.2.below
    have O1 := Lib.hid hI.out.2.2.own1
    have O2 := Lib.hid hI.out.2.2.own2
    have HE := Lib.hid hI.out.2.2.each
    have HR := Lib.hid hI.out.1
    have HT := Lib.hid hI.out.2.1
    have hfl : (fst (bs.drop en)).2.2 = 0 → (fst (bs.drop en)).2.1 = (fst (bs.drop en)).1.length + 8 ∧ (fst (bs.drop en)).2.1 ≤ bs.length - en := fun h => by
      have := fst_len h
      rw [List.length_drop] at this
      exact ⟨this.1, this.2.1⟩
    have hok := fun h => recsAt_ok (at_ := en) (bs := bs.drop en) h
    have hno := fun h => recsAt_no (at_ := en) (bs := bs.drop en) h
    have F := Lib.hid (rfirst0_any w wr hX _ bs en H.out HB.out hen hl)
    generalize fst (bs.drop en) = q at *
    obtain ⟨x, c, er⟩ := q
    dsimp only at hfl hok hno F
    have hfl := Lib.hid hfl
    have hok := Lib.hid hok
    have hno := Lib.hid hno
    have HX := Lib.hid hX
    obtain ⟨aa, ac, rfl⟩ := own_shape hI.out.2.2.own1
    obtain ⟨ia, ic, rfl⟩ := own_shape hI.out.2.2.own2
    clear hX hI
    go_wp2_with fail
    refine F.out.mono ?_
    rintro e w1 ⟨r, rfl, hL, hb1⟩
    have P1 := Lib.hid (own_kept O1.out hb1)
    have P2 := Lib.hid (own_kept O2.out hb1)
    have B1 := Lib.hid (HX.out.trans (hb1.mono HX.out.size))
    have HL := Lib.hid hL
    obtain ⟨ra, rc, rfl⟩ := lies_shape hL
    clear hb1 hL
    by_cases he : er = 0
    · have f1 := hfl.out he
      have f2 := Lib.hid (hok.out he)
      subst he
      obtain ⟨fc, f3⟩ := f1
      have HFC := Lib.hid fc
      have hc9 : 8 ≤ c := by omega
      have hs1 := B1.out.size
      have hlc : l.length + 1 ≤ 200000 := by
        have h1 := congrArg List.length HR.out
        have h2 := recsAt_count 0 bs
        rw [f2.out] at h1
        unfold both at h1
        simp only [List.length_map, List.length_append, List.length_cons] at h1
        have h3 : recs bs = recsAt 0 bs := rfl
        rw [h3] at h1
        omega
      have hx2 : (x.length : Int) + 8 ≤ 200000 := by omega
      clear hfl hok hno fc
      have h22 : (39 : Nat) ≠ 3 := by decide
      have h33 : (3 : Nat) ≠ 39 := by decide
      have BA := Lib.hid (B1.out.alloc hs1 (.cells #[.int .i64 (en : Int)] 3))
      have PA1 := Lib.hid (P1.out.alloc (.cells #[.int .i64 (en : Int)] 3))
      have PA2 := Lib.hid (P2.out.alloc (.cells #[.int .i64 (en : Int)] 3))
      have AP := Lib.hid (own_apart PA2.out PA1.out h22)
      go_wp2_with (first
        | (at_builtin; refine wpList_append_src_own rfl (.tmp 23) (.tmp 25) 54 54 rfl w.heap.size 3 i3 (.int .i64 0) 1 8 Tryz.underlying54 hi3 hz03 hz13 hz23 rfl (by decide) (.slice aa l.length ac) l.length (ats l) rfl PA1.out _ 1 [.int .i64 (en : Int)] rfl (src_int _ _ _) (by unfold maxLen; omega) (by omega) BA.out.size ?_; intro v3 w3 hown hgr hspr; have K1 := Lib.hid hown; have Q2 := Lib.hid (PA2.out.kept hgr AP.out); have B3 := Lib.hid (BA.out.grown hgr BA.out.size (fun k hk => (P1.out.lt k hk).1)); clear hown hgr hspr; obtain ⟨a3, c3, rfl⟩ := own_shape K1.out; have BB := Lib.hid (B3.out.alloc B3.out.size (.cells #[.slice ra x.length rc] 39)); have KA1 := Lib.hid (K1.out.alloc (.cells #[.slice ra x.length rc] 39)); have KA2 := Lib.hid (Q2.out.alloc (.cells #[.slice ra x.length rc] 39)); have AQ := Lib.hid (own_apart KA1.out KA2.out h33))
        | (at_builtin; refine wpList_append_src_own rfl (.tmp 27) (.tmp 29) 30 30 rfl w.heap.size 39 i2 (.slice none 0 0) 1 24 Tryz.underlying30 hi2 hz02 hz12 hz22 rfl (by decide) (.slice ia l.length ic) l.length (ins l) rfl KA2.out _ 1 [.slice ra x.length rc] rfl (src_sl _ _ _ _ _) (by unfold maxLen; omega) (by omega) BB.out.size ?_; intro v4 w4 hown hgr hspr; have K2 := Lib.hid hown; have Q1 := Lib.hid (KA1.out.kept hgr AQ.out); have B4 := Lib.hid (BB.out.grown hgr BB.out.size (fun k hk => (Q2.out.lt k hk).1)); clear hown hgr hspr; obtain ⟨a4, c4, rfl⟩ := own_shape K2.out))
      have HN : Hid (recs bs = both (l ++ [(en, .slice ra x.length rc, x)]) ++ recsAt (en + c) (bs.drop (en + c)) ∧ en + c = takes (both (l ++ [(en, .slice ra x.length rc, x)])) ∧ AllOut w w4 bs (.slice a3 (l.length + 1) c3) (.slice a4 (l.length + 1) c4) (l ++ [(en, .slice ra x.length rc, x)])) := Lib.hid (by
        refine ⟨?_, ?_, ⟨?_, ?_, fun p hp => ?_, B4.out⟩⟩
        · rw [HR.out, f2.out, List.drop_drop]; unfold both; simp
        · unfold both; rw [List.map_append, takes_append, HFC.out]
          have := HT.out
          unfold both at this
          rw [← this]; simp [takes]
        · rw [List.length_append]; unfold ats; rw [List.map_append]; exact Q1.out
        · rw [List.length_append]; unfold ins; rw [List.map_append]; exact K2.out
        · rcases List.mem_append.1 hp with hp | hp
          · exact HE.out p hp
          · rw [List.mem_singleton.1 hp]; exact HL.out)
      go_roundw
      case rel => exact ⟨en + c, l ++ [(en, .slice ra x.length rc, x)], by rw [HFC.out]; go_num, by omega, by simpa using hlc, HN⟩
      case measure => simp [intOf]; omega
    · have t1 := neb_ (er : Int) 0 (by omega)
      have f2 := hno.out he
      have HE2 : Hid (both l = recs bs) := Lib.hid (by rw [HR.out, f2, List.append_nil])
      have HT2 : Hid (en = takes (recs bs)) := Lib.hid (by rw [← HE2.out]; exact HT.out)
      clear hfl hok hno f2 he
      go_wp2
      go_returns
      exact ⟨_, _, l, by rw [← HT2.out]; rfl, HE2.out, P1.out, P2.out, HE.out, B1.out⟩
end Go.Proofs.YtgbihpfpiaacfaaGreatDoor.Rc



set_option linter.unusedVariables false
set_option linter.unusedSimpArgs false
set_option maxRecDepth 100000
namespace Go.Proofs.YtgbihpfpiaacfaaGreatDoor
open Go.RowKit Go.Shelf Go.WideMaps Go.Maps

abbrev n7 : ByteArray := ⟨#[108, 111, 103, 46, 55]⟩
abbrev n8 : ByteArray := ⟨#[108, 111, 103, 46, 56]⟩
abbrev n9 : ByteArray := ⟨#[108, 111, 103, 46, 57]⟩
theorem e7 : sg 7 = n7 := by kernel_rfl
theorem e8 : sg 8 = n8 := by kernel_rfl
theorem e9 : sg 9 = n9 := by kernel_rfl
abbrev DSx (m : Option Nat) (L : List Fl) : DS := ⟨m, 16777216, L, false, 0, false⟩
theorem fnd_of {m : Option Nat} {L : List Fl} {nm : ByteArray} {x : Fl} (h : getF L nm = some x) : fnd (DSx m L) nm = 0 ∧ fval (DSx m L) nm = x := by
  unfold fnd fval
  dsimp only
  rw [h]
  exact ⟨rfl, rfl⟩
theorem fnd_un {m : Option Nat} {L : List Fl} {nm : ByteArray} (h : getF L nm = none) : fnd (DSx m L) nm = 8 := by
  unfold fnd
  dsimp only
  rw [h]
  rfl
theorem create_x (w : World) (d : Nat) (m : Option Nat) (L : List Fl) (h : DK w d d (DSx m L)) (nm : ByteArray) (hs : nm.size ≤ 100) (hl : L.length < 1000) (hg : getF L nm = none) :
    Calls Tryz.prog 33 #[pv d, .string nm] w fun e w' => e = .returned (.int .i64 0) ∧ ∃ m', Out d d (DSx m L) (DSx m' (setF L (zf nm))) w w' := by
  have := create_any w d d (DSx m L) h (Nat.le_of_lt h.dlt) nm (by unfold maxLen; omega) (by show L.length < 100000; omega)
  have h8 := fnd_un (m := m) hg
  have e1 : crE (DSx m L) nm = 0 := by unfold crE; rw [h8, tk_un rfl]; rfl
  have e2 : crS (DSx m L) nm = DSx m (setF L (zf nm)) := by unfold crS; rw [h8, tk_un rfl, aft_un rfl]; rfl
  rw [e1, e2] at this
  exact this
theorem lies_bi {w : World} {v : Value} {b : List Nat} (h : Rc.Lies w v b) : LiesK encB 1 w v (bi b) := by
  obtain ⟨ao, cap, rfl, h1, h2, h3, h4⟩ := h
  refine ⟨ao, cap, by rw [bi_len], by rw [bi_len]; exact h1, h2, fun e => ?_, fun x hx hn => ?_⟩
  · obtain ⟨e1, e2⟩ := h3 e
    rw [e1]
    exact ⟨rfl, e2⟩
  · obtain ⟨g, o, rfl, hg, hc⟩ := h4 x hx (fun e => hn (by rw [e]; rfl))
    refine ⟨g, o, rfl, hg, fun j p hj i u hu => ?_⟩
    unfold bi at hj
    rw [List.getElem?_map] at hj
    cases hb : b[j]? with
    | none => rw [hb] at hj; cases hj
    | some n =>
      rw [hb] at hj
      have hj : (n : Int) = p := by simpa using hj
      subst hj
      match i, hu with
      | 0, hu =>
        have hu : Value.int .u8 (n : Int) = u := by simpa [encB] using hu
        subst hu
        have := hc j n hb
        simpa using this
      | i + 1, hu => simp [encB] at hu
theorem lies_lt {w : World} {v : Value} {b : List Nat} (h : Rc.Lies w v b) : b ≠ [] → ∀ j, v.ownBlock = some j → j < w.heap.size := by
  intro hne j e
  obtain ⟨ao, cap, rfl, h1, h2, h3, h4⟩ := h
  cases ao with
  | none => cases e
  | some x =>
    obtain ⟨g, o, rfl, hg, _⟩ := h4 x rfl hne
    have e : g = j := by simpa [Value.ownBlock] using e
    omega
theorem append_x (w : World) (d : Nat) (m : Option Nat) (L : List Fl) (h : DK w d d (DSx m L)) (nm : ByteArray) (hs : nm.size ≤ 100) (hl : L.length < 1000) (x : Fl) (hg : getF L nm = some x) (v : Value) (b : List Nat) (hv : Rc.Lies w v b) (hvd : b ≠ [] → ∀ j, v.ownBlock = some j → j < d) (hb : b.length ≤ 400) (hu : usedF L ≤ 1000) :
    Calls Tryz.prog 34 #[pv d, .string nm, v] w fun e w' => e = .returned (.int .i64 0) ∧ ∃ a' c', Out d d (DSx m L) (DSx m (setF L ⟨nm, a', c', x.b ++ bi b, x.s⟩)) w w' := by
  have hf := fnd_of (m := m) hg
  have := append_fit w d d (DSx m L) h (Nat.le_of_lt h.dlt) nm (by unfold maxLen; omega) (by show L.length < 100000; omega) v (bi b) (lies_bi hv) (fun hne j e hk => by have := (h.base j hk).1; have := hvd (fun e2 => hne (by rw [e2]; rfl)) j e; omega) (by rw [bi_len]; omega) hf.1 (by rw [bi_len]; show ¬ ((16777216 : Int) - (usedF L : Int) < _); omega) rfl
  rw [hf.2] at this
  exact this
section
variable {a1 a2 : Option Addr} {c1 c2 : Nat} {b1 b2 : List Int} {s1 s2 : Int}
theorem lt77 : ltB n7 n7 = false ∧ ltB n8 n8 = false ∧ ltB n9 n9 = false ∧ ltB n7 n8 = true ∧ ltB n8 n7 = false ∧ ltB n7 n9 = true ∧ ltB n9 n7 = false ∧ ltB o8 n7 = true ∧ ltB n7 o8 = false ∧ ltB o8 n8 = true ∧ ltB n8 o8 = false ∧ ltB o8 n9 = true ∧ ltB n9 o8 = false ∧ ltB oE n7 = true ∧ ltB n7 oE = false ∧ ltB oE n8 = true ∧ ltB n8 oE = false ∧ ltB oE n9 = true ∧ ltB n9 oE = false ∧ ltB oE o8 = true ∧ ltB o8 oE = false := by refine ⟨?_, ?_, ?_, ?_, ?_, ?_, ?_, ?_, ?_, ?_, ?_, ?_, ?_, ?_, ?_, ?_, ?_, ?_, ?_, ?_, ?_⟩ <;> kernel_rfl
theorem L1 : setF [] (zf n7) = [zf n7] := rfl
theorem L2 {y : Fl} (hy : y.n = n7) : setF [zf n7] y = [y] := by
  simp [setF, ltF, zf, hy, lt77]
theorem L3 {y : Fl} (hy : y.n = n7) {z : ByteArray} (hz : z = n8 ∨ z = n9) : setF [y] (zf z) = [y, zf z] := by
  rcases hz with rfl | rfl <;> simp [setF, ltF, zf, hy, lt77]
theorem L4 {x y : Fl} (hx : x.n = n7) (hy : y.n = n8 ∨ y.n = n9) : setF [x, zf y.n] y = [x, y] := by
  rcases hy with hy | hy <;> simp [setF, ltF, zf, hx, hy, lt77]
theorem L5 {x y : Fl} (hx : x.n = n7) (hy : y.n = n8 ∨ y.n = n9) : setF [x, y] (zf o8) = [zf o8, x, y] := by
  rcases hy with hy | hy <;> simp [setF, ltF, zf, hx, hy, lt77]
theorem L6 {x y : Fl} (hx : x.n = n7) (hy : y.n = n8 ∨ y.n = n9) : setF [zf o8, x, y] (zf oE) = [zf oE, zf o8, x, y] := by
  rcases hy with hy | hy <;> simp [setF, ltF, zf, hx, hy, lt77]
theorem L7 {x y z : Fl} (hx : x.n = n7) (hy : y.n = n8) (hz : z.n = n8) : setF [zf oE, zf o8, x, y] z = [zf oE, zf o8, x, z] := by
  simp [setF, ltF, zf, hx, hy, hz, lt77]
theorem ne77 : n7 ≠ n8 ∧ n7 ≠ n9 ∧ n7 ≠ o8 ∧ n7 ≠ oE ∧ n8 ≠ o8 ∧ n8 ≠ oE ∧ n9 ≠ o8 ∧ n9 ≠ oE ∧ o8 ≠ oE ∧ n8 ≠ n7 ∧ n9 ≠ n7 ∧ o8 ≠ n7 ∧ oE ≠ n7 ∧ o8 ≠ n8 ∧ oE ≠ n8 ∧ o8 ≠ n9 ∧ oE ≠ n9 ∧ oE ≠ o8 := by
  refine ⟨?_, ?_, ?_, ?_, ?_, ?_, ?_, ?_, ?_, ?_, ?_, ?_, ?_, ?_, ?_, ?_, ?_, ?_⟩ <;> (intro e; have := congrArg (fun x : ByteArray => x.data.toList) e; revert this; decide)
theorem G3 {x : Fl} (hx : x.n = n7) {z : ByteArray} (hz : z = n8 ∨ z = n9) : getF [x] z = none := by
  rcases hz with rfl | rfl <;> simp [getF, isN, hx, ne77]
theorem G4 {x : Fl} (hx : x.n = n7) {z : ByteArray} (hz : z = n8 ∨ z = n9) : getF [x, zf z] z = some (zf z) := by
  rcases hz with rfl | rfl <;> simp [getF, isN, zf, hx, ne77]
theorem G5 {x y : Fl} (hx : x.n = n7) (hy : y.n = n8 ∨ y.n = n9) : getF [x, y] o8 = none := by
  rcases hy with hy | hy <;> simp [getF, isN, hx, hy, ne77]
theorem G6 {x y : Fl} (hx : x.n = n7) (hy : y.n = n8 ∨ y.n = n9) : getF [zf o8, x, y] oE = none := by
  rcases hy with hy | hy <;> simp [getF, isN, zf, hx, hy, ne77]
theorem G7 {x y : Fl} (hx : x.n = n7) : getF [zf oE, zf o8, x, y] n7 = some x := by
  simp [getF, isN, zf, hx, ne77]
theorem G8 {x y : Fl} (hx : x.n = n7) (hy : y.n = n8) : getF [zf oE, zf o8, x, y] n8 = some y := by
  simp [getF, isN, zf, hx, hy, ne77]
end
theorem sorted_two {kz : List Int} {x y : Int} (hxy : x ≤ y) (hp : kz.Perm [x, y]) (hs : kz.Pairwise (fun x y => x ≤ y)) : kz = [x, y] :=
  List.Perm.eq_of_pairwise (le := fun x y : Int => x ≤ y) (fun a b _ _ h1 h2 => by omega) hs (List.pairwise_cons.2 ⟨fun z hz => by rw [List.mem_singleton.1 hz]; exact hxy, List.pairwise_singleton _ _⟩) hp
theorem segs_two (w : World) (d : Nat) (m : Option Nat) (x y : Fl) (h : DK w d d (DSx m [zf oE, zf o8, x, y])) (hx : x.n = sg 7) (k : Nat) (hk : 7 < k ∧ k < 100) (hy : y.n = sg k) (ev : Value) (hv : w.cell? ⟨0, 0, none⟩ = some ev) (hev : ev = .nilIface ∨ ∃ te pe, ev = .iface te pe) :
    Calls Tryz.prog 38 #[pv d] w fun e w' => ∃ v, e = .returned v ∧ w'.ownsRow w.heap.size 3 1 v 2 ([(7 : Int), (k : Int)].flatMap enI) ∧ Below w.heap.size w w' := by
  refine (segs_odd w d d _ h [(oE, none), (o8, none), (sg 7, some 7), (sg k, some k)] (by show [oE, o8, x.n, y.n] = _; rw [hx, hy]; rfl) (fun z hz => ?_) (by simp) ev hv hev).mono ?_
  · simp only [List.mem_cons, List.not_mem_nil, or_false] at hz
    rcases hz with rfl | rfl | rfl | rfl
    · exact .inr (.inr rfl)
    · exact .inr (.inl rfl)
    · exact .inl ⟨7, rfl, by omega, by omega⟩
    · exact .inl ⟨k, rfl, by omega, hk.2⟩
  · rintro e w' ⟨v, kz, rfl, ho, hp, hs, hb⟩
    have e2 : kz = [(7 : Int), (k : Int)] := sorted_two (by omega) hp hs
    subst e2
    exact ⟨v, rfl, ho, hb⟩
section
variable {w : World} {d : Nat} {m : Option Nat} {x y : Fl} {a b : List Nat} {ev : Value}
theorem op_gap (h : DK w d d (DSx m [zf oE, zf o8, x, y])) (hx : x.n = n7) (hy : y.n = n9) (hv : w.cell? ⟨0, 0, none⟩ = some ev) (hev : ev = .nilIface ∨ ∃ te pe, ev = .iface te pe) :
    Calls Tryz.prog 11 #[pv d, .int .i64 64] w fun e w' => e = .returned (.tuple #[.pointer none, .slice none 0 0, .int .i64 4]) ∧ Below w.heap.size w w' :=
  open_gap w d d _ h rfl (segs_two w d m x y h (hx.trans e7.symm) 9 (by omega) (hy.trans e9.symm) ev hv hev)
theorem op_facts (h : DK w d d (DSx m [zf oE, zf o8, x, y])) (hx : x.n = n7) (hy : y.n = n8) (hxa : x.b = bi a) (hyb : y.b = bi b) : ∀ k, 7 ≤ k → k ≤ 7 + 1 → fnd (DSx m [zf oE, zf o8, x, y]) (sg k) = 0 ∧ (fval (DSx m [zf oE, zf o8, x, y]) (sg k)).b = bi ((fun k => if k = 7 then a else b) k) := by
  intro k h1 h2
  rcases (show k = 7 ∨ k = 8 from by omega) with rfl | rfl
  · rw [e7]
    have := fnd_of (m := m) (G7 (y := y) hx)
    refine ⟨this.1, ?_⟩
    rw [this.2]
    exact hxa
  · rw [e8]
    have := fnd_of (m := m) (G8 hx hy)
    refine ⟨this.1, ?_⟩
    rw [this.2]
    exact hyb
theorem op_hby (ha : Rc.Byt a) (hb : Rc.Byt b) : ∀ k, 7 ≤ k → k ≤ 7 + 1 → Rc.Byt ((fun k => if k = 7 then a else b) k) := by
  intro k _ _
  dsimp only
  split
  · exact ha
  · exact hb
theorem op_tot (hla : a.length ≤ 400) (hlb : b.length ≤ 400) : ((List.range' 7 (1 + 1)).map (fun k => ((fun k => if k = 7 then a else b) k).length)).sum ≤ 45000 := by
  show a.length + (b.length + 0) ≤ 45000
  omega
theorem op_segs (h : DK w d d (DSx m [zf oE, zf o8, x, y])) (hx : x.n = n7) (hy : y.n = n8) (hv : w.cell? ⟨0, 0, none⟩ = some ev) (hev : ev = .nilIface ∨ ∃ te pe, ev = .iface te pe) :
    Calls Tryz.prog 38 #[pv d] w fun e w' => ∃ v, e = .returned v ∧ w'.ownsRow w.heap.size 3 1 v (1 + 1) ((ints (List.range' 7 (1 + 1))).flatMap enI) ∧ Below w.heap.size w w' :=
  segs_two w d m x y h (hx.trans e7.symm) 8 (by omega) (hy.trans e8.symm) ev hv hev
theorem op_len (hxa : x.b = bi a) (hyb : y.b = bi b) (hla : a.length ≤ 400) (hlb : b.length ≤ 400) : ∀ z ∈ [zf oE, zf o8, x, y], z.b.length ≤ 100000000 := by
  intro z hz
  simp only [List.mem_cons, List.not_mem_nil, or_false] at hz
  rcases hz with rfl | rfl | rfl | rfl
  · exact Nat.zero_le _
  · exact Nat.zero_le _
  · rw [hxa, bi_len]; omega
  · rw [hyb, bi_len]; omega
theorem op_bad (h : DK w d d (DSx m [zf oE, zf o8, x, y])) (hx : x.n = n7) (hy : y.n = n8) (hxa : x.b = bi a) (hyb : y.b = bi b) (ha : Rc.Byt a) (hb : Rc.Byt b) (hla : a.length ≤ 400) (hlb : b.length ≤ 400) (hv : w.cell? ⟨0, 0, none⟩ = some ev) (hev : ev = .nilIface ∨ ∃ te pe, ev = .iface te pe) (hbad : Rc.takes (Rc.recs a) < a.length) :
    Calls Tryz.prog 11 #[pv d, .int .i64 64] w fun e w' => e = .returned (.tuple #[.pointer none, .slice none 0 0, .int .i64 4]) ∧ Below w.heap.size w w' :=
  open_bad w d d _ h (Nat.le_of_lt h.dlt) rfl rfl (by simp) 64 (by omega) 7 1 (by omega) (by omega) (op_segs h hx hy hv hev) _ (op_facts h hx hy hxa hyb) (op_hby ha hb) (op_tot hla hlb) (Nat.le_refl _) hbad (op_len hxa hyb hla hlb)
theorem op_ok (h : DK w d d (DSx m [zf oE, zf o8, x, y])) (hx : x.n = n7) (hy : y.n = n8) (hxa : x.b = bi a) (hyb : y.b = bi b) (ha : Rc.Byt a) (hb : Rc.Byt b) (hla : a.length ≤ 400) (hlb : b.length ≤ 400) (hv : w.cell? ⟨0, 0, none⟩ = some ev) (hev : ev = .nilIface ∨ ∃ te pe, ev = .iface te pe) (hw : Rc.takes (Rc.recs a) = a.length) :
    Calls Tryz.prog 11 #[pv d, .int .i64 64] w fun e w' => ∃ q sv, e = .returned (.tuple #[.pointer (some ⟨q, 0, none⟩), sv, .int .i64 0]) ∧ w.heap.size ≤ q ∧ JK w' d q d (DSx m [zf oE, zf o8, x, cutF y (Rc.takes (Rc.recs b))]) 64 7 8 ((Rc.takes (Rc.recs b) : Nat) : Int) ∧ Says w' w.heap.size sv ((Rc.recs a).map (·.2) ++ (Rc.recs b).map (·.2)) ∧ Far (Has d (DSx m [zf oE, zf o8, x, y])) w w' := by
  refine (open_gen w d d _ h (Nat.le_of_lt h.dlt) rfl rfl (by simp) 64 (by omega) 7 1 (by omega) (by omega) (op_segs h hx hy hv hev) (fun k => if k = 7 then a else b) (op_facts h hx hy hxa hyb) (op_hby ha hb) (op_tot hla hlb) (fun k h1 h2 => by
    obtain rfl : k = 7 := by omega
    exact hw) (op_len hxa hyb hla hlb)).mono ?_
  rintro e w' ⟨q, sv, rfl, hq, hj, hs, hf⟩
  refine ⟨q, sv, rfl, hq, ?_, ?_, hf⟩
  · have e1 : fval (DSx m [zf oE, zf o8, x, y]) (sg (7 + 1)) = y := by rw [e8]; exact (fnd_of (m := m) (G8 hx hy)).2
    rw [e1, show (if (7 + 1) = 7 then a else b) = b from rfl] at hj
    have e2 : setF [zf oE, zf o8, x, y] (cutF y (Rc.takes (Rc.recs b))) = [zf oE, zf o8, x, cutF y (Rc.takes (Rc.recs b))] := L7 hx hy hy
    rw [show ({ (DSx m [zf oE, zf o8, x, y]) with l := setF [zf oE, zf o8, x, y] (cutF y (Rc.takes (Rc.recs b))) } : DS) = DSx m [zf oE, zf o8, x, cutF y (Rc.takes (Rc.recs b))] from by rw [e2]] at hj
    exact hj
  · have e3 : (List.range' 7 (1 + 1)).flatMap (says1 (fun k => if k = 7 then a else b)) = (Rc.recs a).map (·.2) ++ (Rc.recs b).map (·.2) := by
      show (Rc.recs a).map (·.2) ++ ((Rc.recs b).map (·.2) ++ []) = _
      rw [List.append_nil]
    rw [e3] at hs
    exact hs
end
end Go.Proofs.YtgbihpfpiaacfaaGreatDoor

set_option linter.unusedVariables false
set_option linter.unusedSimpArgs false
set_option maxRecDepth 100000
namespace Go.Proofs.YtgbihpfpiaacfaaGreatDoor
open Go.RowKit Go.Shelf Go.WideMaps Go.Maps

/-- The disk between the law's calls. -/
structure OS (w W : World) (d : Nat) (m : Option Nat) (L : List Fl) : Prop where
  dk : DK W d d (DSx m L)
  bel : Below d w W
theorem OS.step {w W W' : World} {d : Nat} {m : Option Nat} {L : List Fl} (h : OS w W d m L) (hb : Below W.heap.size W W') : OS w W' d m L := ⟨h.dk.step hb, h.bel.trans (hb.mono (Nat.le_of_lt h.dk.dlt))⟩
theorem OS.out {w W W' : World} {d : Nat} {m m' : Option Nat} {L L' : List Fl} (h : OS w W d m L) (ho : Out d d (DSx m L) (DSx m' L') W W') : OS w W' d m' L' := ⟨ho.dk, h.bel.trans (ho.far.below (Nat.le_of_lt h.dk.dlt) (fun k hk => (h.dk.base k hk).1))⟩
theorem ins_len (l : List Rc.Rc) : (Rc.ins l).length = l.length := by unfold Rc.ins; rw [List.length_map]
theorem all_src {w w' W : World} {bs : List Nat} {v1 v2 : Value} {l : List Rc.Rc} (h : Rc.AllOut w w' bs v1 v2 l) (hb : Below w'.heap.size w' W) : Src Tryz.prog 1 30 v2 l.length (Rc.ins l) W := by
  have h1 := own_belowK h.own2 hb
  have h2 := liesV_src (by kernel_rfl : Tryz.prog.underlying 30 = some (.slice 39)) (own_liesK (enc := enV) (l := Rc.ins l) (fun _ => rfl) (by rw [flat_enV, ins_len]; exact h1)) (fun u hu => by
    unfold Rc.ins at hu
    obtain ⟨p, hp, rfl⟩ := List.mem_map.1 hu
    obtain ⟨a, c, e⟩ := Rc.lies_shape (h.each p hp)
    exact ⟨a, _, c, e⟩)
  rwa [ins_len] at h2
theorem all_says {w w' W : World} {bs : List Nat} {v1 v2 : Value} {l : List Rc.Rc} (h : Rc.AllOut w w' bs v1 v2 l) (hb : Below w'.heap.size w' W) (hl : Rc.both l = Rc.recs bs) : (Rc.ins l).length = ((Rc.recs bs).map (·.2)).length ∧ ∀ (j : Nat) u b, (Rc.ins l)[j]? = some u → ((Rc.recs bs).map (·.2))[j]? = some b → Rc.Lies W u b := by
  have e : (Rc.recs bs).map (·.2) = l.map (fun p => p.2.2) := by rw [← hl]; unfold Rc.both; rw [List.map_map]; rfl
  rw [e]
  refine ⟨by rw [ins_len, List.length_map], fun j u b hu hb2 => ?_⟩
  unfold Rc.ins at hu
  rw [List.getElem?_map] at hu hb2
  cases hp : l[j]? with
  | none => rw [hp] at hu; cases hu
  | some p =>
    rw [hp] at hu hb2
    have hu : p.2.1 = u := by simpa using hu
    have hb2 : p.2.2 = b := by simpa using hb2
    subst hu hb2
    exact (h.each p (List.mem_of_getElem? hp)).later (h.below.trans (hb.mono h.below.size))
theorem used_at (W : World) (d : Nat) (m : Option Nat) (L : List Fl) (h : DK W d d (DSx m L)) (n : Int) (hn : (usedF L : Int) = n) : Calls Tryz.prog 27 #[pv d] W fun e w' => e = .returned (.int .i64 n) ∧ Below W.heap.size W w' := by
  have := used_any W d d _ h
  rw [show ((usedF (DSx m L).l : Nat) : Int) = n from hn] at this
  exact this
theorem sure_at (W : World) (d : Nat) (m : Option Nat) (L : List Fl) (h : DK W d d (DSx m L)) (nm : ByteArray) (hs : nm.size ≤ 100) (x : Fl) (hg : getF L nm = some x) (n : Int) (hn : x.s = n) : Calls Tryz.prog 36 #[pv d, .string nm] W fun e w' => e = .returned (.int .i64 n) ∧ W = w' := by
  have := sure_any W d d _ h nm (by unfold maxLen; omega)
  rw [show getF (DSx m L).l nm = some x from hg] at this
  rw [← hn]
  exact this
set_option maxHeartbeats 25600000 in
theorem opens_any (w : World) (va vb : Value) (a b : List Nat) (gap : Bool) (ha : Rc.Lies w va a) (hb : Rc.Lies w vb b) (hab : Rc.Byt a) (hbb : Rc.Byt b) (ev : Value) (hv : w.cell? ⟨0, 0, none⟩ = some ev) (hev : ev = .nilIface ∨ ∃ te pe, ev = .iface te pe) :
    Calls Tryz.prog 6 #[va, vb, .bool gap] w fun e w' => e = .returned (.bool true) ∧ Below w.heap.size w w' := by
  obtain ⟨aa, ac, rfl⟩ := Rc.lies_shape ha
  obtain ⟨ba, bc, rfl⟩ := Rc.lies_shape hb
  have HA := Lib.hid (And.intro ha hab)
  have HB := Lib.hid (And.intro hb hbb)
  have HV := Lib.hid (And.intro hv hev)
  have LA := Lib.hid (lies_lt ha)
  have LB := Lib.hid (lies_lt hb)
  have NW := Lib.hid (new_any w 16777216 (by omega))
  have AW := Lib.hid awake_any
  have H0 := Lib.hid (World.block_lt_of_cell? w _ hv)
  clear ha hb hab hbb hv hev
  obtain ⟨na, hna⟩ : ∃ z, a.length = z := ⟨_, rfl⟩
  obtain ⟨nb, hnb⟩ : ∃ z, b.length = z := ⟨_, rfl⟩
  have HNA := Lib.hid hna
  have HNB := Lib.hid hnb
  rw [hna] at HA LA ⊢
  rw [hnb] at HB LB ⊢
  clear hna hnb
  go_enter Tryz.func6, Tryz.ntmps6
  go_wp2_with fail
  refine NW.out.mono ?_
  rintro e w1 ⟨rfl, hd, hb1⟩
  obtain ⟨d, hdq⟩ : ∃ z, w.heap.size = z := ⟨_, rfl⟩
  rw [hdq] at hd H0 LA LB ⊢
  have HDQ := Lib.hid hdq
  have S1 := Lib.hid (show OS w w1 d none [] from ⟨hd, by rw [← hdq]; exact hb1⟩)
  have DL := Lib.hid (show d ≤ w1.heap.size from by rw [← hdq]; exact hb1.size)
  clear hd hb1 NW hdq
  by_cases hbig : 400 < na ∨ (¬ 400 < na ∧ 400 < nb)
  · have hc : (400 : Int) < (na : Int) ∨ (¬ (400 : Int) < (na : Int) ∧ (400 : Int) < (nb : Int)) := by omega
    clear hbig
    rcases hc with h1 | ⟨h1, h2⟩
    all_goals
      go_wp2_with fail
      refine (AW.out _).mono ?_
      rintro e w3 ⟨rfl, hb⟩
      have S3 := Lib.hid (S1.out.step hb)
      clear hb
      go_wp2
      go_returns
      exact ⟨rfl, by rw [HDQ.out]; exact S3.out.bel⟩
  · have h1 : ¬ ((400 : Int) < (na : Int)) := by omega
    have h2 : ¬ ((400 : Int) < (nb : Int)) := by omega
    have HN := Lib.hid (show na ≤ 400 ∧ nb ≤ 400 from by omega)
    clear hbig
    have C1 := Lib.hid (create_x w1 d none [] S1.out.dk n7 (by decide) (by simp) rfl)
    rw [L1] at C1
    cases gap
    · go_wp2_with fail
      refine C1.out.mono ?_
      rintro e w2 ⟨rfl, m2, ho⟩
      have S2 := Lib.hid (S1.out.out ho)
      clear ho C1
      have C2 := Lib.hid (append_x w2 d m2 [zf n7] S2.out.dk n7 (by decide) (by simp) (zf n7) (by simp [getF, isN, zf]) (.slice aa na ac) a (by have := HA.out.1; exact this.later (by rw [HDQ.out]; exact S2.out.bel)) LA.out (by have := HNA.out; have := HN.out.1; omega) (by simp [usedF, zf]))
      go_wp2_with fail
      refine C2.out.mono ?_
      rintro e w3 ⟨rfl, a7, c7, ho⟩
      obtain ⟨F7, hF7⟩ : ∃ z : Fl, (⟨n7, a7, c7, (zf n7).b ++ bi a, (zf n7).s⟩ : Fl) = z := ⟨_, rfl⟩
      have HF7 := Lib.hid (show F7.n = n7 ∧ F7.b = bi a from by rw [← hF7]; exact ⟨rfl, rfl⟩)
      rw [hF7, L2 HF7.out.1] at ho
      have S3 := Lib.hid (S2.out.out ho)
      clear ho hF7 C2
      have UA := Lib.hid (show F7.b.length = na from by rw [HF7.out.2, bi_len]; exact HNA.out)
      have C3 := Lib.hid (create_x w3 d m2 [F7] S3.out.dk n8 (by decide) (by simp) (G3 HF7.out.1 (.inl rfl)))
      rw [L3 HF7.out.1 (.inl rfl)] at C3
      go_wp2_with fail
      refine C3.out.mono ?_
      rintro e w4 ⟨rfl, m4, ho⟩
      have S4 := Lib.hid (S3.out.out ho)
      clear ho C3
      have C4 := Lib.hid (append_x w4 d m4 [F7, zf n8] S4.out.dk n8 (by decide) (by simp) (zf n8) (G4 HF7.out.1 (.inl rfl)) (.slice ba nb bc) b (by have := HB.out.1; exact this.later (by rw [HDQ.out]; exact S4.out.bel)) LB.out (by have := HNB.out; have := HN.out.2; omega) (by have := UA.out; have := HN.out.1; simp only [usedF, zf, List.map_cons, List.map_nil, List.sum_cons, List.sum_nil, List.length_nil]; omega))
      go_wp2_with fail
      refine C4.out.mono ?_
      rintro e w5 ⟨rfl, a8, c8, ho⟩
      obtain ⟨F8, hF8⟩ : ∃ z : Fl, (⟨n8, a8, c8, (zf n8).b ++ bi b, (zf n8).s⟩ : Fl) = z := ⟨_, rfl⟩
      have HF8 := Lib.hid (show F8.n = n8 ∧ F8.b = bi b from by rw [← hF8]; exact ⟨rfl, rfl⟩)
      have HO8 := Lib.hid (show F8.n = n8 ∨ F8.n = n9 from by rw [HF8.out.1]; exact (.inl rfl))
      have l4 := L4 (x := F7) (y := F8) HF7.out.1 HO8.out
      rw [HF8.out.1] at l4
      rw [hF8, l4] at ho
      have S5 := Lib.hid (S4.out.out ho)
      clear ho hF8 l4 C4
      have UB := Lib.hid (show F8.b.length = nb from by rw [HF8.out.2, bi_len]; exact HNB.out)
      have C5 := Lib.hid (create_x w5 d m4 [F7, F8] S5.out.dk o8 (by decide) (by simp) (G5 HF7.out.1 HO8.out))
      rw [L5 HF7.out.1 HO8.out] at C5
      go_wp2_with fail
      refine C5.out.mono ?_
      rintro e w6 ⟨rfl, m6, ho⟩
      have S6 := Lib.hid (S5.out.out ho)
      clear ho C5
      have C6 := Lib.hid (create_x w6 d m6 [zf o8, F7, F8] S6.out.dk oE (by decide) (by simp) (G6 HF7.out.1 HO8.out))
      rw [L6 HF7.out.1 HO8.out] at C6
      go_wp2_with fail
      refine C6.out.mono ?_
      rintro e w7 ⟨rfl, m7, ho⟩
      have S7 := Lib.hid (S6.out.out ho)
      clear ho C6 S2 S3 S4 S5 S6
      have CV := Lib.hid (show w7.cell? ⟨0, 0, none⟩ = some ev from (S7.out.bel.cell (p := ⟨0, 0, none⟩) H0.out).trans HV.out.1)
      by_cases hbad : Rc.takes (Rc.recs a) < na
      · have OP := Lib.hid (op_bad S7.out.dk HF7.out.1 HF8.out.1 HF7.out.2 HF8.out.2 HA.out.2 HB.out.2 (by have := HNA.out; have := HN.out.1; omega) (by have := HNB.out; have := HN.out.2; omega) CV.out HV.out.2 (by have := HNA.out; omega))
        have hcmp : ((Rc.takes (Rc.recs a) : Nat) : Int) < (na : Int) := by omega
        clear hbad
        go_wp2_with fail
        refine OP.out.mono ?_
        rintro e w8 ⟨rfl, hb⟩
        have S8 := Lib.hid (S7.out.step hb)
        clear hb OP S7
        have RA := Lib.hid (Rc.rall_any w8 (.slice aa na ac) a (HA.out.1.later (by rw [HDQ.out]; exact S8.out.bel)) HA.out.2 (by have := HNA.out; have := HN.out.1; omega))
        go_wp2_with fail
        refine RA.out.mono ?_
        rintro e w9 ⟨v1, v2, la, rfl, hla, hA⟩
        have AA := Lib.hid (And.intro hla hA)
        have S9 := Lib.hid (S8.out.step hA.below)
        obtain ⟨x1, y1, rfl⟩ := own_shapeK hA.own1
        obtain ⟨x2, y2, rfl⟩ := own_shapeK hA.own2
        clear hla hA RA
        have RB := Lib.hid (Rc.rall_any w9 (.slice ba nb bc) b (HB.out.1.later (by rw [HDQ.out]; exact S9.out.bel)) HB.out.2 (by have := HNB.out; have := HN.out.2; omega))
        go_wp2_with fail
        refine RB.out.mono ?_
        rintro e w10 ⟨v3, v4, lb, rfl, hlb, hB⟩
        have AB := Lib.hid (And.intro hlb hB)
        have S10 := Lib.hid (S9.out.step hB.below)
        obtain ⟨x3, y3, rfl⟩ := own_shapeK hB.own1
        obtain ⟨x4, y4, rfl⟩ := own_shapeK hB.own2
        clear hlb hB RB
        have US := Lib.hid (used_at w10 d m7 [zf oE, zf o8, F7, F8] S10.out.dk ((na : Int) + (nb : Int)) (by have := UA.out; have := UB.out; simp only [usedF, zf, List.map_cons, List.map_nil, List.sum_cons, List.sum_nil, List.length_nil]; omega))
        have hws : wrap64 ((na : Int) + (nb : Int)) = (na : Int) + (nb : Int) := by have := HN.out; unfold wrap64; omega
        go_wp2_with fail
        refine US.out.mono ?_
        rintro e w11 ⟨rfl, hb⟩
        have S11 := Lib.hid (S10.out.step hb)
        clear hb US
        go_wp2_with fail
        refine (AW.out _).mono ?_
        rintro e w12 ⟨rfl, hb⟩
        have S12 := Lib.hid (S11.out.step hb)
        clear hb
        go_wp2
        go_returns
        exact ⟨rfl, by rw [HDQ.out]; exact S12.out.bel⟩
      · have TE := Lib.hid (show Rc.takes (Rc.recs a) = na from by have h9 : Rc.takes (Rc.recs a) ≤ a.length := Rc.recsAt_takes _ 0 a (Nat.le_refl _); have := HNA.out; omega)
        have TB := Lib.hid (show Rc.takes (Rc.recs b) ≤ nb from by have h9 : Rc.takes (Rc.recs b) ≤ b.length := Rc.recsAt_takes _ 0 b (Nat.le_refl _); have := HNB.out; omega)
        have LSA := Lib.hid (show ((Rc.recs a).map (·.2)).length ≤ 400 from by rw [List.length_map]; have := takes_len (Rc.recs a); have := TE.out; have := HN.out.1; omega)
        have LSB := Lib.hid (show ((Rc.recs b).map (·.2)).length ≤ 400 from by rw [List.length_map]; have := takes_len (Rc.recs b); have := TB.out; have := HN.out.2; omega)
        have OP := Lib.hid (op_ok S7.out.dk HF7.out.1 HF8.out.1 HF7.out.2 HF8.out.2 HA.out.2 HB.out.2 (by have := HNA.out; have := HN.out.1; omega) (by have := HNB.out; have := HN.out.2; omega) CV.out HV.out.2 (by have := TE.out; have := HNA.out; omega))
        obtain ⟨tk, htk⟩ : ∃ z, Rc.takes (Rc.recs b) = z := ⟨_, rfl⟩
        have HTK := Lib.hid htk
        rw [htk] at OP TB
        have hcmp : ¬ (((Rc.takes (Rc.recs a) : Nat) : Int) < (na : Int)) := by omega
        clear hbad htk
        go_wp2_with fail
        refine OP.out.mono ?_
        rintro e w8 ⟨q, sv, rfl, hq, hj, hsy, hfar⟩
        have J8 := Lib.hid hj
        have Y8 := Lib.hid hsy
        have S8 := Lib.hid (show OS w w8 d m7 [zf oE, zf o8, F7, cutF F8 tk] from ⟨hj.dk, S7.out.bel.trans (hfar.below (Nat.le_of_lt S7.out.dk.dlt) (fun k hk => (S7.out.dk.base k hk).1))⟩)
        clear hq hj hsy hfar OP S7
        have RA := Lib.hid (Rc.rall_any w8 (.slice aa na ac) a (HA.out.1.later (by rw [HDQ.out]; exact S8.out.bel)) HA.out.2 (by have := HNA.out; have := HN.out.1; omega))
        go_wp2_with fail
        refine RA.out.mono ?_
        rintro e w9 ⟨v1, v2, la, rfl, hla, hA⟩
        have AA := Lib.hid (And.intro hla hA)
        have S9 := Lib.hid (S8.out.step hA.below)
        obtain ⟨x1, y1, rfl⟩ := own_shapeK hA.own1
        obtain ⟨x2, y2, rfl⟩ := own_shapeK hA.own2
        clear hla hA RA
        have RB := Lib.hid (Rc.rall_any w9 (.slice ba nb bc) b (HB.out.1.later (by rw [HDQ.out]; exact S9.out.bel)) HB.out.2 (by have := HNB.out; have := HN.out.2; omega))
        go_wp2_with fail
        refine RB.out.mono ?_
        rw [HTK.out]
        rintro e w10 ⟨v3, v4, lb, rfl, hlb, hB⟩
        have AB := Lib.hid (And.intro hlb hB)
        have S10 := Lib.hid (S9.out.step hB.below)
        obtain ⟨x3, y3, rfl⟩ := own_shapeK hB.own1
        obtain ⟨x4, y4, rfl⟩ := own_shapeK hB.own2
        clear hlb hB RB
        have YA := Lib.hid (all_says AA.out.2 AB.out.2.below AA.out.1)
        have YB := Lib.hid (all_says AB.out.2 (Below.refl _ _) AB.out.1)
        have SA := Lib.hid (all_src AA.out.2 AB.out.2.below)
        have SB := Lib.hid (fun W (hb : Below w10.heap.size w10 W) => all_src AB.out.2 hb)
        have NA := Lib.hid (show la.length ≤ 400 from by have := YA.out.1; rw [ins_len] at this; have := LSA.out; omega)
        have NB := Lib.hid (show lb.length ≤ 400 from by have := YB.out.1; rw [ins_len] at this; have := LSB.out; omega)
        have BAB := Lib.hid (AA.out.2.below.trans (AB.out.2.below.mono AA.out.2.below.size))
        have J10 := Lib.hid (J8.out.step BAB.out)
        have Y10 := Lib.hid (Y8.out.step BAB.out)
        obtain ⟨i1, hj9, hy0, hy1, hy2⟩ := info_parts info39
        clear AA AB J8 Y8 S8 S9
        go_upto_region 16 with (first
          | (at_builtin; (refine wpList_append_src_own rfl (.tmp 123) (.tmp 124) 30 30 rfl w10.heap.size 39 i1 (.slice none 0 0) 1 24 (by kernel_rfl) hj9 hy0 hy1 hy2 rfl (by decide) (.slice none 0 0) 0 [] rfl (World.ownsRow_nil _ _ _ _) (.slice x2 la.length y2) la.length (Rc.ins la) rfl SA.out (by have := NA.out; unfold maxLen; omega) (by have := NA.out; omega) (Nat.le_refl _) ?_; intro v11 w11 hown hgr hsp; rw [Nat.zero_add, List.nil_append] at hown; have R11 := Lib.hid hown; have B11 := Lib.hid (show Below w10.heap.size w10 w11 from (Below.refl _ _).grown hgr (Nat.le_refl _) (fun k e => by cases e)); obtain ⟨x5, y5, rfl⟩ := own_shapeK hown; clear hown hgr hsp))
          | (at_builtin; (refine wpList_append_src_own rfl (.tmp 125) (.tmp 126) 30 30 rfl w10.heap.size 39 i1 (.slice none 0 0) 1 24 (by kernel_rfl) hj9 hy0 hy1 hy2 rfl (by decide) (.slice x5 la.length y5) la.length (Rc.ins la) rfl R11.out (.slice x4 lb.length y4) lb.length (Rc.ins lb) rfl (SB.out _ B11.out) (by have := NA.out; have := NB.out; unfold maxLen; omega) (by have := NA.out; have := NB.out; omega) B11.out.size ?_; intro v12 w12 hown hgr hsp; have R12 := Lib.hid hown; have B12 := Lib.hid (show Below w10.heap.size w10 w12 from B11.out.grown hgr B11.out.size (fun k e => (R11.out.lt k e).1)); obtain ⟨x6, y6, rfl⟩ := own_shapeK hown; clear hown hgr hsp)))
        have S12 := Lib.hid (S10.out.step B12.out)
        have J12 := Lib.hid (J10.out.step B12.out)
        have SAYS := Lib.hid (show Says w12 w10.heap.size (.slice x6 (la.length + lb.length) y6) ((Rc.recs a).map (·.2) ++ (Rc.recs b).map (·.2)) from
          ⟨Rc.ins la ++ Rc.ins lb, by rw [List.length_append, ins_len, ins_len]; exact R12.out, by rw [List.length_append, List.length_append, YA.out.1, YB.out.1], fun j u z hu hz => by
            by_cases hj : j < (Rc.ins la).length
            · rw [List.getElem?_append_left hj] at hu
              rw [List.getElem?_append_left (by rw [← YA.out.1]; exact hj)] at hz
              exact (YA.out.2 j u z hu hz).later B12.out
            · rw [List.getElem?_append_right (by omega)] at hu
              rw [List.getElem?_append_right (by rw [← YA.out.1]; omega), ← YA.out.1] at hz
              exact (YB.out.2 _ u z hu hz).later B12.out⟩)
        have SM := Lib.hid (same_says w12 _ _ sv _ _ (Y10.out.step B12.out) SAYS.out (by rw [List.length_append]; have := LSA.out; have := LSB.out; omega))
        clear R12 R11 B11 SA SB YA YB J10 Y10 S10 BAB SAYS
        go_wp2_with fail
        refine SM.out.mono ?_
        rintro e w13 ⟨rfl, hb⟩
        have S13 := Lib.hid (S12.out.step hb)
        have J13 := Lib.hid (J12.out.step hb)
        clear hb SM S12 J12
        go_wp2_with fail
        refine (first_jk w13 q d _ _ _ _ J13.out.box).mono ?_
        rintro e w14 ⟨rfl, hw⟩
        subst hw
        go_wp2_with fail
        refine (last_jk w13 q d _ _ _ _ J13.out.box).mono ?_
        rintro e w14 ⟨rfl, hw⟩
        subst hw
        go_wp2_with fail
        refine (len_jk w13 q d _ _ _ _ J13.out.box).mono ?_
        rintro e w14 ⟨rfl, hw⟩
        subst hw
        have UC := Lib.hid (show (cutF F8 tk).b.length = tk from cut_len (by have := UB.out; have := TB.out; omega))
        have US := Lib.hid (used_at w13 d m7 [zf oE, zf o8, F7, cutF F8 tk] S13.out.dk ((na : Int) + (tk : Int)) (by have := UA.out; have := UC.out; simp only [usedF, zf, List.map_cons, List.map_nil, List.sum_cons, List.sum_nil, List.length_nil]; omega))
        have hws : wrap64 ((na : Int) + (tk : Int)) = (na : Int) + (tk : Int) := by have := HN.out; have := TB.out; unfold wrap64; omega
        go_wp2_with fail
        refine US.out.mono ?_
        rintro e w15 ⟨rfl, hb⟩
        have S15 := Lib.hid (S13.out.step hb)
        clear hb US S13
        have SU := Lib.hid (sure_at w15 d m7 [zf oE, zf o8, F7, cutF F8 tk] S15.out.dk n8 (by decide) (cutF F8 tk) (G8 HF7.out.1 HF8.out.1) (tk : Int) rfl)
        go_wp2_with fail
        refine SU.out.mono ?_
        rintro e w16 ⟨rfl, hw⟩
        subst hw
        go_wp2_with fail
        refine (AW.out _).mono ?_
        rintro e w17 ⟨rfl, hb⟩
        have S17 := Lib.hid (S15.out.step hb)
        clear hb
        go_wp2
        go_returns
        exact ⟨rfl, by rw [HDQ.out]; exact S17.out.bel⟩
    · go_wp2_with fail
      refine C1.out.mono ?_
      rintro e w2 ⟨rfl, m2, ho⟩
      have S2 := Lib.hid (S1.out.out ho)
      clear ho C1
      have C2 := Lib.hid (append_x w2 d m2 [zf n7] S2.out.dk n7 (by decide) (by simp) (zf n7) (by simp [getF, isN, zf]) (.slice aa na ac) a (by have := HA.out.1; exact this.later (by rw [HDQ.out]; exact S2.out.bel)) LA.out (by have := HNA.out; have := HN.out.1; omega) (by simp [usedF, zf]))
      go_wp2_with fail
      refine C2.out.mono ?_
      rintro e w3 ⟨rfl, a7, c7, ho⟩
      obtain ⟨F7, hF7⟩ : ∃ z : Fl, (⟨n7, a7, c7, (zf n7).b ++ bi a, (zf n7).s⟩ : Fl) = z := ⟨_, rfl⟩
      have HF7 := Lib.hid (show F7.n = n7 ∧ F7.b = bi a from by rw [← hF7]; exact ⟨rfl, rfl⟩)
      rw [hF7, L2 HF7.out.1] at ho
      have S3 := Lib.hid (S2.out.out ho)
      clear ho hF7 C2
      have UA := Lib.hid (show F7.b.length = na from by rw [HF7.out.2, bi_len]; exact HNA.out)
      have C3 := Lib.hid (create_x w3 d m2 [F7] S3.out.dk n9 (by decide) (by simp) (G3 HF7.out.1 (.inr rfl)))
      rw [L3 HF7.out.1 (.inr rfl)] at C3
      go_wp2_with fail
      refine C3.out.mono ?_
      rintro e w4 ⟨rfl, m4, ho⟩
      have S4 := Lib.hid (S3.out.out ho)
      clear ho C3
      have C4 := Lib.hid (append_x w4 d m4 [F7, zf n9] S4.out.dk n9 (by decide) (by simp) (zf n9) (G4 HF7.out.1 (.inr rfl)) (.slice ba nb bc) b (by have := HB.out.1; exact this.later (by rw [HDQ.out]; exact S4.out.bel)) LB.out (by have := HNB.out; have := HN.out.2; omega) (by have := UA.out; have := HN.out.1; simp only [usedF, zf, List.map_cons, List.map_nil, List.sum_cons, List.sum_nil, List.length_nil]; omega))
      go_wp2_with fail
      refine C4.out.mono ?_
      rintro e w5 ⟨rfl, a8, c8, ho⟩
      obtain ⟨F8, hF8⟩ : ∃ z : Fl, (⟨n9, a8, c8, (zf n9).b ++ bi b, (zf n9).s⟩ : Fl) = z := ⟨_, rfl⟩
      have HF8 := Lib.hid (show F8.n = n9 ∧ F8.b = bi b from by rw [← hF8]; exact ⟨rfl, rfl⟩)
      have HO8 := Lib.hid (show F8.n = n8 ∨ F8.n = n9 from by rw [HF8.out.1]; exact (.inr rfl))
      have l4 := L4 (x := F7) (y := F8) HF7.out.1 HO8.out
      rw [HF8.out.1] at l4
      rw [hF8, l4] at ho
      have S5 := Lib.hid (S4.out.out ho)
      clear ho hF8 l4 C4
      have UB := Lib.hid (show F8.b.length = nb from by rw [HF8.out.2, bi_len]; exact HNB.out)
      have C5 := Lib.hid (create_x w5 d m4 [F7, F8] S5.out.dk o8 (by decide) (by simp) (G5 HF7.out.1 HO8.out))
      rw [L5 HF7.out.1 HO8.out] at C5
      go_wp2_with fail
      refine C5.out.mono ?_
      rintro e w6 ⟨rfl, m6, ho⟩
      have S6 := Lib.hid (S5.out.out ho)
      clear ho C5
      have C6 := Lib.hid (create_x w6 d m6 [zf o8, F7, F8] S6.out.dk oE (by decide) (by simp) (G6 HF7.out.1 HO8.out))
      rw [L6 HF7.out.1 HO8.out] at C6
      go_wp2_with fail
      refine C6.out.mono ?_
      rintro e w7 ⟨rfl, m7, ho⟩
      have S7 := Lib.hid (S6.out.out ho)
      clear ho C6 S2 S3 S4 S5 S6
      have CV := Lib.hid (show w7.cell? ⟨0, 0, none⟩ = some ev from (S7.out.bel.cell (p := ⟨0, 0, none⟩) H0.out).trans HV.out.1)
      have OP := Lib.hid (op_gap S7.out.dk HF7.out.1 HF8.out.1 CV.out HV.out.2)
      go_wp2_with fail
      refine OP.out.mono ?_
      rintro e w8 ⟨rfl, hb⟩
      have S8 := Lib.hid (S7.out.step hb)
      clear hb OP S7
      have RA := Lib.hid (Rc.rall_any w8 (.slice aa na ac) a (HA.out.1.later (by rw [HDQ.out]; exact S8.out.bel)) HA.out.2 (by have := HNA.out; have := HN.out.1; omega))
      go_wp2_with fail
      refine RA.out.mono ?_
      rintro e w9 ⟨v1, v2, la, rfl, hla, hA⟩
      have AA := Lib.hid (And.intro hla hA)
      have S9 := Lib.hid (S8.out.step hA.below)
      obtain ⟨x1, y1, rfl⟩ := own_shapeK hA.own1
      obtain ⟨x2, y2, rfl⟩ := own_shapeK hA.own2
      clear hla hA RA
      have RB := Lib.hid (Rc.rall_any w9 (.slice ba nb bc) b (HB.out.1.later (by rw [HDQ.out]; exact S9.out.bel)) HB.out.2 (by have := HNB.out; have := HN.out.2; omega))
      go_wp2_with fail
      refine RB.out.mono ?_
      rintro e w10 ⟨v3, v4, lb, rfl, hlb, hB⟩
      have AB := Lib.hid (And.intro hlb hB)
      have S10 := Lib.hid (S9.out.step hB.below)
      obtain ⟨x3, y3, rfl⟩ := own_shapeK hB.own1
      obtain ⟨x4, y4, rfl⟩ := own_shapeK hB.own2
      clear hlb hB RB
      have US := Lib.hid (used_at w10 d m7 [zf oE, zf o8, F7, F8] S10.out.dk ((na : Int) + (nb : Int)) (by have := UA.out; have := UB.out; simp only [usedF, zf, List.map_cons, List.map_nil, List.sum_cons, List.sum_nil, List.length_nil]; omega))
      have hws : wrap64 ((na : Int) + (nb : Int)) = (na : Int) + (nb : Int) := by have := HN.out; unfold wrap64; omega
      go_wp2_with fail
      refine US.out.mono ?_
      rintro e w11 ⟨rfl, hb⟩
      have S11 := Lib.hid (S10.out.step hb)
      clear hb US
      go_wp2_with fail
      refine (AW.out _).mono ?_
      rintro e w12 ⟨rfl, hb⟩
      have S12 := Lib.hid (S11.out.step hb)
      clear hb
      go_wp2
      go_returns
      exact ⟨rfl, by rw [HDQ.out]; exact S12.out.bel⟩
end Go.Proofs.YtgbihpfpiaacfaaGreatDoor

set_option linter.unusedVariables false
namespace Go.Proofs.YtgbihpfpiaacfaaGreatDoor
open Go.ChangeShapes Go.WideShapes Go.ChangeAt Go.RowKit Go.Joins Go.Deep

section
variable {H : Type} {enc : TypeId × Value → H} {W : World}
set_option maxRecDepth 100000 in
theorem view_u8s {v : Value} {d : DataW H} {ps : List MemPlace} {b0 : Nat} {r : Go.Reach} (hv : Value.okWide Tryz.prog W r b0 39 v) (h : DataW.Trod enc Tryz.prog W 0 (fun _ => true) true 39 v d ps) : ∃ b, Rc.Lies W v b ∧ Rc.Byt b := by
  obtain ⟨fuel, hf⟩ := h
  obtain ⟨u, b, h1, h2, e⟩ := open_u8s hf
  have hs := okWide_slice (show Tryz.prog.underlying 39 = some (.slice 5) by kernel_rfl) hv
  obtain ⟨a, n, c, rfl⟩ := hs
  have e : Value.slice a n c = u := by simpa [Value.cells] using e
  subst e
  exact ⟨b, h1, h2⟩
noncomputable def isIf (t : TypeId) : Bool := match Tryz.prog.underlying t with
  | some (.interface _) => true
  | _ => false
set_option maxRecDepth 100000 in
theorem trod_err {fuel : Nat} {t : TypeId} {cs : List Value} {x : DataW H × List MemPlace} {sp : Nat → Bool} (hu : isIf t = true) (h : DataW.trod enc Tryz.prog W 0 sp false fuel t cs = some x) : cs = [.nilIface] ∨ ∃ te pe, cs = [.iface te pe] := by
  unfold isIf at hu
  split at hu
  · rename_i z hz
    cases fuel with
    | zero => cases h
    | succ fuel =>
      unfold DataW.trod at h
      rw [hz] at h
      split at h
      all_goals first
        | exact .inl rfl
        | exact .inr ⟨_, _, rfl⟩
        | (exfalso; rename_i q; simp at q; done)
        | (exfalso; rename_i q _; simp at q; done)
        | (exfalso; rename_i q _ _; simp at q; done)
        | (exfalso; simp_all; done)
  · cases hu
theorem err_cell (h : laidMetH Tryz.prog laid5 W) : ∃ ev, W.cell? ⟨0, 0, none⟩ = some ev ∧ (ev = .nilIface ∨ ∃ te pe, ev = .iface te pe) := by
  rw [MakeChecks.laidMetH_plain _ _ _ (by kernel_rfl)] at h
  obtain ⟨ps, ⟨g0, t0, cs0, f0, p0, q0, hg0, ht0, hv0, hd0, ⟨g1, t1, cs1, f1, p1, q1, hg1, ht1, hv1, hd1, ⟨g2, t2, cs2, f2, p2, q2, hg2, ht2, hv2, hd2, ⟨g3, t3, cs3, f3, p3, q3, hg3, ht3, hv3, hd3, ⟨g4, t4, cs4, f4, p4, q4, hg4, ht4, hv4, hd4, _, _⟩, _⟩, _⟩, _⟩, _⟩, _, _⟩ := h
  obtain rfl : g4 = 0 := Option.some.inj (hg4.symm.trans (by kernel_rfl))
  obtain rfl : t4 = 90 := Option.some.inj (ht4.symm.trans (by kernel_rfl))
  have hc : ∃ cs t fr, W.heap[0]? = some (.cells cs t fr) ∧ cs = cs4 := by
    unfold World.var? at hv4
    rw [hg4] at hv4
    simp only [Option.bind_some] at hv4
    split at hv4
    · rename_i cs t fr hh
      exact ⟨cs, t, fr, hh, Option.some.inj hv4⟩
    · cases hv4
  obtain ⟨cs, t, fr, hh, rfl⟩ := hc
  have h1 := trod_err (show isIf 90 = true by kernel_rfl) hd4
  rcases h1 with h1 | ⟨te, pe, h1⟩
  · refine ⟨.nilIface, ?_, .inl rfl⟩
    rw [cell_of_row _ _ _ _ _ _ hh, ← Array.getElem?_toList, h1]
    rfl
  · refine ⟨.iface te pe, ?_, .inr ⟨te, pe, rfl⟩⟩
    rw [cell_of_row _ _ _ _ _ _ hh, ← Array.getElem?_toList, h1]
    rfl
end
set_option maxRecDepth 100000 in
theorem journalOpens_lifted (os : Os) (started : os.Started) (H : Type) (enc : TypeId × Value → H) :
    ReturnsInHanded {} Tryz.checked os 6 .any (fun w args => (Rows.journalOpensSpec.pre enc Tryz.prog Tryz.f6 [] false w args ∧ laidMetH Tryz.prog laid5 w) ∧ sizedMet enc Tryz.prog Tryz.f6 (OpenSpec.ofChange Rows.journalOpensSpec) false w args)
      (Rows.journalOpensSpec.post enc Tryz.prog Tryz.f6 false true false false) := by
  refine handed_both (C := Tryz.checked) (X := fun w _ => laidMetH Tryz.prog laid5 w) (fun _ _ _ hh h => h.of_heap hh) Tryz.own started (by kernel_rfl) Tryz.func6
    (ChangeSpec.witness_shaped (enc := enc) (C := Tryz.checked) (os := os) (X := fun w _ => laidMetH Tryz.prog laid5 w) false (World.laidAll Tryz.prog os laid5) #[.slice none 0 0, .slice none 0 0, .bool false] 8 (World.laidAll_os _ _ _)
      (World.shaped_of_ZipB (by kernel_rfl) (by kernel_rfl)) (by kernel_rfl) (by kernel_rfl) (by kernel_rfl)
      (by rw [MakeChecks.laidMetH_plain _ _ _ (by kernel_rfl)]; exact laidMet_laidAll _ (by kernel_rfl) (by kernel_rfl))) ?_
  intro W base args ds gs before hval0 hW hL hsh
  have hval : ∀ (j : Nat) t v, Tryz.f6.params[j]? = some t → args[j]? = some v → Value.okWide Tryz.prog W .any base t v := hval0
  have hW' := hW
  obtain ⟨p, q, hA0, hV, rfl, hfz, hnd⟩ := hW
  have hA : DataW.TrodAll enc Tryz.prog W 0 (fun _ => true) true Tryz.f6.params.toList args.toList ds p := hA0
  rw [Tryz.params6] at hA hval
  obtain ⟨v0, v1, v2, d0, d1, d2, p0, p1, p2, rfl, rfl, rfl, h0, h1, h2⟩ := trodAll_three hA
  obtain ⟨rfl, rfl⟩ := trodVars_none hV
  obtain ⟨l0, hl0, hb0⟩ := view_u8s (hval 0 39 v0 rfl rfl) h0
  obtain ⟨l1, hl1, hb1⟩ := view_u8s (hval 1 39 v1 rfl rfl) h1
  obtain ⟨g2, rfl⟩ := okWide_bool (show Tryz.prog.underlying 4 = some .bool by kernel_rfl) (hval 2 4 v2 rfl rfl)
  obtain ⟨ev, hv, hev⟩ := err_cell hL
  clear hA0 hval0
  simp only [List.append_nil] at hW'
  have hlt : ∀ x ∈ p0 ++ p1 ++ p2, x.block < W.heap.size := fun x hx => by simpa using hW'.lt x (by simpa using hx)
  refine (opens_any W v0 v1 l0 l1 g2 hl0 hl1 hb0 hb1 ev hv hev).mono fun e W' ⟨he, hb⟩ => ?_
  subst he
  have k0 := Below.trod Tryz.laidOut (by kernel_rfl) (of_decide_eq_true (by kernel_rfl)) h0 hb (fun x hx => hlt x (by simp [hx]))
  have k1 := Below.trod Tryz.laidOut (by kernel_rfl) (of_decide_eq_true (by kernel_rfl)) h1 hb (fun x hx => hlt x (by simp [hx]))
  have k2 := Below.trod Tryz.laidOut (by kernel_rfl) (of_decide_eq_true (by kernel_rfl)) h2 hb (fun x hx => hlt x (by simp [hx]))
  exact ⟨_, rfl, post_read hW' hb (trodAll_mk3 k0 k1 k2) rfl (trodAll_mk1 (shut_bool Tryz.underlying4 _))⟩

theorem journalOpens_row : Rows.JournalOpensSaid :=
  OpenClaim.holds_of_wide 6 Tryz.f6 rfl rfl rfl rfl rfl rfl rfl ⟨rfl, rfl, rfl, rfl, rfl⟩ rfl rfl rfl rfl rfl (by kernel_rfl) Tryz.func6 (by kernel_rfl)
    (of_decide_eq_true (by kernel_rfl)) (by unfold Func.isWrapper; first | (rw [if_pos (by decide +kernel)]; kernel_rfl) | (rw [if_neg (by decide +kernel)]; exact ⟨rfl, rfl⟩))
    (fun os started H enc _ => journalOpens_lifted os started H enc)

theorem journalOpens_card : Rows.JournalOpensCardSaid :=
  Claim7.holds_tied_plain_at .later [] [.data, .data, .data, .sentinel, .sentinel] true (true, "37d89584b4090b6d83cae9aaf7b646bde45796aa5682a52b96d4c6aad917f5bc") true
    journalOpens_row (fun _ h => by cases h) (by kernel_rfl) (fun _ h => by cases h) journalOpens_row_tie rfl ⟨rfl, rfl⟩ (by kernel_rfl) rfl
    (fun f fn hf hfn => by
      obtain rfl : f = 6 := Option.some.inj ((show Tryz.prog.funcNamed "banyan/banyanlaw12.JournalOpens" = some 6 by kernel_rfl).symm.trans hf) |>.symm
      obtain rfl : fn = Tryz.f6 := (Option.some.inj (Tryz.func6.symm.trans hfn)).symm
      exact ⟨by kernel_rfl, fun j t ht => by
        rw [Tryz.params6] at ht
        have hm : t ∈ [39, 39, 4] := by simpa using Array.mem_of_getElem? ht
        have hall : ([39, 39, 4].all fun u => !Tryz.prog.wantsStandIn u) = true := by kernel_rfl
        exact (show Tryz.prog.wantsStandIn t = false by simpa using List.all_eq_true.1 hall t hm)⟩)
    (by kernel_rfl)
end Go.Proofs.YtgbihpfpiaacfaaGreatDoor
