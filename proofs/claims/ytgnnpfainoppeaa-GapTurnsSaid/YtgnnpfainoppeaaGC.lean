/- A gap: New, Len; its map gone through while entries go: maps.DeleteFunc, the question of Ready. -/
import Derived.Test.YtgnnpfainoppeaaGB
import Derived.ProofKit
import Derived.Lib.Walk
import Derived.Lib.Hide
import Derived.RegionTactic
import Derived.LoopTactic
import Derived.WalkSpells
import Derived.Deep.Cut
import Derived.Deep.CutRange
import Derived.Deep.QuietTactic
import Derived.StillTailTactics
set_option linter.unusedVariables false
set_option linter.unusedSimpArgs false
set_option maxRecDepth 100000
namespace Go.Proofs.Ytgnnpfainoppeaa
open Go.RowKit Go.WideMaps Go.Maps Go.WideShapes Go.ChangeMaps
open Ve (zs zs_len vw va)

theorem eq58 (w : World) (m : Option Nat) : (binOp BinOp.eql 58 (.map m) (.map none)).run Try.prog w = .ok (.bool m.isNone) w := run_eql_map_nil w _ _ _ m Try.underlying58
/-- The gap at block p: its map at block b, which holds l. -/
structure GapI (w : World) (p b : Nat) (l : List O) : Prop where
  box : w.heap[p]? = some (.cells #[.map (some b)] 60 (0, 0))
  map : TM w b l
theorem GapI.plt {w : World} {p b : Nat} {l : List O} (h : GapI w p b l) : p < w.heap.size := lt_of_block h.box
theorem GapI.blt {w : World} {p b : Nat} {l : List O} (h : GapI w p b l) : b < w.heap.size := h.map.lt
theorem GapI.ne {w : World} {p b : Nat} {l : List O} (h : GapI w p b l) : p ≠ b := by
  intro e
  obtain ⟨es, h1, _⟩ := h.map
  obtain ⟨es', c, hb, _⟩ := h1
  rw [← e, h.box] at hb
  cases hb
theorem GapI.step {w w' : World} {p b : Nat} {l : List O} (h : GapI w p b l) (hb : Below w.heap.size w w') : GapI w' p b l := ⟨(hb.block p h.plt).trans h.box, h.map.step hb⟩
theorem GapI.cell {w : World} {p b : Nat} {l : List O} (h : GapI w p b l) : w.cell? ⟨p, 0, none⟩ = some (.map (some b)) := cell_of_one h.box
set_option maxHeartbeats 400000 in
theorem new_any (w : World) : Calls Try.prog 8 #[] w fun e w' => ∃ p b, e = .returned (pv p) ∧ GapI w' p b [] ∧ w.heap.size ≤ p ∧ w.heap.size ≤ b ∧ Below w.heap.size w w' := by
  have hmm := @run_makeMap Try.prog
  go_enter Try.func8, Try.ntmps8
  go_wp2
  go_returns
  refine ⟨_, w.heap.size, rfl, ⟨by have := heap_alloc_new (w.alloc (.map #[] 0)) (.cells #[.map (some w.heap.size)] 60); rwa [World.size_alloc] at this, (TM.made w).step (vstep _ _)⟩, ?_, ?_, ?_⟩
  · simp
  · simp
  · exact (vstep w _).trans ((vstep _ _).mono (vstep w _).size)
set_option maxHeartbeats 400000 in
theorem len_any (w : World) (p b : Nat) (l : List O) (h : GapI w p b l) : Calls Try.prog 17 #[pv p] w fun e w' => e = .returned (.int .i64 (l.length : Int)) ∧ w = w' := by
  have c0 := h.cell
  have hl := h.map.len
  clear h
  go_enter Try.func17, Try.ntmps17
  go_wp2
  go_returns
  exact ⟨rfl, rfl⟩
/-! ### gone through while entries go -/
/-- What is there, and what is still to come. -/
def TX (w : World) (b r : Nat) (cur todo : List O) : Prop := ∃ n es left cnt, w.ranges Try.prog 72 heldR b r n (.map es) left cnt ∧ es.Perm (cur.map en) ∧ (∀ x ∈ cur, x.okk) ∧ RiseG cur ∧ (∀ x ∈ cur, left (KL x.r x.q) = true ↔ x ∈ todo) ∧ ∀ x ∈ todo, x ∈ cur
theorem TX.tm {w : World} {b r : Nat} {cur todo : List O} (h : TX w b r cur todo) : TM w b cur := by
  obtain ⟨n, es, left, cnt, h1, h2, h3, h4, _⟩ := h
  have ho := own_tight h1.owns
  rw [Maps.size_eq, h2.length_eq, List.length_map] at ho
  exact ⟨es, ho, h2, h3, h4⟩
theorem TX.rlt {w : World} {b r : Nat} {cur todo : List O} (h : TX w b r cur todo) : r < w.heap.size := by obtain ⟨n, es, left, cnt, h1, _⟩ := h; exact h1.lt
theorem TX.ne {w : World} {b r : Nat} {cur todo : List O} (h : TX w b r cur todo) : r ≠ b := by obtain ⟨n, es, left, cnt, h1, _⟩ := h; exact h1.ne
theorem TX.kept {w w' : World} {b r : Nat} {cur todo : List O} {row : Option Nat} (h : TX w b r cur todo) (hg : w.grownBy w' row) (hb : some b ≠ row) (hr : some r ≠ row) : TX w' b r cur todo ∧ w'.rangeLeft b r = w.rangeLeft b r := by
  obtain ⟨n, es, left, cnt, h1, h2⟩ := h
  have h' := h1.kept hg hb hr
  exact ⟨⟨n, es, left, cnt, h', h2⟩, h'.left_eq.trans h1.left_eq.symm⟩
theorem TX.step {w w' : World} {b r : Nat} {cur todo : List O} (h : TX w b r cur todo) (hb : Below w.heap.size w w') : TX w' b r cur todo ∧ w'.rangeLeft b r = w.rangeLeft b r :=
  h.kept (row := none) ⟨hb.os, hb.tape, hb.output, hb.size, fun k hk _ => hb.block k hk⟩ (by simp) (by simp)
theorem TM.walk {w : World} {b : Nat} {l : List O} (h : TM w b l) : ∃ w', (Instr.range 58 (.map (some b))).run Try.prog w = .ok (.pointer (some ⟨w.heap.size, 0, none⟩)) w' ∧ TX w' b w.heap.size l l ∧ w.grownBy w' none ∧ w'.heap.size = w.heap.size + 1 := by
  obtain ⟨es, h1, h2, h3, h4⟩ := h
  obtain ⟨w', r1, r2, r3, r4⟩ := h1.range Try.keyed Try.underlying58
  refine ⟨w', r1, ⟨_, es, _, _, r2, h2, h3, h4, fun x hx => ?_, fun x hx => hx⟩, r3, r4⟩
  rw [en_has h2 h3 hx]
  simp [hx]
theorem TX.next {w : World} {b r : Nat} {cur todo : List O} (h : TX w b r cur todo) (ty : TypeId) :
    (todo = [] ∧ (Instr.next (.pointer (some ⟨r, 0, none⟩)) false ty).run Try.prog w = .ok (.tuple #[.bool false]) w) ∨
    ∃ x w', x ∈ todo ∧ x ∈ cur ∧ (Instr.next (.pointer (some ⟨r, 0, none⟩)) false ty).run Try.prog w = .ok (.tuple #[.bool true, sv x.r x.q, oV x]) w' ∧ TX w' b r cur (dropG todo x.r x.q) ∧ w'.rangeLeft b r < w.rangeLeft b r ∧ w.grownBy w' (some r) ∧ w'.heap.size = w.heap.size ∧
      (Instr.entry (.pointer (some ⟨r, 0, none⟩))).run Try.prog w' = .ok (.tuple #[sv x.r x.q, oV x]) w' := by
  obtain ⟨n, es, left, cnt, h1, h2, h3, h4, h5, h6⟩ := h
  rcases h1.next Try.keyed ty with ⟨hc, hl, hrun⟩ | ⟨key, v, kl, y, w', cnt', hkey, hlk, hv, hat, hrun, hrg, hlt, hgr, hsz, hen⟩
  · refine .inl ⟨?_, hrun⟩
    apply List.eq_nil_iff_forall_not_mem.2
    intro x hx
    have := (h5 x (h6 x hx)).2 hx
    rw [hl] at this
    simp at this
  · obtain ⟨t, r', rfl⟩ := key_inv hkey
    have hhas : Maps.has (.map es) kl = true := by
      cases hh : Maps.has (.map es) kl with
      | true => rfl
      | false => exact absurd (Maps.atKey_of_not_has hh) (fun hz => by
          have e1 := hat (.lit (.bool true))
          rw [hz] at e1
          unfold heldR at hv
          injection hv with hv
          rw [← hv] at e1
          cases e1)
    obtain ⟨x, hx, rfl⟩ := has_en h2 h3 hhas
    have hk2 := kl_key (h3 x hx).1 (h3 x hx).2.1
    have := Try.keyed.inj hkey hk2
    injection this with this
    simp only [Array.mk.injEq, List.cons.injEq, Value.int.injEq, true_and, and_true] at this
    obtain ⟨rfl, rfl⟩ := this
    have hv2 : v = oV x := by
      have e1 := hat (.lit (.bool true))
      rw [en_at h2 h3 h4 hx] at e1
      unfold heldR at hv
      injection hv with hv
      rw [← hv] at e1
      injection e1 with e1
      exact e1.symm
    subst hv2
    have htd := (h5 x hx).1 hlk
    refine .inr ⟨x, w', htd, hx, hrun, ⟨n, es, _, cnt', hrg, h2, h3, h4, fun z hz => ?_, fun z hz => h6 z (List.mem_filter.1 hz).1⟩, by rw [hrg.left_eq, h1.left_eq]; exact hlt, hgr, hsz, hen⟩
    unfold dropG isG
    rw [Bool.and_eq_true, h5 z hz, List.mem_filter, same_kl (h3 z hz) (h3 x hx).1 (h3 x hx).2.1]
theorem TX.drop {w : World} {b r : Nat} {cur todo : List O} (h : TX w b r cur todo) {x : O} (hx : x ∈ cur) (hn : x ∉ todo) (ty : TypeId) :
    ∃ w', (Builtin.delete_ #[58, 72] ty #[.map (some b), sv x.r x.q]).run Try.prog w = .ok (.tuple #[]) w' ∧ TX w' b r (dropG cur x.r x.q) todo ∧ w'.rangeLeft b r ≤ w.rangeLeft b r ∧ w.grownBy w' (some b) := by
  obtain ⟨n, es, left, cnt, h1, h2, h3, h4, h5, h6⟩ := h
  have hk := kl_key (h3 x hx).1 (h3 x hx).2.1
  obtain ⟨w', cnt', hrun, hrg, hle, hmt⟩ := h1.drop Try.keyed Try.underlying58 hk ty
  have hp : (es.filter fun p => !p.1.sameKey (KL x.r x.q)).Perm ((dropG cur x.r x.q).map en) := by
    have a := h2.filter (fun p => !p.1.sameKey (KL x.r x.q))
    rw [filter_en h3 (h3 x hx).1 (h3 x hx).2.1] at a
    exact a
  refine ⟨w', hrun, ⟨n, _, _, cnt', hrg, hp, fun y hy => h3 y (List.mem_filter.1 hy).1, h4.filter _, fun z hz => ?_, fun z hz => ?_⟩, by rw [hrg.left_eq, h1.left_eq]; exact hle, ?_⟩
  · obtain ⟨hz1, hz2⟩ := List.mem_filter.1 hz
    rw [Bool.and_eq_true, h5 z hz1, same_kl (h3 z hz1) (h3 x hx).1 (h3 x hx).2.1]
    unfold isG at hz2
    exact ⟨fun a => a.1, fun a => ⟨a, hz2⟩⟩
  · have hzc := h6 z hz
    refine List.mem_filter.2 ⟨hzc, ?_⟩
    cases hs : isG x.r x.q z with
    | false => rfl
    | true =>
      unfold isG at hs
      exact absurd (rise_one h4 hzc hx (by unfold eqG; exact hs) ▸ hz) hn
  · obtain ⟨es0, clock, es', clock', hb, rfl⟩ := hmt
    exact ⟨rfl, rfl, rfl, by simp [setBlock], fun i _ hi => heap_setBlock_other hb _ (fun e => hi (by rw [e]))⟩
theorem rise_ext {a b : List O} (ha : RiseG a) (hb : RiseG b) (h : ∀ x, x ∈ a ↔ x ∈ b) : a = b := by
  have hp : a.Perm b := (List.perm_ext_iff_of_nodup (rise_nodup ha) (rise_nodup hb)).2 h
  exact hp.eq_of_pairwise (fun x y hx hy h1 h2 => by
    rcases ltg_tri x y with ⟨p1, p2, p3⟩ | ⟨p1, p2, p3⟩ | ⟨p1, p2, p3⟩ <;> simp_all) ha hb
section
variable {w : World} {ops : Array Oper} {rest : List Oper} {o : Oper} {a : Act} {Q : Exit → Act → World → Prop}
theorem wpList_xrange (hg : o.guard = none) (m : Operand) (hop : o.op = Op.range 58 m) (b : Nat) (l : List O) (hm : a.eval m = .map (some b)) (h : TM w b l)
    (hK : ∀ w', TX w' b w.heap.size l l → w.grownBy w' none → w'.heap.size = w.heap.size + 1 → wpList Try.prog ops Q rest (a.put o.dst (.pointer (some ⟨w.heap.size, 0, none⟩))) w') : wpList Try.prog ops Q (o :: rest) a w := by
  refine wpList_plain hg fun K' hK' => ?_
  obtain ⟨w', hrun, r1, r2, r3⟩ := h.walk
  unfold Oper.wp
  simp [execOp, hop, hm, hrun, Result.andThen]
  exact hK' _ _ (hK w' r1 r2 r3)
theorem wpList_xnext (hg : o.guard = none) (it : Operand) (hop : o.op = Op.next it false) (b r : Nat) (cur todo : List O) (hit : a.eval it = .pointer (some ⟨r, 0, none⟩)) (h : TX w b r cur todo)
    (hDone : todo = [] → wpList Try.prog ops Q rest (a.put o.dst (.tuple #[.bool false])) w)
    (hMore : ∀ (x : O) (w' : World), x ∈ todo → x ∈ cur → TX w' b r cur (dropG todo x.r x.q) → w'.rangeLeft b r < w.rangeLeft b r → w.grownBy w' (some r) → w'.heap.size = w.heap.size → (Instr.entry (.pointer (some ⟨r, 0, none⟩))).run Try.prog w' = .ok (.tuple #[sv x.r x.q, oV x]) w' →
      wpList Try.prog ops Q rest (a.put o.dst (.tuple #[.bool true, sv x.r x.q, oV x])) w') : wpList Try.prog ops Q (o :: rest) a w := by
  refine wpList_plain hg fun K' hK' => ?_
  unfold Oper.wp
  rcases h.next o.type with ⟨hall, hrun⟩ | ⟨x, w', hx, hn, hrun, h1, h2, h3, h4, h5⟩
  · simp [execOp, hop, hit, hrun, Result.andThen]
    exact hK' _ _ (hDone hall)
  · simp [execOp, hop, hit, hrun, Result.andThen]
    exact hK' _ _ (hMore x w' hx hn h1 h2 h3 h4 h5)
theorem wpList_xdrop (hg : o.guard = none) (m y : Operand) (hop : o.op = Op.call { callee := Callee.builtin Builtin.delete, args := #[m, y], argTypes := #[58, 72] }) (b r : Nat) (cur todo : List O) (x : O) (hm : a.eval m = .map (some b)) (h : TX w b r cur todo) (hx : x ∈ cur) (hn : x ∉ todo)
    (hy : a.eval y = sv x.r x.q) (hK : ∀ w', TX w' b r (dropG cur x.r x.q) todo → w'.rangeLeft b r ≤ w.rangeLeft b r → w.grownBy w' (some b) → wpList Try.prog ops Q rest (a.put o.dst (.tuple #[])) w') : wpList Try.prog ops Q (o :: rest) a w := by
  refine wpList_plain hg fun K' hK' => ?_
  obtain ⟨w', hrun, r1, r2, r3⟩ := h.drop hx hn o.type
  unfold Oper.wp
  simp [execOp, hop, resolve, invoke, builtin, hm, hy, hrun, Result.andThen]
  exact hK' _ _ (hK w' r1 r2 r3)
end
end Go.Proofs.Ytgnnpfainoppeaa
