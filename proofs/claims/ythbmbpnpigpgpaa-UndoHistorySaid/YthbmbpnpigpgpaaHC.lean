/- The cache, of which nothing was told: New, ready, forget, put, Set, Table. -/
import Derived.Test.YthbmbpnpigpgpaaHP
set_option linter.unusedVariables false
set_option linter.unusedSimpArgs false
set_option maxRecDepth 100000
namespace Go.Proofs.Ythbmbpnpigpgpaa
open Go.RowKit Go.Shelf Go.WideMaps Go.Maps Go.WideShapes Go.ChangeMaps

theorem slaw : Keyed Try.prog 9 := string_keyed Try.underlying9
theorem und88 : Try.prog.underlying 88 = some (.map 9 115) := by kernel_rfl
/-- A map in which there is nothing. -/
def NoM (W : World) (tb : Nat) : Prop := W.ownsMap Try.prog 9 heldR tb 0 (.map [])
theorem NoM.lt {W : World} {tb : Nat} (h : NoM W tb) : tb < W.heap.size := World.ownsMap.lt h
theorem NoM.grown {w w' : World} {tb : Nat} {row : Option Nat} (h : NoM w tb) (hg : w.grownBy w' row) (hne : some tb ≠ row) : NoM w' tb := by
  obtain ⟨es', clock, hb, F, hs, hD⟩ := h
  exact ⟨es', clock, (hg.block tb (lt_of_block hb) hne).trans hb, F, hs, hD⟩
theorem NoM.step {w w' : World} {tb : Nat} (h : NoM w tb) (hb : Below w.heap.size w w') : NoM w' tb := by
  obtain ⟨es', clock, hbb, F, hs, hD⟩ := h
  exact ⟨es', clock, (hb.block tb (lt_of_block hbb)).trans hbb, F, hs, hD⟩
theorem NoM.made (w : World) : NoM (w.alloc (.map #[] 0)) w.heap.size := World.ownsMap_made _ _ _ _
theorem NoM.range {w : World} {tb : Nat} (h : NoM w tb) : ∃ w', (Instr.range 88 (.map (some tb))).run Try.prog w = .ok (.pointer (some ⟨w.heap.size, 0, none⟩)) w' ∧ w.grownBy w' none ∧ ∀ ty, (Instr.next (.pointer (some ⟨w.heap.size, 0, none⟩)) false ty).run Try.prog w' = .ok (.tuple #[.bool false]) w' := by
  obtain ⟨w', r1, r2, r3, r4⟩ := World.ownsMap.range h slaw und88
  refine ⟨w', r1, r3, fun ty => ?_⟩
  rcases r2.next slaw ty with ⟨hc, hl, hrun⟩ | ⟨key, v, kl, y, w2, cnt', hkey, hlk, hv, hat, hrun, hrg, hlt, hgr, hsz, hen⟩
  · exact hrun
  · have hz := Maps.atKey_of_not_has (D := (DataW.map [] : DataW Value)) (k := kl) rfl
    have e1 := hat (.lit (.bool true))
    rw [hz] at e1
    unfold heldR at hv
    injection hv with hv
    rw [← hv] at e1
    cases e1
section
variable {w : World} {ops : Array Oper} {rest : List Oper} {o : Oper} {a : Act} {Q : Exit → Act → World → Prop}
theorem wpList_rng0 (hg : o.guard = none) (m : Operand) (t : TypeId) (hop : o.op = Op.range t m) (v u : Value) (w' : World) (hm : a.eval m = v) (hr : (Instr.range t v).run Try.prog w = .ok u w')
    (hK : wpList Try.prog ops Q rest (a.put o.dst u) w') : wpList Try.prog ops Q (o :: rest) a w := by
  refine wpList_plain hg fun K' hK' => ?_
  unfold Oper.wp
  simp [execOp, hop, hm, hr, Result.andThen]
  exact hK' _ _ hK
theorem wpList_nxt0 (hg : o.guard = none) (it : Operand) (hop : o.op = Op.next it false) (v : Value) (hit : a.eval it = v) (hr : (Instr.next v false o.type).run Try.prog w = .ok (.tuple #[.bool false]) w)
    (hK : wpList Try.prog ops Q rest (a.put o.dst (.tuple #[.bool false])) w) : wpList Try.prog ops Q (o :: rest) a w := by
  refine wpList_plain hg fun K' hK' => ?_
  unfold Oper.wp
  simp [execOp, hop, hit, hr, Result.andThen]
  exact hK' _ _ hK
end
theorem below_g0 {w w' : World} (h : w.grownBy w' none) : Below w.heap.size w w' := ⟨h.os, h.tape, h.output, h.size, fun k hk => h.block k hk (by simp)⟩
theorem delfn_any (w : World) (tb : Nat) (f : Value) (h : NoM w tb) : Calls Try.prog 62 #[.map (some tb), f] w fun e w' => e = .returned (.tuple #[]) ∧ Below w.heap.size w w' := by
  obtain ⟨w', h1, h2, h3⟩ := h.range
  have R := Lib.hid h1
  have N := Lib.hid h3
  have G := Lib.hid (below_g0 h2)
  clear h1 h2 h3 h
  go_enter Try.func62, Try.ntmps62
  go_wp2_with (at_range; refine wpList_rng0 rfl _ _ rfl _ _ w' rfl R.out ?_)
  have J0 := Lib.hid (show w' = w' from rfl)
  go_frame
  go_loopw [4] (fun kv wr => Hid (wr = w')) (fun _ _ => 0)
  case atStart => exact J0
  case round =>
    have hw := hrel.out
    subst hw
    go_wp2_with (at_next; refine wpList_nxt0 rfl _ rfl _ rfl (N.out _) ?_)
    go_returns
    exact ⟨rfl, G.out⟩
/-- A cache. -/
structure CaI (W : World) (c p b tb : Nat) (T : List Rw) : Prop where
  box : W.heap[c]? = some (.cells #[.pointer (some ⟨p, 0, none⟩), .map (some tb), .int .i64 0] 90 (0, 0))
  tab : TabI W p b T
  told : NoM W tb
  ne : tb ≠ b
theorem CaI.step {w w' : World} {c p b tb : Nat} {T : List Rw} (h : CaI w c p b tb T) (hb : Below w.heap.size w w') : CaI w' c p b tb T :=
  ⟨(hb.block c (lt_of_block h.box)).trans h.box, h.tab.step hb, h.told.step hb, h.ne⟩
theorem CaI.cells {w : World} {c p b tb : Nat} {T : List Rw} (h : CaI w c p b tb T) : w.cell? ⟨c, 0, none⟩ = some (.pointer (some ⟨p, 0, none⟩)) ∧ w.cell? ⟨c, 1, none⟩ = some (.map (some tb)) := by
  refine ⟨?_, ?_⟩ <;> (rw [cell_of_row _ _ _ _ _ _ h.box]; rfl)
theorem CaI.cb {w : World} {c p b tb : Nat} {T : List Rw} (h : CaI w c p b tb T) : c ≠ b := fun e => by
  obtain ⟨es, ⟨es', c', hb', _⟩, _⟩ := h.tab.map
  have := h.box
  rw [e, hb'] at this
  cases this
/-- What a call upon it does: its table is another one, and nothing else is turned. -/
structure COut (w w' : World) (c p b tb : Nat) (T : List Rw) : Prop where
  ci : CaI w' c p b tb T
  grow : w.grownBy w' (some b)
theorem CaI.turn {w w' : World} {c p b tb : Nat} {T T' : List Rw} (h : CaI w c p b tb T) (ho : TOut w w' p b T') : COut w w' c p b tb T' :=
  ⟨⟨(ho.grow.block c (lt_of_block h.box) (fun e => by injection e with e; exact h.cb e)).trans h.box, ho.tab, h.told.grown ho.grow (fun e => by injection e with e; exact h.ne e), h.ne⟩, ho.grow⟩
theorem CaI.still {w w' : World} {c p b tb : Nat} {T : List Rw} (h : CaI w c p b tb T) (hb : Below w.heap.size w w') : COut w w' c p b tb T := ⟨h.step hb, below_grown hb _⟩
theorem COut.pre {w w1 w' : World} {c p b tb : Nat} {T : List Rw} (hb : Below w.heap.size w w1) (h : COut w1 w' c p b tb T) : COut w w' c p b tb T :=
  ⟨h.ci, ⟨h.grow.os.trans hb.os, h.grow.tape.trans hb.tape, h.grow.output.trans hb.output, Nat.le_trans hb.size h.grow.size, fun k hk hn => (h.grow.block k (Nat.lt_of_lt_of_le hk hb.size) hn).trans (hb.block k hk)⟩⟩
theorem cnew_any (w : World) : Calls Try.prog 28 #[] w fun e w' => ∃ c p b tb, e = .returned (.pointer (some ⟨c, 0, none⟩)) ∧ CaI w' c p b tb [] ∧ w.heap.size ≤ c ∧ w.heap.size ≤ p ∧ w.heap.size ≤ b ∧ w.heap.size ≤ tb ∧ Below w.heap.size w w' := by
  have hmm := @run_makeMap Try.prog
  have N := Lib.hid (new_any w)
  go_enter Try.func28, Try.ntmps28
  go_wp2_with fail
  refine N.out.mono ?_
  rintro e w1 ⟨p, b, rfl, ht, hp, hb0, hb⟩
  have HT := Lib.hid ht
  have HB := Lib.hid hb
  have HP := Lib.hid (And.intro hp hb0)
  clear ht hb hp hb0 N
  go_wp2
  go_returns
  have B1 := vstep w1 (.map #[] 0)
  have B2 := vstep (w1.alloc (.map #[] 0)) (.cells #[.pointer (some ⟨p, 0, none⟩), .map (some w1.heap.size), .int .i64 0] 90)
  have B12 := B1.trans (B2.mono B1.size)
  refine ⟨w1.heap.size + 1, p, b, w1.heap.size, by simp, ⟨?_, HT.out.step B12, (NoM.made w1).step B2, ?_⟩, ?_, HP.out.1, HP.out.2, HB.out.size, HB.out.trans (B12.mono HB.out.size)⟩
  · have := heap_alloc_new (w1.alloc (.map #[] 0)) (.cells #[.pointer (some ⟨p, 0, none⟩), .map (some w1.heap.size), .int .i64 0] 90)
    rwa [World.size_alloc] at this
  · have := HT.out.blt
    omega
  · have := HB.out.size
    omega
theorem ready_any (w : World) (c p b tb : Nat) (T : List Rw) (h : CaI w c p b tb T) : Calls Try.prog 39 #[.pointer (some ⟨c, 0, none⟩)] w fun e w' => e = .returned (.bool true) ∧ w = w' := by
  obtain ⟨c0, c1⟩ := h.cells
  clear h
  go_enter Try.func39, Try.ntmps39
  go_wp2
  go_returns
  exact ⟨rfl, rfl⟩
theorem forget_any (w : World) (c p b tb : Nat) (T : List Rw) (h : CaI w c p b tb T) (t r : Int) : Calls Try.prog 56 #[.pointer (some ⟨c, 0, none⟩), .agg #[.int .i64 t, .int .i64 r]] w fun e w' => e = .returned (.tuple #[]) ∧ Below w.heap.size w w' := by
  have B1 := Lib.hid (vstep w (.cells #[.int .i64 t, .int .i64 r] 61))
  have H1 := Lib.hid (h.step B1.out)
  obtain ⟨c0, c1⟩ := H1.out.cells
  have D := Lib.hid (fun f => delfn_any (w.alloc (.cells #[.int .i64 t, .int .i64 r] 61)) tb f H1.out.told)
  clear h
  go_enter Try.func56, Try.ntmps56
  go_wp2_with fail
  refine (D.out _).mono ?_
  rintro e w2 ⟨rfl, hb⟩
  have HB := Lib.hid (B1.out.trans (hb.mono B1.out.size))
  clear hb D c0 c1
  go_wp2
  go_returns
  exact ⟨rfl, HB.out⟩
theorem table_any (w : World) (c p b tb : Nat) (T : List Rw) (h : CaI w c p b tb T) (hl : T.length < 100000) : Calls Try.prog 17 #[.pointer (some ⟨c, 0, none⟩)] w fun e w' => ∃ q qb, e = .returned (.pointer (some ⟨q, 0, none⟩)) ∧ ClO w w' q qb T := by
  obtain ⟨c0, c1⟩ := h.cells
  have R := Lib.hid (ready_any w c p b tb T h)
  have C := Lib.hid (clone_any w p b T h.tab hl)
  clear h
  go_enter Try.func17, Try.ntmps17
  go_wp2_with fail
  refine R.out.mono ?_
  rintro e w1 ⟨rfl, hw⟩
  subst hw
  clear R
  go_wp2_with fail
  refine C.out.mono ?_
  rintro e w2 ⟨q, qb, rfl, ho⟩
  have HO := Lib.hid ho
  clear ho C c0 c1
  go_wp2
  go_returns
  exact ⟨_, _, rfl, HO.out⟩
end Go.Proofs.Ythbmbpnpigpgpaa
