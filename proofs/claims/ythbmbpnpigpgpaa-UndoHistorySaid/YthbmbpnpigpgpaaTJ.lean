/- maps.Keys of a table's map: the iterator. -/
import Derived.Test.YthbmbpnpigpgpaaTI
import Derived.RangeFuncFrom
import Derived.Sort.MapsRangeIn
import Derived.RegionIn
import Derived.LoopNIn
import Derived.LoopIn
import Derived.TacticsInMore
set_option linter.unusedVariables false
set_option maxRecDepth 100000
namespace Go.Proofs.Ythbmbpnpigpgpaa
open Go.RowKit Go.WideMaps Go.Maps

section
variable {F : Fence} {n : Nat} {w : World} {ops : Array Oper} {rest : List Oper} {o : Oper} {a : Act} {Q : Exit → Act → World → Prop}
theorem wpListIn_trange (hg : o.guard = none) (m : Operand) (hop : o.op = Op.range 99 m) (b : Nat) (l : List Rw) (hm : a.eval m = .map (some b)) (h : TM w b l)
    (hK : ∀ w', TRg w' b w.heap.size l [] → w.grownBy w' none → w'.heap.size = w.heap.size + 1 → wpListIn F n Try.prog ops Q rest (a.put o.dst (.pointer (some ⟨w.heap.size, 0, none⟩))) w') : wpListIn F n Try.prog ops Q (o :: rest) a w := by
  refine wpListIn_plain hg fun K' hK' => ?_
  obtain ⟨w', hrun, r1, r2, r3⟩ := h.range
  unfold Oper.wpIn
  refine ⟨by simp [Oper.about, hop], ?_⟩
  rw [Oper.semAt_plain F _ _ (by rw [hop]; intro c hc'; cases hc')]
  simp [execOp, hop, hm, hrun, Result.andThen]
  exact hK' _ _ (hK w' r1 r2 r3)
theorem wpListIn_tnext (hg : o.guard = none) (it : Operand) (hop : o.op = Op.next it false) (b r : Nat) (l done : List Rw) (hit : a.eval it = .pointer (some ⟨r, 0, none⟩)) (h : TRg w b r l done)
    (hDone : (∀ x ∈ l, x ∈ done) → wpListIn F n Try.prog ops Q rest (a.put o.dst (.tuple #[.bool false])) w)
    (hMore : ∀ (x : Rw) (w' : World), x ∈ l → x ∉ done → TRg w' b r l (done ++ [x]) → w'.rangeLeft b r < w.rangeLeft b r → w.grownBy w' (some r) → w'.heap.size = w.heap.size → (Instr.entry (.pointer (some ⟨r, 0, none⟩))).run Try.prog w' = .ok (.tuple #[sv x.t x.r, ev x.pt x.pr x.nm x.d]) w' →
      wpListIn F n Try.prog ops Q rest (a.put o.dst (.tuple #[.bool true, sv x.t x.r, ev x.pt x.pr x.nm x.d])) w') : wpListIn F n Try.prog ops Q (o :: rest) a w := by
  refine wpListIn_plain hg fun K' hK' => ?_
  unfold Oper.wpIn
  refine ⟨by simp [Oper.about, hop], ?_⟩
  rw [Oper.semAt_plain F _ _ (by rw [hop]; intro c hc'; cases hc')]
  rcases h.next o.type with ⟨hall, hrun⟩ | ⟨x, w', hx, hn, hrun, h1, h2, h3, h4, h5⟩
  · simp [execOp, hop, hit, hrun, Result.andThen]
    exact hK' _ _ (hDone hall)
  · simp [execOp, hop, hit, hrun, Result.andThen]
    exact hK' _ _ (hMore x w' hx hn h1 h2 h3 h4 h5)
end
theorem TRg.walks {w w' : World} {b r : Nat} {l done : List Rw} (h : TRg w b r l done) (hk : KeepsWalks w w') : TRg w' b r l done ∧ w'.rangeLeft b r = w.rangeLeft b r := by
  obtain ⟨es, left, cnt, h1, h2⟩ := h
  have h' := h1.of_walks hk
  exact ⟨⟨es, left, cnt, h', h2⟩, h'.left_eq.trans h1.left_eq.symm⟩
theorem TRg.len {w : World} {b r : Nat} {l done : List Rw} (h : TRg w b r l done) : done.length ≤ l.length := by
  obtain ⟨es, left, cnt, _, _, _, h4, _, h6, h7⟩ := h
  exact List.Nodup.length_le_of_subset h6 h7
theorem TRg.less {w : World} {b r : Nat} {l done : List Rw} (h : TRg w b r l done) {x : Rw} (hx : x ∈ l) (hn : x ∉ done) : done.length < l.length := by
  obtain ⟨es, left, cnt, _, _, _, h4, _, h6, h7⟩ := h
  have : (done ++ [x]).length ≤ l.length := List.Nodup.length_le_of_subset (by
    rw [List.nodup_append]
    exact ⟨h6, by simp, fun a ha b hb => by rw [List.mem_singleton] at hb; subst hb; rintro rfl; exact hn ha⟩) (fun z hz => by
    rcases List.mem_append.1 hz with hz | hz
    · exact h7 z hz
    · rw [List.mem_singleton] at hz; subst hz; exact hx)
  rw [List.length_append] at this
  simp at this
  omega
theorem TRg.iter {w : World} {b r : Nat} {l done : List Rw} (h : TRg w b r l done) : ∃ o : Obj, w.heap[r]? = some o ∧ o.isWalk = true := by
  obtain ⟨es, left, cnt, h1, _⟩ := h
  exact h1.iter_walk
abbrev encR (x : Rw) : Array Value := #[sv x.t x.r]
set_option maxHeartbeats 2000000 in
theorem keys1_in (n : Nat) (hn : 1 ≤ n) (l' Bm b : Nat) (l : List Rw) (J Jx : List Rw → World → Prop)
    (hY : ∀ pre x W, J pre W → pre.length < l.length → YieldAt Fence.wide (n - 1) Try.prog l' (encR x) W fun e W' =>
      (e = .returned (.bool true) ∧ J (pre ++ [x]) W' ∧ KeepsWalks W W') ∨ (e = .returned (.bool false) ∧ Jx (pre ++ [x]) W'))
    (W : World) (hJ : AbidesFrom W.heap.size J) (hm : W.cell? ⟨Bm, 0, none⟩ = some (.map (some b))) (h : TM W b l) (h0 : J [] W) :
    CallsIn Fence.wide n Try.prog 60 #[.func (.yield l') #[] #[], .pointer (some ⟨Bm, 0, none⟩)] W fun e W' => (∃ v, e = .returned v) ∧ ((∃ ss : List Rw, ss.Perm l ∧ J ss W') ∨ (∃ pre : List Rw, True ∧ Jx pre W')) := by
  have hro : Fence.wide.round = none := rfl
  refine callsIn_of_wp Try.func60 rfl trivial ?_ hro
  simp only [Try.ntmps60, List.size_toArray, List.length_cons, List.length_nil, Nat.reduceAdd, Nat.reduceSub, Array.replicate_succ, Array.replicate_zero, List.push_toArray, List.append_toArray, List.nil_append, List.cons_append]
  gi_wp2_with (first
    | (gi_at_range; refine wpListIn_trange rfl _ rfl b l rfl h ?_; intro w0 hrg0 hg0 hs0)
    | gi_in)
  go_frame
  gi_loopw [3] (fun _ wr => ∃ ss, Hid (TRg wr b W.heap.size l ss ∧ J ss wr)) (fun _ wr => wr.rangeLeft b W.heap.size)
  case atStart =>
    exact ⟨[], Lib.hid ⟨hrg0, hJ [] W w0 none h0 hg0 (fun r e => by cases e)⟩⟩
  case round =>
    obtain ⟨ss, hJs⟩ := hrel
    gi_wp2_with (first
      | (gi_at_next; refine wpListIn_tnext rfl _ rfl b W.heap.size l ss rfl hJs.out.1 ?_ ?_)
      | gi_in)
    · intro hall
      have FIN := Lib.hid (hJs.out.1.all hall)
      clear hall
      gi_wp2
      go_end0
      exact ⟨⟨_, rfl⟩, .inl ⟨ss, FIN.out, hJs.out.2⟩⟩
    · intro x w2 hx hn hrg2 hlt hg2 hs2 hen
      have hJ2 : J ss w2 := hJ ss wr w2 (some W.heap.size) hJs.out.2 hg2 (fun r e => by cases e; exact ⟨Nat.le_refl _, hJs.out.1.iter⟩)
      have hB3 := vstep w2 (.cells #[.int .i64 x.t, .int .i64 x.r] 61)
      have hJ3 : J ss (w2.alloc (.cells #[.int .i64 x.t, .int .i64 x.r] 61)) := hJ ss w2 _ none hJ2 (World.grownBy_alloc w2 _ none) (fun r e => by cases e)
      have hrg3 := hrg2.kept (World.grownBy_alloc w2 (.cells #[.int .i64 x.t, .int .i64 x.r] 61) none) (by simp) (by simp)
      obtain ⟨fn, tmps, assign, body, hy, hR⟩ := hY ss x _ hJ3 (hJs.out.1.less hx hn)
      clear hs2
      gi_wp2
      refine hR.mono ?_
      rintro e W3 (⟨rfl, hJ4, hk3⟩ | ⟨rfl, hJx3⟩)
      · have hrg4 := hrg3.1.walks hk3
        have FIN := Lib.hid (show TRg W3 b W.heap.size l (ss ++ [x]) ∧ J (ss ++ [x]) W3 from ⟨hrg4.1, hJ4⟩)
        have ML := Lib.hid (show W3.rangeLeft b W.heap.size < wr.rangeLeft b W.heap.size from by rw [hrg4.2, hrg3.2]; exact hlt)
        clear hrg4 hrg3 hlt hrg2
        gi_wp2
        go_roundw
        case rel => exact ⟨ss ++ [x], FIN⟩
        case measure => exact ML.out
      · gi_wp2
        refine bodyPost_ret (results_none rfl _ _ _) rfl ?_
        exact ⟨⟨_, rfl⟩, .inr ⟨ss ++ [x], trivial, hJx3⟩⟩
theorem keys_stops (n : Nat) (hn : 1 ≤ n) (Bm b : Nat) (l : List Rw) (w : World) (hBm : Bm < w.heap.size) (hm : w.cell? ⟨Bm, 0, none⟩ = some (.map (some b))) (h : TM w b l) :
    SeqStopsK Fence.wide n Try.prog 60 #[.pointer (some ⟨Bm, 0, none⟩)] encR KeepsWalks (fun ss => ss.Perm l) (fun _ => True) l.length w := fun l' J Jx W hW hJ _ hY h0 =>
  keys1_in n hn l' Bm b l J Jx hY W hJ ((hW.cell (p := ⟨Bm, 0, none⟩) hBm).trans hm) (h.step hW) h0
end Go.Proofs.Ythbmbpnpigpgpaa

