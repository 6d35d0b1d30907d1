/- Merged by tools/merge.py: TI, TJ, TK, TL, TM, TN, TO, TP, TQ. -/
import Derived.Test.YtkmeceoilighiaaMS
import Derived.RangeFuncFrom
import Derived.Sort.MapsRangeIn
import Derived.RegionIn
import Derived.LoopNIn
import Derived.LoopIn
import Derived.TacticsInMore
import Derived.RangeFuncNested
import Derived.RangeFuncBound
import Derived.RangeFuncCalls
import Derived.RangeFuncLeaves
import Derived.Shelf.Abstract
import Derived.Shelf.RegionOpen

set_option linter.unusedVariables false
set_option maxRecDepth 100000
namespace Go.Proofs.Ytkmeceoilighiaa.Tb
open Go.RowKit Go.WideMaps Go.Maps

theorem row_iter {w : World} {b r : Nat} {l done : List Rw} {base : Nat} {e : TypeId} {size : Nat} {v : Value} {m : Nat} {xs : List Value} (h : w.ownsRow base e size v m xs) (hr : TRg w b r l done) : some r ≠ v.ownBlock := by
  obtain ⟨es, left, cnt, h1, _⟩ := hr
  obtain ⟨_, _, _, _, _, _, _, _, _, hit, _⟩ := h1
  rcases h.2 with ⟨rfl, _⟩ | ⟨g, cap, cur, rfl, _, hb, _⟩
  · simp [Value.ownBlock]
  · intro e1
    have : r = g := by simpa [Value.ownBlock] using e1
    subst this
    rw [hit] at hb
    cases hb
theorem row_map {w : World} {b : Nat} {l : List Rw} {base : Nat} {e : TypeId} {size : Nat} {v : Value} {m : Nat} {xs : List Value} (h : w.ownsRow base e size v m xs) (hr : TM w b l) : some b ≠ v.ownBlock := by
  obtain ⟨es, h1, _⟩ := hr
  obtain ⟨es', c, hb', _⟩ := h1
  rcases h.2 with ⟨rfl, _⟩ | ⟨g, cap, cur, rfl, _, hb, _⟩
  · simp [Value.ownBlock]
  · intro e1
    have : b = g := by simpa [Value.ownBlock] using e1
    subst this
    rw [hb'] at hb
    cases hb
abbrev kd (done : List Rw) (pt pr : Int) : List Sp := (done.filter (atP pt pr)).map stOf
/-- Kids, between two rounds. -/
structure KI (w W : World) (b r : Nat) (l : List Rw) (pt pr : Int) (v : Value) (done : List Rw) : Prop where
  rg : TRg W b r l done
  own : W.ownsRow (w.heap.size + 1) 24 2 v (kd done pt pr).length ((kd done pt pr).flatMap encS)
  box : StAt W w.heap.size pt pr
  bel : Below w.heap.size w W
  big : w.heap.size + 1 ≤ r
theorem KI.len {w W : World} {b r : Nat} {l : List Rw} {pt pr : Int} {v : Value} {done : List Rw} (h : KI w W b r l pt pr v done) : done.length ≤ l.length := by
  obtain ⟨es, left, cnt, _, _, _, h4, _, h6, h7⟩ := h.rg
  exact List.Nodup.length_le_of_subset h6 h7
theorem KI.step {w W W' : World} {b r : Nat} {l : List Rw} {pt pr : Int} {v : Value} {done : List Rw} (h : KI w W b r l pt pr v done) (hb : Below W.heap.size W W') : KI w W' b r l pt pr v done ∧ W'.rangeLeft b r = W.rangeLeft b r := by
  have hg := below_grown hb none
  have k := h.rg.kept hg (by simp) (by simp)
  exact ⟨⟨k.1, own_belowK h.own hb, h.box.step hb, h.bel.trans (hb.mono h.bel.size), h.big⟩, k.2⟩
/-- The iterator's step. -/
theorem KI.next {w W W' : World} {b r : Nat} {l : List Rw} {pt pr : Int} {v : Value} {done : List Rw} (h : KI w W b r l pt pr v done) (hg : W.grownBy W' (some r)) : W'.ownsRow (w.heap.size + 1) 24 2 v (kd done pt pr).length ((kd done pt pr).flatMap encS) ∧ StAt W' w.heap.size pt pr ∧ Below w.heap.size w W' := by
  refine ⟨h.own.kept hg ?_, (hg.block _ (lt_of_block h.box) (fun e => by injection e with e; have := h.big; omega)).trans h.box, h.bel.grown hg h.bel.size (fun k e => by cases e; have := h.big; omega)⟩
  have := row_iter h.own h.rg
  cases hv : v.ownBlock with
  | none => exact .inl rfl
  | some g => exact .inr (fun e => this (by rw [hv, e]))
theorem kd_yes {done : List Rw} {x : Rw} {pt pr : Int} (h : x.pt = pt ∧ x.pr = pr) : kd (done ++ [x]) pt pr = kd done pt pr ++ [stOf x] := by
  unfold kd
  rw [List.filter_append, List.map_append]
  simp [atP, h]
theorem kd_no {done : List Rw} {x : Rw} {pt pr : Int} (h : ¬ (x.pt = pt ∧ x.pr = pr)) : kd (done ++ [x]) pt pr = kd done pt pr := by
  unfold kd
  rw [List.filter_append, List.map_append]
  simp [atP, h]
set_option maxHeartbeats 3200000 in
theorem kids_any (w : World) (p b : Nat) (l : List Rw) (h : TabI w p b l) (hl : l.length < 100000) (pt pr : Int) :
    Calls Try.prog 54 #[.pointer (some ⟨p, 0, none⟩), .agg #[.int .i64 pt, .int .i64 pr]] w fun e w' => ∃ v, e = .returned v ∧ w'.ownsRow w.heap.size 24 2 v (kidsF l pt pr).length ((kidsF l pt pr).flatMap encS) ∧ Below w.heap.size w w' := by
  have B1 := Lib.hid (vstep w (.cells #[.int .i64 pt, .int .i64 pr] 24))
  have T1 := Lib.hid (h.step B1.out)
  have S1 := Lib.hid (StAt.new w pt pr)
  obtain ⟨W0, hW0⟩ : ∃ y, w.alloc (.cells #[.int .i64 pt, .int .i64 pr] 24) = y := ⟨_, rfl⟩
  rw [hW0] at T1 S1 B1
  have HS := Lib.hid (show W0.heap.size = w.heap.size + 1 from by rw [← hW0]; simp)
  have HW := Lib.hid hW0
  have M := Lib.hid (made_any W0 p b l T1.out)
  have RS := Lib.hid h.map.rise
  obtain ⟨i0, hi, hz0, hz1, hz2⟩ := info_parts info24
  clear hW0 h
  go_enter Try.func54, Try.ntmps54
  go_upto_region 1 with (fail)
  rw [HW.out]
  go_wp2_with fail
  refine M.out.mono ?_
  rintro e w1 ⟨rfl, rfl⟩
  have c0 := T1.out.cell
  go_wp2_with (at_range; refine wpList_trange rfl _ rfl b l rfl T1.out.map ?_; intro w2 hr hg hs; have R2 := Lib.hid hr; have G2 := Lib.hid hg; clear hr hg hs)
  have K0 := Lib.hid (show KI w w2 b W0.heap.size l pt pr (.slice none 0 0) [] from ⟨R2.out, World.ownsRow_nil _ _ _ _, S1.out.step ⟨G2.out.os, G2.out.tape, G2.out.output, G2.out.size, fun k hk => G2.out.block k hk (by simp)⟩, B1.out.grown G2.out B1.out.size (fun k e => by cases e), by have := HS.out; omega⟩)
  clear c0 R2 G2 M T1
  go_frame
  go_loopw [5] (fun sv wr => ∃ done, Hid (KI w wr b W0.heap.size l pt pr sv done)) (fun _ wr => wr.rangeLeft b W0.heap.size)
  case atStart => exact ⟨[], K0⟩
  case round =>
    obtain ⟨done, hK⟩ := hrel
    obtain ⟨va, vc, rfl⟩ := own_shapeK hK.out.own
    have KH := Lib.hid hK.out
    have OW := Lib.hid hK.out.own
    have LK := Lib.hid (show (kd done pt pr).length < 100000 from by have := hK.out.len; have : (kd done pt pr).length ≤ done.length := by { unfold kd; rw [List.length_map]; exact List.length_filter_le _ _ }; omega)
    obtain ⟨ks, hks⟩ : ∃ ks, kd done pt pr = ks := ⟨_, rfl⟩
    rw [hks] at OW LK ⊢
    have HK := Lib.hid hks
    clear hK K0 hks
    go_wp2_with (at_next; refine wpList_tnext rfl _ rfl b W0.heap.size l done rfl KH.out.rg ?_ ?_)
    · intro hall
      have HA := Lib.hid hall
      clear hall
      have SO := Lib.hid (sort_own wr _ _ ks OW.out (by have := LK.out; omega))
      go_wp2_with fail
      refine SO.out.mono ?_
      rintro e w4 ⟨rfl, l', hp, hs, ho, hg⟩
      have EQ := Lib.hid (kids_one RS.out (KH.out.rg.all HA.out) pt pr (by rw [show (done.filter (atP pt pr)).map stOf = ks from HK.out]; exact hp) hs)
      have FIN := Lib.hid (show w4.ownsRow w.heap.size 24 2 (.slice va ks.length vc) (kidsF l pt pr).length ((kidsF l pt pr).flatMap encS) ∧ Below w.heap.size w w4 from by
        have e1 : ks.length = (kidsF l pt pr).length := by rw [← EQ.out]; exact hp.length_eq.symm
        rw [EQ.out, e1] at ho
        refine ⟨?_, KH.out.bel.grown hg KH.out.bel.size (fun k e => by have := (OW.out.lt k e).1; omega)⟩
        rw [e1]
        exact ⟨ho.1, ho.2.imp id fun ⟨g, cap, cur, h1, h2, h3⟩ => ⟨g, cap, cur, h1, by omega, h3⟩⟩)
      clear hp hs ho hg EQ HA SO
      go_wp2
      go_returns
      exact ⟨_, rfl, FIN.out.1, FIN.out.2⟩
    · intro x w3 hx hn hr hlt hg hs hen
      have N3 := Lib.hid (KH.out.next hg)
      have R3 := Lib.hid hr
      have LT := Lib.hid hlt
      have HX := Lib.hid (And.intro hx hn)
      clear hr hlt hg hs hx hn
      have B4 := Lib.hid ((vstep w3 (.cells #[.int .i64 x.t, .int .i64 x.r] 24)).trans ((vstep (w3.alloc (.cells #[.int .i64 x.t, .int .i64 x.r] 24)) (.cells #[.int .i64 x.pt, .int .i64 x.pr, .string x.nm, .bool x.d] 69)).mono (vstep w3 _).size))
      have S4 := Lib.hid ((StAt.new w3 x.t x.r).step (vstep _ (.cells #[.int .i64 x.pt, .int .i64 x.pr, .string x.nm, .bool x.d] 69)))
      have E4 := Lib.hid (show EnAt ((w3.alloc (.cells #[.int .i64 x.t, .int .i64 x.r] 24)).alloc (.cells #[.int .i64 x.pt, .int .i64 x.pr, .string x.nm, .bool x.d] 69)) (w3.heap.size + 1) x.pt x.pr x.nm x.d from by have := EnAt.new (w3.alloc (.cells #[.int .i64 x.t, .int .i64 x.r] 24)) x.pt x.pr x.nm x.d; rwa [World.size_alloc] at this)
      have N3 := Lib.hid (show w3.ownsRow (w.heap.size + 1) 24 2 (.slice va ks.length vc) ks.length (ks.flatMap encS) ∧ StAt w3 w.heap.size pt pr ∧ Below w.heap.size w w3 from by have := N3.out; rw [HK.out] at this; exact this)
      go_upto_region 7 with (fail)
      obtain ⟨w4, hw4⟩ : ∃ y, (w3.alloc (.cells #[.int .i64 x.t, .int .i64 x.r] 24)).alloc (.cells #[.int .i64 x.pt, .int .i64 x.pr, .string x.nm, .bool x.d] 69) = y := ⟨_, rfl⟩
      rw [hw4] at B4 S4 E4 ⊢
      clear hw4 hen
      have R4 := Lib.hid (R3.out.kept (below_grown B4.out none) (by simp) (by simp))
      have O4 := Lib.hid (own_belowK N3.out.1 B4.out)
      have X4 := Lib.hid (N3.out.2.1.step B4.out)
      have L4 := Lib.hid (N3.out.2.2.trans (B4.out.mono N3.out.2.2.size))
      clear R3 N3 OW
      obtain ⟨c1, c2⟩ := S4.out.cells
      obtain ⟨d0, d1, d2, d3⟩ := E4.out.cells
      obtain ⟨e0, e1⟩ := X4.out.cells
      by_cases hq : x.pt = pt ∧ x.pr = pr
      · have t1 := beqb_ _ _ hq.1
        have t2 := beqb_ _ _ hq.2
        have KY := Lib.hid (kd_yes (done := done) hq)
        clear hq
        have O5 := Lib.hid (own_belowK O4.out (vstep w4 (.cells #[.int .i64 x.t, .int .i64 x.r] 24)))
        have H5 := Lib.hid (show (w4.alloc (.cells #[.int .i64 x.t, .int .i64 x.r] 24)).heap[w4.heap.size]? = some (.cells (encS (stOf x)).toArray 24 (0, 0)) from heap_alloc_new w4 _)
        have Q5 := Lib.hid (And.intro (show ks.length + 1 ≤ maxLen from by have := LK.out; unfold maxLen; omega) (And.intro (show (ks.length + 1) * 16 ≤ 140737488355328 from by have := LK.out; omega) (show w.heap.size + 1 ≤ (w4.alloc (.cells #[.int .i64 x.t, .int .i64 x.r] 24)).heap.size from by have := L4.out.size; simp; omega)))
        go_wp2_with (at_builtin; refine wpList_pushK rfl (.tmp 25) (.tmp 27) 52 rfl encS_len (by decide) encS_one (w.heap.size + 1) 24 i0 (.agg #[.int .i64 0, .int .i64 0]) 16 Try.u43 hi hz0 hz1 hz2 rfl (.slice va ks.length vc) ks (stOf x) w4.heap.size rfl rfl H5.out O5.out Q5.out.1 Q5.out.2.1 Q5.out.2.2 ?_; intro v6 w6 hown hgr; have O6 := Lib.hid hown; have G6 := Lib.hid hgr; clear hown hgr)
        have B5 := vstep w4 (.cells #[.int .i64 x.t, .int .i64 x.r] 24)
        have R5 := R4.out.1.kept (below_grown B5 none) (by simp) (by simp)
        have R6 := R5.1.kept G6.out (row_map O5.out R5.1.tm) (row_iter O5.out R5.1)
        have FIN := Lib.hid (show KI w w6 b W0.heap.size l pt pr v6 (done ++ [x]) from ⟨R6.1, by rw [KY.out, HK.out]; exact O6.out, (G6.out.block _ (by have := lt_of_block X4.out; simp; omega) (fun e => by have := (O5.out.lt _ e.symm).1; omega)).trans (X4.out.step B5), (L4.out.trans (B5.mono L4.out.size)).grown G6.out (by have := L4.out.size; simp; omega) (fun k e => by have := (O5.out.lt k e).1; omega), by have := HS.out; omega⟩)
        have ML := Lib.hid (show w6.rangeLeft b W0.heap.size < wr.rangeLeft b W0.heap.size from by rw [R6.2, R5.2, R4.out.2]; exact LT.out)
        clear R6 R5 B5 c1 c2 d0 d1 d2 d3 e0 e1 t1 t2
        go_roundw
        case rel => exact ⟨done ++ [x], FIN⟩
        case measure => exact ML.out
      · have KN := Lib.hid (kd_no (done := done) hq)
        have FIN := Lib.hid (show KI w w4 b W0.heap.size l pt pr (.slice va ks.length vc) (done ++ [x]) from ⟨R4.out.1, by rw [KN.out, HK.out]; exact O4.out, X4.out, L4.out, by have := HS.out; omega⟩)
        have ML := Lib.hid (show w4.rangeLeft b W0.heap.size < wr.rangeLeft b W0.heap.size from by rw [R4.out.2]; exact LT.out)
        rcases no2 hq with t1 | ⟨t1, t2⟩
        all_goals
          clear hq KN
          go_wp2
          go_roundw
          case rel => exact ⟨done ++ [x], FIN⟩
          case measure => exact ML.out
end Go.Proofs.Ytkmeceoilighiaa.Tb


set_option linter.unusedVariables false
set_option maxRecDepth 100000
namespace Go.Proofs.Ytkmeceoilighiaa.Tb
open Go.RowKit Go.WideMaps Go.Maps

section
variable {F : Fence} {n : Nat} {w : World} {ops : Array Oper} {rest : List Oper} {o : Oper} {a : Act} {Q : Exit → Act → World → Prop}
theorem wpListIn_trange (hg : o.guard = none) (m : Operand) (hop : o.op = Op.range 104 m) (b : Nat) (l : List Rw) (hm : a.eval m = .map (some b)) (h : TM w b l)
    (hK : ∀ w', TRg w' b w.heap.size l [] → w.grownBy w' none → w'.heap.size = w.heap.size + 1 → wpListIn F n Try.prog ops Q rest (a.put o.dst (.pointer (some ⟨w.heap.size, 0, none⟩))) w') : wpListIn F n Try.prog ops Q (o :: rest) a w := by
  refine wpListIn_plain hg fun K' hK' => ?_
  obtain ⟨w', hrun, r1, r2, r3⟩ := h.range
  unfold Oper.wpIn
  refine ⟨by simp [Oper.about, hop], ?_⟩
  rw [Oper.semAt_plain F _ _ (by rw [hop]; intro c hc'; cases hc')]
  simp [execOp, hop, hm, hrun, Result.andThen]
  exact hK' _ _ (hK w' r1 r2 r3)
theorem wpListIn_tnext (hg : o.guard = none) (it : Operand) (hop : o.op = Op.next it false) (b r : Nat) (l done : List Rw) (hit : a.eval it = .pointer (some ⟨r, 0, none⟩)) (h : TRg w b r l done)
    (hDone : (∀ x ∈ l, x ∈ done) → wpListIn F n Try.prog ops Q rest (a.put o.dst (.tuple #[.bool false])) w)
    (hMore : ∀ (x : Rw) (w' : World), x ∈ l → x ∉ done → TRg w' b r l (done ++ [x]) → w'.rangeLeft b r < w.rangeLeft b r → w.grownBy w' (some r) → w'.heap.size = w.heap.size → (Instr.entry (.pointer (some ⟨r, 0, none⟩))).run Try.prog w' = .ok (.tuple #[sv x.t x.r, ev x.pt x.pr x.nm x.d]) w' →
      wpListIn F n Try.prog ops Q rest (a.put o.dst (.tuple #[.bool true, sv x.t x.r, ev x.pt x.pr x.nm x.d])) w') : wpListIn F n Try.prog ops Q (o :: rest) a w := by
  refine wpListIn_plain hg fun K' hK' => ?_
  unfold Oper.wpIn
  refine ⟨by simp [Oper.about, hop], ?_⟩
  rw [Oper.semAt_plain F _ _ (by rw [hop]; intro c hc'; cases hc')]
  rcases h.next o.type with ⟨hall, hrun⟩ | ⟨x, w', hx, hn, hrun, h1, h2, h3, h4, h5⟩
  · simp [execOp, hop, hit, hrun, Result.andThen]
    exact hK' _ _ (hDone hall)
  · simp [execOp, hop, hit, hrun, Result.andThen]
    exact hK' _ _ (hMore x w' hx hn h1 h2 h3 h4 h5)
end
theorem TRg.walks {w w' : World} {b r : Nat} {l done : List Rw} (h : TRg w b r l done) (hk : KeepsWalks w w') : TRg w' b r l done ∧ w'.rangeLeft b r = w.rangeLeft b r := by
  obtain ⟨es, left, cnt, h1, h2⟩ := h
  have h' := h1.of_walks hk
  exact ⟨⟨es, left, cnt, h', h2⟩, h'.left_eq.trans h1.left_eq.symm⟩
theorem TRg.len {w : World} {b r : Nat} {l done : List Rw} (h : TRg w b r l done) : done.length ≤ l.length := by
  obtain ⟨es, left, cnt, _, _, _, h4, _, h6, h7⟩ := h
  exact List.Nodup.length_le_of_subset h6 h7
theorem TRg.less {w : World} {b r : Nat} {l done : List Rw} (h : TRg w b r l done) {x : Rw} (hx : x ∈ l) (hn : x ∉ done) : done.length < l.length := by
  obtain ⟨es, left, cnt, _, _, _, h4, _, h6, h7⟩ := h
  have : (done ++ [x]).length ≤ l.length := List.Nodup.length_le_of_subset (by
    rw [List.nodup_append]
    exact ⟨h6, by simp, fun a ha b hb => by rw [List.mem_singleton] at hb; subst hb; rintro rfl; exact hn ha⟩) (fun z hz => by
    rcases List.mem_append.1 hz with hz | hz
    · exact h7 z hz
    · rw [List.mem_singleton] at hz; subst hz; exact hx)
  rw [List.length_append] at this
  simp at this
  omega
theorem TRg.iter {w : World} {b r : Nat} {l done : List Rw} (h : TRg w b r l done) : ∃ o : Obj, w.heap[r]? = some o ∧ o.isWalk = true := by
  obtain ⟨es, left, cnt, h1, _⟩ := h
  exact h1.iter_walk
abbrev encR (x : Rw) : Array Value := #[sv x.t x.r]
set_option maxHeartbeats 2000000 in
theorem keys1_in (n : Nat) (hn : 1 ≤ n) (l' Bm b : Nat) (l : List Rw) (J Jx : List Rw → World → Prop)
    (hY : ∀ pre x W, J pre W → pre.length < l.length → YieldAt Fence.wide (n - 1) Try.prog l' (encR x) W fun e W' =>
      (e = .returned (.bool true) ∧ J (pre ++ [x]) W' ∧ KeepsWalks W W') ∨ (e = .returned (.bool false) ∧ Jx (pre ++ [x]) W'))
    (W : World) (hJ : AbidesFrom W.heap.size J) (hm : W.cell? ⟨Bm, 0, none⟩ = some (.map (some b))) (h : TM W b l) (h0 : J [] W) :
    CallsIn Fence.wide n Try.prog 79 #[.func (.yield l') #[] #[], .pointer (some ⟨Bm, 0, none⟩)] W fun e W' => (∃ v, e = .returned v) ∧ ((∃ ss : List Rw, ss.Perm l ∧ J ss W') ∨ (∃ pre : List Rw, True ∧ Jx pre W')) := by
  have hro : Fence.wide.round = none := rfl
  refine callsIn_of_wp Try.func79 rfl trivial ?_ hro
  simp only [Try.ntmps79, List.size_toArray, List.length_cons, List.length_nil, Nat.reduceAdd, Nat.reduceSub, Array.replicate_succ, Array.replicate_zero, List.push_toArray, List.append_toArray, List.nil_append, List.cons_append]
  gi_wp2_with (first
    | (gi_at_range; refine wpListIn_trange rfl _ rfl b l rfl h ?_; intro w0 hrg0 hg0 hs0)
    | gi_in)
  go_frame
  gi_loopw [3] (fun _ wr => ∃ ss, Hid (TRg wr b W.heap.size l ss ∧ J ss wr)) (fun _ wr => wr.rangeLeft b W.heap.size)
  case atStart =>
    exact ⟨[], Lib.hid ⟨hrg0, hJ [] W w0 none h0 hg0 (fun r e => by cases e)⟩⟩
  case round =>
    obtain ⟨ss, hJs⟩ := hrel
    gi_wp2_with (first
      | (gi_at_next; refine wpListIn_tnext rfl _ rfl b W.heap.size l ss rfl hJs.out.1 ?_ ?_)
      | gi_in)
    · intro hall
      have FIN := Lib.hid (hJs.out.1.all hall)
      clear hall
      gi_wp2
      go_end0
      exact ⟨⟨_, rfl⟩, .inl ⟨ss, FIN.out, hJs.out.2⟩⟩
    · intro x w2 hx hn hrg2 hlt hg2 hs2 hen
      have hJ2 : J ss w2 := hJ ss wr w2 (some W.heap.size) hJs.out.2 hg2 (fun r e => by cases e; exact ⟨Nat.le_refl _, hJs.out.1.iter⟩)
      have hB3 := vstep w2 (.cells #[.int .i64 x.t, .int .i64 x.r] 24)
      have hJ3 : J ss (w2.alloc (.cells #[.int .i64 x.t, .int .i64 x.r] 24)) := hJ ss w2 _ none hJ2 (World.grownBy_alloc w2 _ none) (fun r e => by cases e)
      have hrg3 := hrg2.kept (World.grownBy_alloc w2 (.cells #[.int .i64 x.t, .int .i64 x.r] 24) none) (by simp) (by simp)
      obtain ⟨fn, tmps, assign, body, hy, hR⟩ := hY ss x _ hJ3 (hJs.out.1.less hx hn)
      clear hs2
      gi_wp2
      refine hR.mono ?_
      rintro e W3 (⟨rfl, hJ4, hk3⟩ | ⟨rfl, hJx3⟩)
      · have hrg4 := hrg3.1.walks hk3
        have FIN := Lib.hid (show TRg W3 b W.heap.size l (ss ++ [x]) ∧ J (ss ++ [x]) W3 from ⟨hrg4.1, hJ4⟩)
        have ML := Lib.hid (show W3.rangeLeft b W.heap.size < wr.rangeLeft b W.heap.size from by rw [hrg4.2, hrg3.2]; exact hlt)
        clear hrg4 hrg3 hlt hrg2
        gi_wp2
        go_roundw
        case rel => exact ⟨ss ++ [x], FIN⟩
        case measure => exact ML.out
      · gi_wp2
        refine bodyPost_ret (results_none rfl _ _ _) rfl ?_
        exact ⟨⟨_, rfl⟩, .inr ⟨ss ++ [x], trivial, hJx3⟩⟩
theorem keys_stops (n : Nat) (hn : 1 ≤ n) (Bm b : Nat) (l : List Rw) (w : World) (hBm : Bm < w.heap.size) (hm : w.cell? ⟨Bm, 0, none⟩ = some (.map (some b))) (h : TM w b l) :
    SeqStopsK Fence.wide n Try.prog 79 #[.pointer (some ⟨Bm, 0, none⟩)] encR KeepsWalks (fun ss => ss.Perm l) (fun _ => True) l.length w := fun l' J Jx W hW hJ _ hY h0 =>
  keys1_in n hn l' Bm b l J Jx hY W hJ ((hW.cell (p := ⟨Bm, 0, none⟩) hBm).trans hm) (h.step hW) h0
end Go.Proofs.Ytkmeceoilighiaa.Tb


set_option linter.unusedVariables false
set_option maxRecDepth 100000
namespace Go.Proofs.Ytkmeceoilighiaa.Tb
open Go.RowKit Go.WideMaps Go.Maps

theorem wpListIn_push {F : Fence} {n : Nat} {w : World} {ops : Array Oper} {rest : List Oper} {o : Oper} {a : Act} {Q : Exit → Act → World → Prop} (hgd : o.guard = none) (s x : Operand)
    (ho : o.op = .call { callee := .builtin .append, args := #[s, x], argTypes := #[52, 52] }) (base : Nat) (i : TypeInfo) (hi : Try.prog.info? 24 = some i) (hz : i.zero = some (.agg #[.int .i64 0, .int .i64 0])) (hsize : i.size = 2) (hby : i.bytes = 16)
    (v : Value) (l : List Sp) (p : Sp) (g : Nat) (hs : a.eval s = v) (hx : a.eval x = .slice (some ⟨g, 0, none⟩) 1 1) (hb : w.heap[g]? = some (.cells (encS p).toArray 24 (0, 0))) (hown : w.ownsRow base 24 2 v l.length (l.flatMap encS))
    (hl : l.length < 100000) (hbase : base ≤ w.heap.size)
    (h : ∀ v' w', w'.ownsRow base 24 2 v' (l ++ [p]).length ((l ++ [p]).flatMap encS) → w.grownBy w' v.ownBlock → wpListIn F n Try.prog ops Q rest (a.put o.dst v') w') : wpListIn F n Try.prog ops Q (o :: rest) a w := by
  have hsrc := (one_liesK encS_len hb).src Try.u43 encS_len (by omega) encS_one
  refine wpListIn_plain hgd fun K hK => ?_
  obtain ⟨v', w', hr, h2, h3, h4⟩ := run_append_src_own (P := Try.prog) w base 52 52 o.type 24 i (.agg #[.int .i64 0, .int .i64 0]) 2 16 Try.u43 hi hz hsize hby rfl (by omega) v l.length _ hown _ 1 ([p].flatMap encS) hsrc (by unfold maxLen; omega) (by omega) hbase
  unfold Oper.wpIn
  refine ⟨by simp [Oper.about, ho, resolve, Target.leads, Sem.run_pure], ?_⟩
  rw [Oper.semAt_plain F _ _ (by rw [ho]; intro c hc'; cases hc')]
  simp only [execOp, ho, resolve, invoke, builtin, Sem.run_bind, Sem.run_pure, Result.andThen_ok, List.map_toArray, List.map_cons, List.map_nil, hs, hx, hr]
  exact hK _ _ (h v' w' (by rw [List.length_append, List.flatMap_append]; exact h2) h3)
/-- AppendSeq, between two rounds. -/
def AI (w : World) (pre : List Rw) (W : World) : Prop := (∃ v, W.heap[w.heap.size]? = some (.cells #[v] 52 (0, 0)) ∧ W.ownsRow (w.heap.size + 1) 24 2 v (pre.map stOf).length ((pre.map stOf).flatMap encS)) ∧ Below w.heap.size w W
theorem own_kept {W W' : World} {row : Option Nat} {base : Nat} {e : TypeId} {size : Nat} {v : Value} {m : Nat} {xs : List Value} (h : W.ownsRow base e size v m xs) (hg : W.grownBy W' row) (hr : ∀ r, row = some r → ∃ o : Obj, W.heap[r]? = some o ∧ o.isCells = false) : W'.ownsRow base e size v m xs := by
  refine h.kept hg ?_
  rcases h.2 with ⟨rfl, _⟩ | ⟨g, cap, cur, rfl, _, hb, _⟩
  · exact .inl rfl
  · refine .inr (fun e1 => ?_)
    obtain ⟨o, ho, hc⟩ := hr g e1.symm
    rw [hb] at ho
    cases ho
    cases hc
theorem AI.own (w : World) (B : Nat) (hB : w.heap.size ≤ B) : OwnFrom B (AI w) := by
  intro s W W' row h hg hr
  obtain ⟨⟨v, h1, h2⟩, h3⟩ := h
  refine ⟨⟨v, (hg.block _ (lt_of_block h1) (fun e => ?_)).trans h1, own_kept h2 hg (fun r e => (hr r e).2)⟩, h3.grown hg h3.size (fun k e => Nat.le_trans hB (hr k e).1)⟩
  obtain ⟨o, ho, hc⟩ := (hr _ e.symm).2
  rw [h1] at ho
  cases ho
  cases hc
/-- The round's frame. -/
def AX (w : World) (Bm : Nat) (x : Rw) (a : Act) (W : World) : Prop := ∃ k, a = { tmps := #[.slice none 0 0, .func (.func 79) #[] #[.pointer (some ⟨Bm, 0, none⟩)], .pointer (some ⟨w.heap.size, 0, none⟩), undef, .slice none 0 0, .pointer (some ⟨k, 0, none⟩), .func (.func 79) #[] #[.pointer (some ⟨Bm, 0, none⟩)], sv x.t x.r, undef, undef, undef, undef, undef], defers := [] } ∧ StAt W k x.t x.r
theorem AX.own (w : World) (Bm B : Nat) (x : Rw) (a : Act) : OwnFrom B (fun (_ : Unit) W => AX w Bm x a W) := by
  intro s W W' row h hg hr
  obtain ⟨k, e, h1⟩ := h
  refine ⟨k, e, (hg.block _ (lt_of_block h1) (fun e => ?_)).trans h1⟩
  obtain ⟨o, ho, hc⟩ := (hr _ e.symm).2
  rw [show W.heap[k]? = _ from h1] at ho
  cases ho
  cases hc
set_option maxHeartbeats 4000000 in
theorem appendSeq_in (n : Nat) (hn : 4 ≤ n) (w : World) (Bm b : Nat) (l : List Rw) (hl : l.length < 100000) (hBm : Bm < w.heap.size) (hm : w.cell? ⟨Bm, 0, none⟩ = some (.map (some b))) (h : TM w b l) :
    CallsIn Fence.wide n Try.prog 94 #[.slice none 0 0, .func (.func 79) #[] #[.pointer (some ⟨Bm, 0, none⟩)]] w fun e w' => ∃ (v : Value) (ss : List Rw), e = .returned v ∧ ss.Perm l ∧ w'.ownsRow (w.heap.size + 1) 24 2 v (ss.map stOf).length ((ss.map stOf).flatMap encS) ∧ Below w.heap.size w w' := by
  have h1 : 1 ≤ n := by omega
  have hro : Fence.wide.round = none := rfl
  obtain ⟨W0, hW0⟩ : ∃ W0, w.alloc (.cells #[.slice none 0 0] 52) = W0 := ⟨_, rfl⟩
  have hs0 : W0.heap.size = w.heap.size + 1 := by rw [← hW0]; simp
  have hv0 : W0.heap[w.heap.size]? = some (.cells #[.slice none 0 0] 52 (0, 0)) := by rw [← hW0]; exact World.alloc_heap_new w _
  have hb0 : Below w.heap.size w W0 := by rw [← hW0]; exact vstep w _
  have HW := Lib.hid hW0
  have HZ := Lib.hid hs0
  have HV := Lib.hid hv0
  have HB := Lib.hid hb0
  have SQ := Lib.hid (keys_stops (n - 1) (by omega) Bm b l w hBm hm h)
  obtain ⟨i0, hi, hz0, hz1, hz2⟩ := info_parts info24
  clear hW0 hs0 hv0 hb0 h hm
  refine callsIn_of_wp_marks Try.func94 rfl trivial ?_ hro
  simp only [Try.ntmps94, List.size_toArray, List.length_cons, List.length_nil, Nat.reduceAdd, Nat.reduceSub, Array.replicate_succ, Array.replicate_zero, List.push_toArray, List.append_toArray, List.nil_append, List.cons_append]
  gi_wp2
  rw [HW.out]
  refine wpIn_rangeFunc_ownH hro h1 (gf := 79) (lb := #[.pointer (some ⟨Bm, 0, none⟩)]) rfl trivial (enters_of Try.func79 (by kernel_rfl) rfl)
    SQ.out (fun h k => KeepsWalks.trans h k) (fun W l o o' _ h _ hw => KeepsWalks.putObj _ h hw) HB.out (fun _ => rfl)
    (AI w) (fun _ _ _ => False) (AI.own w _ HB.out.size) (fun _ _ _ _ _ hs _ _ => hs) ⟨⟨_, HV.out, World.ownsRow_nil _ _ _ _⟩, HB.out⟩
    (AX w Bm) (fun x a' => AX.own w Bm _ x a') ?assign ?body ?done ?stop
  case assign =>
    intro l' pre x W K hI hK
    gi_wp2_with (rw [Oper.semAt_eq _ _ _ (fun c h => by cases h)]; go_simp; try go_bits)
    exact hK _ _ ((KeepsOthers.alloc W _).from _) (KeepsWalks.alloc W _) ((AI.own w _ HB.out.size).alloc _ hI) ⟨W.heap.size, rfl, StAt.new W x.t x.r⟩
  case body =>
    rintro l' pre x a' W hl' hr' ⟨⟨v, hv, ho⟩, hbW⟩ ⟨k, rfl, hst⟩ hN
    obtain ⟨c1, c2⟩ := hst.cells
    have c3 := cell_of_one hv
    obtain ⟨va, vc, rfl⟩ := own_shapeK ho
    have OW := Lib.hid ho
    have HV3 := Lib.hid hv
    have BW := Lib.hid hbW
    have HN := Lib.hid (show (pre.map stOf).length < 100000 from by rw [List.length_map]; omega)
    have PM := Lib.hid (show (pre ++ [x]).map stOf = pre.map stOf ++ [stOf x] from by rw [List.map_append]; rfl)
    generalize pre.map stOf = ks at *
    have H5 := Lib.hid (show (W.alloc (.cells #[.int .i64 x.t, .int .i64 x.r] 24)).heap[W.heap.size]? = some (.cells (encS (stOf x)).toArray 24 (0, 0)) from heap_alloc_new W _)
    have O5 := Lib.hid (own_belowK OW.out (vstep W (.cells #[.int .i64 x.t, .int .i64 x.r] 24)))
    clear ho hv hbW hst hN
    gi_wp2_with (first
      | (gi_at_builtin; refine wpListIn_push rfl (.tmp 8) (.tmp 10) rfl (w.heap.size + 1) i0 hi hz0 hz1 hz2 (.slice va ks.length vc) ks (stOf x) W.heap.size rfl rfl H5.out O5.out HN.out (by have := lt_of_block HV3.out; simp; omega) ?_; intro v6 w6 hown hgr; obtain ⟨va6, vc6, rfl⟩ := own_shapeK hown; have hv6 := (hgr.block w.heap.size (by have := lt_of_block HV3.out; simp; omega) (fun e => by have := (O5.out.lt _ e.symm).1; omega)).trans ((vstep W (.cells #[.int .i64 x.t, .int .i64 x.r] 24)).block w.heap.size (lt_of_block HV3.out) |>.trans HV3.out); have c6 := cell_of_one hv6; have f6 := free_of_one hv6; have V6 := Lib.hid hv6; have O6 := Lib.hid hown; have G6 := Lib.hid hgr; clear hown hgr hv6 c1 c2 c3)
      | (rw [Oper.semAt_eq _ _ _ (fun c h => by cases h)]; go_simp; try go_bits))
    have B5 := vstep W (.cells #[.int .i64 x.t, .int .i64 x.r] 24)
    have KO : ∀ u, KeepsOthers W (w6.setCell ⟨w.heap.size, 0, none⟩ u) := fun u => ((KeepsOthers.alloc W _).trans (KeepsOthers.of_grownBy G6.out (fun j o e ho => by
      rcases O5.out.2 with ⟨e1, _⟩ | ⟨g, cap, cur, e1, _, hb, _⟩
      · rw [e1] at e; cases e
      · rw [e1] at e
        injection e with e
        subst e
        rw [hb] at ho
        cases ho
        rfl))).trans (KeepsOthers.setCell _ _ _)
    have O7 : w6.ownsRow (w.heap.size + 1) 24 2 (.slice va6 (ks.length + 1) vc6) (ks ++ [stOf x]).length ((ks ++ [stOf x]).flatMap encS) := by have := O6.out; rw [show (ks ++ [stOf x]).length = ks.length + 1 by simp] at this ⊢; exact this
    refine ⟨(KO _).from _, (KO _).walks, ⟨_, Boxed.set _ V6.out, ?_⟩, ?_⟩
    · rw [PM.out]
      exact O7.kept (grownBy_setCell' w6 w.heap.size _) (.inr (fun e => by have := (O7.lt _ e).1; omega))
    · exact ((BW.out.trans (B5.mono BW.out.size)).grown G6.out (by have := BW.out.size; simp; omega) (fun j e => by have := (O5.out.lt _ e).1; omega)).setCell (Nat.le_refl _) _
  case done =>
    rintro D ys W hD hS ⟨⟨v, hv, ho⟩, hbW⟩ hK
    have c3 := cell_of_one hv
    have HK := Lib.hid hK
    have PS := Lib.hid hS
    have HD := Lib.hid hD
    obtain ⟨va, vc, rfl⟩ := own_shapeK ho
    have FIN := Lib.hid (show W.ownsRow (w.heap.size + 1) 24 2 (.slice va ys.length vc) (ys.map stOf).length ((ys.map stOf).flatMap encS) ∧ Below w.heap.size w W from ⟨by have := ho; rw [List.length_map] at this ⊢; exact this, hbW⟩)
    rw [List.length_map] at c3
    clear ho hbW hv hS hK hD
    gi_wp2
    refine ⟨by simp, .inl ⟨_, _, rfl, run_takeDeferred HK.out, ?_⟩⟩
    refine ⟨_, results_tmp rfl _ _ _, _, ys, rfl, PS.out, ?_, ?_⟩
    · exact own_kept FIN.out.1 (grownBy_putObj' W D _) (fun r e => by cases e; exact ⟨_, HK.out, rfl⟩)
    · exact FIN.out.2.grown (grownBy_putObj' W D _) FIN.out.2.size (fun r e => by cases e; have := HD.out; have := HZ.out; omega)
  case stop =>
    rintro D c pre W _ _ h _
    exact h.elim
set_option maxHeartbeats 1000000 in
theorem collect_any (w : World) (Bm b : Nat) (l : List Rw) (hl : l.length < 100000) (hBm : Bm < w.heap.size) (hm : w.cell? ⟨Bm, 0, none⟩ = some (.map (some b))) (h : TM w b l) :
    Calls Try.prog 78 #[.func (.func 79) #[] #[.pointer (some ⟨Bm, 0, none⟩)]] w fun e w' => ∃ (v : Value) (ss : List Rw), e = .returned v ∧ ss.Perm l ∧ w'.ownsRow (w.heap.size + 1) 24 2 v (ss.map stOf).length ((ss.map stOf).flatMap encS) ∧ Below w.heap.size w w' := by
  have C := Lib.hid (callsIn_wide.1 (appendSeq_in 4 (Nat.le_refl _) w Bm b l hl hBm hm h))
  clear hm h
  go_enter Try.func78, Try.ntmps78
  go_wp2_with fail
  refine C.out.mono ?_
  rintro e w1 ⟨v, ss, rfl, h1, h2, h3⟩
  have FIN := Lib.hid (And.intro h1 (And.intro h2 h3))
  clear h1 h2 h3
  go_wp2
  go_returns
  exact ⟨v, ss, rfl, FIN.out⟩
def nodesF (l : List Rw) : List Sp := l.map stOf
set_option maxHeartbeats 1000000 in
theorem sorted_any (w : World) (Bm b : Nat) (l : List Rw) (hl : l.length < 100000) (hBm : Bm < w.heap.size) (hm : w.cell? ⟨Bm, 0, none⟩ = some (.map (some b))) (h : TM w b l) :
    Calls Try.prog 59 #[.func (.func 79) #[] #[.pointer (some ⟨Bm, 0, none⟩)], .func (.func 43) #[] #[]] w fun e w' => ∃ v, e = .returned v ∧ w'.ownsRow w.heap.size 24 2 v (nodesF l).length ((nodesF l).flatMap encS) ∧ Below w.heap.size w w' := by
  have C := Lib.hid (collect_any w Bm b l hl hBm hm h)
  have RS := Lib.hid h.rise
  clear hm h
  go_enter Try.func59, Try.ntmps59
  go_wp2_with fail
  refine C.out.mono ?_
  rintro e w1 ⟨v, ss, rfl, h1, h2, h3⟩
  have PS := Lib.hid h1
  have OW := Lib.hid h2
  have BW := Lib.hid h3
  obtain ⟨va, vc, rfl⟩ := own_shapeK h2
  have SO := Lib.hid (sort_own w1 _ _ (ss.map stOf) h2 (by rw [List.length_map, h1.length_eq]; omega))
  clear h1 h2 h3 C
  generalize hks : ss.map stOf = ks at *
  have HK := Lib.hid hks
  clear hks
  go_wp2_with fail
  refine SO.out.mono ?_
  rintro e w4 ⟨rfl, l', hp, hs, ho, hg⟩
  have EQ := Lib.hid (show l' = nodesF l from sorted_one (hp.trans (by rw [← HK.out]; exact PS.out.map _)) hs (rise_sorted RS.out))
  have FIN := Lib.hid (show w4.ownsRow w.heap.size 24 2 (.slice va ks.length vc) (nodesF l).length ((nodesF l).flatMap encS) ∧ Below w.heap.size w w4 from by
    have e1 : ks.length = (nodesF l).length := by rw [← EQ.out]; exact hp.length_eq.symm
    rw [EQ.out, e1] at ho
    refine ⟨?_, BW.out.grown hg BW.out.size (fun k e => by have := (OW.out.lt k e).1; omega)⟩
    rw [e1]
    exact ⟨ho.1, ho.2.imp id fun ⟨g, cap, cur, h1, h2, h3⟩ => ⟨g, cap, cur, h1, by omega, h3⟩⟩)
  clear hp hs ho hg EQ SO
  go_wp2
  go_returns
  exact ⟨_, rfl, FIN.out.1, FIN.out.2⟩
set_option maxHeartbeats 1000000 in
theorem keys_any (w : World) (m : Option Nat) : Calls Try.prog 60 #[.map m] w fun e w' => e = .returned (.func (.func 79) #[] #[.pointer (some ⟨w.heap.size, 0, none⟩)]) ∧ w' = w.alloc (.cells #[.map m] 104) := by
  go_enter Try.func60, Try.ntmps60
  go_wp2
  go_returns
  exact ⟨rfl, rfl⟩
set_option maxHeartbeats 1000000 in
theorem nodes_any (w : World) (p b : Nat) (l : List Rw) (h : TabI w p b l) (hl : l.length < 100000) :
    Calls Try.prog 34 #[.pointer (some ⟨p, 0, none⟩)] w fun e w' => ∃ v, e = .returned v ∧ w'.ownsRow w.heap.size 24 2 v (nodesF l).length ((nodesF l).flatMap encS) ∧ Below w.heap.size w w' := by
  have M := Lib.hid (made_any w p b l h)
  have K := Lib.hid (keys_any w (some b))
  have B1 := Lib.hid (vstep w (.cells #[.map (some b)] 104))
  have S := Lib.hid (sorted_any (w.alloc (.cells #[.map (some b)] 104)) w.heap.size b l hl (by simp) (cell_of_one (heap_alloc_new w _)) (h.map.step B1.out))
  have c0 := h.cell
  clear h
  go_enter Try.func34, Try.ntmps34
  go_wp2_with fail
  refine M.out.mono ?_
  rintro e w1 ⟨rfl, rfl⟩
  go_wp2_with fail
  refine K.out.mono ?_
  rintro e w1 ⟨rfl, rfl⟩
  go_wp2_with fail
  refine S.out.mono ?_
  rintro e w2 ⟨v, rfl, h1, h2⟩
  have FIN := Lib.hid (show w2.ownsRow w.heap.size 24 2 v (nodesF l).length ((nodesF l).flatMap encS) ∧ Below w.heap.size w w2 from ⟨⟨h1.1, h1.2.imp id fun ⟨g, cap, cur, a1, a2, a3⟩ => ⟨g, cap, cur, a1, by have := B1.out.size; omega, a3⟩⟩, B1.out.trans (h2.mono B1.out.size)⟩)
  clear h1 h2 c0
  go_wp2
  go_returns
  exact ⟨_, rfl, FIN.out.1, FIN.out.2⟩
end Go.Proofs.Ytkmeceoilighiaa.Tb


set_option linter.unusedVariables false
set_option maxRecDepth 100000
namespace Go.Proofs.Ytkmeceoilighiaa.Tb
open Go.RowKit Go.WideMaps Go.Maps

theorem below_drewN (w : World) : ∀ n, Below w.heap.size w (w.drewN n) := fun n => ⟨rfl, rfl, rfl, Nat.le_refl _, fun _ _ => rfl⟩
set_option maxHeartbeats 800000 in
theorem less_any (w : World) (a b c d : Int) : Calls Try.prog 38 #[.agg #[.int .i64 a, .int .i64 b], .agg #[.int .i64 c, .int .i64 d]] w fun e w' => e = .returned (.bool (ltS a b c d)) ∧ Below w.heap.size w w' := by
  have BB := Lib.hid ((vstep w (.cells #[.int .i64 a, .int .i64 b] 24)).trans ((vstep (w.alloc (.cells #[.int .i64 a, .int .i64 b] 24)) (.cells #[.int .i64 c, .int .i64 d] 24)).mono (vstep w _).size))
  unfold ltS
  by_cases h : a = c
  · rw [if_pos h]
    have t1 : (a != c) = false := by simp [h]
    clear h
    go_enter Try.func38, Try.ntmps38
    go_wp2
    go_returns
    exact ⟨rfl, BB.out⟩
  · rw [if_neg h]
    have t1 : (a != c) = true := by simp [h]
    clear h
    go_enter Try.func38, Try.ntmps38
    go_wp2
    go_returns
    exact ⟨rfl, BB.out⟩
theorem list_ext_get {α : Type} {l m : List α} (hl : l.length = m.length) (h : ∀ j : Nat, j < l.length → l[j]? = m[j]?) : l = m := by
  apply List.ext_getElem?
  intro j
  by_cases hj : j < l.length
  · exact h j hj
  · rw [List.getElem?_eq_none (by omega), List.getElem?_eq_none (by omega)]
set_option maxHeartbeats 3200000 in
theorem same_any (w : World) (v1 v2 : Value) (l m : List Sp) (h1 : LiesK encS 2 w v1 l) (h2 : LiesK encS 2 w v2 m) :
    Calls Try.prog 21 #[v1, v2] w fun e w' => e = .returned (.bool (decide (l = m))) ∧ Below w.heap.size w w' := by
  have hl1 := h1.len
  have hl2 := h2.len
  have H1 := Lib.hid h1
  have H2 := Lib.hid h2
  obtain ⟨a1, c1, rfl⟩ := h1.shape
  obtain ⟨a2, c2, rfl⟩ := h2.shape
  clear h1 h2
  by_cases hne : l.length = m.length
  · have HN := Lib.hid hne
    have t0 : ((l.length : Int) != (m.length : Int)) = false := by simp [hne]
    go_enter Try.func21, Try.ntmps21
    clear hne
    go_wp2
    clear t0
    go_loopw [5] (fun kv wr => ∃ i : Nat, kv = .int .i64 i ∧ i ≤ l.length ∧ Hid (∀ j : Nat, j < i → l[j]? = m[j]?) ∧ ∃ n, wr = w.drewN n) (fun kv _ => l.length - (intOf kv).toNat)
    case atStart => exact ⟨0, rfl, Nat.zero_le _, Lib.hid (fun j h => absurd h (Nat.not_lt_zero _)), 0, rfl⟩
    case round =>
      obtain ⟨i, rfl, hi, hJ, n, rfl⟩ := hrel
      by_cases hlt : i < l.length
      · obtain ⟨k, o, p, rfl, hp, hg, hc⟩ := H1.out.at' hlt
        have hmlt : i < m.length := by have := HN.out; omega
        obtain ⟨k', o', p', rfl, hp', hg', hc'⟩ := H2.out.at' hmlt
        have d0 := hc 0 _ rfl
        have d1 := hc 1 _ rfl
        have e0 := hc' 0 _ rfl
        have e1 := hc' 1 _ rfl
        rw [Nat.add_zero] at d0 e0
        clear hg hg' hc hc'
        obtain ⟨p1, p2⟩ := p
        obtain ⟨q1, q2⟩ := p'
        dsimp only at d0 d1 e0 e1
        by_cases hpp : p1 = q1 ∧ p2 = q2
        · obtain ⟨rfl, rfl⟩ := hpp
          have HJ2 := Lib.hid (show ∀ j : Nat, j < i + 1 → l[j]? = m[j]? from fun j hj => by
            by_cases e : j = i
            · subst e; rw [hp, hp']
            · exact hJ.out j (by omega))
          clear hp hp' hJ
          go_wp2
          go_quiet (fail)
          go_wp2
          go_roundw
          case rel => exact ⟨i + 1, by go_num, by omega, HJ2, _, rfl⟩
          case measure => simp [intOf]; omega
        · have HE := Lib.hid (show decide (l = m) = false from decide_eq_false (fun e => hpp (by subst e; rw [hp] at hp'; injection hp' with hp'; injection hp' with a b; exact ⟨a, b⟩)))
          clear hp hp' hJ
          rcases no2 hpp with x0 | ⟨x0, x1⟩
          all_goals
            clear hpp
            go_wp2
            go_quiet (fail)
            go_wp2
            go_returns
            exact ⟨ret_b' HE.out, by first | exact below_drewN _ _ | exact (below_drewN w n).trans ((below_drewN _ _).mono (below_drewN w n).size)⟩
      · have HE := Lib.hid (show decide (l = m) = true from decide_eq_true (list_ext_get HN.out (fun j hj => hJ.out j (by omega))))
        clear hJ
        go_wp2
        go_returns
        exact ⟨ret_b' HE.out, by first | exact below_drewN _ _ | exact (below_drewN w n).trans ((below_drewN _ _).mono (below_drewN w n).size)⟩
  · have HE := Lib.hid (show decide (l = m) = false from decide_eq_false (fun e => hne (by rw [e])))
    have t0 : ((l.length : Int) != (m.length : Int)) = true := by simp; omega
    clear hne
    go_enter Try.func21, Try.ntmps21
    go_wp2
    go_returns
    exact ⟨ret_b' HE.out, Below.refl _ _⟩
end Go.Proofs.Ytkmeceoilighiaa.Tb


set_option linter.unusedVariables false
set_option maxRecDepth 100000
namespace Go.Proofs.Ytkmeceoilighiaa.Tb
open Go.RowKit Go.WideMaps Go.Maps

def enc6 (x : Rw) : List Value := [.int .i64 x.t, .int .i64 x.r, .int .i64 x.pt, .int .i64 x.pr, .string x.nm, .bool x.d]
theorem enc6_len (x : Rw) : (enc6 x).length = 6 := rfl
theorem enc6_one (x : Rw) : ∀ v ∈ enc6 x, v.oneCell' = true := by
  intro v hv
  simp [enc6] at hv
  rcases hv with rfl | rfl | rfl | rfl | rfl | rfl <;> rfl
theorem info75 : (Try.prog.info? 95).map (fun i => (i.zero, i.size, i.bytes)) = some (some (.agg #[.int .i64 0, .int .i64 0, .int .i64 0, .int .i64 0, .string ⟨#[]⟩, .bool false]), 6, 56) := by kernel_rfl
theorem Try.u27 : Try.prog.underlying 29 = some (.slice 95) := by kernel_rfl
abbrev LiesR (w : World) (v : Value) (l : List Rw) : Prop := LiesK enc6 6 w v l
theorem LiesK.row {w : World} {ao : Option Addr} {n cap : Nat} {l : List Rw} (h : LiesR w (.slice ao n cap) l) {i : Nat} (hi : i < n) : ∃ g o x, ao = some ⟨g, o, none⟩ ∧ l[i]? = some x ∧ g < w.heap.size ∧ w.cell? ⟨g, o + i * 6, none⟩ = some (.int .i64 x.t) ∧ w.cell? ⟨g, o + i * 6 + 1, none⟩ = some (.int .i64 x.r) ∧ w.cell? ⟨g, o + i * 6 + 2, none⟩ = some (.int .i64 x.pt) ∧ w.cell? ⟨g, o + i * 6 + 3, none⟩ = some (.int .i64 x.pr) ∧ w.cell? ⟨g, o + i * 6 + 4, none⟩ = some (.string x.nm) ∧ w.cell? ⟨g, o + i * 6 + 5, none⟩ = some (.bool x.d) := by
  obtain ⟨g, o, x, rfl, hx, hg, hc⟩ := h.at' hi
  exact ⟨g, o, x, rfl, hx, hg, hc 0 _ rfl, hc 1 _ rfl, hc 2 _ rfl, hc 3 _ rfl, hc 4 _ rfl, hc 5 _ rfl⟩
theorem fit_at {l : List Rw} {t r : Int} {i : Nat} {x : Rw} (hx : l[i]? = some x) (h : x.t = t ∧ x.r = r) (hn : ∀ (j : Nat) y, j < i → l[j]? = some y → ¬ (y.t = t ∧ y.r = r)) : getF l t r = some x := by
  unfold getF
  obtain ⟨hl, he⟩ := List.getElem?_eq_some_iff.1 hx
  rw [List.find?_eq_some_iff_getElem]
  refine ⟨decide_eq_true h, i, hl, he, fun j hj => ?_⟩
  have := hn j l[j] hj (List.getElem?_eq_getElem (by omega))
  show (!decide (l[j].t = t ∧ l[j].r = r)) = true
  rw [decide_eq_false this]
  rfl
theorem fit_none {l : List Rw} {t r : Int} (hn : ∀ (j : Nat) y, j < l.length → l[j]? = some y → ¬ (y.t = t ∧ y.r = r)) : getF l t r = none := by
  rw [get_none]
  intro x hx
  obtain ⟨j, hj⟩ := List.mem_iff_getElem?.1 hx
  exact hn j x (List.getElem?_eq_some_iff.1 hj).1 hj
/-! ### Set, step by step -/
def stS (x : Rw) (s : List Rw × Bool) (y : Rw) : List Rw × Bool :=
  (if sameN y x then (if !s.2 && !ltR y x then (s.1 ++ [x], true) else s).1 else (if !s.2 && !ltR y x then (s.1 ++ [x], true) else s).1 ++ [y], (if !s.2 && !ltR y x then (s.1 ++ [x], true) else s).2)
def SI (l : List Rw) (x : Rw) (i : Nat) : List Rw × Bool := if (l.take i).all (fun y => ltR y x) = true then (l.take i, false) else (setF (l.take i) x, true)
theorem all_lt {l : List Rw} {x : Rw} (h : l.all (fun y => ltR y x) = true) : l.filter (fun y => ltR y x) = l ∧ l.filter (fun y => ltR x y) = [] := by
  rw [List.all_eq_true] at h
  refine ⟨List.filter_eq_self.2 h, List.filter_eq_nil_iff.2 (fun y hy => ?_)⟩
  rcases lt_tri y x with ⟨a, b, c⟩ | ⟨a, b, c⟩ | ⟨a, b, c⟩
  · rw [c]; simp
  · rw [h y hy] at a; cases a
  · rw [h y hy] at a; cases a
theorem SI_step {l : List Rw} (hr : Rise l) (x : Rw) {i : Nat} {y : Rw} (hy : l[i]? = some y) : stS x (SI l x i) y = SI l x (i + 1) := by
  obtain ⟨hl, he⟩ := List.getElem?_eq_some_iff.1 hy
  have ht : l.take (i + 1) = l.take i ++ [y] := by rw [List.take_succ_eq_append_getElem hl, he]
  have hlt : ∀ z ∈ l.take i, ltR z y = true := by
    have hp : (l.take i ++ [y]).Pairwise (fun x y => ltR x y = true) := by rw [← ht]; exact hr.sublist (List.take_sublist _ _)
    intro z hz
    exact (List.pairwise_append.1 hp).2.2 z hz y (by simp)
  unfold SI
  rw [ht, List.all_append]
  by_cases hall : (l.take i).all (fun y => ltR y x) = true
  · rw [if_pos hall, hall]
    obtain ⟨f1, f2⟩ := all_lt hall
    rcases lt_tri y x with ⟨a, b, c⟩ | ⟨a, b, c⟩ | ⟨a, b, c⟩
    · simp [stS, a, b]
    · simp [stS, a, b, setF, c, f1, f2, List.filter_append]
    · simp [stS, a, b, setF, c, f1, f2, List.filter_append]
  · rw [if_neg hall]
    have hall' : (l.take i).all (fun y => ltR y x) = false := by cases h : (l.take i).all (fun y => ltR y x) <;> simp_all
    obtain ⟨z, hz, hzx⟩ : ∃ z ∈ l.take i, ltR z x = false := by
      rw [List.all_eq_false] at hall'
      obtain ⟨z, hz, hzx⟩ := hall'
      exact ⟨z, hz, by simpa using hzx⟩
    have hxy : ltR x y = true := by
      rcases lt_tri z x with ⟨a, b, c⟩ | ⟨a, b, c⟩ | ⟨a, b, c⟩
      · rw [a] at hzx; cases hzx
      · have := hlt z hz
        unfold sameN at b
        have b := of_decide_eq_true b
        unfold ltR at this ⊢
        rw [← b.1, ← b.2]
        exact this
      · exact lt_trans' c (hlt z hz)
    rcases lt_tri x y with ⟨a, b, c⟩ | ⟨a, b, c⟩ | ⟨a, b, c⟩
    · have b' : sameN y x = false := by
        rcases lt_tri y x with ⟨q1, q2, q3⟩ | ⟨q1, q2, q3⟩ | ⟨q1, q2, q3⟩
        · exact q2
        · rw [a] at q3; cases q3
        · exact q2
      rw [hall']
      simp [stS, setF, b', a, c, List.filter_append]
    · rw [a] at hxy; cases hxy
    · rw [a] at hxy; cases hxy
theorem SI_end (l : List Rw) (x : Rw) : (if (SI l x l.length).2 then (SI l x l.length).1 else (SI l x l.length).1 ++ [x]) = setF l x := by
  unfold SI
  rw [List.take_length]
  by_cases h : l.all (fun y => ltR y x) = true
  · rw [if_pos h]
    obtain ⟨f1, f2⟩ := all_lt h
    simp [setF, f1, f2]
  · rw [if_neg h]
    simp
theorem SI_len (l : List Rw) (x : Rw) (i : Nat) : (SI l x i).1.length ≤ l.length + 1 := by
  unfold SI
  split
  · simp; omega
  · have := (set_perm (l := l.take i) x).length_eq
    have h2 := List.length_filter_le (fun y => !sameN y x) (l.take i)
    rw [this, List.length_cons]
    rw [List.length_take] at h2
    omega
end Go.Proofs.Ytkmeceoilighiaa.Tb


set_option linter.unusedVariables false
set_option maxRecDepth 100000
namespace Go.Proofs.Ytkmeceoilighiaa.Tb
open Go.RowKit Go.WideMaps Go.Maps

def EnB (T : TypeId) (w : World) (g : Nat) (pt pr : Int) (nm : ByteArray) (d : Bool) : Prop := w.heap[g]? = some (.cells #[.int .i64 pt, .int .i64 pr, .string nm, .bool d] T (0, 0))
theorem EnB.step {T : TypeId} {w w' : World} {g : Nat} {pt pr : Int} {nm : ByteArray} {d : Bool} (h : EnB T w g pt pr nm d) (hb : Below w.heap.size w w') : EnB T w' g pt pr nm d := (hb.block g (lt_of_block h)).trans h
theorem EnB.cells {T : TypeId} {w : World} {g : Nat} {pt pr : Int} {nm : ByteArray} {d : Bool} (h : EnB T w g pt pr nm d) : w.cell? ⟨g, 0, none⟩ = some (.int .i64 pt) ∧ w.cell? ⟨g, 1, none⟩ = some (.int .i64 pr) ∧ w.cell? ⟨g, 2, none⟩ = some (.string nm) ∧ w.cell? ⟨g, 3, none⟩ = some (.bool d) := by
  refine ⟨?_, ?_, ?_, ?_⟩ <;> (rw [cell_of_row _ _ _ _ _ _ h]; rfl)
theorem EnB.free {T : TypeId} {w : World} {g : Nat} {pt pr : Int} {nm : ByteArray} {d : Bool} (h : EnB T w g pt pr nm d) : w.frozen? ⟨g, 0, none⟩ = false ∧ w.frozen? ⟨g, 1, none⟩ = false ∧ w.frozen? ⟨g, 2, none⟩ = false ∧ w.frozen? ⟨g, 3, none⟩ = false :=
  ⟨frozen_of_row _ _ _ _ _ h, frozen_of_row _ _ _ _ _ h, frozen_of_row _ _ _ _ _ h, frozen_of_row _ _ _ _ _ h⟩
theorem EnB.sets {T : TypeId} {w : World} {b : Nat} {pt pr : Int} {nm : ByteArray} {d : Bool} (h : EnB T w b pt pr nm d) (pt' pr' : Int) (nm' : ByteArray) (d' : Bool) : EnB T (sets4 w b (.int .i64 pt') (.int .i64 pr') (.string nm') (.bool d')) b pt' pr' nm' d' := by
  unfold sets4
  exact row_setC (j := 3) (u := .bool d') (row_setC (j := 2) (u := .string nm') (row_setC (j := 1) (u := .int .i64 pr') (row_setC (j := 0) (u := .int .i64 pt') h)))
set_option maxHeartbeats 3200000 in
theorem rget_any (w : World) (v : Value) (l : List Rw) (h : LiesR w v l) (t r : Int) :
    Calls Try.prog 55 #[v, .agg #[.int .i64 t, .int .i64 r]] w fun e w' => e = .returned (.tuple #[gv l t r, .bool (getF l t r).isSome]) ∧ Below w.heap.size w w' := by
  have hlm := h.len
  have B1 := vstep w (.cells #[.int .i64 t, .int .i64 r] 24)
  have B2 := vstep (w.alloc (.cells #[.int .i64 t, .int .i64 r] 24)) (.cells #[.int .i64 0, .int .i64 0, .string ⟨#[]⟩, .bool false] 93)
  have B := Lib.hid (B1.trans (B2.mono B1.size))
  have L := Lib.hid (h.step B.out)
  have S2 := Lib.hid ((StAt.new w t r).step B2)
  obtain ⟨W0, hW0⟩ : ∃ y, (w.alloc (.cells #[.int .i64 t, .int .i64 r] 24)).alloc (.cells #[.int .i64 0, .int .i64 0, .string ⟨#[]⟩, .bool false] 93) = y := ⟨_, rfl⟩
  rw [hW0] at B L S2
  have E2 := Lib.hid (show EnB 93 W0 (w.heap.size + 1) 0 0 ⟨#[]⟩ false from by
    rw [← hW0]
    have := heap_alloc_new (w.alloc (.cells #[.int .i64 t, .int .i64 r] 24)) (.cells #[.int .i64 0, .int .i64 0, .string ⟨#[]⟩, .bool false] 93)
    rwa [World.size_alloc] at this)
  have HW := Lib.hid hW0
  have CL := Lib.hid (fun m x1 x2 x3 x4 => (show EnB 93 (sets4 (W0.drewN m) (w.heap.size + 1) (.int .i64 x1) (.int .i64 x2) (.string x3) (.bool x4)) (w.heap.size + 1) x1 x2 x3 x4 ∧ Below w.heap.size w (sets4 (W0.drewN m) (w.heap.size + 1) (.int .i64 x1) (.int .i64 x2) (.string x3) (.bool x4)) from ⟨(E2.out.step (below_drewN W0 m)).sets _ _ _ _, sets4_below (B.out.trans ((below_drewN W0 m).mono B.out.size)) (Nat.le_succ _)⟩))
  obtain ⟨ao, cap, rfl⟩ := h.shape
  clear B1 B2 hW0 h
  go_enter Try.func55, Try.ntmps55
  go_upto_region 1 with (fail)
  rw [HW.out]
  go_wp2_with fail
  go_loopw [6] (fun kv wr => ∃ i : Nat, kv = .int .i64 i ∧ i ≤ l.length ∧ Hid (∀ (j : Nat) y, j < i → l[j]? = some y → ¬ (y.t = t ∧ y.r = r)) ∧ ∃ n, wr = W0.drewN n) (fun kv _ => l.length - (intOf kv).toNat)
  case atStart => exact ⟨0, rfl, Nat.zero_le _, Lib.hid (fun j y h => absurd h (Nat.not_lt_zero _)), 0, rfl⟩
  case round =>
    obtain ⟨i, rfl, hi, hJ, n, rfl⟩ := hrel
    by_cases hlt : i < l.length
    · obtain ⟨g, o, x, rfl, hx, hg, a0, a1, a2, a3, a4, a5⟩ := L.out.row hlt
      obtain ⟨c1, c2⟩ := S2.out.cells
      clear hg
      by_cases hq : x.t = t ∧ x.r = r
      · have EQ := Lib.hid (fit_at hx hq hJ.out)
        have t1 := beqb_ _ _ hq.1
        have t2 := beqb_ _ _ hq.2
        obtain ⟨d0, d1, d2, d3⟩ := E2.out.cells
        obtain ⟨f0, f1, f2, f3⟩ := E2.out.free
        clear hJ hq hx
        go_wp2
        go_quiet (fail)
        go_wp2
        have K5 := CL.out (n + nq) x.pt x.pr x.nm x.d
        obtain ⟨w5, hW5⟩ : ∃ w5, sets4 (W0.drewN (n + nq)) (w.heap.size + 1) (.int .i64 x.pt) (.int .i64 x.pr) (.string x.nm) (.bool x.d) = w5 := ⟨_, rfl⟩
        rw [hW5] at K5
        unfold sets4 at hW5
        rw [hW5]
        clear hW5 d0 d1 d2 d3 f0 f1 f2 f3
        obtain ⟨d0, d1, d2, d3⟩ := K5.1.cells
        have HB5 := Lib.hid K5.2
        clear K5
        refine bodyPost_ret (by simp [results, Try.results55, go_sem, d0, d1, d2, d3]; try rfl) rfl ?_
        refine ⟨?_, HB5.out⟩
        unfold gv
        rw [EQ.out]
        rfl
      · have HJ2 := Lib.hid (show ∀ (j : Nat) y, j < i + 1 → l[j]? = some y → ¬ (y.t = t ∧ y.r = r) from fun j y hj hy => by
          by_cases e : j = i
          · subst e; rw [hx] at hy; injection hy with hy; subst hy; exact hq
          · exact hJ.out j y (by omega) hy)
        rcases no2 hq with x0 | ⟨x0, x1⟩
        all_goals
          clear hq hJ hx
          go_wp2
          go_quiet (fail)
          go_wp2
          go_roundw
          case rel => exact ⟨i + 1, by go_num, by omega, HJ2, _, rfl⟩
          case measure => simp [intOf]; omega
    · have EQ := Lib.hid (fit_none (t := t) (r := r) (fun j y hj => hJ.out j y (by omega)))
      obtain ⟨d0, d1, d2, d3⟩ := E2.out.cells
      obtain ⟨f0, f1, f2, f3⟩ := E2.out.free
      clear hJ
      go_wp2
      have K5 := CL.out (n) 0 0 ⟨#[]⟩ false
      obtain ⟨w5, hW5⟩ : ∃ w5, sets4 (W0.drewN (n)) (w.heap.size + 1) (.int .i64 0) (.int .i64 0) (.string ⟨#[]⟩) (.bool false) = w5 := ⟨_, rfl⟩
      rw [hW5] at K5
      unfold sets4 at hW5
      rw [hW5]
      clear hW5 d0 d1 d2 d3 f0 f1 f2 f3
      obtain ⟨d0, d1, d2, d3⟩ := K5.1.cells
      have HB5 := Lib.hid K5.2
      clear K5
      refine bodyPost_ret (by simp [results, Try.results55, go_sem, d0, d1, d2, d3]; try rfl) rfl ?_
      refine ⟨?_, HB5.out⟩
      unfold gv
      rw [EQ.out]
      rfl
end Go.Proofs.Ytkmeceoilighiaa.Tb


set_option linter.unusedVariables false
set_option maxRecDepth 100000
namespace Go.Proofs.Ytkmeceoilighiaa.Tb
open Go.RowKit Go.WideMaps Go.Maps

theorem SI_ne {l : List Rw} (hr : Rise l) (x : Rw) {i : Nat} {y : Rw} (hy : l[i]? = some y) (h : (SI l x i).2 = true) : sameN y x = false := by
  obtain ⟨hl, he⟩ := List.getElem?_eq_some_iff.1 hy
  have ht : l.take (i + 1) = l.take i ++ [y] := by rw [List.take_succ_eq_append_getElem hl, he]
  have hlt : ∀ z ∈ l.take i, ltR z y = true := by
    have hp : (l.take i ++ [y]).Pairwise (fun x y => ltR x y = true) := by rw [← ht]; exact hr.sublist (List.take_sublist _ _)
    intro z hz
    exact (List.pairwise_append.1 hp).2.2 z hz y (by simp)
  unfold SI at h
  split at h
  · cases h
  · rename_i hall
    have hall' : (l.take i).all (fun y => ltR y x) = false := by cases h : (l.take i).all (fun y => ltR y x) <;> simp_all
    rw [List.all_eq_false] at hall'
    obtain ⟨z, hz, hzx⟩ := hall'
    have hzx : ltR z x = false := by simpa using hzx
    cases hs : sameN y x with
    | false => rfl
    | true =>
      unfold sameN at hs
      have hs := of_decide_eq_true hs
      have := hlt z hz
      unfold ltR at this hzx
      rw [hs.1, hs.2] at this
      rw [this] at hzx
      cases hzx
theorem stS_cases (l : List Rw) (hr : Rise l) (x : Rw) {i : Nat} {y : Rw} (hy : l[i]? = some y) :
    ((SI l x i).2 = true ∧ sameN y x = false ∧ SI l x (i + 1) = ((SI l x i).1 ++ [y], true)) ∨
    ((SI l x i).2 = false ∧ ltR y x = true ∧ sameN y x = false ∧ SI l x (i + 1) = ((SI l x i).1 ++ [y], false)) ∨
    ((SI l x i).2 = false ∧ ltR y x = false ∧ sameN y x = true ∧ SI l x (i + 1) = ((SI l x i).1 ++ [x], true)) ∨
    ((SI l x i).2 = false ∧ ltR y x = false ∧ sameN y x = false ∧ SI l x (i + 1) = (((SI l x i).1 ++ [x]) ++ [y], true)) := by
  have hs := SI_step hr x hy
  have hne := SI_ne hr x hy
  cases hd : (SI l x i).2 with
  | true =>
    have := hne hd
    left
    refine ⟨rfl, this, ?_⟩
    rw [← hs]
    simp [stS, hd, this]
  | false =>
    right
    rcases lt_tri y x with ⟨q1, q2, q3⟩ | ⟨q1, q2, q3⟩ | ⟨q1, q2, q3⟩
    · left
      refine ⟨rfl, q1, q2, ?_⟩
      rw [← hs]
      simp [stS, hd, q1, q2]
    · right; left
      refine ⟨rfl, q1, q2, ?_⟩
      rw [← hs]
      simp [stS, hd, q1, q2]
    · right; right
      refine ⟨rfl, q1, q2, ?_⟩
      rw [← hs]
      simp [stS, hd, q1, q2]
theorem same_split {a b c d : Int} {sb : Bool} (h : decide (a = c ∧ b = d) = sb) : (sb = true ∧ ∃ q1 : (a == c) = true, (b == d) = true) ∨ (sb = false ∧ ((a == c) = false ∨ ((a == c) = true ∧ (b == d) = false))) := by
  subst h
  by_cases q : a = c ∧ b = d
  · exact .inl ⟨decide_eq_true q, beqb_ _ _ q.1, beqb_ _ _ q.2⟩
  · exact .inr ⟨decide_eq_false q, no2 q⟩
theorem push_ok {W W' : World} {E : Nat} {v : Value} {m : List Rw} {ob : Obj} {W0 : World} (hB : Below W0.heap.size W0 W) (ho : W.ownsRow E 95 6 v m.length (m.flatMap enc6)) (hE : W0.heap.size ≤ E) (hg : (W.alloc ob).grownBy W' v.ownBlock) : Below W0.heap.size W0 W' :=
  (hB.trans ((vstep W ob).mono hB.size)).grown hg (by have := hB.size; simp; omega) (fun k e => by have := (ho.lt k e).1; omega)
set_option maxHeartbeats 12800000 in
theorem rset_any (w : World) (v : Value) (l : List Rw) (x : Rw) (h : LiesR w v l) (hl : l.length ≤ 1000) (hr : Rise l) :
    Calls Try.prog 74 #[v, .agg #[.int .i64 x.t, .int .i64 x.r], .agg #[.int .i64 x.pt, .int .i64 x.pr, .string x.nm, .bool x.d]] w fun e w' => ∃ r, e = .returned r ∧ w'.ownsRow w.heap.size 95 6 r (setF l x).length ((setF l x).flatMap enc6) ∧ Below w.heap.size w w' := by
  obtain ⟨i0, hi9, hz0, hz1, hz2⟩ := info_parts info75
  have B1 := vstep w (.cells #[.int .i64 x.t, .int .i64 x.r] 24)
  have B2 := vstep (w.alloc (.cells #[.int .i64 x.t, .int .i64 x.r] 24)) (.cells #[.int .i64 x.pt, .int .i64 x.pr, .string x.nm, .bool x.d] 93)
  have B := Lib.hid (B1.trans (B2.mono B1.size))
  have L := Lib.hid (h.step B.out)
  have S0 := Lib.hid ((StAt.new w x.t x.r).step B2)
  have E0 := Lib.hid (show EnB 93 ((w.alloc (.cells #[.int .i64 x.t, .int .i64 x.r] 24)).alloc (.cells #[.int .i64 x.pt, .int .i64 x.pr, .string x.nm, .bool x.d] 93)) (w.heap.size + 1) x.pt x.pr x.nm x.d from by
    have := heap_alloc_new (w.alloc (.cells #[.int .i64 x.t, .int .i64 x.r] 24)) (.cells #[.int .i64 x.pt, .int .i64 x.pr, .string x.nm, .bool x.d] 93)
    rwa [World.size_alloc] at this)
  obtain ⟨W0, hW0⟩ : ∃ y, (w.alloc (.cells #[.int .i64 x.t, .int .i64 x.r] 24)).alloc (.cells #[.int .i64 x.pt, .int .i64 x.pr, .string x.nm, .bool x.d] 93) = y := ⟨_, rfl⟩
  rw [hW0] at B L S0 E0
  have HW := Lib.hid hW0
  have SF := Lib.hid (fun W (hb : Below W0.heap.size W0 W) => (S0.out.step hb).cells)
  have EF := Lib.hid (fun W (hb : Below W0.heap.size W0 W) => (E0.out.step hb).cells)
  have HR := Lib.hid hr
  obtain ⟨ao, cap, rfl⟩ := h.shape
  clear B1 B2 hW0 h hr S0 E0
  go_enter Try.func74, Try.ntmps74
  go_upto_region 1 with (fail)
  rw [HW.out]
  go_wp2_with fail
  go_loopw [7, 8, 9] (fun ov dv kv wr => ∃ i : Nat, kv = .int .i64 i ∧ i ≤ l.length ∧ dv = .bool (SI l x i).2 ∧ Hid (wr.ownsRow W0.heap.size 95 6 ov (SI l x i).1.length ((SI l x i).1.flatMap enc6) ∧ Below W0.heap.size W0 wr)) (fun _ _ kv _ => l.length - (intOf kv).toNat)
  case atStart => exact ⟨0, rfl, Nat.zero_le _, rfl, Lib.hid ⟨World.ownsRow_nil _ _ _ _, Below.refl _ _⟩⟩
  case round =>
    obtain ⟨i, rfl, hi, rfl, hK⟩ := hrel
    obtain ⟨oa, oc, rfl⟩ := own_shapeK hK.out.1
    have O0 := Lib.hid hK.out.1
    have K0 := Lib.hid hK.out.2
    have LN := Lib.hid (SI_len l x i)
    clear hK
    by_cases hlt : i < l.length
    · obtain ⟨g, o, y, rfl, hy, hg, a0, a1, a2, a3, a4, a5⟩ := L.out.row hlt
      have AF := Lib.hid (fun W (hb : Below W0.heap.size W0 W) => (show W.cell? ⟨g, o + i * 6, none⟩ = some (.int .i64 y.t) ∧ W.cell? ⟨g, o + i * 6 + 1, none⟩ = some (.int .i64 y.r) ∧ W.cell? ⟨g, o + i * 6 + 2, none⟩ = some (.int .i64 y.pt) ∧ W.cell? ⟨g, o + i * 6 + 3, none⟩ = some (.int .i64 y.pr) ∧ W.cell? ⟨g, o + i * 6 + 4, none⟩ = some (.string y.nm) ∧ W.cell? ⟨g, o + i * 6 + 5, none⟩ = some (.bool y.d) from ⟨(hb.cell (p := ⟨g, o + i * 6, none⟩) hg).trans a0, (hb.cell (p := ⟨g, o + i * 6 + 1, none⟩) hg).trans a1, (hb.cell (p := ⟨g, o + i * 6 + 2, none⟩) hg).trans a2, (hb.cell (p := ⟨g, o + i * 6 + 3, none⟩) hg).trans a3, (hb.cell (p := ⟨g, o + i * 6 + 4, none⟩) hg).trans a4, (hb.cell (p := ⟨g, o + i * 6 + 5, none⟩) hg).trans a5⟩))
      have CS := stS_cases l HR.out x hy
      clear a0 a1 a2 a3 a4 a5 hg hy
      have LS := Lib.hid (fun z : Later wr => less_any z.w y.t y.r x.t x.r)
      rw [show ltS y.t y.r x.t x.r = ltR y x from rfl] at LS
      obtain ⟨S, hS⟩ : ∃ S, SI l x i = S := ⟨_, rfl⟩
      rw [hS] at CS O0 LN ⊢
      clear hS
      obtain ⟨m, dn⟩ := S
      dsimp only at CS O0 LN ⊢
      have l0 := fun z : Later wr => (AF.out z.w (K0.out.trans (z.below.mono K0.out.size))).1
      have l1 := fun z : Later wr => (AF.out z.w (K0.out.trans (z.below.mono K0.out.size))).2.1
      have m0 := fun z : Later wr => (SF.out z.w (K0.out.trans (z.below.mono K0.out.size))).1
      have m1 := fun z : Later wr => (SF.out z.w (K0.out.trans (z.below.mono K0.out.size))).2
      generalize hlr : ltR y x = lr at *
      have hsn : decide (y.t = x.t ∧ y.r = x.r) = sameN y x := rfl
      rcases CS with ⟨rfl, q2, q3⟩ | ⟨rfl, rfl, q2, q3⟩ | ⟨rfl, rfl, q2, q3⟩ | ⟨rfl, rfl, q2, q3⟩
      · rw [← hsn] at q2
        have Q3 := Lib.hid q3
        have Q2 := same_split q2
        clear q3 q2 hsn hlr
        rcases Q2 with ⟨c, _⟩ | ⟨_, t1 | ⟨t1, t2⟩⟩
        · cases c
        all_goals
          go_upto_region 6 with (fail)
          refine wp_region_later (by kernel_rfl) (by kernel_rfl) ?_
          repeat (go_big_quiet_step (first | (go_at_call 38; with_reducible exact later_call (LS.out _))))
          refine wpQuiet_nil ?_
          rintro _ ⟨xl1, rfl⟩
          have K1 := Lib.hid (K0.out.trans (xl1.below.mono K0.out.size))
          have O1 := Lib.hid (own_belowK O0.out xl1.below)
          generalize xl1.w = w1 at *
          clear l0 l1 m0 m1 LS
          go_upto_region 9 with (fail)
          have r0 := fun z : Later w1 => (AF.out z.w (K1.out.trans (z.below.mono K1.out.size))).1
          have r1 := fun z : Later w1 => (AF.out z.w (K1.out.trans (z.below.mono K1.out.size))).2.1
          have s0 := fun z : Later w1 => (SF.out z.w (K1.out.trans (z.below.mono K1.out.size))).1
          have s1 := fun z : Later w1 => (SF.out z.w (K1.out.trans (z.below.mono K1.out.size))).2
          refine wp_region_later (by kernel_rfl) (by kernel_rfl) ?_
          repeat (go_big_quiet_step (fail))
          refine wpQuiet_nil ?_
          rintro _ ⟨xl3, rfl⟩
          have K3 := Lib.hid (K1.out.trans (xl3.below.mono K1.out.size))
          have O3 := Lib.hid (own_belowK O1.out xl3.below)
          generalize xl3.w = w3 at *
          clear r0 r1 s0 s1
          obtain ⟨e0, e1, e2, e3, e4, e5⟩ := AF.out _ K3.out
          obtain ⟨ms4, hms4⟩ : ∃ ms, (m) ++ [y] = ms := ⟨_, rfl⟩
          have MS4 := Lib.hid hms4
          clear hms4
          have OX4 := Lib.hid (own_belowK O3.out (vstep w3 (.cells #[.int .i64 y.t, .int .i64 y.r, .int .i64 y.pt, .int .i64 y.pr, .string y.nm, .bool y.d] 95)))
          have HX4 := Lib.hid (show (w3.alloc (.cells #[.int .i64 y.t, .int .i64 y.r, .int .i64 y.pt, .int .i64 y.pr, .string y.nm, .bool y.d] 95)).heap[w3.heap.size]? = some (.cells (enc6 y).toArray 95 (0, 0)) from heap_alloc_new w3 _)
          have QX4 := Lib.hid (And.intro (show (m).length + 1 ≤ maxLen from by have := LN.out;  unfold maxLen; (try simp only [List.length_append, List.length_cons, List.length_nil]); omega) (And.intro (show ((m).length + 1) * 56 ≤ 140737488355328 from by have := LN.out;  (try simp only [List.length_append, List.length_cons, List.length_nil]); omega) (show W0.heap.size ≤ (w3.alloc (.cells #[.int .i64 y.t, .int .i64 y.r, .int .i64 y.pt, .int .i64 y.pr, .string y.nm, .bool y.d] 95)).heap.size from by have := K3.out.size; simp; omega)))
          go_wp2_with (at_builtin; refine wpList_pushK rfl (.tmp 41) (.tmp 46) 29 rfl enc6_len (by decide) enc6_one W0.heap.size 95 i0 (.agg #[.int .i64 0, .int .i64 0, .int .i64 0, .int .i64 0, .string ⟨#[]⟩, .bool false]) 56 Try.u27 hi9 hz0 hz1 hz2 rfl _ (m) y w3.heap.size rfl rfl HX4.out OX4.out QX4.out.1 QX4.out.2.1 QX4.out.2.2 ?_; intro v4 w4 hown hgr; rw [MS4.out] at hown; obtain ⟨va4, vc4, rfl⟩ := own_shapeK hown; have O4 := Lib.hid hown; have K4 := Lib.hid (push_ok K3.out O3.out (Nat.le_refl _) hgr); clear hown hgr)
          clear e0 e1 e2 e3 e4 e5
          go_wp2
          go_roundw
          case rel => exact ⟨i + 1, by go_num, by omega, by rw [Q3.out], Lib.hid (by rw [Q3.out]; dsimp only; rw [MS4.out]; exact ⟨O4.out, K4.out⟩)⟩
          case measure => simp [intOf]; omega
      · rw [← hsn] at q2
        have Q3 := Lib.hid q3
        have Q2 := same_split q2
        clear q3 q2 hsn hlr
        rcases Q2 with ⟨c, _⟩ | ⟨_, t1 | ⟨t1, t2⟩⟩
        · cases c
        all_goals
          go_upto_region 6 with (fail)
          refine wp_region_later (by kernel_rfl) (by kernel_rfl) ?_
          repeat (go_big_quiet_step (first | (go_at_call 38; with_reducible exact later_call (LS.out _))))
          refine wpQuiet_nil ?_
          rintro _ ⟨xl1, rfl⟩
          have K1 := Lib.hid (K0.out.trans (xl1.below.mono K0.out.size))
          have O1 := Lib.hid (own_belowK O0.out xl1.below)
          generalize xl1.w = w1 at *
          clear l0 l1 m0 m1 LS
          go_upto_region 9 with (fail)
          have r0 := fun z : Later w1 => (AF.out z.w (K1.out.trans (z.below.mono K1.out.size))).1
          have r1 := fun z : Later w1 => (AF.out z.w (K1.out.trans (z.below.mono K1.out.size))).2.1
          have s0 := fun z : Later w1 => (SF.out z.w (K1.out.trans (z.below.mono K1.out.size))).1
          have s1 := fun z : Later w1 => (SF.out z.w (K1.out.trans (z.below.mono K1.out.size))).2
          refine wp_region_later (by kernel_rfl) (by kernel_rfl) ?_
          repeat (go_big_quiet_step (fail))
          refine wpQuiet_nil ?_
          rintro _ ⟨xl3, rfl⟩
          have K3 := Lib.hid (K1.out.trans (xl3.below.mono K1.out.size))
          have O3 := Lib.hid (own_belowK O1.out xl3.below)
          generalize xl3.w = w3 at *
          clear r0 r1 s0 s1
          obtain ⟨e0, e1, e2, e3, e4, e5⟩ := AF.out _ K3.out
          obtain ⟨ms4, hms4⟩ : ∃ ms, (m) ++ [y] = ms := ⟨_, rfl⟩
          have MS4 := Lib.hid hms4
          clear hms4
          have OX4 := Lib.hid (own_belowK O3.out (vstep w3 (.cells #[.int .i64 y.t, .int .i64 y.r, .int .i64 y.pt, .int .i64 y.pr, .string y.nm, .bool y.d] 95)))
          have HX4 := Lib.hid (show (w3.alloc (.cells #[.int .i64 y.t, .int .i64 y.r, .int .i64 y.pt, .int .i64 y.pr, .string y.nm, .bool y.d] 95)).heap[w3.heap.size]? = some (.cells (enc6 y).toArray 95 (0, 0)) from heap_alloc_new w3 _)
          have QX4 := Lib.hid (And.intro (show (m).length + 1 ≤ maxLen from by have := LN.out;  unfold maxLen; (try simp only [List.length_append, List.length_cons, List.length_nil]); omega) (And.intro (show ((m).length + 1) * 56 ≤ 140737488355328 from by have := LN.out;  (try simp only [List.length_append, List.length_cons, List.length_nil]); omega) (show W0.heap.size ≤ (w3.alloc (.cells #[.int .i64 y.t, .int .i64 y.r, .int .i64 y.pt, .int .i64 y.pr, .string y.nm, .bool y.d] 95)).heap.size from by have := K3.out.size; simp; omega)))
          go_wp2_with (at_builtin; refine wpList_pushK rfl (.tmp 41) (.tmp 46) 29 rfl enc6_len (by decide) enc6_one W0.heap.size 95 i0 (.agg #[.int .i64 0, .int .i64 0, .int .i64 0, .int .i64 0, .string ⟨#[]⟩, .bool false]) 56 Try.u27 hi9 hz0 hz1 hz2 rfl _ (m) y w3.heap.size rfl rfl HX4.out OX4.out QX4.out.1 QX4.out.2.1 QX4.out.2.2 ?_; intro v4 w4 hown hgr; rw [MS4.out] at hown; obtain ⟨va4, vc4, rfl⟩ := own_shapeK hown; have O4 := Lib.hid hown; have K4 := Lib.hid (push_ok K3.out O3.out (Nat.le_refl _) hgr); clear hown hgr)
          clear e0 e1 e2 e3 e4 e5
          go_wp2
          go_roundw
          case rel => exact ⟨i + 1, by go_num, by omega, by rw [Q3.out], Lib.hid (by rw [Q3.out]; dsimp only; rw [MS4.out]; exact ⟨O4.out, K4.out⟩)⟩
          case measure => simp [intOf]; omega
      · rw [← hsn] at q2
        have Q3 := Lib.hid q3
        have Q2 := same_split q2
        clear q3 q2 hsn hlr
        rcases Q2 with ⟨_, t1, t2⟩ | ⟨c, _⟩
        rotate_left 1
        · cases c
        go_upto_region 6 with (fail)
        refine wp_region_later (by kernel_rfl) (by kernel_rfl) ?_
        repeat (go_big_quiet_step (first | (go_at_call 38; with_reducible exact later_call (LS.out _))))
        refine wpQuiet_nil ?_
        rintro _ ⟨xl1, rfl⟩
        have K1 := Lib.hid (K0.out.trans (xl1.below.mono K0.out.size))
        have O1 := Lib.hid (own_belowK O0.out xl1.below)
        generalize xl1.w = w1 at *
        clear l0 l1 m0 m1 LS
        obtain ⟨e1, e2⟩ := SF.out _ K1.out
        obtain ⟨e3, e4, e5, e6⟩ := EF.out _ K1.out
        obtain ⟨ms2, hms2⟩ : ∃ ms, (m) ++ [x] = ms := ⟨_, rfl⟩
        have MS2 := Lib.hid hms2
        clear hms2
        have OX2 := Lib.hid (own_belowK O1.out (vstep w1 (.cells #[.int .i64 x.t, .int .i64 x.r, .int .i64 x.pt, .int .i64 x.pr, .string x.nm, .bool x.d] 95)))
        have HX2 := Lib.hid (show (w1.alloc (.cells #[.int .i64 x.t, .int .i64 x.r, .int .i64 x.pt, .int .i64 x.pr, .string x.nm, .bool x.d] 95)).heap[w1.heap.size]? = some (.cells (enc6 x).toArray 95 (0, 0)) from heap_alloc_new w1 _)
        have QX2 := Lib.hid (And.intro (show (m).length + 1 ≤ maxLen from by have := LN.out;  unfold maxLen; (try simp only [List.length_append, List.length_cons, List.length_nil]); omega) (And.intro (show ((m).length + 1) * 56 ≤ 140737488355328 from by have := LN.out;  (try simp only [List.length_append, List.length_cons, List.length_nil]); omega) (show W0.heap.size ≤ (w1.alloc (.cells #[.int .i64 x.t, .int .i64 x.r, .int .i64 x.pt, .int .i64 x.pr, .string x.nm, .bool x.d] 95)).heap.size from by have := K1.out.size; simp; omega)))
        go_wp2_with (at_builtin; refine wpList_pushK rfl (.tmp 28) (.tmp 32) 29 rfl enc6_len (by decide) enc6_one W0.heap.size 95 i0 (.agg #[.int .i64 0, .int .i64 0, .int .i64 0, .int .i64 0, .string ⟨#[]⟩, .bool false]) 56 Try.u27 hi9 hz0 hz1 hz2 rfl _ (m) x w1.heap.size rfl rfl HX2.out OX2.out QX2.out.1 QX2.out.2.1 QX2.out.2.2 ?_; intro v2 w2 hown hgr; rw [MS2.out] at hown; obtain ⟨va2, vc2, rfl⟩ := own_shapeK hown; have O2 := Lib.hid hown; have K2 := Lib.hid (push_ok K1.out O1.out (Nat.le_refl _) hgr); clear hown hgr)
        clear e1 e2 e3 e4 e5 e6
        go_upto_region 9 with (fail)
        have r0 := fun z : Later w2 => (AF.out z.w (K2.out.trans (z.below.mono K2.out.size))).1
        have r1 := fun z : Later w2 => (AF.out z.w (K2.out.trans (z.below.mono K2.out.size))).2.1
        have s0 := fun z : Later w2 => (SF.out z.w (K2.out.trans (z.below.mono K2.out.size))).1
        have s1 := fun z : Later w2 => (SF.out z.w (K2.out.trans (z.below.mono K2.out.size))).2
        refine wp_region_later (by kernel_rfl) (by kernel_rfl) ?_
        repeat (go_big_quiet_step (fail))
        refine wpQuiet_nil ?_
        rintro _ ⟨xl3, rfl⟩
        have K3 := Lib.hid (K2.out.trans (xl3.below.mono K2.out.size))
        have O3 := Lib.hid (own_belowK O2.out xl3.below)
        generalize xl3.w = w3 at *
        clear r0 r1 s0 s1
        go_wp2
        go_roundw
        case rel => exact ⟨i + 1, by go_num, by omega, by rw [Q3.out], Lib.hid (by rw [Q3.out]; dsimp only; rw [MS2.out]; exact ⟨O3.out, K3.out⟩)⟩
        case measure => simp [intOf]; omega
      · rw [← hsn] at q2
        have Q3 := Lib.hid q3
        have Q2 := same_split q2
        clear q3 q2 hsn hlr
        rcases Q2 with ⟨c, _⟩ | ⟨_, t1 | ⟨t1, t2⟩⟩
        · cases c
        all_goals
          go_upto_region 6 with (fail)
          refine wp_region_later (by kernel_rfl) (by kernel_rfl) ?_
          repeat (go_big_quiet_step (first | (go_at_call 38; with_reducible exact later_call (LS.out _))))
          refine wpQuiet_nil ?_
          rintro _ ⟨xl1, rfl⟩
          have K1 := Lib.hid (K0.out.trans (xl1.below.mono K0.out.size))
          have O1 := Lib.hid (own_belowK O0.out xl1.below)
          generalize xl1.w = w1 at *
          clear l0 l1 m0 m1 LS
          obtain ⟨e1, e2⟩ := SF.out _ K1.out
          obtain ⟨e3, e4, e5, e6⟩ := EF.out _ K1.out
          obtain ⟨ms2, hms2⟩ : ∃ ms, (m) ++ [x] = ms := ⟨_, rfl⟩
          have MS2 := Lib.hid hms2
          clear hms2
          have OX2 := Lib.hid (own_belowK O1.out (vstep w1 (.cells #[.int .i64 x.t, .int .i64 x.r, .int .i64 x.pt, .int .i64 x.pr, .string x.nm, .bool x.d] 95)))
          have HX2 := Lib.hid (show (w1.alloc (.cells #[.int .i64 x.t, .int .i64 x.r, .int .i64 x.pt, .int .i64 x.pr, .string x.nm, .bool x.d] 95)).heap[w1.heap.size]? = some (.cells (enc6 x).toArray 95 (0, 0)) from heap_alloc_new w1 _)
          have QX2 := Lib.hid (And.intro (show (m).length + 1 ≤ maxLen from by have := LN.out;  unfold maxLen; (try simp only [List.length_append, List.length_cons, List.length_nil]); omega) (And.intro (show ((m).length + 1) * 56 ≤ 140737488355328 from by have := LN.out;  (try simp only [List.length_append, List.length_cons, List.length_nil]); omega) (show W0.heap.size ≤ (w1.alloc (.cells #[.int .i64 x.t, .int .i64 x.r, .int .i64 x.pt, .int .i64 x.pr, .string x.nm, .bool x.d] 95)).heap.size from by have := K1.out.size; simp; omega)))
          go_wp2_with (at_builtin; refine wpList_pushK rfl (.tmp 28) (.tmp 32) 29 rfl enc6_len (by decide) enc6_one W0.heap.size 95 i0 (.agg #[.int .i64 0, .int .i64 0, .int .i64 0, .int .i64 0, .string ⟨#[]⟩, .bool false]) 56 Try.u27 hi9 hz0 hz1 hz2 rfl _ (m) x w1.heap.size rfl rfl HX2.out OX2.out QX2.out.1 QX2.out.2.1 QX2.out.2.2 ?_; intro v2 w2 hown hgr; rw [MS2.out] at hown; obtain ⟨va2, vc2, rfl⟩ := own_shapeK hown; have O2 := Lib.hid hown; have K2 := Lib.hid (push_ok K1.out O1.out (Nat.le_refl _) hgr); clear hown hgr)
          clear e1 e2 e3 e4 e5 e6
          go_upto_region 9 with (fail)
          have r0 := fun z : Later w2 => (AF.out z.w (K2.out.trans (z.below.mono K2.out.size))).1
          have r1 := fun z : Later w2 => (AF.out z.w (K2.out.trans (z.below.mono K2.out.size))).2.1
          have s0 := fun z : Later w2 => (SF.out z.w (K2.out.trans (z.below.mono K2.out.size))).1
          have s1 := fun z : Later w2 => (SF.out z.w (K2.out.trans (z.below.mono K2.out.size))).2
          refine wp_region_later (by kernel_rfl) (by kernel_rfl) ?_
          repeat (go_big_quiet_step (fail))
          refine wpQuiet_nil ?_
          rintro _ ⟨xl3, rfl⟩
          have K3 := Lib.hid (K2.out.trans (xl3.below.mono K2.out.size))
          have O3 := Lib.hid (own_belowK O2.out xl3.below)
          generalize xl3.w = w3 at *
          clear r0 r1 s0 s1
          obtain ⟨e0, e1, e2, e3, e4, e5⟩ := AF.out _ K3.out
          obtain ⟨ms4, hms4⟩ : ∃ ms, (ms2) ++ [y] = ms := ⟨_, rfl⟩
          have MS4 := Lib.hid hms4
          clear hms4
          have OX4 := Lib.hid (own_belowK O3.out (vstep w3 (.cells #[.int .i64 y.t, .int .i64 y.r, .int .i64 y.pt, .int .i64 y.pr, .string y.nm, .bool y.d] 95)))
          have HX4 := Lib.hid (show (w3.alloc (.cells #[.int .i64 y.t, .int .i64 y.r, .int .i64 y.pt, .int .i64 y.pr, .string y.nm, .bool y.d] 95)).heap[w3.heap.size]? = some (.cells (enc6 y).toArray 95 (0, 0)) from heap_alloc_new w3 _)
          have QX4 := Lib.hid (And.intro (show (ms2).length + 1 ≤ maxLen from by have := LN.out; have e := congrArg List.length MS2.out; rw [List.length_append] at e; simp only [List.length_cons, List.length_nil] at e; unfold maxLen; (try simp only [List.length_append, List.length_cons, List.length_nil]); omega) (And.intro (show ((ms2).length + 1) * 56 ≤ 140737488355328 from by have := LN.out; have e := congrArg List.length MS2.out; rw [List.length_append] at e; simp only [List.length_cons, List.length_nil] at e; (try simp only [List.length_append, List.length_cons, List.length_nil]); omega) (show W0.heap.size ≤ (w3.alloc (.cells #[.int .i64 y.t, .int .i64 y.r, .int .i64 y.pt, .int .i64 y.pr, .string y.nm, .bool y.d] 95)).heap.size from by have := K3.out.size; simp; omega)))
          go_wp2_with (at_builtin; refine wpList_pushK rfl (.tmp 41) (.tmp 46) 29 rfl enc6_len (by decide) enc6_one W0.heap.size 95 i0 (.agg #[.int .i64 0, .int .i64 0, .int .i64 0, .int .i64 0, .string ⟨#[]⟩, .bool false]) 56 Try.u27 hi9 hz0 hz1 hz2 rfl _ (ms2) y w3.heap.size rfl rfl HX4.out OX4.out QX4.out.1 QX4.out.2.1 QX4.out.2.2 ?_; intro v4 w4 hown hgr; rw [MS4.out] at hown; obtain ⟨va4, vc4, rfl⟩ := own_shapeK hown; have O4 := Lib.hid hown; have K4 := Lib.hid (push_ok K3.out O3.out (Nat.le_refl _) hgr); clear hown hgr)
          clear e0 e1 e2 e3 e4 e5
          go_wp2
          go_roundw
          case rel => exact ⟨i + 1, by go_num, by omega, by rw [Q3.out], Lib.hid (by rw [Q3.out]; dsimp only; rw [MS2.out]; rw [MS4.out]; exact ⟨O4.out, K4.out⟩)⟩
          case measure => simp [intOf]; omega
    · have EN := SI_end l x
      rw [show l.length = i by omega] at EN
      obtain ⟨S, hS⟩ : ∃ S, SI l x i = S := ⟨_, rfl⟩
      rw [hS] at EN O0 LN ⊢
      clear hS
      obtain ⟨m, dn⟩ := S
      dsimp only at EN O0 LN ⊢
      generalize wr = w0 at *
      cases dn with
      | true =>
        rw [if_pos rfl] at EN
        subst EN
        have FIN := Lib.hid (show w0.ownsRow w.heap.size 95 6 (.slice oa (setF l x).length oc) (setF l x).length ((setF l x).flatMap enc6) ∧ Below w.heap.size w w0 from ⟨⟨O0.out.1, O0.out.2.imp id fun ⟨g, cap, cur, h1, h2, h3⟩ => ⟨g, cap, cur, h1, by have := B.out.size; omega, h3⟩⟩, B.out.trans (K0.out.mono B.out.size)⟩)
        go_wp2
        go_returns
        exact ⟨_, rfl, FIN.out.1, FIN.out.2⟩
      | false =>
        rw [if_neg (by decide)] at EN
        obtain ⟨e1, e2⟩ := SF.out _ K0.out
        obtain ⟨e3, e4, e5, e6⟩ := EF.out _ K0.out
        obtain ⟨ms2, hms2⟩ : ∃ ms, (m) ++ [x] = ms := ⟨_, rfl⟩
        have MS2 := Lib.hid hms2
        clear hms2
        have OX2 := Lib.hid (own_belowK O0.out (vstep w0 (.cells #[.int .i64 x.t, .int .i64 x.r, .int .i64 x.pt, .int .i64 x.pr, .string x.nm, .bool x.d] 95)))
        have HX2 := Lib.hid (show (w0.alloc (.cells #[.int .i64 x.t, .int .i64 x.r, .int .i64 x.pt, .int .i64 x.pr, .string x.nm, .bool x.d] 95)).heap[w0.heap.size]? = some (.cells (enc6 x).toArray 95 (0, 0)) from heap_alloc_new w0 _)
        have QX2 := Lib.hid (And.intro (show (m).length + 1 ≤ maxLen from by have := LN.out;  unfold maxLen; (try simp only [List.length_append, List.length_cons, List.length_nil]); omega) (And.intro (show ((m).length + 1) * 56 ≤ 140737488355328 from by have := LN.out;  (try simp only [List.length_append, List.length_cons, List.length_nil]); omega) (show W0.heap.size ≤ (w0.alloc (.cells #[.int .i64 x.t, .int .i64 x.r, .int .i64 x.pt, .int .i64 x.pr, .string x.nm, .bool x.d] 95)).heap.size from by have := K0.out.size; simp; omega)))
        go_wp2_with (at_builtin; refine wpList_pushK rfl (.tmp 50) (.tmp 54) 29 rfl enc6_len (by decide) enc6_one W0.heap.size 95 i0 (.agg #[.int .i64 0, .int .i64 0, .int .i64 0, .int .i64 0, .string ⟨#[]⟩, .bool false]) 56 Try.u27 hi9 hz0 hz1 hz2 rfl _ (m) x w0.heap.size rfl rfl HX2.out OX2.out QX2.out.1 QX2.out.2.1 QX2.out.2.2 ?_; intro v2 w2 hown hgr; rw [MS2.out] at hown; obtain ⟨va2, vc2, rfl⟩ := own_shapeK hown; have O2 := Lib.hid hown; have K2 := Lib.hid (push_ok K0.out O0.out (Nat.le_refl _) hgr); clear hown hgr)
        have FIN := Lib.hid (show w2.ownsRow w.heap.size 95 6 (.slice va2 ms2.length vc2) (setF l x).length ((setF l x).flatMap enc6) ∧ Below w.heap.size w w2 from by
          rw [← EN, MS2.out]
          exact ⟨⟨O2.out.1, O2.out.2.imp id fun ⟨g, cap, cur, h1, h2, h3⟩ => ⟨g, cap, cur, h1, by have := B.out.size; omega, h3⟩⟩, B.out.trans (K2.out.mono B.out.size)⟩)
        clear e1 e2 e3 e4 e5 e6
        go_wp2
        go_returns
        exact ⟨_, rfl, FIN.out.1, FIN.out.2⟩
end Go.Proofs.Ytkmeceoilighiaa.Tb


set_option linter.unusedVariables false
set_option maxRecDepth 100000
namespace Go.Proofs.Ytkmeceoilighiaa.Tb
open Go.RowKit Go.WideMaps Go.Maps

def madeF (l : List Rw) : List Rw := l.foldl setF []
theorem setF_len (l : List Rw) (x : Rw) : (setF l x).length ≤ l.length + 1 := by
  rw [(set_perm x).length_eq, List.length_cons]
  have := List.length_filter_le (fun y => !sameN y x) l
  omega
theorem fold_len : ∀ (l m : List Rw), (l.foldl setF m).length ≤ m.length + l.length
  | [], m => by simp
  | x :: l, m => by
    have := fold_len l (setF m x)
    have := setF_len m x
    rw [List.foldl_cons, List.length_cons]
    omega
theorem madeF_len (l : List Rw) : (madeF l).length ≤ l.length := by have := fold_len l []; simpa [madeF] using this
theorem fold_rise : ∀ (l m : List Rw), Rise m → Rise (l.foldl setF m)
  | [], m, h => h
  | x :: l, m, h => fold_rise l _ (rise_set h x)
theorem madeF_rise (l : List Rw) : Rise (madeF l) := fold_rise l [] List.Pairwise.nil
end Go.Proofs.Ytkmeceoilighiaa.Tb


set_option linter.unusedVariables false
set_option maxRecDepth 100000
namespace Go.Proofs.Ytkmeceoilighiaa.Tb
open Go.RowKit Go.WideMaps Go.Maps

structure UpR (w W : World) (nt nr t r : Int) : Prop where
  bel : Below w.heap.size w W
  one : StAt W w.heap.size nt nr
  two : StAt W (w.heap.size + 2) t r
theorem UpR.step {w W W' : World} {nt nr t r : Int} (h : UpR w W nt nr t r) (hb : Below W.heap.size W W') : UpR w W' nt nr t r := ⟨h.bel.trans (hb.mono h.bel.size), h.one.step hb, h.two.step hb⟩
theorem UpR.set {w W : World} {nt nr t r : Int} (h : UpR w W nt nr t r) (t' r' : Int) : UpR w (sets2 W (w.heap.size + 2) (.int .i64 t') (.int .i64 r')) nt nr t' r' := by
  have k : Below (w.heap.size + 2) W (sets2 W (w.heap.size + 2) (.int .i64 t') (.int .i64 r')) := ((Below.refl _ W).setCell (p := ⟨w.heap.size + 2, 0, none⟩) (Nat.le_refl _) _).setCell (p := ⟨w.heap.size + 2, 1, none⟩) (Nat.le_refl _) _
  refine ⟨h.bel.trans (k.mono (by omega)), (k.block _ (by omega)).trans h.one, ?_⟩
  exact row_setC (j := 1) (u := .int .i64 r') (row_setC (j := 0) (u := .int .i64 t') h.two)
set_option maxHeartbeats 3200000 in
theorem rabove_any (w : World) (v : Value) (l : List Rw) (h : LiesR w v l) (nt nr t r : Int) :
    Calls Try.prog 25 #[v, .agg #[.int .i64 nt, .int .i64 nr], .agg #[.int .i64 t, .int .i64 r]] w fun e w' => e = .returned (.bool (aboveF l nt nr l.length t r)) ∧ Below w.heap.size w w' := by
  have hlm := h.len
  have B1 := vstep w (.cells #[.int .i64 nt, .int .i64 nr] 24)
  have B2 := vstep (w.alloc (.cells #[.int .i64 nt, .int .i64 nr] 24)) (.cells #[.int .i64 t, .int .i64 r] 24)
  have B3 := vstep ((w.alloc (.cells #[.int .i64 nt, .int .i64 nr] 24)).alloc (.cells #[.int .i64 t, .int .i64 r] 24)) (.cells #[.int .i64 t, .int .i64 r] 24)
  have E1 : ((w.alloc (.cells #[.int .i64 nt, .int .i64 nr] 24)).alloc (.cells #[.int .i64 t, .int .i64 r] 24)).heap.size = w.heap.size + 2 := by simp
  have U0 := Lib.hid (show UpR w (((w.alloc (.cells #[.int .i64 nt, .int .i64 nr] 24)).alloc (.cells #[.int .i64 t, .int .i64 r] 24)).alloc (.cells #[.int .i64 t, .int .i64 r] 24)) nt nr t r from ⟨(B1.trans (B2.mono B1.size)).trans (B3.mono (by simp; omega)), ((StAt.new w nt nr).step B2).step B3, by have := StAt.new ((w.alloc (.cells #[.int .i64 nt, .int .i64 nr] 24)).alloc (.cells #[.int .i64 t, .int .i64 r] 24)) t r; rwa [E1] at this⟩)
  have B12 := Lib.hid (show Below w.heap.size w ((w.alloc (.cells #[.int .i64 nt, .int .i64 nr] 24)).alloc (.cells #[.int .i64 t, .int .i64 r] 24)) from B1.trans (B2.mono B1.size))
  have S12 := Lib.hid (show StAt ((w.alloc (.cells #[.int .i64 nt, .int .i64 nr] 24)).alloc (.cells #[.int .i64 t, .int .i64 r] 24)) (w.heap.size + 1) t r from by have := StAt.new (w.alloc (.cells #[.int .i64 nt, .int .i64 nr] 24)) t r; rwa [World.size_alloc] at this)
  have Z12 := Lib.hid E1
  obtain ⟨W1, hW1⟩ : ∃ y, (w.alloc (.cells #[.int .i64 nt, .int .i64 nr] 24)).alloc (.cells #[.int .i64 t, .int .i64 r] 24) = y := ⟨_, rfl⟩
  rw [hW1] at U0 S12 B12 Z12
  have HW := Lib.hid hW1
  obtain ⟨W0, hW0⟩ : ∃ y, W1.alloc (.cells #[.int .i64 t, .int .i64 r] 24) = y := ⟨_, rfl⟩
  rw [hW0] at U0
  have HW2 := Lib.hid hW0
  have L := Lib.hid h
  obtain ⟨ao, cap, rfl⟩ := h.shape
  clear B1 B2 B3 hW0 hW1 h E1
  obtain ⟨res, hres⟩ : ∃ x, aboveF l nt nr l.length t r = x := ⟨_, rfl⟩
  rw [hres]
  have HR := Lib.hid hres
  clear hres
  go_enter Try.func25, Try.ntmps25
  go_upto_region 1 with (fail)
  rw [HW.out]
  obtain ⟨c1, c2⟩ := S12.out.cells
  go_upto_region 2 with (fail)
  rw [Z12.out, HW2.out]
  clear c1 c2
  go_wp2_with fail
  go_loopw [8] (fun kv wr => ∃ (i : Nat) (t' r' : Int), kv = .int .i64 i ∧ i ≤ l.length ∧ Hid (UpR w wr nt nr t' r' ∧ aboveF l nt nr (l.length - i) t' r' = res)) (fun kv _ => l.length - (intOf kv).toNat)
  case atStart => exact ⟨0, t, r, rfl, Nat.zero_le _, Lib.hid ⟨U0.out, HR.out⟩⟩
  case round =>
    obtain ⟨i, t', r', rfl, hi, hJ⟩ := hrel
    have UJ := Lib.hid hJ.out.1
    have EJ := Lib.hid hJ.out.2
    clear hJ
    by_cases hlt : i < l.length
    · have GT := Lib.hid (rget_any wr _ l (L.out.step UJ.out.bel) t' r')
      obtain ⟨x1, x2, x3, x4, hx⟩ := gv_form l t' r'
      rw [hx] at GT
      have HX := Lib.hid hx
      clear hx
      have EJ := Lib.hid (show (match getF l t' r' with | none => false | some x => if x.pt = nt ∧ x.pr = nr then true else aboveF l nt nr (l.length - (i + 1)) x.pt x.pr) = res from by have := EJ.out; rw [show l.length - i = (l.length - (i + 1)) + 1 by omega] at this; exact this)
      cases hg : getF l t' r' with
      | none =>
        rw [hg] at GT EJ
        have EJ := Lib.hid (show false = res from EJ.out)
        clear hg HX
        obtain ⟨c1, c2⟩ := UJ.out.two.cells
        go_wp2_with fail
        refine GT.out.mono ?_
        rintro e w2 ⟨rfl, hb⟩
        have U2 := Lib.hid (UJ.out.step hb)
        clear hb c1 c2
        go_wp2
        go_returns
        exact ⟨ret_b' EJ.out.symm, (U2.out.step (vstep w2 _)).bel⟩
      | some x =>
        have hgv : gv l t' r' = .agg #[.int .i64 x.pt, .int .i64 x.pr, .string x.nm, .bool x.d] := by unfold gv; rw [hg]
        rw [HX.out] at hgv
        injection hgv with hgv
        simp only [Array.mk.injEq, List.cons.injEq, Value.int.injEq, Value.string.injEq, Value.bool.injEq, true_and, and_true] at hgv
        obtain ⟨rfl, rfl, rfl, rfl⟩ := hgv
        rw [hg] at GT EJ
        have EJ := Lib.hid (show (if x.pt = nt ∧ x.pr = nr then true else aboveF l nt nr (l.length - (i + 1)) x.pt x.pr) = res from EJ.out)
        clear hg HX
        have hc : (∃ q1 : (x.pt == nt) = true, (x.pr == nr) = true ∧ res = true) ∨ (((x.pt == nt) = false ∨ ((x.pt == nt) = true ∧ (x.pr == nr) = false)) ∧ aboveF l nt nr (l.length - (i + 1)) x.pt x.pr = res) := by
          by_cases q : x.pt = nt ∧ x.pr = nr
          · have e := EJ.out
            rw [if_pos q] at e
            exact .inl ⟨beqb_ _ _ q.1, beqb_ _ _ q.2, e.symm⟩
          · have e := EJ.out
            rw [if_neg q] at e
            exact .inr ⟨no2 q, e⟩
        have HC := Lib.hid hc
        clear hc EJ
        obtain ⟨c1, c2⟩ := UJ.out.two.cells
        go_wp2_with fail
        refine GT.out.mono ?_
        rintro e w2 ⟨rfl, hb⟩
        have U2 := Lib.hid ((UJ.out.step hb).step (vstep w2 (.cells #[.int .i64 x.pt, .int .i64 x.pr, .string x.nm, .bool x.d] 93)))
        have N2 := Lib.hid (show EnB 93 (w2.alloc (.cells #[.int .i64 x.pt, .int .i64 x.pr, .string x.nm, .bool x.d] 93)) w2.heap.size x.pt x.pr x.nm x.d from heap_alloc_new w2 _)
        have NE := Lib.hid (show w2.heap.size ≠ w.heap.size + 2 from by have := (UJ.out.step hb).two; have := lt_of_block this; omega)
        clear hb c1 c2
        go_upto_region 8 with (fail)
        obtain ⟨w3, hw3⟩ : ∃ y, w2.alloc (.cells #[.int .i64 x.pt, .int .i64 x.pr, .string x.nm, .bool x.d] 93) = y := ⟨_, rfl⟩
        rw [hw3] at U2 N2 ⊢
        clear hw3
        obtain ⟨d0, d1, d2, d3⟩ := N2.out.cells
        obtain ⟨c1, c2⟩ := U2.out.two.cells
        obtain ⟨f1, f2⟩ := U2.out.two.free
        go_upto_region 9 with (fail)
        obtain ⟨w4, hw4⟩ : ∃ y, sets2 w3 (w.heap.size + 2) (.int .i64 x.pt) (.int .i64 x.pr) = y := ⟨_, rfl⟩
        have U4 := Lib.hid (show UpR w w4 nt nr x.pt x.pr from by rw [← hw4]; exact U2.out.set _ _)
        unfold sets2 at hw4
        rw [hw4]
        clear hw4 d0 d1 d2 d3 c1 c2 f1 f2
        obtain ⟨c1, c2⟩ := U4.out.two.cells
        obtain ⟨g1, g2⟩ := U4.out.one.cells
        rcases HC.out with ⟨q1, q2, q3⟩ | ⟨q1 | ⟨q1, q2⟩, q3⟩
        · have Q3 := Lib.hid q3
          clear q3 HC HR
          go_wp2
          go_returns
          exact ⟨ret_b' Q3.out, U4.out.bel⟩
        all_goals
          have Q3 := Lib.hid q3
          clear q3 HC
          go_wp2
          go_roundw
          case rel => exact ⟨i + 1, x.pt, x.pr, by go_num, by omega, Lib.hid ⟨U4.out, Q3.out⟩⟩
          case measure => simp [intOf]; omega
    · have EJ := Lib.hid (show false = res from by have := EJ.out; rw [show l.length - i = 0 by omega] at this; exact this)
      go_wp2
      go_returns
      exact ⟨ret_b' EJ.out.symm, UJ.out.bel⟩
end Go.Proofs.Ytkmeceoilighiaa.Tb

