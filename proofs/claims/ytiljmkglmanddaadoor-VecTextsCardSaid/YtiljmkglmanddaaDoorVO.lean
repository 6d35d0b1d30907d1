/- The reference's Lacks. -/
import Derived.Test.YtiljmkglmanddaaDoorVN
import Derived.Deep.RegionHeldLaw
set_option linter.unusedVariables false
namespace Go.Proofs.YtiljmkglmanddaaDoor
open Go.RowKit

theorem src_rg46 (w : World) (p : Rg) : Src Tryd.prog 3 40 (.slice (some ⟨w.heap.size, 0, none⟩) 1 1) 1 (cs3 [p]) (w.alloc (.cells #[.int .i64 p.1, .int .i64 p.2.1, .int .i64 p.2.2] 46)) := by
  have hg := heap_alloc_new w (.cells #[.int .i64 p.1, .int .i64 p.2.1, .int .i64 p.2.2] 46)
  refine Src.ofSlice _ Tryd.u40 _ _ _ _ rfl ?_ (cs3_one _)
  intro j u hj
  rw [add_addr, Nat.zero_add, cell_of_row _ _ _ _ _ _ hg]
  match j, hj with
  | 0, hj => injection hj with hj; subst hj; rfl
  | 1, hj => injection hj with hj; subst hj; rfl
  | 2, hj => injection hj with hj; subst hj; rfl
  | j + 3, hj => simp [cs3] at hj

theorem step_append_src_own {P : Program} {w : World} {ops : Array Oper} {o : Oper} {a : Act} {K : Act → World → Prop} {Q : Exit → Act → World → Prop} {E : Prop} (hgd : o.guard = none) (s x : Operand) (t tx : TypeId)
    (ho : o.op = .call { callee := .builtin .append, args := #[s, x], argTypes := #[t, tx] })
    (base : Nat) (e : TypeId) (i : TypeInfo) (z : Value) (size bytes : Nat) (ht : P.underlying t = some (.slice e)) (hi : P.info? e = some i) (hz : i.zero = some z)
    (hsize : i.size = size) (hby : i.bytes = bytes) (hzs : z.cells.size = size) (hsz : 0 < size)
    (v : Value) (n : Nat) (xs : List Value) (hs : a.eval s = v) (hown : w.ownsRow base e size v n xs) (xv : Value) (m : Nat) (news : List Value) (hx : a.eval x = xv) (hsrc : Src P size tx xv m news w)
    (h63 : n + m ≤ maxLen) (hbytes : (n + m) * bytes ≤ 140737488355328) (hbase : base ≤ w.heap.size)
    (h : ∀ v' w', w'.ownsRow base e size v' (n + m) (xs ++ news) → w.grownBy w' v.ownBlock → Sprung w v v' → K (a.put o.dst v') w') :
    if Region.wanted o (yielded ops a.tmps) = true then Oper.wp P o a w K Q else E := by
  have hw : Region.wanted o (yielded ops a.tmps) = true := by simp [Region.wanted, hgd]
  rw [if_pos hw]
  obtain ⟨v', w', hr, h2, h3, h4⟩ := run_append_src_own (P := P) w base t tx o.type e i z size bytes ht hi hz hsize hby hzs hsz v n xs hown xv m news hsrc h63 hbytes hbase
  unfold Oper.wp
  simp only [execOp, ho, resolve, invoke, builtin, Sem.run_bind, Sem.run_pure, Result.andThen_ok, List.map_toArray, List.map_cons, List.map_nil, hs, hx, hr]
  exact h v' w' h2 h3 h4

set_option maxRecDepth 100000 in
set_option maxHeartbeats 1600000 in
theorem rlacks_any (w : World) (a b : List Int) (ha : a.length = 64) (hb : b.length = 64) :
    Calls Tryd.prog 23 #[vw a, vw b] w fun e w' => ∃ r, e = .returned r ∧ w'.ownsRow w.heap.size 46 3 r (lackF a b 64).length (cs3 (lackF a b 64)) ∧ Below w.heap.size w w' := by
  obtain ⟨i0, hi45, hz0, hz1, hz2⟩ := info_parts Tryd.info46
  have X := Lib.hid (boxes w (va a) (va b) 23)
  have HA := Lib.hid ha
  have HB := Lib.hid hb
  have HU := Lib.hid (show vw a = .agg (va a) from rfl)
  have HV := Lib.hid (show vw b = .agg (va b) from rfl)
  have HZ := Lib.hid (show ((w.alloc (.cells (va a) 23)).alloc (.cells (va b) 23)).heap.size = w.heap.size + 1 + 1 by simp)
  generalize hW : (w.alloc (.cells (va a) 23)).alloc (.cells (va b) 23) = W0 at *
  have HW := Lib.hid hW
  clear hW ha hb
  rw [HU.out, HV.out]
  obtain ⟨A, hA⟩ : ∃ A, va a = A := ⟨_, rfl⟩
  obtain ⟨B, hB⟩ : ∃ B, va b = B := ⟨_, rfl⟩
  rw [hA, hB] at HW
  rw [hA, hB]
  clear hA hB
  go_enter Tryd.func23, Tryd.ntmps23
  go_wp2_with fail
  rw [HW.out]
  go_loopw [5, 6] (fun rv iv wr => ∃ (i : Nat) (cs : List Rg), iv = .int .i64 i ∧ i ≤ 64 ∧ cs.length ≤ i ∧ Hid (cs = lackF a b i ∧ wr.ownsRow (w.heap.size + 1 + 1) 46 3 rv cs.length (cs3 cs) ∧ Below W0.heap.size W0 wr)) (fun _ iv _ => 64 - (intOf iv).toNat)
  case atStart => exact ⟨0, [], rfl, Nat.zero_le _, Nat.zero_le _, Lib.hid ⟨rfl, World.ownsRow_nil _ _ _ _, Below.refl _ _⟩⟩
  case round =>
    obtain ⟨i, cs, rfl, hi, hcl, hI⟩ := hrel
    obtain ⟨ra, rc, rfl⟩ := own_shape hI.out.2.1
    by_cases hlt : i < 64
    · obtain ⟨y, hy⟩ := va_len b HB.out i hlt
      obtain ⟨x, hx⟩ := va_len a HA.out i hlt
      have g := cell_va ((hI.out.2.2.block _ (Array.getElem?_eq_some_iff.1 X.out.2.1).1).trans X.out.2.1) hx
      have g2 := cell_va ((hI.out.2.2.block _ (Array.getElem?_eq_some_iff.1 X.out.2.2).1).trans X.out.2.2) hy
      have HN := Lib.hid (show lackF a b (i + 1) = cs ++ (if x < y then [((i : Int), wrap64 (x + 1), y)] else []) by
        show lackF a b i ++ _ = _
        rw [hI.out.1, getD_of hx, getD_of hy])
      have HX := Lib.hid hx
      have HY := Lib.hid hy
      clear hx hy
      by_cases hxy : x < y
      · obtain ⟨z, hz⟩ : ∃ z, wrap64 (x + 1) = z := ⟨_, rfl⟩
        have ez : IntKind.i64.wrap (x + 1) = z := by rw [← hz, IntKind.wrap_i64]; unfold wrap64; omega
        have HN2 := Lib.hid (show cs ++ [((i : Int), z, y)] = lackF a b (i + 1) by rw [HN.out, if_pos hxy, hz])
        clear hz
        go_wp2
        go_quiet (fail)
        have BD := Lib.hid (hI.out.2.2.trans ((below_drewN wr nq).mono hI.out.2.2.size))
        have OD := Lib.hid (hI.out.2.1.kept (row := none) (w' := wr.drewN nq) ⟨rfl, rfl, rfl, Nat.le_refl _, fun k hk _ => rfl⟩ (by cases h : (Value.slice ra cs.length rc).ownBlock <;> simp))
        have g := (show (wr.drewN nq).cell? ⟨w.heap.size, i, none⟩ = some (.int .i64 x) from g)
        have g2 := (show (wr.drewN nq).cell? ⟨w.heap.size + 1, i, none⟩ = some (.int .i64 y) from g2)
        obtain ⟨wq, hq⟩ : ∃ z, wr.drewN nq = z := ⟨_, rfl⟩
        rw [hq] at BD OD g g2 ⊢
        clear hq
        go_upto_region 6 with (fail)
        have BXc := Lib.hid (fun W' (hW : Below W0.heap.size W0 W') => And.intro (cell_va ((hW.block _ (Array.getElem?_eq_some_iff.1 X.out.2.1).1).trans X.out.2.1) (HX.out)) (cell_va ((hW.block _ (Array.getElem?_eq_some_iff.1 X.out.2.2).1).trans X.out.2.2) (HY.out)))
        have BAl := Lib.hid ((BD.out.alloc BD.out.size (.cells #[.int .i64 (i : Int), .int .i64 (z), .int .i64 y] 46)).drew)
        have OAl := Lib.hid (show ((wq.alloc (.cells #[.int .i64 (i : Int), .int .i64 (z), .int .i64 y] 46)).drew).ownsRow (w.heap.size + 1 + 1) 46 3 (.slice ra cs.length rc) cs.length (cs3 cs) from OD.out.alloc (.cells #[.int .i64 (i : Int), .int .i64 (z), .int .i64 y] 46))
        have hsa : w.heap.size + 1 + 1 ≤ ((wq.alloc (.cells #[.int .i64 (i : Int), .int .i64 (z), .int .i64 y] 46)).drew).heap.size := by have := BAl.out.size; rw [HZ.out] at this; exact this
        have hlo : ∀ k, (Value.slice ra cs.length rc).ownBlock = some k → W0.heap.size ≤ k := fun k hk => by rw [HZ.out]; exact (OD.out.lt k hk).1
        have SR := Lib.hid (show Src Tryd.prog 3 40 (.slice (some ⟨wq.heap.size, 0, none⟩) 1 1) 1 (cs3 [((i : Int), z, y)]) ((wq.alloc (.cells #[.int .i64 (i : Int), .int .i64 (z), .int .i64 y] 46)).drew) from src_rg46 wq.drew ((i : Int), z, y))
        have KB := BAl
        have h63 : cs.length + 1 ≤ maxLen := by unfold maxLen; omega
        have hby : (cs.length + 1) * 24 ≤ 140737488355328 := by omega
        have h03 : 0 < 3 := by decide
        go_region_held_law (fun w' => w'.cell? ⟨w.heap.size, i, none⟩ = some (.int .i64 x) ∧ w'.cell? ⟨w.heap.size + 1, i, none⟩ = some (.int .i64 y)) (first | exact BXc.out _ BD.out | exact BXc.out _ BD.out.drew | exact BXc.out _ BAl.out | exact BXc.out _ KB.out)
          (first
          | (refine step_append_src_own rfl (.tmp 18) (.tmp 28) 40 40 rfl (w.heap.size + 1 + 1) 46 i0 (.agg #[.int .i64 0, .int .i64 0, .int .i64 0]) 3 24 Tryd.u40 hi45 hz0 hz1 hz2 rfl h03 (.slice ra cs.length rc) cs.length (cs3 cs) rfl OAl.out _ 1 (cs3 [((i : Int), z, y)]) rfl SR.out h63 hby hsa ?_; intro v3 w3 hown hgr hspr; have K := Lib.hid hown; have KB := Lib.hid (BAl.out.grown hgr BAl.out.size hlo); clear hown hgr hspr; obtain ⟨a3, c3, rfl⟩ := own_shape K.out))
        go_wp2
        go_roundw
        case rel => exact ⟨i + 1, cs ++ [((i : Int), z, y)], by go_num, by omega, by rw [List.length_append]; exact Nat.succ_le_succ hcl, Lib.hid ⟨HN2.out, by rw [cs3_append, List.length_append]; exact K.out, KB.out⟩⟩
        case measure => simp [intOf]; omega
      · have HN2 := Lib.hid (show cs = lackF a b (i + 1) by rw [HN.out, if_neg hxy, List.append_nil])
        go_wp2
        go_quiet (fail)
        have BD := Lib.hid (hI.out.2.2.trans ((below_drewN wr nq).mono hI.out.2.2.size))
        have OD := Lib.hid (hI.out.2.1.kept (row := none) (w' := wr.drewN nq) ⟨rfl, rfl, rfl, Nat.le_refl _, fun k hk _ => rfl⟩ (by cases h : (Value.slice ra cs.length rc).ownBlock <;> simp))
        go_wp2
        go_roundw
        case rel => exact ⟨i + 1, cs, by go_num, by omega, by omega, Lib.hid ⟨HN2.out, OD.out, BD.out⟩⟩
        case measure => simp [intOf]; omega
    · have hi64 : i = 64 := by omega
      subst hi64
      go_wp2
      go_returns
      refine ⟨_, rfl, ?_⟩
      rw [← hI.out.1]
      exact ⟨own_less hI.out.2.1 (by omega), X.out.1.trans (hI.out.2.2.mono X.out.1.size)⟩
end Go.Proofs.YtiljmkglmanddaaDoor
