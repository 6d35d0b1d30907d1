/- is, of, Knows, Time, right. -/
import Derived.Test.YtgemlkccdcbpdaaSA
set_option linter.unusedVariables false
namespace Go.Proofs.Ytgemlkccdcbpdaa
open Go.RowKit

theorem wpList_build_arr {P : Program} {w : World} {ops : Array Oper} {rest : List Oper} {o : Oper} {a : Act} {Q : Exit → Act → World → Prop} (hw : Region.wanted o (yielded ops a.tmps) = true) (ty : TypeId)
    (ho : o.op = .build ty #[]) (u : Value) (hr : (Instr.build ty #[]).run P w = .ok u w)
    (h : wpList P ops Q rest (a.put o.dst u) w) : wpList P ops Q (o :: rest) a w :=
  BigFrame.wpList_want hw fun _ hK => by
    unfold Oper.wp execOp
    simp only [ho, List.map_toArray, List.map_nil, hr, Sem.run_bind, Sem.run_pure, Result.andThen_ok]
    exact hK _ _ h
theorem wpList_load_arrG {P : Program} {w : World} {ops : Array Oper} {rest : List Oper} {o : Oper} {a : Act} {Q : Exit → Act → World → Prop} (hw : Region.wanted o (yielded ops a.tmps) = true) (x : Operand) (ty : TypeId)
    (ho : o.op = .load ty x) (v u : Value) (hx : a.eval x = v) (hl : (Instr.loadAt ty v).run P w = .ok u w)
    (h : wpList P ops Q rest (a.put o.dst u) w) : wpList P ops Q (o :: rest) a w :=
  BigFrame.wpList_want hw fun _ hK => by
    unfold Oper.wp execOp
    simp only [ho, hx, hl, Sem.run_bind, Sem.run_pure, Result.andThen_ok]
    exact hK _ _ h
theorem wpList_field {P : Program} {w : World} {ops : Array Oper} {rest : List Oper} {o : Oper} {a : Act} {Q : Exit → Act → World → Prop} (hw : Region.wanted o (yielded ops a.tmps) = true) (x : Operand) (ty : TypeId) (i : Nat)
    (ho : o.op = .field ty x i) (v u : Value) (hx : a.eval x = v) (hl : (Instr.field ty v i).run P w = .ok u w)
    (h : wpList P ops Q rest (a.put o.dst u) w) : wpList P ops Q (o :: rest) a w :=
  BigFrame.wpList_want hw fun _ hK => by
    unfold Oper.wp execOp
    simp only [ho, hx, hl, Sem.run_bind, Sem.run_pure, Result.andThen_ok]
    exact hK _ _ h

/-- A watch, read. -/
structure RdAt (W : World) (p : Nat) (sf : Int) (ao : Option Addr) (ms : List Mb) : Prop where
  c0 : W.cell? ⟨p, 0, none⟩ = some (.int .i64 sf)
  c1 : W.cell? ⟨p, 1, none⟩ = some (.slice ao ms.length ms.length)
  row : ∀ (i : Nat) m, ms[i]? = some m → ∃ q, ao = some ⟨q, 0, none⟩ ∧ q < W.heap.size ∧ W.rangeAt q (i * 65) (mc m)
  m64 : ∀ (i : Nat) m, ms[i]? = some m → m.1.length = 64
  len : ms.length ≤ 64
theorem RdAt.step {W W' : World} {p : Nat} {sf : Int} {ao : Option Addr} {ms : List Mb} (h : RdAt W p sf ao ms) (hb : Below W.heap.size W W') : RdAt W' p sf ao ms := by
  have hp := World.block_lt_of_cell? W _ h.c0
  refine ⟨(hb.cell (p := ⟨p, 0, none⟩) hp).trans h.c0, (hb.cell (p := ⟨p, 1, none⟩) hp).trans h.c1, fun i m hm => ?_, h.m64, h.len⟩
  obtain ⟨q, e, hq, hr⟩ := h.row i m hm
  exact ⟨q, e, Nat.lt_of_lt_of_le hq hb.size, range_later hq hr hb⟩
def Rec (W : World) (v : Value) (sf : Int) (ms : List Mb) : Prop := (v = .pointer none ∧ ms = []) ∨ ∃ p ao, v = .pointer (some ⟨p, 0, none⟩) ∧ RdAt W p sf ao ms
theorem Rec.step {W W' : World} {v : Value} {sf : Int} {ms : List Mb} (h : Rec W v sf ms) (hb : Below W.heap.size W W') : Rec W' v sf ms := by
  rcases h with h | ⟨p, ao, rfl, h⟩
  · exact .inl h
  · exact .inr ⟨p, ao, rfl, h.step hb⟩
def isM (n : Nat) (rep : Int) : Bool := decide (0 ≤ rep ∧ rep < (n : Int))
def memF (ms : List Mb) (rep : Int) : Mb := if isM ms.length rep then ms.getD rep.toNat mz else mz
theorem memF_len {ms : List Mb} (h : ∀ (i : Nat) m, ms[i]? = some m → m.1.length = 64) (rep : Int) : (memF ms rep).1.length = 64 := by
  unfold memF
  split
  · rw [List.getD_eq_getElem?_getD]
    cases hq : ms[rep.toNat]? with
    | none => exact mz_len
    | some m => exact h _ m hq
  · exact mz_len
set_option maxRecDepth 100000 in
set_option maxHeartbeats 800000 in
theorem ism_any (w : World) (v : Value) (sf : Int) (ms : List Mb) (h : Rec w v sf ms) (rep : Int) : Calls Try.prog 26 #[v, .int .i64 rep] w fun e w' => e = .returned (.bool (isM ms.length rep)) ∧ w = w' := by
  rcases h with ⟨rfl, rfl⟩ | ⟨p, ao, rfl, h⟩
  · have HE := Lib.hid (show isM 0 rep = false from decide_eq_false (by omega))
    go_enter Try.func26, Try.ntmps26
    go_wp2
    go_returns
    exact ⟨by rw [HE.out]; rfl, rfl⟩
  · have c1 := h.c1
    have hl := h.len
    by_cases h1 : 0 ≤ rep
    · by_cases h2 : rep < (ms.length : Int)
      · have HE := Lib.hid (show isM ms.length rep = true from decide_eq_true ⟨h1, h2⟩)
        clear h
        go_enter Try.func26, Try.ntmps26
        go_wp2
        go_returns
        exact ⟨by rw [HE.out]; rfl, rfl⟩
      · have HE := Lib.hid (show isM ms.length rep = false from decide_eq_false (by omega))
        clear h
        go_enter Try.func26, Try.ntmps26
        go_wp2
        go_returns
        exact ⟨by rw [HE.out]; rfl, rfl⟩
    · have HE := Lib.hid (show isM ms.length rep = false from decide_eq_false (by omega))
      clear h
      go_enter Try.func26, Try.ntmps26
      go_wp2
      go_returns
      exact ⟨by rw [HE.out]; rfl, rfl⟩
set_option maxRecDepth 100000 in
set_option maxHeartbeats 1600000 in
theorem of_any (w : World) (v : Value) (sf : Int) (ms : List Mb) (h : Rec w v sf ms) (rep : Int) : Calls Try.prog 30 #[v, .int .i64 rep] w fun e w' => e = .returned (.agg (mc (memF ms rep)).toArray) ∧ Below w.heap.size w w' := by
  have X := Lib.hid (vstep w (.cells (mc mz).toArray 69))
  have XB := Lib.hid (heap_alloc_new w (.cells (mc mz).toArray 69))
  have AZ := Lib.hid (alloc_m w)
  have IS := Lib.hid (ism_any _ v sf ms (h.step X.out) rep)
  have BZ := Lib.hid (fun W => build_m W)
  have ML := Lib.hid (mc_len mz mz_len)
  have M1 := Lib.hid (mc_one mz)
  have ST := Lib.hid (fun W cs (h1 : cs.length = 65) (h2 : ∀ v ∈ cs, v.oneCell' = true) (h : W.heap[w.heap.size]? = some (.cells (mc mz).toArray 69 (0, 0))) => store_m W w.heap.size (mc mz).toArray (by rw [List.size_toArray, mc_len mz mz_len]) cs h1 h2 h)
  have HR := Lib.hid (h.step X.out)
  generalize hW : w.alloc (.cells (mc mz).toArray 69) = W at *
  clear hW
  cases hi : isM ms.length rep with
  | false =>
    rw [hi] at IS
    have HE := Lib.hid (show memF ms rep = mz by unfold memF; rw [hi]; rfl)
    clear hi h
    go_enter Try.func30, Try.ntmps30
    go_wp2_with (refine wpList_alloc_arr rfl 69 rfl _ _ AZ.out ?_)
    refine IS.out.mono ?_
    rintro e w1 ⟨rfl, rfl⟩
    go_wp2_with (first | refine wpList_build_arr rfl 69 rfl _ (BZ.out _) ?_ | refine wpList_store_arr rfl (.tmp 4) (.tmp 9) 69 rfl (.pointer (some ⟨w.heap.size, 0, none⟩)) (.agg (mc mz).toArray) rfl rfl _ (ST.out _ _ ML.out M1.out XB.out) ?_)
    exact bodyPost_ret (ret_m (b := w.heap.size) rfl ML.out rfl (setRow_heap _ _ _ _ _ _ XB.out)) rfl ⟨by rw [HE.out], below_setRow X.out (Nat.le_refl _) _⟩
  | true =>
    rw [hi] at IS
    obtain ⟨h1, h2⟩ := of_decide_eq_true hi
    obtain ⟨i, rfl⟩ : ∃ i : Nat, rep = (i : Int) := ⟨rep.toNat, by omega⟩
    obtain ⟨m, hm⟩ : ∃ m, ms[i]? = some m := ⟨_, List.getElem?_eq_getElem (by omega)⟩
    rcases HR.out with ⟨_, e⟩ | ⟨p, ao, rfl, hr⟩
    · subst e; cases hm
    · obtain ⟨q, rfl, hq, hrow⟩ := hr.row i m hm
      have c1 := hr.c1
      have hlen := hr.len
      have L5 := Lib.hid (mc_len m (hr.m64 i m hm))
      have O5 := Lib.hid (mc_one m)
      have LD := Lib.hid (load_m W q (i * 65) (mc m) L5.out hrow)
      have HE := Lib.hid (show memF ms (i : Int) = m by
        unfold memF; rw [hi]
        have : (i : Int).toNat = i := by omega
        rw [this, if_pos rfl, List.getD_eq_getElem?_getD, hm]; rfl)
      clear hi h hr hrow hm HR
      go_enter Try.func30, Try.ntmps30
      go_wp2_with (refine wpList_alloc_arr rfl 69 rfl _ _ AZ.out ?_)
      refine IS.out.mono ?_
      rintro e w1 ⟨rfl, rfl⟩
      go_wp2_with (first | refine wpList_load_arr rfl (.tmp 15) 69 rfl (.pointer (some ⟨q, i * 65, none⟩)) _ rfl LD.out ?_ | refine wpList_store_arr rfl (.tmp 4) (.tmp 16) 69 rfl (.pointer (some ⟨w.heap.size, 0, none⟩)) (.agg (mc m).toArray) rfl rfl _ (ST.out _ _ L5.out O5.out XB.out) ?_)
      exact bodyPost_ret (ret_m (b := w.heap.size) rfl L5.out rfl (setRow_heap _ _ _ _ _ _ XB.out)) rfl ⟨by rw [HE.out], below_setRow X.out (Nat.le_refl _) _⟩
end Go.Proofs.Ytgemlkccdcbpdaa
