/- Quiet loads and tests of vectors; no vectors joined; boxes filled step by step. -/
import Derived.Test.YtiljmkglmanddaaDoorVY
import Derived.Test.YtiljmkglmanddaaDoorVM
import Derived.Test.YtiljmkglmanddaaDoorVJ
set_option linter.unusedVariables false
namespace Go.Proofs.YtiljmkglmanddaaDoor
open Go.RowKit

theorem later_all {W : World} {Q : World → Prop} (h : ∀ x : Later W, Q x.w) : ∀ w', (∃ x : Later W, w' = x.w) → Q w' := fun _ ⟨x, e⟩ => by rw [e]; exact h x
section
variable {P : Program} {C : World → Prop} {a : Act} {o : Oper} {K : Act → Prop}
theorem quiet_load (x : Operand) (ty : TypeId) (ho : o.op = .load ty x) (v u : Value) (hx : a.eval x = v) (hl : ∀ w, C w → (Instr.loadAt ty v).run P w = .ok u w) (hk : K (a.put o.dst u)) : o.quiet P a C K :=
  ⟨u, fun w hw => by
    unfold Oper.quietAt execOp
    simp only [ho, hx, hl w hw, Sem.run_bind, Sem.run_pure, Result.andThen_ok]
    exact ⟨rfl, rfl⟩, hk⟩
theorem quiet_build (ty : TypeId) (ho : o.op = .build ty #[]) (u : Value) (hl : ∀ w, (Instr.build ty #[]).run P w = .ok u w) (hk : K (a.put o.dst u)) : o.quiet P a C K :=
  ⟨u, fun w hw => by
    unfold Oper.quietAt execOp
    simp only [ho, List.map_toArray, List.map_nil, hl w, Sem.run_bind, Sem.run_pure, Result.andThen_ok]
    exact ⟨rfl, rfl⟩, hk⟩
end
theorem eqin_va (xs ys : List Int) (hx : xs.length = 64) (hy : ys.length = 64) (w : World) : (Op.equalIn 10000 24 (.agg (va xs)) (.agg (va ys))).run Tryd.prog w = .ok (xs == ys) w := equalIn_va w 9998 xs ys hx hy
theorem eqin_self (xs : List Int) (hx : xs.length = 64) (w : World) : (Op.equalIn 10000 24 (.agg (va xs)) (.agg (va xs))).run Tryd.prog w = .ok true w := by
  rw [eqin_va xs xs hx hx w]; simp
theorem neq_va (w : World) (xs : List Int) (hx : xs.length = 64) : (binOp .neq 24 (.agg (va xs)) (.agg (va xs))).run Tryd.prog w = .ok (.bool false) w := by
  rw [run_neq_struct, equalIn_va w 9998 xs xs hx hx]
  simp
theorem eqs_va (w : World) (xs : List Int) (hx : xs.length = 64) : (binOp .eql 24 (.agg (va xs)) (.agg (va xs))).run Tryd.prog w = .ok (.bool true) w := by
  rw [eql_va w xs xs hx hx]
  simp
set_option maxRecDepth 100000 in
set_option maxHeartbeats 800000 in
theorem join_empty (w : World) : Calls Tryd.prog 8 #[.slice none 0 0] w fun e w' => e = .returned (vw zs) ∧ Below w.heap.size w w' := by
  have X := Lib.hid (boxes w (va zs) (va zs) 24)
  have AZ := Lib.hid (alloc_va z24 w)
  have AY := Lib.hid (alloc_va z24 (w.alloc (.cells (va zs) 24)))
  rw [World.size_alloc] at AY
  have LD := Lib.hid (fun W (h : W.heap[w.heap.size + 1]? = some (.cells (va zs) 24 (0, 0))) => load_va v24 W (w.heap.size + 1) zs zs_len h)
  have ST := Lib.hid (fun W (h : W.heap[w.heap.size]? = some (.cells (va zs) 24 (0, 0))) => store_va v24 W w.heap.size (va zs) (by rw [va_size, zs_len]) zs zs_len h)
  have HL := Lib.hid zs_len
  generalize hW1 : w.alloc (.cells (va zs) 24) = W1 at *
  generalize hW : W1.alloc (.cells (va zs) 24) = W at *
  clear hW hW1
  go_enter Tryd.func8, Tryd.ntmps8
  go_wp2_with (first | refine wpList_alloc_arr rfl 24 rfl _ _ AZ.out ?_ | refine wpList_alloc_arr rfl 24 rfl _ _ AY.out ?_)
  go_loopw [10] (fun iv wr => iv = .int .i64 0 ∧ wr = W) (fun iv _ => 0)
  case atStart => exact ⟨rfl, rfl⟩
  case round =>
    obtain ⟨rfl, rfl⟩ := hrel
    go_wp2_with (first | refine wpList_load_arr rfl (.tmp 3) 24 rfl (.pointer (some ⟨w.heap.size + 1, 0, none⟩)) _ rfl (LD.out _ X.out.2.2) ?_ | refine wpList_store_arr rfl (.tmp 2) (.tmp 28) 24 rfl (.pointer (some ⟨w.heap.size, 0, none⟩)) (.agg (va zs)) rfl rfl _ (ST.out _ X.out.2.1) ?_)
    exact bodyPost_ret (ret_va (b := w.heap.size) rfl v24 HL.out rfl (setRow_heap _ _ _ _ _ _ X.out.2.1)) rfl ⟨rfl, below_setRow X.out.1 (Nat.le_refl _) _⟩
def VAt (ty : TypeId) (W : World) (g : Nat) (l : List Int) : Prop := W.heap[g]? = some (.cells (va l) ty (0, 0))
theorem VAt.step {ty : TypeId} {W W' : World} {g : Nat} {l : List Int} (h : VAt ty W g l) (hb : Below W.heap.size W W') : VAt ty W' g l := (hb.block _ (lt_of_block h)).trans h
theorem below_alloc {w W : World} (h : Below w.heap.size w W) (o : Obj) : Below w.heap.size w (W.alloc o) := h.alloc h.size o
theorem vstep (W : World) (o : Obj) : Below W.heap.size W (W.alloc o) := (Below.refl _ _).alloc (Nat.le_refl _) _
/-- A box made. -/
theorem boxed {ty : TypeId} (hz : Z64 ty) (W : World) : ∃ W1, (Instr.alloc ty true (.tuple #[])).run Tryd.prog W = .ok (.pointer (some ⟨W.heap.size, 0, none⟩)) W1 ∧ Below W.heap.size W W1 ∧ VAt ty W1 W.heap.size zs ∧ W1.heap.size = W.heap.size + 1 :=
  ⟨_, alloc_va hz W, vstep W _, heap_alloc_new W _, by simp⟩
/-- A box filled. -/
theorem filled {ty : TypeId} (ht : V64 ty) {W : World} {g : Nat} {z : List Int} (hz : z.length = 64) (h : VAt ty W g z) (l : List Int) (hl : l.length = 64) : ∃ W1, (Instr.storeAt ty (.pointer (some ⟨g, 0, none⟩)) (.agg (va l))).run Tryd.prog W = .ok () W1 ∧ VAt ty W1 g l ∧
    (∀ g' o, g' ≠ g → W.heap[g']? = some o → W1.heap[g']? = some o) ∧ W1.heap.size = W.heap.size ∧ (∀ (w : World), w.heap.size ≤ g → Below w.heap.size w W → Below w.heap.size w W1) :=
  ⟨_, store_va ht W g (va z) (by rw [va_size, hz]) l hl h, setRow_heap _ _ _ _ _ _ h, fun g' o hn ho => (setRow_other _ _ _ _ hn).trans ho, by simp [World.setRow], fun w hg hb => below_setRow hb hg _⟩
/-- One box, made and filled. -/
theorem one_box {ty : TypeId} (hz : Z64 ty) (ht : V64 ty) (W : World) (l : List Int) (hl : l.length = 64) : ∃ W1 W2, (Instr.alloc ty true (.tuple #[])).run Tryd.prog W = .ok (.pointer (some ⟨W.heap.size, 0, none⟩)) W1 ∧
    (Instr.storeAt ty (.pointer (some ⟨W.heap.size, 0, none⟩)) (.agg (va l))).run Tryd.prog W1 = .ok () W2 ∧ Below W.heap.size W W2 ∧ VAt ty W2 W.heap.size l := by
  obtain ⟨W1, h1, b1, v1, s1⟩ := boxed hz W
  obtain ⟨W2, h2, v2, _, s2, b2⟩ := filled ht zs_len v1 l hl
  exact ⟨W1, W2, h1, h2, b2 W (Nat.le_refl _) b1, v2⟩
/-- Two boxes, made, then filled. -/
theorem two_box {ty : TypeId} (hz : Z64 ty) (ht : V64 ty) (W : World) (l k : List Int) (hl : l.length = 64) (hk : k.length = 64) : ∃ W1 W2 W3 W4, (Instr.alloc ty true (.tuple #[])).run Tryd.prog W = .ok (.pointer (some ⟨W.heap.size, 0, none⟩)) W1 ∧
    (Instr.alloc ty true (.tuple #[])).run Tryd.prog W1 = .ok (.pointer (some ⟨W.heap.size + 1, 0, none⟩)) W2 ∧
    (Instr.storeAt ty (.pointer (some ⟨W.heap.size, 0, none⟩)) (.agg (va l))).run Tryd.prog W2 = .ok () W3 ∧ (Instr.storeAt ty (.pointer (some ⟨W.heap.size + 1, 0, none⟩)) (.agg (va k))).run Tryd.prog W3 = .ok () W4 ∧
    Below W.heap.size W W4 ∧ VAt ty W4 W.heap.size l ∧ VAt ty W4 (W.heap.size + 1) k := by
  obtain ⟨W1, h1, b1, v1, s1⟩ := boxed hz W
  obtain ⟨W2, h2, b2, v2, s2⟩ := boxed hz W1
  rw [s1] at h2 v2
  obtain ⟨W3, h3, v3, o3, s3, b3⟩ := filled ht zs_len (v1.step b2) l hl
  obtain ⟨W4, h4, v4, o4, s4, b4⟩ := filled ht zs_len (show VAt ty W3 (W.heap.size + 1) zs from o3 _ _ (by omega) v2) k hk
  exact ⟨W1, W2, W3, W4, h1, h2, h3, h4, b4 W (by omega) (b3 W (Nat.le_refl _) (b1.trans (b2.mono b1.size))), o4 _ _ (by omega) v3, v4⟩
/-- Three boxes, made, then filled. -/
theorem three_box {ty : TypeId} (hz : Z64 ty) (ht : V64 ty) (W : World) (l k i : List Int) (hl : l.length = 64) (hk : k.length = 64) (hi : i.length = 64) : ∃ W1 W2 W3 W4 W5 W6, (Instr.alloc ty true (.tuple #[])).run Tryd.prog W = .ok (.pointer (some ⟨W.heap.size, 0, none⟩)) W1 ∧
    (Instr.alloc ty true (.tuple #[])).run Tryd.prog W1 = .ok (.pointer (some ⟨W.heap.size + 1, 0, none⟩)) W2 ∧ (Instr.alloc ty true (.tuple #[])).run Tryd.prog W2 = .ok (.pointer (some ⟨W.heap.size + 2, 0, none⟩)) W3 ∧
    (Instr.storeAt ty (.pointer (some ⟨W.heap.size, 0, none⟩)) (.agg (va l))).run Tryd.prog W3 = .ok () W4 ∧ (Instr.storeAt ty (.pointer (some ⟨W.heap.size + 1, 0, none⟩)) (.agg (va k))).run Tryd.prog W4 = .ok () W5 ∧
    (Instr.storeAt ty (.pointer (some ⟨W.heap.size + 2, 0, none⟩)) (.agg (va i))).run Tryd.prog W5 = .ok () W6 ∧
    Below W.heap.size W W6 ∧ VAt ty W6 W.heap.size l ∧ VAt ty W6 (W.heap.size + 1) k ∧ VAt ty W6 (W.heap.size + 2) i := by
  obtain ⟨W1, h1, b1, v1, s1⟩ := boxed hz W
  obtain ⟨W2, h2, b2, v2, s2⟩ := boxed hz W1
  obtain ⟨W3, h3, b3, v3, s3⟩ := boxed hz W2
  rw [s1] at h2 v2
  rw [s2, s1] at h3 v3
  obtain ⟨W4, h4, v4, o4, s4, b4⟩ := filled ht zs_len ((v1.step b2).step b3) l hl
  obtain ⟨W5, h5, v5, o5, s5, b5⟩ := filled ht zs_len (show VAt ty W4 (W.heap.size + 1) zs from o4 _ _ (by omega) (v2.step b3)) k hk
  obtain ⟨W6, h6, v6, o6, s6, b6⟩ := filled ht zs_len (show VAt ty W5 (W.heap.size + 2) zs from o5 _ _ (by omega) (o4 _ _ (by omega) v3)) i hi
  have B := (b1.trans (b2.mono b1.size)).trans (b3.mono (by omega))
  exact ⟨W1, W2, W3, W4, W5, W6, h1, h2, h3, h4, h5, h6, b6 W (by omega) (b5 W (by omega) (b4 W (Nat.le_refl _) B)), o6 _ _ (by omega) (o5 _ _ (by omega) v4), o6 _ _ (by omega) v5, v6⟩
end Go.Proofs.YtiljmkglmanddaaDoor
