/- Vectors compared by ==; a hold that is none, or that New did not make: what every call answers. -/
import Derived.Test.YtgnnpfainoppeaaDoorHU
import Derived.Laws.StructEq
set_option linter.unusedVariables false
set_option linter.unusedSimpArgs false
set_option maxRecDepth 100000
namespace Go.Proofs.YtgnnpfainoppeaaDoor
open Go.RowKit
open Ve (zs zs_len vw RightP LiesR Rg sumW withF)

theorem all_range_int : ∀ (xs ys : List Int), xs.length = ys.length → ((List.range xs.length).all fun i => xs.getD i 0 == ys.getD i 0) = (xs == ys)
  | [], [], _ => rfl
  | x :: xs, y :: ys, h => by
    have ih := all_range_int xs ys (by simpa using h)
    rw [List.length_cons, List.range_succ_eq_map, List.all_cons, List.all_map]
    simp only [List.getD_cons_zero, Function.comp_def, List.getD_cons_succ, ih]
    simp [List.cons_beq_cons]
  | [], _ :: _, h => by simp at h
  | _ :: _, [], h => by simp at h
theorem size3 (w : World) : (sizeOf 3).run Tryd.prog w = .ok 1 w := by
  cases hq : Tryd.prog.info? 3 with
  | none => have := Ve.elem24; rw [hq] at this; simp at this
  | some j =>
    have hs : j.size = 1 := by have := Ve.elem24; rw [hq] at this; simpa using this
    simp [sizeOf, typeInfo, hq, hs]
theorem equalIn_va (w : World) (d : Nat) (xs ys : List Int) (hx : xs.length = 64) (hy : ys.length = 64) :
    (Op.equalIn (d + 2) 27 (.agg (Ve.va xs)) (.agg (Ve.va ys))).run Tryd.prog w = .ok (xs == ys) w := by
  have ht : Tryd.prog.underlying 27 = some (.array 64 3) := by kernel_rfl
  have he : Tryd.prog.underlying 3 = some (.int .i64) := by kernel_rfl
  rw [← all_range_int xs ys (hx.trans hy.symm), hx, List.range_eq_range', Op.equalIn]
  simp only [Sem.run_bind, run_underlying ht, Result.andThen_ok, size3, Std.Legacy.Range.forIn_eq_forIn_range', Std.Legacy.Range.size, Nat.sub_zero, Nat.add_sub_cancel, Nat.div_one]
  have hl : ∀ i ∈ List.range' 0 64 1, i < 64 := fun i hi => by simpa using (List.mem_range'_1.1 hi).2
  generalize List.range' 0 64 1 = l at hl ⊢
  induction l with
  | nil => simp
  | cons i l ih =>
    have hi : i < 64 := hl i (by simp)
    have px : (part 3 (Ve.va xs) (i * 1)).run Tryd.prog w = .ok (.int .i64 (xs.getD i 0)) w := by
      simp [Ve.va, part, isAgg, run_underlying he, List.getD, List.getElem?_eq_getElem (show i < xs.length by omega)]
    have py : (part 3 (Ve.va ys) (i * 1)).run Tryd.prog w = .ok (.int .i64 (ys.getD i 0)) w := by
      simp [Ve.va, part, isAgg, run_underlying he, List.getD, List.getElem?_eq_getElem (show i < ys.length by omega)]
    have pe : (Op.equalIn (d + 1) 3 (.int .i64 (xs.getD i 0)) (.int .i64 (ys.getD i 0))).run Tryd.prog w = .ok (xs.getD i 0 == ys.getD i 0) w := run_equalIn_int w d 3 .i64 .i64 _ _ he
    simp only [List.forIn_cons, Sem.run_bind, px, py, pe, Result.andThen_ok, List.all_cons]
    cases hb : (xs.getD i 0 == ys.getD i 0)
    · simp
    · simp only [Bool.not_true, Bool.false_eq_true, if_false, Sem.run_pure, Result.andThen_ok, Bool.true_and]
      exact ih fun j hj => hl j (by simp [hj])
theorem eql_va (w : World) (xs ys : List Int) (hx : xs.length = 64) (hy : ys.length = 64) :
    (binOp .eql 27 (.agg (Ve.va xs)) (.agg (Ve.va ys))).run Tryd.prog w = .ok (.bool (xs == ys)) w := by
  rw [run_eql_struct, equalIn_va w 9998 xs ys hx hy]
  rfl
theorem neq_va (w : World) (xs : List Int) (hx : xs.length = 64) : (binOp .neq 27 (.agg (Ve.va xs)) (.agg (Ve.va xs))).run Tryd.prog w = .ok (.bool false) w := by
  rw [run_neq_struct, equalIn_va w 9998 xs xs hx hx]
  simp
theorem flat_nil : flat nilL = [] := by decide +kernel
theorem part_nilL (r f t : Int) : partF nilL r f t = [] := by unfold partF; rw [flat_nil]; rfl
theorem kn_nilL : kn zs nilL = zs := by decide +kernel
theorem len_nilL : wrap64 (sumW (kn zs nilL) - sumW zs) = 0 := by decide +kernel
theorem time_nilL : timeF nilL = 0 := by decide +kernel
theorem trN_nilL (vv : List Int) (ft fr : Int) : ∀ n, trN vv ft fr nilL n = 0
  | 0 => rfl
  | n + 1 => by rw [trN_succ, trN_nilL vv ft fr n]; rfl
theorem take_nilL (rs : List Rg) (most : Int) : takeF nilL rs most = [] := by
  unfold takeF partsO
  have : rs.flatMap (fun r => partF nilL r.1 r.2.1 r.2.2) = [] := by
    induction rs with
    | nil => rfl
    | cons a l ih => rw [List.flatMap_cons, part_nilL, ih]; rfl
  rw [this]; exact List.take_nil
def deadS : HS := hs0 false zs
theorem gd_dead : Gd deadS.bs deadS.L 0 := gd_nil zs_len right_zs
/-- A hold that has nothing. -/
def Dead (B : Nat) (W : World) (u : Value) : Prop := u = .pointer none ∨ ∃ b, u = pv b ∧ HK W B b deadS
theorem Dead.step {B : Nat} {W W' : World} {u : Value} (h : Dead B W u) (hb : Below W.heap.size W W') : Dead B W' u := by
  rcases h with h | ⟨b, h, hk⟩
  · exact .inl h
  · exact .inr ⟨b, h, hk.step hb⟩
section
variable {B : Nat} {u : Value} (W : World)
theorem get_dead (h : Dead B W u) (r q : Int) : Calls Tryd.prog 17 #[u, .int .i64 r, .int .i64 q] W fun e w' => e = .returned (.tuple #[oV O0, .bool false]) ∧ Below W.heap.size W w' := by
  rcases h with rfl | ⟨b, rfl, hk⟩
  · exact get_nil W r q
  · have := Go.Proofs.YtgnnpfainoppeaaDoor.get_any W B b deadS 0 hk gd_dead (by omega) r q
    have e : getO deadS.L r q = .tuple #[oV O0, .bool false] := by unfold getO; rw [show deadS.L = nilL from rfl, part_nilL]; rfl
    rwa [e] at this
theorem put_dead (h : Dead B W u) (o : O) : Calls Tryd.prog 13 #[u, oV o] W fun e w' => e = .returned (.int .i64 1) ∧ Below W.heap.size W w' := by
  rcases h with rfl | ⟨b, rfl, hk⟩
  · exact put_nil W o
  · exact put_unmade W B b deadS hk rfl o
theorem known_dead (h : Dead B W u) : Calls Tryd.prog 24 #[u] W fun e w' => e = .returned (vw zs) ∧ Below W.heap.size W w' := by
  rcases h with rfl | ⟨b, rfl, hk⟩
  · exact known_nil W
  · have := known_any W B b deadS 0 hk gd_dead (by omega)
    rwa [show kn deadS.bs deadS.L = zs from kn_nilL] at this
theorem base_dead (h : Dead B W u) : Calls Tryd.prog 26 #[u] W fun e w' => e = .returned (vw zs) ∧ Below W.heap.size W w' := by
  rcases h with rfl | ⟨b, rfl, hk⟩
  · exact base_nil W
  · exact base_any W B b deadS hk
theorem len_dead (h : Dead B W u) : Calls Tryd.prog 27 #[u] W fun e w' => e = .returned (.int .i64 0) ∧ Below W.heap.size W w' := by
  rcases h with rfl | ⟨b, rfl, hk⟩
  · exact len_nil W
  · have := len_any W B b deadS 0 hk gd_dead (by omega)
    rwa [show wrap64 (sumW (kn deadS.bs deadS.L) - sumW deadS.bs) = 0 from len_nilL] at this
theorem time_dead (h : Dead B W u) : Calls Tryd.prog 28 #[u] W fun e w' => e = .returned (.int .i64 0) ∧ Below W.heap.size W w' := by
  rcases h with rfl | ⟨b, rfl, hk⟩
  · exact (time_nil W).mono fun e w' ⟨h1, h2⟩ => ⟨h1, by rw [← h2]; exact Below.refl _ _⟩
  · have := time_any W B b deadS 0 hk gd_dead (by omega)
    rw [show timeF deadS.L = 0 from time_nilL] at this
    exact this.mono fun e w' ⟨h1, h2⟩ => ⟨h1, by rw [← h2]; exact Below.refl _ _⟩
theorem row_none {w w' : World} {r : Value} (h : RowO w w' r []) : ∃ a c, r = .slice a 0 c := Ve.own_shape h.1
theorem all_dead (h : Dead B W u) : Calls Tryd.prog 25 #[u] W fun e w' => ∃ a c, e = .returned (.slice a 0 c) ∧ Below W.heap.size W w' := by
  rcases h with rfl | ⟨b, rfl, hk⟩
  · exact (all_nil W).mono fun e w' ⟨h1, h2⟩ => ⟨none, 0, h1, by rw [← h2]; exact Below.refl _ _⟩
  · have := all_any W B b deadS 0 hk gd_dead (by omega)
    rw [show flat deadS.L = [] from flat_nil] at this
    refine this.mono ?_
    rintro e w' ⟨r, rfl, h1⟩
    obtain ⟨a, c, rfl⟩ := row_none h1
    exact ⟨a, c, rfl, h1.2⟩
theorem take_dead (h : Dead B W u) (g : Nat) (r f t : Int) (hg : W.heap[g]? = some (.cells #[.int .i64 r, .int .i64 f, .int .i64 t] 70 (0, 0))) :
    Calls Tryd.prog 20 #[u, .slice (some ⟨g, 0, none⟩) 1 1, .int .i64 9] W fun e w' => ∃ a c, e = .returned (.slice a 0 c) ∧ Below W.heap.size W w' := by
  have c0 : W.cell? ⟨g, 0, none⟩ = some (.int .i64 r) := by rw [cell_of_row _ _ _ _ _ _ hg]; rfl
  have c1 : W.cell? ⟨g, 1, none⟩ = some (.int .i64 f) := by rw [cell_of_row _ _ _ _ _ _ hg]; rfl
  have c2 : W.cell? ⟨g, 2, none⟩ = some (.int .i64 t) := by rw [cell_of_row _ _ _ _ _ _ hg]; rfl
  rcases h with rfl | ⟨b, rfl, hk⟩
  · exact (take_nil W g r f t (lt_of_block hg) c0 c1 c2).mono fun e w' ⟨h1, h2⟩ => ⟨none, 0, h1, h2⟩
  · have := take_any W B b deadS 0 hk gd_dead (by omega) (.slice (some ⟨g, 0, none⟩) 1 1) [(r, f, t)] ⟨_, _, rfl, by simp, (fun e => by cases e), fun b hb _ => by
      injection hb with hb
      subst hb
      refine ⟨g, 0, rfl, lt_of_block hg, fun j p hj => ?_⟩
      cases j with
      | zero => injection hj with hj; subst hj; exact ⟨c0, c1, c2⟩
      | succ j => simp at hj⟩ 9 (by omega)
    rw [show takeF deadS.L [(r, f, t)] 9 = [] from take_nilL _ _] at this
    refine this.mono ?_
    rintro e w' ⟨r, rfl, h1⟩
    obtain ⟨a, c, rfl⟩ := row_none h1
    exact ⟨a, c, rfl, h1.2⟩
theorem trim_dead (h : Dead B W u) (hB : B ≤ W.heap.size) (vv : List Int) (hvv : vv.length = 64) (ft fr : Int) : Calls Tryd.prog 15 #[u, vw vv, .agg #[.int .i64 ft, .int .i64 fr]] W fun e w' => e = .returned (.int .i64 0) ∧ Far (fun k => u = pv k) W w' := by
  rcases h with rfl | ⟨b, rfl, hk⟩
  · exact (trim_nil W vv ft fr).mono fun e w' ⟨h1, h2⟩ => ⟨h1, Far.of_below h2⟩
  · have := trim_any W B b deadS 0 hk gd_dead (by omega) hB vv hvv ft fr
    rw [show trN vv ft fr deadS.L 64 = 0 from trN_nilL vv ft fr 64] at this
    refine this.mono ?_
    rintro e w' ⟨h1, t, h2⟩
    refine ⟨h1, h2.out.far.os, h2.out.far.tape, h2.out.far.output, h2.out.far.size, fun k hk hn => h2.out.far.block k hk (fun q => ?_)⟩
    rcases q with rfl | ⟨i, _, e⟩
    · exact hn rfl
    · cases e
end
theorem build66z (W : World) : (Instr.build 66 #[]).run Tryd.prog W = .ok (.agg (hca deadS)) W := by
  refine run_build W 66 _ _ ?_
  rw [built_struct zero66 pl66]
  rfl
theorem egt27 : (Tryd.prog.eqGuardType Tryd.prog.depth 27) = false := by kernel_rfl
theorem eqg27 (op : BinOp) (x y : Operand) (A B : Array Value) (w : World) : (eqGuard op 27 x y (.agg A) (.agg B)).run Tryd.prog w = .ok () w := by
  unfold eqGuard
  cases op <;> simp [egt27, go_sem]
theorem Far.then {P : Nat → Prop} {w w1 w2 : World} (h : Far P w w1) (hb : Below w1.heap.size w1 w2) : Far P w w2 := h.trans (Far.of_below hb) (fun k hk q => q)
section
variable {ops : Array Oper} {S : World → Prop} {op : Oper} {a : Act}
theorem yields_b27 (hw : Region.wanted op (yielded ops a.tmps) = true) (ho : op.op = .build 27 #[]) : YieldsIf Tryd.prog ops S op (.agg (Ve.va zs)) a :=
  .inl ⟨hw, fun w hw' => by
    unfold execOp
    simp only [ho, List.map_toArray, List.map_nil, build_va w, Sem.run_bind, Sem.run_pure, Result.andThen_ok]⟩
theorem yields_neqV (x y : Operand) (l : List Int) (hl : l.length = 64) (hw : Region.wanted op (yielded ops a.tmps) = true) (ho : op.op = .binOp .neq 27 x y 27) (hx : a.eval x = .agg (Ve.va l)) (hy : a.eval y = .agg (Ve.va l)) : YieldsIf Tryd.prog ops S op (.bool false) a :=
  .inl ⟨hw, fun w hw' => by
    unfold execOp
    simp only [ho, hx, hy, eqg27, neq_va w l hl, Sem.run_bind, Sem.run_pure, Result.andThen_ok]⟩
end
end Go.Proofs.YtgnnpfainoppeaaDoor
