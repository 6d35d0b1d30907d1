/- The example, plain; what the laws' worlds hold. -/
import Derived.Test.YtgnnpfainoppeaaGR
set_option linter.unusedVariables false
set_option linter.unusedSimpArgs false
set_option maxRecDepth 100000
namespace Go.Proofs.Ytgnnpfainoppeaa
open Go.RowKit Go.WideMaps Go.Maps
open Ve (zs zs_len vw va RightP cs3 cs3_append)

theorem right_zs : RightP zs := fun j x h => by
  have := List.mem_of_getElem? h
  unfold zs at this
  rw [List.eq_of_mem_replicate this]; omega
theorem check_one {s : ByteArray} {c d : Int} (h : CheckIs s c) (g : CheckIs s d) : c = d := by
  rcases h with ⟨h1, rfl⟩ | ⟨h1, h2, h3, rfl⟩ | ⟨h1, h2, h3, rfl⟩ <;> rcases g with ⟨g1, rfl⟩ | ⟨g1, g2, g3, rfl⟩ | ⟨g1, g2, g3, rfl⟩ <;> first | rfl | omega | (rcases h1 with q | q <;> contradiction) | (rcases g1 with q | q <;> contradiction)
theorem ckI_eq {s : ByteArray} {c : Int} (h : CheckIs s c) : ckI s = c := check_one (ckI_is s) h
theorem ck_a : ckI ⟨#[97]⟩ = 0 := by
  refine ckI_eq (.inr (.inr ⟨?_, ?_, by decide, rfl⟩))
  · rintro (h | h | h) <;> (have := congrArg ByteArray.data h; revert this; decide)
  · rintro ⟨j, _, hj, hb⟩
    have : j = 0 := by have : (⟨#[97]⟩ : ByteArray).size = 1 := rfl; omega
    subst this
    revert hb
    decide
theorem build_va (W : World) : (Instr.build 29 #[]).run Try.prog W = .ok (.agg (va zs)) W := by
  have h := (zero_of_info Ve.z24).1 W
  have ht : Try.prog.underlying 29 = some (.array 64 3) := by kernel_rfl
  unfold Instr.build
  rw [Sem.run_bind, h]
  simp [run_underlying ht, Instr.fill, vw, Value.cells, Sem.run_bind]
theorem wpList_build_arr {P : Program} {w : World} {ops : Array Oper} {rest : List Oper} {o : Oper} {a : Act} {Q : Exit → Act → World → Prop} (hgd : o.guard = none) (ty : TypeId)
    (ho : o.op = .build ty #[]) (u : Value) (hr : (Instr.build ty #[]).run P w = .ok u w)
    (h : wpList P ops Q rest (a.put o.dst u) w) : wpList P ops Q (o :: rest) a w :=
  wpList_plain hgd fun _ hK => by
    unfold Oper.wp execOp
    simp only [ho, List.map_toArray, List.map_nil, hr, Sem.run_bind, Sem.run_pure, Result.andThen_ok]
    exact hK _ _ h
theorem rO_one (r n : Int) (hr : 0 ≤ r ∧ r < 4) (hn : 1 ≤ n ∧ n ≤ 16) : rO (oneO r n) = true := by
  unfold rO rB oneO
  rw [ck_a]
  obtain ⟨i, rfl⟩ : ∃ i : Nat, r = (i : Int) := ⟨r.toNat, by omega⟩
  obtain ⟨m, rfl⟩ : ∃ m : Nat, n = (m : Int) := ⟨n.toNat, by omega⟩
  have hi : i < 4 := by omega
  have hm : m < 17 := by omega
  have key : ∀ i : Fin 4, ∀ m : Fin 17, 1 ≤ m.val → (St.rightB (m.val : Int) (i.val : Int) && (decide (1 ≤ (m.val : Int)) && (decide ((m.val : Int) ≤ 4294967296) && (St.rightB (m.val : Int) (i.val : Int) && (decide (St.cmpS (m.val : Int) (i.val : Int) (m.val : Int) (i.val : Int) ≤ 0) && (rpB (m.val : Int) (i.val : Int) (m.val : Int) (i.val : Int) 0 0 && decide ((0 : Int) = 0))))))) = true := by decide +kernel
  exact key ⟨i, hi⟩ ⟨m, hm⟩ (show 1 ≤ m by omega)
theorem turn_no {l : List O} {k : Int → Int} {o : O} (n : Int) (h1 : k o.r < n) (h2 : n < o.q) (h3 : atG l o.r n = false) : turn l k o = false := by
  cases h : turn l k o with
  | false => rfl
  | true => have := (turn_iff.1 h).2 n h1 h2; rw [h3] at this; cases this
def exV : List Int := Ve.withF zs 0 1
theorem exV_len : exV.length = 64 := by decide +kernel
theorem exV_right : RightP exV := by
  have h : ∀ x ∈ exV, 0 ≤ x ∧ x ≤ 4294967296 := by decide +kernel
  exact fun j x hj => h x (List.mem_of_getElem? hj)
def ex1 : List O := [oneO 0 3]
def ex2 : List O := [oneO 0 2, oneO 0 3]
theorem exV0 : knw exV 0 = 1 := by decide +kernel
theorem exI1 : addI [] exV (oneO 0 3) = 0 := by
  unfold addI
  rw [if_pos (rO_one 0 3 (by omega) (by omega)), if_neg (by decide +kernel), if_neg (by decide +kernel), if_neg (by decide +kernel)]
theorem exL1 : addL [] exV (oneO 0 3) = ex1 := by unfold addL; rw [if_pos exI1]; rfl
theorem exI2 : addI ex1 exV (oneO 0 2) = 0 := by
  unfold addI
  rw [if_pos (rO_one 0 2 (by omega) (by omega)), if_neg (by decide +kernel), if_neg (by decide +kernel), if_neg (by decide +kernel)]
theorem exL2 : addL ex1 exV (oneO 0 2) = ex2 := by unfold addL; rw [if_pos exI2]; rfl
theorem ex_r1 : rdyR ex1 (knw exV) 9 = (ex1, []) := by
  have t : turn ex1 (knw exV) (oneO 0 3) = false := turn_no 2 (by show knw exV 0 < 2; rw [exV0]; decide) (by decide) (by decide +kernel)
  unfold rdyR
  show rdyS ex1 (knw exV) 9 ([], []) (oneO 0 3) = _
  unfold rdyS
  rw [if_neg (by decide +kernel), if_neg (by rw [t]; simp)]
  rfl
theorem ex_r2 : rdyR ex2 (knw exV) 9 = ([], ex2) := by
  have t1 : turn ex2 (knw exV) (oneO 0 2) = true := turn_iff.2 ⟨by decide +kernel, fun n h1 h2 => by
    have h1 : knw exV 0 < n := h1
    have h2 : n < 2 := h2
    rw [exV0] at h1; omega⟩
  have t2 : turn ex2 (knw exV) (oneO 0 3) = true := turn_iff.2 ⟨by decide +kernel, fun n h1 h2 => by
    have h1 : knw exV 0 < n := h1
    have h2 : n < 3 := h2
    rw [exV0] at h1
    have : n = 2 := by omega
    subst this
    decide +kernel⟩
  have e1 : rdyS ex2 (knw exV) 9 ([], []) (oneO 0 2) = ([], [oneO 0 2]) := by
    unfold rdyS
    rw [if_neg (by decide +kernel), if_pos ⟨t1, by decide⟩]
    rfl
  have e2 : rdyS ex2 (knw exV) 9 ([], [oneO 0 2]) (oneO 0 3) = ([], ex2) := by
    unfold rdyS
    rw [if_neg (by decide +kernel), if_pos ⟨t2, by decide⟩]
    rfl
  unfold rdyR
  show rdyS ex2 (knw exV) 9 (rdyS ex2 (knw exV) 9 ([], []) (oneO 0 2)) (oneO 0 3) = _
  rw [e1, e2]
theorem ex_l : lckP ex1 exV = [(0, 2, 2)] := by decide +kernel
theorem ok_nil : OkO [] := fun o h => by cases h
theorem ok_ex1 : OkO ex1 := fun o h => by rw [List.mem_singleton.1 h]; decide
theorem ok_ex2 : OkO ex2 := fun o h => by
  rcases List.mem_cons.1 h with rfl | h
  · decide
  · rw [List.mem_singleton.1 h]; decide
/-- What a law's world holds: the gap, and a box with what is known. -/
structure LW (w W : World) (p b k : Nat) (l : List O) (vv : List Int) : Prop where
  bel : Below w.heap.size w W
  gap : GapI W p b l
  vec : W.heap[k]? = some (.cells (va vv) 29 (0, 0))
  lo : w.heap.size ≤ b
theorem LW.step {w W W' : World} {p b k : Nat} {l : List O} {vv : List Int} (h : LW w W p b k l vv) (hb : Below W.heap.size W W') : LW w W' p b k l vv :=
  ⟨h.bel.trans (hb.mono h.bel.size), h.gap.step hb, (hb.block _ (lt_of_block h.vec)).trans h.vec, h.lo⟩
theorem TM.nocells {w : World} {b k : Nat} {l : List O} {c : Array Value} {t : TypeId} {x : Nat × Nat} (h : TM w b l) (hk : w.heap[k]? = some (.cells c t x)) : k ≠ b := fun e => by
  obtain ⟨es, h1, _⟩ := h
  obtain ⟨es', c', hb, _⟩ := h1
  rw [← e, hk] at hb
  cases hb
theorem LW.kb {w W : World} {p b k : Nat} {l : List O} {vv : List Int} (h : LW w W p b k l vv) : k ≠ b := h.gap.map.nocells h.vec
theorem LW.out {w W W' : World} {p b k : Nat} {l l' : List O} {vv : List Int} (h : LW w W p b k l vv) (ho : GOut W W' p b l') : LW w W' p b k l' vv :=
  ⟨h.bel.trans (ho.below h.lo h.bel.size), ho.gap, (ho.grow.block _ (lt_of_block h.vec) (fun e => h.kb (by injection e))).trans h.vec, h.lo⟩
theorem LW.grown {w W W' : World} {p b k : Nat} {l : List O} {vv : List Int} (h : LW w W p b k l vv) (hg : W.grownBy W' (some b)) : W'.heap[k]? = some (.cells (va vv) 29 (0, 0)) :=
  (hg.block _ (lt_of_block h.vec) (fun e => h.kb (by injection e))).trans h.vec
theorem olies_new (W : World) (l : List O) (c : Array Value) (hc : c.toList = cs9 l) (hm : l.length ≤ maxLen) : OLies (W.alloc (.cells c 35)) (.slice (some ⟨W.heap.size, 0, none⟩) l.length l.length) l := by
  refine ⟨_, l.length, rfl, Nat.le_refl _, hm, (fun h => by cases h), fun b hb _ => ?_⟩
  cases hb
  refine ⟨W.heap.size, 0, rfl, by simp, fun j p hj i u hi => ?_⟩
  have hi9 : i < 9 := by have := (List.getElem?_eq_some_iff.1 hi).1; rwa [oc_len] at this
  rw [cell_of_row _ _ _ _ _ _ (heap_alloc_new W _), Nat.zero_add, ← Array.getElem?_toList, hc, cs9_get l j p hj i hi9]
  exact hi
abbrev arr2 (a b : O) : Array Value := #[.int .i64 a.t, .int .i64 a.r, .int .i64 a.q, .int .i64 a.nt, .int .i64 a.nr, .int .i64 a.pt, .int .i64 a.pr, .string a.nm, .bool a.d, .int .i64 b.t, .int .i64 b.r, .int .i64 b.q, .int .i64 b.nt, .int .i64 b.nr, .int .i64 b.pt, .int .i64 b.pr, .string b.nm, .bool b.d]
theorem bs27 (W : World) (a b : O) : (Instr.buildSlice 27 2 #[(0, oV a), (1, oV b)]).run Try.prog W = .ok (.slice (some ⟨W.heap.size, 0, none⟩) 2 2) (W.alloc (.cells (arr2 a b) 35)) := by
  unfold oV oCells
  go_simp
theorem two_op (W : World) (a b : O) : OLies (W.alloc (.cells (arr2 a b) 35)) (.slice (some ⟨W.heap.size, 0, none⟩) 2 2) [a, b] := olies_new W [a, b] (arr2 a b) rfl (by unfold maxLen; simp)
end Go.Proofs.Ytgnnpfainoppeaa
