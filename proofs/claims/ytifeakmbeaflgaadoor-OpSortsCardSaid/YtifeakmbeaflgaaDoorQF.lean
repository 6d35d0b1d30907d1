/- The reference's Sorted is what a stable sort gives; the orders exactly. Made by genqf7.py. -/
import Derived.Test.YtifeakmbeaflgaaDoorQE
import Derived.Test.YtifeakmbeaflgaaDoorON
import Derived.Test.YtifeakmbeaflgaaDoorSrtK
import Derived.Test.YtifeakmbeaflgaaDoorOCard
set_option linter.unusedVariables false
set_option linter.unusedSimpArgs false
set_option maxRecDepth 100000
namespace Go.Proofs.YtifeakmbeaflgaaDoor
open Go.Shelf Go.RowKit Go.Lib Go.Sort

def cfO (x y : O) : Int := St.cmpS x.t x.r y.t y.r
theorem lt_cf (x y : O) : ltOf cfO x y = lessO x y := by
  unfold ltOf cfO lessO
  rcases St.cmp_less x.t x.r y.t y.r with ⟨h1, h2⟩ | ⟨h1, _, h2⟩ | ⟨h1, _, h2⟩ <;> rw [h1, h2] <;> decide
theorem less_dec (x y : O) : lessO x y = decide ((x.t = y.t ∧ x.r < y.r) ∨ (x.t ≠ y.t ∧ x.t < y.t)) := by
  unfold lessO St.lessB
  by_cases h : x.t = y.t
  · rw [if_pos h]; simp [h]
  · rw [if_neg h]; simp [h]
theorem ltOk : LtOk (ltOf cfO) := ⟨fun x y z h1 h2 => by
    rw [lt_cf, less_dec, decide_eq_false_iff_not] at *
    omega, fun x y h1 => by
    rw [lt_cf, less_dec] at *
    rw [decide_eq_true_iff] at h1
    rw [decide_eq_false_iff_not]
    omega⟩
def ins (x : O) : List O → List O
  | [] => [x]
  | y :: u => if lessO x y then x :: y :: u else y :: ins x u
theorem fold_true (x : O) : ∀ (u a : List O), u.foldl (stepO x) (a, true) = (a ++ u, true)
  | [], a => by simp
  | y :: u, a => by rw [List.foldl_cons, show stepO x (a, true) y = (a ++ [y], true) from by unfold stepO; simp, fold_true x u]; simp
theorem fold_ins (x : O) : ∀ (u a : List O), (if (u.foldl (stepO x) (a, false)).2 then (u.foldl (stepO x) (a, false)).1 else (u.foldl (stepO x) (a, false)).1 ++ [x]) = a ++ ins x u
  | [], a => by simp [ins]
  | y :: u, a => by
    rw [List.foldl_cons]
    cases h : lessO x y with
    | true => rw [show stepO x (a, false) y = (a ++ [x] ++ [y], true) from by unfold stepO; simp [h], fold_true]; simp [ins, h]
    | false => rw [show stepO x (a, false) y = (a ++ [y], false) from by unfold stepO; simp [h], fold_ins x u]; simp [ins, h]
theorem insO_ins (x : O) (u : List O) : insO x u = ins x u := by
  unfold insO foldO
  exact (fold_ins x u []).trans (List.nil_append _)
theorem ins_mem (x b : O) : ∀ u, b ∈ ins x u → b = x ∨ b ∈ u
  | [], h => by simpa [ins] using h
  | y :: u, h => by
    unfold ins at h
    split at h
    · rcases List.mem_cons.1 h with h | h
      · exact .inl h
      · exact .inr h
    · rcases List.mem_cons.1 h with h | h
      · exact .inr (by rw [h]; exact List.mem_cons_self)
      · exact (ins_mem x b u h).imp id (List.mem_cons_of_mem _)
theorem ins_srt (x : O) : ∀ u : List O, u.Pairwise (fun a b => ltOf cfO b a = false) → (ins x u).Pairwise (fun a b => ltOf cfO b a = false)
  | [], _ => List.pairwise_singleton _ _
  | y :: u, h => by
    obtain ⟨h1, h2⟩ := List.pairwise_cons.1 h
    unfold ins
    split
    case isTrue hc =>
      have hc' : ltOf cfO x y = true := by rw [lt_cf]; exact hc
      refine List.pairwise_cons.2 ⟨fun b hb => ?_, h⟩
      have hz : ltOf cfO b y = false := by
        rcases List.mem_cons.1 hb with rfl | hb
        · exact ltOk.ir _
        · exact h1 b hb
      exact ltOk.as _ _ (up_lt' ltOk hc' hz)
    case isFalse hc =>
      refine List.pairwise_cons.2 ⟨fun b hb => ?_, ins_srt x u h2⟩
      rcases ins_mem x b u hb with rfl | hb
      · rw [lt_cf]; simpa using hc
      · exact h1 b hb
theorem ins_cls (x z : O) : ∀ u : List O, u.Pairwise (fun a b => ltOf cfO b a = false) → (ins x u).filter (eqv (ltOf cfO) z) = (u ++ [x]).filter (eqv (ltOf cfO) z)
  | [], _ => rfl
  | y :: u, h => by
    obtain ⟨h1, h2⟩ := List.pairwise_cons.1 h
    unfold ins
    split
    case isTrue hc =>
      have hc' : ltOf cfO x y = true := by rw [lt_cf]; exact hc
      refine (strict_swap ltOk (y :: u) [x] (fun a ha b hb => ?_) z).symm
      obtain rfl := List.mem_singleton.1 hb
      refine up_lt' ltOk hc' ?_
      rcases List.mem_cons.1 ha with rfl | ha
      · exact ltOk.ir _
      · exact h1 a ha
    case isFalse hc =>
      rw [List.cons_append, List.filter_cons, List.filter_cons, ins_cls x z u h2]
theorem srt_ok : ∀ (l u : List O), u.Pairwise (fun a b => ltOf cfO b a = false) → (l.foldl (fun u x => insO x u) u).Pairwise (fun a b => ltOf cfO b a = false) ∧ ∀ z, (l.foldl (fun u x => insO x u) u).filter (eqv (ltOf cfO) z) = (u ++ l).filter (eqv (ltOf cfO) z)
  | [], u, h => ⟨h, fun z => by simp⟩
  | x :: l, u, h => by
    rw [List.foldl_cons, insO_ins]
    obtain ⟨a, b⟩ := srt_ok l (ins x u) (ins_srt x u h)
    refine ⟨a, fun z => ?_⟩
    rw [b z, List.filter_append, ins_cls x z u h, ← List.filter_append, List.append_assoc]
    rfl
theorem seg_all (l : List O) : seg l.toArray 0 l.length = l := by
  unfold seg
  apply List.ext_getElem (by simp)
  intro i h1 h2
  simp only [List.getElem_map, List.getElem_range', Nat.zero_add, Nat.one_mul]
  simp [h2]
theorem srt_eq {l l' : List O} (hk : KP (ltOf cfO) l.toArray l'.toArray) (hs : SrtS (ltOf cfO) l'.toArray 0 l.length) : l' = srtO l := by
  have hlen : l'.length = l.length := by simpa using hk.sz
  have hs' := seg_pair hs
  rw [← hlen, seg_all] at hs'
  refine stable_one ltOk l' (srtO l) hs' (srt_ok l [] List.Pairwise.nil).1 (fun z => ?_)
  have hc := hk.cl z
  unfold cls at hc
  rw [show l.toArray.size = l.length from by simp, seg_all, ← hlen, seg_all] at hc
  rw [hc]
  exact ((srt_ok l [] List.Pairwise.nil).2 z).symm
set_option maxHeartbeats 1000000 in
theorem stamp_exact (a1 a2 b1 b2 : Int) (W : World) : Calls Tryd.prog 34 #[.agg #[.int .i64 a1, .int .i64 a2], .agg #[.int .i64 b1, .int .i64 b2]] W fun e w' => e = .returned (.int .i64 (St.cmpS a1 a2 b1 b2)) ∧ ∃ q os', w' = grow (W.drewN q) os' := by
  have hcon := fun a b W' => Tryd.cmp_Compare_int a b W'
  unfold St.cmpS
  by_cases h : a1 = b1
  · rw [if_pos h]
    have t1 : (a1 != b1) = false := by simp [h]
    clear h
    go_enter Tryd.func34, Tryd.ntmps34
    go_wp2_with (go_at_call 71; refine (hcon _ _ _).mono ?_; rintro e w' ⟨rfl, rfl⟩)
    go_returns
    exact ⟨rfl, 0, _, by rw [alloc_eq_grow, alloc_eq_grow, grow_grow]; rfl⟩
  · rw [if_neg h]
    have t1 : (a1 != b1) = true := by simp [h]
    clear h
    go_enter Tryd.func34, Tryd.ntmps34
    go_wp2_with (go_at_call 71; refine (hcon _ _ _).mono ?_; rintro e w' ⟨rfl, rfl⟩)
    go_returns
    exact ⟨rfl, 0, _, by rw [alloc_eq_grow, alloc_eq_grow, grow_grow]; rfl⟩
set_option maxHeartbeats 1000000 in
theorem compare_exact (x y : O) (W : World) : Calls Tryd.prog 16 #[.agg #[.int .i64 x.t, .int .i64 x.r, .int .i64 x.q, .int .i64 x.nt, .int .i64 x.nr, .int .i64 x.pt, .int .i64 x.pr, .string x.nm, .bool x.d], .agg #[.int .i64 y.t, .int .i64 y.r, .int .i64 y.q, .int .i64 y.nt, .int .i64 y.nr, .int .i64 y.pt, .int .i64 y.pr, .string y.nm, .bool y.d]] W fun e w' => e = .returned (.int .i64 (cfO x y)) ∧ ∃ q os', w' = grow (W.drewN q) os' := by
  have hcon := fun W' => stamp_exact x.t x.r y.t y.r W'
  unfold cfO
  go_enter Tryd.func16, Tryd.ntmps16
  go_wp2_with (go_at_call 34; refine (hcon _).mono ?_; rintro e w' ⟨rfl, q, os, rfl⟩)
  go_returns
  exact ⟨rfl, q, _, by rw [alloc_eq_grow, alloc_eq_grow, grow_grow]; exact grow_grow (W.drewN q) _ os⟩
theorem lsO : LS Tryd.prog where
  mixed := by kernel_rfl
  f84 := Tryd.func84
  f88 := Tryd.func88
  f89 := Tryd.func89
  f92 := Tryd.func92
  f97 := Tryd.func97
  t0 := Tryd.underlying0
  a0 := Tryd.isAgg0
  z0 := Tryd.sizeOf0
  v0 := Tryd.zeroValue0
  t3 := Tryd.underlying3
  a3 := Tryd.isAgg3
  z3 := Tryd.sizeOf3
  v3 := Tryd.zeroValue3
  t4 := Tryd.underlying4
  a4 := Tryd.isAgg4
  z4 := Tryd.sizeOf4
  v4 := Tryd.zeroValue4
  t27 := Tryd.underlying27
  a27 := Tryd.isAgg27
  z27 := Tryd.sizeOf27
  v27 := Tryd.zeroValue27
  t33 := Tryd.underlying33
  a33 := Tryd.isAgg33
  z33 := Tryd.sizeOf33
  v33 := Tryd.zeroValue33
  t97 := Tryd.underlying97
  a97 := Tryd.isAgg97
  z97 := Tryd.sizeOf97
  v97 := Tryd.zeroValue97
end Go.Proofs.YtifeakmbeaflgaaDoor
