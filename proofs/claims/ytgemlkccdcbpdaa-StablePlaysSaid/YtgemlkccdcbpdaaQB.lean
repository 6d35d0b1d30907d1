/- The reference's note. Made by genqb.py. -/
import Derived.Test.YtgemlkccdcbpdaaQA
import Derived.Test.YtgemlkccdcbpdaaRH
import Derived.Test.YtgemlkccdcbpdaaSR
import Derived.Test.YtgemlkccdcbpdaaOwn
import Derived.Deep.CutRange
set_option linter.unusedVariables false
namespace Go.Proofs.Ytgemlkccdcbpdaa
open Go.RowKit

section
variable {ops : Array Oper} {S : World → Prop} {op : Oper} {a : Act}
theorem yields_ld (x : Operand) (ty : TypeId) (v u : Value) (hS : ∀ w, S w → (Instr.loadAt ty v).run Try.prog w = .ok u w) (hw : Region.wanted op (yielded ops a.tmps) = true) (ho : op.op = .load ty x)
    (hx : a.eval x = v) : YieldsIf Try.prog ops S op u a :=
  .inl ⟨hw, fun w hw' => by
    unfold execOp
    simp only [ho, hx, hS w hw', Sem.run_bind, Sem.run_pure, Result.andThen_ok]⟩
theorem yields_ix (x y : Operand) (ty : TypeId) (v u r : Value) (hS : ∀ w, (Instr.indexAt ty v u).run Try.prog w = .ok r w) (hw : Region.wanted op (yielded ops a.tmps) = true) (ho : op.op = .indexAddr ty x y)
    (hx : a.eval x = v) (hy : a.eval y = u) : YieldsIf Try.prog ops S op r a :=
  .inl ⟨hw, fun w hw' => by
    unfold execOp
    simp only [ho, hx, hy, hS w, Sem.run_bind, Sem.run_pure, Result.andThen_ok]⟩
end
theorem index_row (W : World) (g n cap i : Nat) (hi : i < n) (hn : n ≤ 64) : (Instr.indexAt 27 (.slice (some ⟨g, 0, none⟩) n cap) (.int .i64 (i : Int))).run Try.prog W = .ok (.pointer (some ⟨g, i * 65, none⟩)) W := by
  have h1 : (0 : Int) ≤ (i : Int) := by omega
  have h2 : (i : Int) < (n : Int) := by omega
  have hu := u27
  go_simp
theorem flat_at : ∀ (ms : List Mb), (∀ m ∈ ms, m.1.length = 64) → ∀ (i : Nat) m, ms[i]? = some m → ∀ j v, (mc m)[j]? = some v → (ms.flatMap mc)[i * 65 + j]? = some v
  | [], _, i, m, h, j, v, hv => by simp at h
  | k :: r, h64, i, m, h, j, v, hv => by
    have hk := mc_len k (h64 k (List.mem_cons_self ..))
    rw [List.flatMap_cons]
    cases i with
    | zero =>
      injection h with h
      subst h
      have hj : j < 65 := by rw [← hk]; exact (List.getElem?_eq_some_iff.1 hv).1
      rw [List.getElem?_append_left (by omega), Nat.zero_mul, Nat.zero_add]
      exact hv
    | succ i =>
      rw [List.getElem?_append_right (by omega), hk, show (i + 1) * 65 + j - 65 = i * 65 + j by omega]
      exact flat_at r (fun m hm => h64 m (List.mem_cons_of_mem _ hm)) i m h j v hv
theorem flat_len : ∀ (ms : List Mb), (∀ m ∈ ms, m.1.length = 64) → (ms.flatMap mc).length = ms.length * 65
  | [], _ => rfl
  | k :: r, h64 => by
    rw [List.flatMap_cons, List.length_append, mc_len k (h64 k (List.mem_cons_self ..)), flat_len r (fun m hm => h64 m (List.mem_cons_of_mem _ hm)), List.length_cons]
    omega
theorem flat_inv (ms : List Mb) (h64 : ∀ m ∈ ms, m.1.length = 64) (j : Nat) (v : Value) (h : (ms.flatMap mc)[j]? = some v) : ∃ m, ms[j / 65]? = some m ∧ (mc m)[j % 65]? = some v := by
  have hj : j < ms.length * 65 := by rw [← flat_len ms h64]; exact (List.getElem?_eq_some_iff.1 h).1
  have hd : j / 65 < ms.length := by omega
  obtain ⟨m, hm⟩ : ∃ m, ms[j / 65]? = some m := ⟨_, List.getElem?_eq_getElem hd⟩
  have hl := mc_len m (h64 m (List.mem_iff_getElem?.2 ⟨_, hm⟩))
  obtain ⟨u, hu⟩ : ∃ u, (mc m)[j % 65]? = some u := ⟨_, List.getElem?_eq_getElem (by rw [hl]; omega)⟩
  have := flat_at ms h64 _ m hm _ u hu
  rw [show j / 65 * 65 + j % 65 = j by omega, h] at this
  injection this with this
  exact ⟨m, hm, by rw [hu, this]⟩
theorem flat_one {ms : List Mb} : ∀ v ∈ ms.flatMap mc, v.oneCell' = true := fun v hv => by
  obtain ⟨m, _, hm⟩ := List.mem_flatMap.1 hv
  exact mc_one m v hm
theorem RAt.src {W : World} {q : Nat} {ms : List Mb} (h : RAt W q ms) (cap : Nat) : Src Try.prog 65 27 (.slice (some ⟨q, 0, none⟩) ms.length cap) ms.length (ms.flatMap mc) W :=
  Src.ofSlice W u27 ⟨q, 0, none⟩ ms.length cap (ms.flatMap mc) (flat_len ms (mem64 h.m64)) (fun j u hj => by
    obtain ⟨m, hm, hv⟩ := flat_inv ms (mem64 h.m64) j u hj
    have := h.row _ m hm _ u hv
    rw [Addr.add_mid, Nat.zero_add]
    rwa [show j / 65 * 65 + j % 65 = j by omega] at this) flat_one
theorem own_rat {W W' : World} {v' : Value} {ms : List Mb} (h0 : 0 < ms.length) (h64 : ∀ (i : Nat) m, ms[i]? = some m → m.1.length = 64) (hl : ms.length ≤ 64) (ho : W'.ownsRow 0 53 65 v' (0 + ms.length) ([] ++ ms.flatMap mc)) (hs : Sprung W (.slice none 0 0) v') :
    ∃ g cap', v' = .slice (some ⟨g, 0, none⟩) ms.length cap' ∧ RAt W' g ms ∧ W.heap.size ≤ g := by
  rw [Nat.zero_add, List.nil_append] at ho
  have ho2 := ho
  rcases ho.2 with ⟨_, e⟩ | ⟨g, cap', cur, rfl, _, hg, hc, _, hsz, ht⟩
  · omega
  · have hge : W.heap.size ≤ g := by
      rcases hs with e | ⟨k, e, hk⟩
      · cases e
      · injection e with e; subst e; exact hk
    have at_ : ∀ j u, (ms.flatMap mc)[j]? = some u → W'.cell? ⟨g, j, none⟩ = some u := fun j u hj => by
      have hj' : j < ms.length * 65 := by rw [← flat_len ms (mem64 h64)]; exact (List.getElem?_eq_some_iff.1 hj).1
      rw [ho2.cellAt j hj']
      exact hj
    refine ⟨g, cap', rfl, ⟨fun i m hm j v hv => at_ _ _ (flat_at ms (mem64 h64) i m hm j v hv), fun i hi j hj => ⟨?_, ho2.frozenAt _⟩, lt_of_block hg, h64, hl⟩, hge⟩
    obtain ⟨u, hu⟩ : ∃ u, (ms.flatMap mc)[i * 65 + j]? = some u := ⟨_, List.getElem?_eq_getElem (by rw [flat_len ms (mem64 h64)]; have : (i + 1) * 65 ≤ ms.length * 65 := Nat.mul_le_mul_right _ hi; omega)⟩
    rw [at_ _ _ hu]; rfl
/-- A member's vector written. -/
theorem RAt.wrote {W : World} {q i : Nat} {ms : List Mb} {m : Mb} (h : RAt W q ms) (hm : ms[i]? = some m) {jj : List Int} (hj : jj.length = 64) : RAt (W.setCells q (i * 65) (va jj).toList) q (ms.set i (jj, m.2)) := by
  have hi := (List.getElem?_eq_some_iff.1 hm).1
  have hvl : (va jj).toList.length = 64 := by rw [Array.length_toList, va_size, hj]
  have hT := h.may i hi
  refine ⟨fun k x hx => ?_, fun k hk => ?_, ?_, fun k x hx => ?_, by rw [List.length_set]; exact h.len⟩
  · rw [List.getElem?_set] at hx
    by_cases e : i = k
    · subst e
      rw [if_pos rfl, if_pos hi] at hx
      injection hx with hx
      subst hx
      have RS := World.rangeAt_setCells_same W q (i * 65) (va jj).toList (fun j hj => hT j (by omega))
      have RT := World.rangeAt_setCells_apart (cs := [.int .i64 m.2]) (o' := i * 65 + 64) (b' := q) (w := W) (fun j v hj' => by
        match j, hj' with
        | 0, hj' => injection hj' with hj'; subst hj'; exact (range_parts (h.m64 i m hm) (h.row i m hm)).2
        | j + 1, hj' => simp at hj') q (i * 65) (va jj).toList (.inr (.inr (by omega)))
      intro j v hv
      unfold mc at hv
      by_cases hj64 : j < 64
      · rw [List.getElem?_append_left (by rw [List.length_map]; show j < jj.length; rw [hj]; exact hj64)] at hv
        exact RS j v (by rw [va_list]; exact hv)
      · rw [List.getElem?_append_right (by rw [List.length_map]; show jj.length ≤ j; rw [hj]; omega), List.length_map] at hv
        rw [show jj.length = 64 from hj] at hv
        have := RT (j - 64) v hv
        rwa [show i * 65 + 64 + (j - 64) = i * 65 + j by omega] at this
    · rw [if_neg e] at hx
      have hl := mc_len x (h.m64 k x hx)
      refine World.rangeAt_setCells_apart (h.row k x hx) q (i * 65) (va jj).toList (.inr ?_)
      rw [hl, hvl]
      rcases Nat.lt_or_gt_of_ne e with e | e
      · right
        have : (i + 1) * 65 ≤ k * 65 := Nat.mul_le_mul_right _ e
        omega
      · left
        have : (k + 1) * 65 ≤ i * 65 := Nat.mul_le_mul_right _ e
        omega
  · rw [List.length_set] at hk
    exact World.there_setCells (h.may k hk) _ _ _
  · have : ∀ (vs : List Value) (o : Nat) (W : World), (W.setCells q o vs).heap.size = W.heap.size := fun vs => by
      induction vs with
      | nil => intro o W; rfl
      | cons v r ih => intro o W; rw [World.setCells, ih]; simp
    rw [this]; exact h.qlt
  · rw [List.getElem?_set] at hx
    by_cases e : i = k
    · subst e
      rw [if_pos rfl, if_pos hi] at hx
      injection hx with hx
      subst hx
      exact hj
    · rw [if_neg e] at hx
      exact h.m64 k x hx
/-- A member's time written. -/
theorem RAt.timed {W : World} {q i : Nat} {ms : List Mb} {m : Mb} (h : RAt W q ms) (hm : ms[i]? = some m) (t : Int) : RAt (W.setCell ⟨q, i * 65 + 64, none⟩ (.int .i64 t)) q (ms.set i (m.1, t)) := by
  have hi := (List.getElem?_eq_some_iff.1 hm).1
  have hT := h.may i hi
  have es : W.setCell ⟨q, i * 65 + 64, none⟩ (.int .i64 t) = W.setCells q (i * 65 + 64) [.int .i64 t] := rfl
  rw [es]
  refine ⟨fun k x hx => ?_, fun k hk => ?_, ?_, fun k x hx => ?_, by rw [List.length_set]; exact h.len⟩
  · rw [List.getElem?_set] at hx
    by_cases e : i = k
    · subst e
      rw [if_pos rfl, if_pos hi] at hx
      injection hx with hx
      subst hx
      have RS := World.rangeAt_setCells_same W q (i * 65 + 64) [.int .i64 t] (fun j hj => by
        have := hT (64 + j) (by simp only [List.length_singleton] at hj; omega)
        rwa [← Nat.add_assoc] at this)
      have RT := World.rangeAt_setCells_apart (range_parts (h.m64 i m hm) (h.row i m hm)).1 q (i * 65 + 64) [.int .i64 t] (.inr (.inl (by rw [List.length_map, h.m64 i m hm]; omega)))
      intro j v hv
      unfold mc at hv
      have h64 := h.m64 i m hm
      by_cases hj64 : j < 64
      · rw [List.getElem?_append_left (by rw [List.length_map]; show j < m.1.length; omega)] at hv
        exact RT j v hv
      · rw [List.getElem?_append_right (by rw [List.length_map]; show m.1.length ≤ j; omega), List.length_map] at hv
        rw [show m.1.length = 64 from h64] at hv
        have := RS (j - 64) v hv
        rwa [show i * 65 + 64 + (j - 64) = i * 65 + j by omega] at this
    · rw [if_neg e] at hx
      have hl := mc_len x (h.m64 k x hx)
      refine World.rangeAt_setCells_apart (h.row k x hx) q (i * 65 + 64) [.int .i64 t] (.inr ?_)
      rw [hl, List.length_singleton]
      rcases Nat.lt_or_gt_of_ne e with e | e
      · right
        have : (i + 1) * 65 ≤ k * 65 := Nat.mul_le_mul_right _ e
        omega
      · left
        have : (k + 1) * 65 ≤ i * 65 := Nat.mul_le_mul_right _ e
        omega
  · rw [List.length_set] at hk
    exact World.there_setCells (h.may k hk) _ _ _
  · rw [← es]; simpa using h.qlt
  · rw [List.getElem?_set] at hx
    by_cases e : i = k
    · subst e
      rw [if_pos rfl, if_pos hi] at hx
      injection hx with hx
      subst hx
      exact h.m64 i m hm
    · rw [if_neg e] at hx
      exact h.m64 k x hx
theorem three_in (w : World) (A B C : Array Value) (s t u : TypeId) : ∃ W, ((w.alloc (.cells A s)).alloc (.cells B t)).alloc (.cells C u) = W ∧ Below w.heap.size w W ∧ W.heap[w.heap.size]? = some (.cells A s (0, 0)) ∧ W.heap[w.heap.size + 1]? = some (.cells B t (0, 0)) ∧ W.heap[w.heap.size + 2]? = some (.cells C u (0, 0)) ∧ W.heap.size = w.heap.size + 3 := by
  refine ⟨_, rfl, ?_, ?_, ?_, ?_, by simp⟩
  · exact ((vstep w _).alloc (by simp) _).alloc (by simp; omega) _
  · exact (((vstep (w.alloc (.cells A s)) (.cells B t)).alloc (by simp) (.cells C u)).block _ (by simp)).trans (heap_alloc_new w _)
  · have := heap_alloc_new (w.alloc (.cells A s)) (.cells B t)
    rw [World.size_alloc] at this
    exact ((vstep ((w.alloc (.cells A s)).alloc (.cells B t)) (.cells C u)).block _ (by simp)).trans this
  · have := heap_alloc_new ((w.alloc (.cells A s)).alloc (.cells B t)) (.cells C u)
    rw [World.size_alloc, World.size_alloc] at this
    exact this
theorem load_m53 {W : World} {g o : Nat} {l : List Int} (hl : l.length = 64) (h : W.rangeAt g o (l.map (Value.int .i64))) : (Instr.loadAt 33 (.pointer (some ⟨g, o, none⟩))).run Try.prog W = .ok (.agg (va l)) W := by
  obtain ⟨e, he⟩ := v33.1
  exact run_loadAt_mid W g o 33 _ _ h he rfl (by rw [v33.2, List.length_map, hl])
def noteM (m : Mb) (l : List Int) (t : Int) (sure : Bool) : Mb := (joinF [m.1, l], if sure && decide (m.2 < t) then t else m.2)

set_option maxRecDepth 100000 in
set_option maxHeartbeats 6400000 in
theorem note_any (w : World) (sf : Int) (q cap i : Nat) (ms : List Mb) (h : RAt w q ms) (m : Mb) (hm : ms[i]? = some m) (l : List Int) (hl : l.length = 64) (t : Int) (sure : Bool) :
    Calls Try.prog 25 #[rv sf q ms.length cap, .int .i64 (i : Int), vw l, .int .i64 t, .bool sure] w fun e w' => ∃ q' cap', e = .returned (rv sf q' ms.length cap') ∧ RAt w' q' (ms.set i (noteM m l t sure)) ∧ Below w.heap.size w w' ∧ w.heap.size ≤ q' := by
  have hi := (List.getElem?_eq_some_iff.1 hm).1
  have hn := h.len
  have hm64 := h.m64 i m hm
  obtain ⟨i0, hq0, hz0, hz1, hz2⟩ := i53_parts
  have h64 := h.m64
  obtain ⟨W3, e3, b3, n0, n1, n2, z3⟩ := three_in w #[.int .i64 sf, .slice (some ⟨q, 0, none⟩) ms.length cap] (va l) #[.int .i64 0, .slice none 0 0] 29 33 29
  obtain ⟨W4, e4, b4, n3, z4⟩ : ∃ W, W3.alloc (.cells #[.int .i64 sf, .slice none 0 0] 29) = W ∧ Below W3.heap.size W3 W ∧ W.heap[W3.heap.size]? = some (.cells #[.int .i64 sf, .slice none 0 0] 29 (0, 0)) ∧ W.heap.size = W3.heap.size + 1 := ⟨_, rfl, vstep W3 _, heap_alloc_new W3 _, by simp⟩
  have E3 := Lib.hid e3
  have E4 := Lib.hid e4
  have B4 := Lib.hid (b3.trans (b4.mono b3.size))
  have R4 := Lib.hid (h.step B4.out)
  have N0 := Lib.hid ((b4.block _ (lt_of_block n0)).trans n0)
  have N1 := Lib.hid (show VAt 33 W4 (w.heap.size + 1) l from (b4.block _ (lt_of_block n1)).trans n1)
  have N2 := Lib.hid ((b4.block _ (lt_of_block n2)).trans n2)
  have N3 := Lib.hid n3
  have SR := Lib.hid (R4.out.src cap)
  have HZ := Lib.hid (And.intro z3 z4)
  have d00 := (cell_of_row _ _ 0 _ _ _ n0)
  obtain ⟨b0, hb0⟩ : ∃ b, w.heap.size = b := ⟨_, rfl⟩
  obtain ⟨b1, hb1⟩ : ∃ b, b0 + 1 = b := ⟨_, rfl⟩
  obtain ⟨b2, hb2⟩ : ∃ b, b1 + 1 = b := ⟨_, rfl⟩
  obtain ⟨b3', hb3⟩ : ∃ b, W3.heap.size = b := ⟨_, rfl⟩
  rw [hb0] at N0 N1 N2 d00
  rw [hb1] at N1
  rw [show b0 + 2 = b2 by omega] at N2
  rw [hb3] at N3
  have HB := Lib.hid (show b1 + 1 = b2 ∧ b0 + 1 = b1 ∧ b2 + 1 = b3' ∧ w.heap.size = b0 ∧ W4.heap.size = b3' + 1 from ⟨hb2, hb1, by omega, hb0, by omega⟩)
  have LW := Lib.hid (fun (W : World) (h : VAt 33 W b1 l) => load_va v33 W b1 l hl h)
  have LM := Lib.hid (fun (W : World) (g : Nat) (h : W.rangeAt g (i * 65) (mc m)) => (load_m53 hm64 (range_parts hm64 h).1 : (Instr.loadAt 33 (.pointer (some ⟨g, i * 65, none⟩))).run Try.prog W = .ok (.agg (va m.1)) W))
  have JN := Lib.hid (fun W => rjoin_any W m.1 l hm64 hl)
  have HJ := Lib.hid (show (joinF [m.1, l]).length = 64 from jF_len (jF_len zs_len hm64) hl)
  have HMI := Lib.hid hm
  have HNM := Lib.hid (show noteM m l t sure = (joinF [m.1, l], if sure && decide (m.2 < t) then t else m.2) from rfl)
  have HI := Lib.hid (And.intro hi hn)
  have H0L := Lib.hid (show 0 < ms.length by omega)
  have HW64 := Lib.hid h64
  unfold vw rv at *
  generalize joinF [m.1, l] = jj at *
  clear h hm hl e3 e4 b3 b4 n0 n1 n2 n3 z3 z4 hm64 h64
  go_enter Try.func25, Try.ntmps25
  go_upto_region 1 with (fail)
  rw [E3.out]
  go_upto_region 2 with (fail)
  rw [E4.out]
  have KP := Lib.hid (show ∀ w5 : World, W4.grownBy w5 none → w5.cell? ⟨b3', 1, none⟩ = some (.slice none 0 0) ∧ w5.frozen? ⟨b3', 1, none⟩ = false from fun w5 hg =>
    ⟨(World.cell?_of_block (a := ⟨b3', 1, none⟩) (hg.block _ (lt_of_block N3.out) (by simp))).trans (by rw [cell_of_row _ _ _ _ _ _ N3.out]; rfl), (World.frozen?_of_block (a := ⟨b3', 1, none⟩) (hg.block _ (lt_of_block N3.out) (by simp))).trans (frozen_of_row _ _ _ _ _ N3.out)⟩)
  have c31 := cell_of_row _ b3' 1 _ _ _ N3.out
  have c01 := cell_of_row _ b0 1 _ _ _ N0.out
  have h65 := Lib.hid (show (mc mz).toArray.size = 65 by rw [List.size_toArray, mc_len mz mz_len])
  have hmx := Lib.hid (show 0 + ms.length ≤ maxLen by unfold maxLen; have := HI.out.2; omega)
  have hby := Lib.hid (show (0 + ms.length) * 520 ≤ 140737488355328 by have := HI.out.2; omega)
  have OWN := Lib.hid (fun v' w5 (ho : World.ownsRow w5 0 53 65 v' (0 + ms.length) ([] ++ ms.flatMap mc)) (hs : Sprung W4 (.slice none 0 0) v') => own_rat H0L.out HW64.out HI.out.2 ho hs)
  clear d00
  go_upto_region 3 with (refine wpList_append_src_own rfl (.tmp 16) (.tmp 18) 27 27 rfl 0 53 i0 _ 65 520 u27 hq0 hz0 hz1 hz2 h65.out (Nat.succ_pos _) (.slice none 0 0) 0 [] rfl (World.ownsRow_nil _ _ _ _) (.slice (some ⟨q, 0, none⟩) ms.length cap) ms.length (ms.flatMap mc) rfl SR.out hmx.out hby.out (Nat.zero_le _) ?_; intro v' w5 ho hg hs; obtain ⟨g, cap', rfl, hr5, hg5⟩ := OWN.out v' w5 ho hs; have kp1 := (KP.out w5 hg).1; have kp2 := (KP.out w5 hg).2)
  obtain ⟨w6, hw6⟩ : ∃ y, w5.setCell ⟨b3', 1, none⟩ (.slice (some ⟨g, 0, none⟩) ms.length cap') = y := ⟨_, rfl⟩
  have hgN : g ≠ b3' := by have := HB.out.2.2.2.2; omega
  have N3' := Lib.hid (show w6.heap[b3']? = some (.cells #[.int .i64 sf, .slice (some ⟨g, 0, none⟩) ms.length cap'] 29 (0, 0)) by
    rw [← hw6]
    exact row_setC ((hg.block _ (lt_of_block N3.out) (by simp [Value.ownBlock])).trans N3.out))
  have N1' := Lib.hid (show VAt 33 w6 b1 l by
    rw [← hw6]
    exact (Below.heap_setCell _ _ _ _ (by have := HB.out; show b1 ≠ b3'; omega)).trans ((hg.block _ (lt_of_block N1.out) (by simp [Value.ownBlock])).trans N1.out))
  have N2' := Lib.hid (show w6.heap[b2]? = some (.cells #[.int .i64 0, .slice none 0 0] 29 (0, 0)) by
    rw [← hw6]
    exact (Below.heap_setCell _ _ _ _ (by have := HB.out; show b2 ≠ b3'; omega)).trans ((hg.block _ (lt_of_block N2.out) (by simp [Value.ownBlock])).trans N2.out))
  have R6 := Lib.hid (show RAt w6 g ms by rw [← hw6]; exact hr5.setCell hgN _)
  have B6 := Lib.hid (show Below w.heap.size w w6 by
    rw [← hw6]
    exact (B4.out.trans (show Below w.heap.size W4 w5 from ⟨hg.os, hg.tape, hg.output, hg.size, fun k hk => hg.block k (Nat.lt_of_lt_of_le hk B4.out.size) (by simp [Value.ownBlock])⟩)).setCell (p := ⟨b3', 1, none⟩) (by have := HB.out; show w.heap.size ≤ b3'; omega) _)
  have HG := Lib.hid (show w.heap.size ≤ g ∧ g ≠ b3' ∧ g ≠ b2 ∧ g ≠ b1 from ⟨by have := HB.out; omega, hgN, by have := HB.out; omega, by have := HB.out; omega⟩)
  rw [hw6]
  clear hw6 hr5 hg5 ho hg hs kp1 kp2 hgN OWN KP c31 c01 SR hmx hby h65 hz0 hz1 hz2 hq0 R4 N0 N1 N2 N3 B4 E3 E4 hb0 hb1 hb2 hb3 HZ
  have IX := Lib.hid (fun W => index_row W g ms.length cap' i HI.out.1 HI.out.2)
  go_cut [] from 12 (fun wx => wx.heap[b3']? = some (.cells #[.int .i64 sf, .slice (some ⟨g, 0, none⟩) ms.length cap'] 29 (0, 0)) ∧ wx.heap[b2]? = some (.cells #[.int .i64 0, .slice none 0 0] 29 (0, 0)) ∧ RAt wx g (ms.set i (jj, m.2)) ∧ Below w.heap.size w wx)
  case first =>
    refine wp_region_held_drew (S := fun w' => w'.heap[b3']? = some (.cells #[.int .i64 sf, .slice (some ⟨g, 0, none⟩) ms.length cap'] 29 (0, 0)) ∧ VAt 33 w' b1 l) (by kernel_rfl) ⟨N3'.out, N1'.out⟩ (fun hHeld => ?_)
    have LS := Lib.hid (fun W (h : W.heap[b3']? = some (.cells #[.int .i64 sf, .slice (some ⟨g, 0, none⟩) ms.length cap'] 29 (0, 0)) ∧ VAt 33 W b1 l) => load27 W ⟨b3', 1, none⟩ _ (show W.cell? ⟨b3', 1, none⟩ = some (.slice (some ⟨g, 0, none⟩) ms.length cap') by rw [cell_of_row _ _ _ _ _ _ h.1]; rfl))
    have LW6 := Lib.hid (fun W (h : W.heap[b3']? = some (.cells #[.int .i64 sf, .slice (some ⟨g, 0, none⟩) ms.length cap'] 29 (0, 0)) ∧ VAt 33 W b1 l) => LW.out W h.2)
    have RD := Lib.hid (show RAt w6.drew g ms from R6.out.blocks rfl (Nat.le_refl _))
    have LM6 := Lib.hid (LM.out w6.drew g (RD.out.row i m HMI.out))
    refine take_at (i := 0) 21 ?_ rfl rfl (by kernel_rfl) (by kernel_rfl) (by kernel_rfl) (fun _ _ _ h => h) (.inl ⟨rfl, ?_⟩) hHeld ?_
    rotate_left 1
    · intro w hSw; go_simp; try with_reducible rfl
    simp only [Act.put, List.setIfInBounds_toArray, List.set_cons_zero, List.set_cons_succ]
    refine take_at (i := 1) 22 (.slice (some ⟨g, 0, none⟩) ms.length cap') rfl rfl (by kernel_rfl) (by kernel_rfl) (by kernel_rfl) (fun _ _ _ h => h) (yields_ld (.tmp 21) 27 (.pointer (some ⟨b3', 1, none⟩)) _ LS.out rfl rfl rfl) hHeld ?_
    simp only [Act.put, List.setIfInBounds_toArray, List.set_cons_zero, List.set_cons_succ]
    refine take_at (i := 2) 23 ?_ rfl rfl (by kernel_rfl) (by kernel_rfl) (by kernel_rfl) (fun _ _ _ h => h) (.inl ⟨rfl, ?_⟩) hHeld ?_
    rotate_left 1
    · intro w hSw; go_simp; try with_reducible rfl
    simp only [Act.put, List.setIfInBounds_toArray, List.set_cons_zero, List.set_cons_succ]
    refine take_at (i := 3) 24 ?_ rfl rfl (by kernel_rfl) (by kernel_rfl) (by kernel_rfl) (fun _ _ _ h => h) (.inl ⟨rfl, ?_⟩) hHeld ?_
    rotate_left 1
    · intro w hSw; go_simp; try with_reducible rfl
    simp only [Act.put, List.setIfInBounds_toArray, List.set_cons_zero, List.set_cons_succ]
    refine take_at (i := 4) 25 (.slice (some ⟨g, 0, none⟩) ms.length cap') rfl rfl (by kernel_rfl) (by kernel_rfl) (by kernel_rfl) (fun _ _ _ h => h) (yields_ld (.tmp 24) 27 (.pointer (some ⟨b3', 1, none⟩)) _ LS.out rfl rfl rfl) hHeld ?_
    simp only [Act.put, List.setIfInBounds_toArray, List.set_cons_zero, List.set_cons_succ]
    refine take_at (i := 5) 26 ?_ rfl rfl (by kernel_rfl) (by kernel_rfl) (by kernel_rfl) (fun _ _ _ h => h) (.inl ⟨rfl, ?_⟩) hHeld ?_
    rotate_left 1
    · intro w hSw; go_simp; try with_reducible rfl
    simp only [Act.put, List.setIfInBounds_toArray, List.set_cons_zero, List.set_cons_succ]
    refine take_at (i := 6) 27 (.pointer (some ⟨g, i * 65, none⟩)) rfl rfl (by kernel_rfl) (by kernel_rfl) (by kernel_rfl) (fun _ _ _ h => h) (yields_ix (.tmp 25) (.tmp 26) 27 (.slice (some ⟨g, 0, none⟩) ms.length cap') (.int .i64 (i : Int)) _ IX.out rfl rfl rfl rfl) hHeld ?_
    simp only [Act.put, List.setIfInBounds_toArray, List.set_cons_zero, List.set_cons_succ]
    refine take_at (i := 7) 28 ?_ rfl rfl (by kernel_rfl) (by kernel_rfl) (by kernel_rfl) (fun _ _ _ h => h) (.inl ⟨rfl, ?_⟩) hHeld ?_
    rotate_left 1
    · intro w hSw; go_simp; try with_reducible rfl
    simp only [Act.put, List.setIfInBounds_toArray, List.set_cons_zero, List.set_cons_succ]
    refine take_at (i := 9) 30 (.agg (va l)) rfl rfl (by kernel_rfl) (by kernel_rfl) (by kernel_rfl) (fun _ _ _ h => h) (yields_ld (.tmp 7) 33 (.pointer (some ⟨b1, 0, none⟩)) _ LW6.out rfl rfl rfl) hHeld ?_
    simp only [Act.put, List.setIfInBounds_toArray, List.set_cons_zero, List.set_cons_succ]
    refine wpAnyH_ready (rs := [8]) (by kernel_rfl) (by simp) (br_load (i := 8) 29 33 (.tmp 28) (.pointer (some ⟨g, i * 65, none⟩)) (.agg (va m.1)) rfl rfl rfl rfl rfl LM6.out hHeld (fun _ => ?_) AllReadyH.nil)
    simp only [Act.put, List.setIfInBounds_toArray, List.set_cons_zero, List.set_cons_succ]
    refine one_call (i := 10) 31 33 #[.agg (va m.1), .agg (va l)] rfl rfl (by kernel_rfl) rfl (by go_simp) ?_
    refine (JN.out _).mono ?_
    rintro e w7 ⟨rfl, hb7⟩
    refine ⟨_, rfl, ⟨(hb7.block _ (lt_of_block hHeld.1)).trans hHeld.1, hHeld.2.step hb7⟩, fun hH => ?_⟩
    have R7 := Lib.hid (RD.out.step hb7)
    have B7 := Lib.hid (show Below w6.heap.size w6 w7 from (Below.refl w6.heap.size w6).drew.trans hb7)
    clear hb7 hHeld
    have hHeld := hH
    simp only [Act.put, List.setIfInBounds_toArray, List.set_cons_zero, List.set_cons_succ]
    refine take_at (i := 11) 32 (.pointer (some ⟨g, i * 65, none⟩)) rfl rfl (by kernel_rfl) (by kernel_rfl) (by kernel_rfl) (fun _ _ _ h => h) (yields_ix (.tmp 22) (.tmp 23) 27 (.slice (some ⟨g, 0, none⟩) ms.length cap') (.int .i64 (i : Int)) _ IX.out rfl rfl rfl rfl) hHeld ?_
    simp only [Act.put, List.setIfInBounds_toArray, List.set_cons_zero, List.set_cons_succ]
    refine take_at (i := 12) 33 ?_ rfl rfl (by kernel_rfl) (by kernel_rfl) (by kernel_rfl) (fun _ _ _ h => h) (.inl ⟨rfl, ?_⟩) hHeld ?_
    rotate_left 1
    · intro w hSw; go_simp; try with_reducible rfl
    simp only [Act.put, List.setIfInBounds_toArray, List.set_cons_zero, List.set_cons_succ]
    have S7 := Lib.hid (run_storeAt_mid (P := Try.prog) w7 g (i * 65) 33 (va jj) (fun j hj => R7.out.may i HI.out.1 j (by rw [va_size, HJ.out] at hj; omega)) (by rw [va_size, HJ.out]; exact v33.2) (by rw [va_list]; exact all_oneCell_toArray (fun v hv => by obtain ⟨x, _, rfl⟩ := List.mem_map.1 hv; rfl)))
    have gr := Lib.hid (grown_cells (q := g) (below_grown B7.out (some g)) (va jj).toList (i * 65))
    have HF := Lib.hid (show (w7.setCells g (i * 65) (va jj).toList).heap[b3']? = some (.cells #[.int .i64 sf, .slice (some ⟨g, 0, none⟩) ms.length cap'] 29 (0, 0)) ∧ (w7.setCells g (i * 65) (va jj).toList).heap[b2]? = some (.cells #[.int .i64 0, .slice none 0 0] 29 (0, 0)) ∧ RAt (w7.setCells g (i * 65) (va jj).toList) g (ms.set i (jj, m.2)) ∧ Below w.heap.size w (w7.setCells g (i * 65) (va jj).toList) from
      ⟨(gr.out.block _ (lt_of_block N3'.out) (fun e => HG.out.2.1 (by injection e with e; exact e.symm))).trans N3'.out, (gr.out.block _ (lt_of_block N2'.out) (fun e => HG.out.2.2.1 (by injection e with e; exact e.symm))).trans N2'.out, R7.out.wrote HMI.out HJ.out, below_own B6.out HG.out.1 gr.out⟩)
    have HS := Lib.hid ((gr.out.block _ (lt_of_block N1'.out) (fun e => HG.out.2.2.2 (by injection e with e; exact e.symm))).trans N1'.out)
    refine wpAnyH_ready (rs := [13]) (by kernel_rfl) (by simp) (br_store 33 (.tmp 33) (.tmp 31) (.pointer (some ⟨g, i * 65, none⟩)) (.agg (va jj)) _ rfl rfl rfl rfl rfl rfl S7.out ⟨HF.out.1, HS.out⟩ (fun _ => ?_) AllReadyH.nil)
    simp only [Act.put]
    refine wpAnyH_done (by kernel_rfl) ?_ _
    go_wp2_with fail
    go_meet
    exact HF.out
  case rest =>
    obtain ⟨f3, f2, hr, hb⟩ := hcut
    have F2 := Lib.hid f2
    have BB := Lib.hid hb
    have RR := Lib.hid hr
    have hset : ms[i]? = some m := HMI.out
    have hmi : (ms.set i (jj, m.2))[i]? = some (jj, m.2) := by rw [List.getElem?_set, if_pos rfl, if_pos HI.out.1]
    have dT : wc.cell? ⟨g, i * 65 + 64, none⟩ = some (.int .i64 m.2) := (range_parts HJ.out (hr.row i _ hmi)).2
    have fT : wc.frozen? ⟨g, i * 65 + 64, none⟩ = false := (hr.may i (by rw [List.length_set]; exact HI.out.1) 64 (by omega)).2
    have c30 := cell_of_row _ b3' 0 _ _ _ f3
    have c31 := cell_of_row _ b3' 1 _ _ _ f3
    have c20 := cell_of_row _ b2 0 _ _ _ f2
    have c21 := cell_of_row _ b2 1 _ _ _ f2
    have f20 := frozen_of_row _ b2 0 _ _ f2
    have f21 := frozen_of_row _ b2 1 _ _ f2
    obtain ⟨hi1, hi2⟩ := HI.out
    have hix1 : (0 : Int) ≤ (i : Int) := by omega
    have hix2 : (i : Int) < (ms.length : Int) := by omega
    have HSET := Lib.hid (fun (x : Int) => (show (ms.set i (jj, m.2)).set i (jj, x) = ms.set i (jj, x) from by rw [List.set_set]))
    have F3 := Lib.hid f3
    have HMX := Lib.hid hmi
    have hbn : b2 ≠ b3' := by have := HB.out; omega
    have hgb := HG.out
    have e1 := Lib.hid (show (b3' == b2) = false by simp; omega)
    clear f3 f2 hr hb hset hmi R6 N1' N2' N3' B6 LM LW JN IX HW64
    have hle := Lib.hid (show w.heap.size ≤ b2 by have := HB.out; omega)
    cases sure with
    | false =>
      have HE := Lib.hid (show noteM m l t false = (jj, m.2) by rw [HNM.out]; rfl)
      go_wp2
      refine bodyPost_ret (by simp [results, Try.results25, go_sem, c20, c21]; try rfl) rfl ?_
      first
      | exact ⟨g, cap', rfl, by rw [HE.out]; exact (RR.out.setCell hgb.2.2.1 _).setCell hgb.2.2.1 _, (BB.out.setCell (p := ⟨b2, 0, none⟩) hle.out _).setCell (p := ⟨b2, 1, none⟩) hle.out _, hgb.1⟩
      | exact ⟨g, ⟨cap', rfl⟩, by rw [HE.out]; exact (RR.out.setCell hgb.2.2.1 _).setCell hgb.2.2.1 _, (BB.out.setCell (p := ⟨b2, 0, none⟩) hle.out _).setCell (p := ⟨b2, 1, none⟩) hle.out _, hgb.1⟩
    | true =>
      by_cases hlt : m.2 < t
      · have HE := Lib.hid (show noteM m l t true = (jj, t) by rw [HNM.out, decide_eq_true hlt]; rfl)
        have RT := Lib.hid (RR.out.timed HMX.out t)
        rw [HSET.out t] at RT
        go_upto_region 5 with (fail)
        have k30 := Lib.hid F3.out
        go_upto_region 6 with (fail)
        obtain ⟨w8, hw8⟩ : ∃ y, wc.setCell ⟨g, i * 65 + 64, none⟩ (.int .i64 t) = y := ⟨_, rfl⟩
        have F38 := (show w8.heap[b3']? = some (.cells #[.int .i64 sf, .slice (some ⟨g, 0, none⟩) ms.length cap'] 29 (0, 0)) by rw [← hw8]; exact (Below.heap_setCell _ _ _ _ (fun e => hgb.2.1 e.symm)).trans F3.out)
        have F28 := (show w8.heap[b2]? = some (.cells #[.int .i64 0, .slice none 0 0] 29 (0, 0)) by rw [← hw8]; exact (Below.heap_setCell _ _ _ _ (fun e => hgb.2.2.1 e.symm)).trans F2.out)
        have B8 := Lib.hid (show Below w.heap.size w w8 by rw [← hw8]; exact BB.out.setCell (p := ⟨g, i * 65 + 64, none⟩) hgb.1 _)
        rw [hw8] at RT ⊢
        clear hw8 dT fT c30 c31 c20 c21 f20 f21
        have c30 := cell_of_row _ b3' 0 _ _ _ F38
        have c31 := cell_of_row _ b3' 1 _ _ _ F38
        have c20 := cell_of_row _ b2 0 _ _ _ F28
        have c21 := cell_of_row _ b2 1 _ _ _ F28
        have f20 := frozen_of_row _ b2 0 _ _ F28
        have f21 := frozen_of_row _ b2 1 _ _ F28
        clear F38 F28
        go_wp2
        refine bodyPost_ret (by simp [results, Try.results25, go_sem, c20, c21]; try rfl) rfl ?_
        first
        | exact ⟨g, cap', rfl, by rw [HE.out]; exact (RT.out.setCell hgb.2.2.1 _).setCell hgb.2.2.1 _, (B8.out.setCell (p := ⟨b2, 0, none⟩) hle.out _).setCell (p := ⟨b2, 1, none⟩) hle.out _, hgb.1⟩
        | exact ⟨g, ⟨cap', rfl⟩, by rw [HE.out]; exact (RT.out.setCell hgb.2.2.1 _).setCell hgb.2.2.1 _, (B8.out.setCell (p := ⟨b2, 0, none⟩) hle.out _).setCell (p := ⟨b2, 1, none⟩) hle.out _, hgb.1⟩
      · have HE := Lib.hid (show noteM m l t true = (jj, m.2) by rw [HNM.out, decide_eq_false hlt]; rfl)
        go_wp2
        refine bodyPost_ret (by simp [results, Try.results25, go_sem, c20, c21]; try rfl) rfl ?_
        first
        | exact ⟨g, cap', rfl, by rw [HE.out]; exact (RR.out.setCell hgb.2.2.1 _).setCell hgb.2.2.1 _, (BB.out.setCell (p := ⟨b2, 0, none⟩) hle.out _).setCell (p := ⟨b2, 1, none⟩) hle.out _, hgb.1⟩
        | exact ⟨g, ⟨cap', rfl⟩, by rw [HE.out]; exact (RR.out.setCell hgb.2.2.1 _).setCell hgb.2.2.1 _, (BB.out.setCell (p := ⟨b2, 0, none⟩) hle.out _).setCell (p := ⟨b2, 1, none⟩) hle.out _, hgb.1⟩
end Go.Proofs.Ytgemlkccdcbpdaa
