/- The reference's nets: rows apart from the program's own memory; Look. -/
import Derived.Test.YtdocfoienbadhaaNK
set_option linter.unusedVariables false
namespace Go.Proofs.Ytdocfoienbadhaa
open Go.RowKit

def LiesN (N : Nat → Prop) (w : World) (v : Value) (bs : List Nat) : Prop := Lies w v bs ∧ ∀ k o n c, v = .slice (some ⟨k, o, none⟩) n c → bs ≠ [] → ¬ N k
structure FlN (N : Nat → Prop) (w : World) (f : Fl) : Prop where
  lies : LiesN N w f.bv f.bs
  byt : Byt f.bs
  len : f.bs.length ≤ 1000
def RowsN (N : Nat → Prop) (w : World) (v : Value) (rl : List Fl) : Prop := ∃ ao cap, v = .slice ao rl.length cap ∧ rl.length ≤ 256 ∧ ∀ (i : Nat) f, rl[i]? = some f →
  (∃ g o, ao = some ⟨g, o, none⟩ ∧ g < w.heap.size ∧ ¬ N g ∧ w.cell? ⟨g, o + i * 3, none⟩ = some (.int .i64 f.dst) ∧ w.cell? ⟨g, o + i * 3 + 1, none⟩ = some f.bv ∧ w.cell? ⟨g, o + i * 3 + 2, none⟩ = some (.bool f.hurt)) ∧ FlN N w f
theorem LiesN.move {N N' : Nat → Prop} {w w' : World} {v : Value} {bs : List Nat} (h : LiesN N w v bs) (hs : w.heap.size ≤ w'.heap.size) (hk : ∀ k, k < w.heap.size → ¬ N k → w'.heap[k]? = w.heap[k]? ∧ ¬ N' k) : LiesN N' w' v bs := by
  obtain ⟨⟨ao, cap, rfl, h1, h2, h3, h4⟩, h5⟩ := h
  refine ⟨⟨ao, cap, rfl, h1, h2, h3, fun b hb hne => ?_⟩, fun k o n c e hne => ?_⟩
  · obtain ⟨k, o, rfl, hlt, hx⟩ := h4 b hb hne
    have := hk k hlt (h5 k o _ _ (by rw [hb]) hne)
    exact ⟨k, o, rfl, Nat.lt_of_lt_of_le hlt hs, fun j x hj => (World.cell?_of_block (a := ⟨k, o + j, none⟩) this.1).trans (hx j x hj)⟩
  · injection e with e e1 e2
    obtain ⟨k', o', e3, hlt, hx⟩ := h4 _ e hne
    injection e3 with e3 e4
    subst e3
    exact (hk k hlt (h5 k o _ _ (by rw [e]) hne)).2
theorem FlN.move {N N' : Nat → Prop} {w w' : World} {f : Fl} (h : FlN N w f) (hs : w.heap.size ≤ w'.heap.size) (hk : ∀ k, k < w.heap.size → ¬ N k → w'.heap[k]? = w.heap[k]? ∧ ¬ N' k) : FlN N' w' f := ⟨h.lies.move hs hk, h.byt, h.len⟩
theorem RowsN.move {N N' : Nat → Prop} {w w' : World} {v : Value} {rl : List Fl} (h : RowsN N w v rl) (hs : w.heap.size ≤ w'.heap.size) (hk : ∀ k, k < w.heap.size → ¬ N k → w'.heap[k]? = w.heap[k]? ∧ ¬ N' k) : RowsN N' w' v rl := by
  obtain ⟨ao, cap, rfl, hl, hx⟩ := h
  refine ⟨ao, cap, rfl, hl, fun i f hf => ?_⟩
  obtain ⟨⟨g, o, e, hg, hn, c0, c1, c2⟩, hf2⟩ := hx i f hf
  have q := hk g hg hn
  exact ⟨⟨g, o, e, Nat.lt_of_lt_of_le hg hs, q.2, (World.cell?_of_block (a := ⟨g, o + i * 3, none⟩) q.1).trans c0, (World.cell?_of_block (a := ⟨g, o + i * 3 + 1, none⟩) q.1).trans c1, (World.cell?_of_block (a := ⟨g, o + i * 3 + 2, none⟩) q.1).trans c2⟩, hf2.move hs hk⟩
theorem RowsN.step {N : Nat → Prop} {w w' : World} {v : Value} {rl : List Fl} (h : RowsN N w v rl) (hb : Below w.heap.size w w') : RowsN N w' v rl := h.move hb.size fun k hk hn => ⟨hb.block k hk, hn⟩
theorem FlN.step {N : Nat → Prop} {w w' : World} {f : Fl} (h : FlN N w f) (hb : Below w.heap.size w w') : FlN N w' f := h.move hb.size fun k hk hn => ⟨hb.block k hk, hn⟩
theorem LiesN.step {N : Nat → Prop} {w w' : World} {v : Value} {bs : List Nat} (h : LiesN N w v bs) (hb : Below w.heap.size w w') : LiesN N w' v bs := h.move hb.size fun k hk hn => ⟨hb.block k hk, hn⟩
theorem RowsN.kp {w w' : World} {p : Nat} {fv fv' : Value} {fl fl' : List Fl} {v : Value} {rl : List Fl} (h : RowsN (NOwn p fv fl) w v rl) (k : Kp w w' p fv fl fv' fl') : RowsN (NOwn p fv' fl') w' v rl :=
  h.move k.size fun j hj hn => ⟨k.keep j hj hn, fun e => (k.own j e).elim hn (fun h => by omega)⟩
theorem RowsN.shape {N : Nat → Prop} {w : World} {v : Value} {rl : List Fl} (h : RowsN N w v rl) : ∃ ao cap, v = .slice ao rl.length cap := by obtain ⟨ao, cap, e, _⟩ := h; exact ⟨ao, cap, e⟩
theorem FlN.shape {N : Nat → Prop} {w : World} {f : Fl} (h : FlN N w f) : ∃ ao cap, f.bv = .slice ao f.bs.length cap := by obtain ⟨⟨⟨ao, cap, e, _⟩, _⟩, _, _⟩ := h; exact ⟨ao, cap, e⟩
theorem own_rowsN {N : Nat → Prop} {B : Nat} {W : World} {v : Value} {rl : List Fl} (h : W.ownsRow B 32 3 v rl.length (flat rl)) (hN : ∀ k, N k → k < B) (hl : rl.length ≤ 256) (hf : ∀ f ∈ rl, FlN N W f) : RowsN N W v rl := by
  obtain ⟨ao, cap, rfl⟩ := own_shape h
  refine ⟨ao, cap, rfl, hl, fun i f hi => ⟨?_, hf f (List.mem_iff_getElem?.2 ⟨i, hi⟩)⟩⟩
  have hlt := (List.getElem?_eq_some_iff.1 hi).1
  obtain ⟨a0, a1, a2⟩ := flat_at rl i f hi
  have h2 := h
  rcases h.2 with ⟨_, e⟩ | ⟨g, cap', cur, e, hB, hg, _⟩
  · omega
  · injection e with e e1 e2
    subst e e2
    refine ⟨g, 0, rfl, lt_of_block hg, fun hn => by have := hN g hn; omega, ?_, ?_, ?_⟩
    · rw [Nat.zero_add]; exact (h2.cellAt _ (by omega)).trans a0
    · rw [Nat.zero_add]; exact (h2.cellAt _ (by omega)).trans a1
    · rw [Nat.zero_add]; exact (h2.cellAt _ (by omega)).trans a2
theorem ut27 : Try.prog.underlying 27 = some (.slice 32) := by kernel_rfl
theorem i32 : (Try.prog.info? 32).map (fun i => (i.zero, i.size, i.bytes)) = some (some (.agg #[.int .i64 0, .slice none 0 0, .bool false]), 3, 40) := by kernel_rfl
theorem flat_one {N : Nat → Prop} {w : World} : ∀ (rl : List Fl), (∀ f ∈ rl, FlN N w f) → ∀ u ∈ flat rl, u.oneCell' = true
  | [], _, u, hu => by cases hu
  | f :: r, h, u, hu => by
    have e : flat (f :: r) = fc f ++ flat r := rfl
    rw [e] at hu
    rcases List.mem_append.1 hu with hu | hu
    · obtain ⟨ao, cap, hb⟩ := (h f (List.mem_cons_self ..)).shape
      unfold fc at hu
      rw [hb] at hu
      simp at hu
      rcases hu with rfl | rfl | rfl <;> rfl
    · exact flat_one r (fun g hg => h g (List.mem_cons_of_mem _ hg)) u hu
theorem RowsN.fls {N : Nat → Prop} {w : World} {v : Value} {rl : List Fl} (h : RowsN N w v rl) : ∀ f ∈ rl, FlN N w f := fun f hf => by
  obtain ⟨i, hi⟩ := List.mem_iff_getElem?.1 hf
  obtain ⟨_, _, _, _, hx⟩ := h
  exact (hx i f hi).2
theorem flat_div : ∀ (rl : List Fl) (k : Nat) u, (flat rl)[k]? = some u → ∃ i f, rl[i]? = some f ∧ ((k = i * 3 ∧ u = .int .i64 f.dst) ∨ (k = i * 3 + 1 ∧ u = f.bv) ∨ (k = i * 3 + 2 ∧ u = .bool f.hurt))
  | [], k, u, h => by simp [flat] at h
  | f :: r, 0, u, h => ⟨0, f, rfl, .inl ⟨rfl, by injection h with h; exact h.symm⟩⟩
  | f :: r, 1, u, h => ⟨0, f, rfl, .inr (.inl ⟨rfl, by injection h with h; exact h.symm⟩)⟩
  | f :: r, 2, u, h => ⟨0, f, rfl, .inr (.inr ⟨rfl, by injection h with h; exact h.symm⟩)⟩
  | f :: r, k + 3, u, h => by
    obtain ⟨i, g, hg, hx⟩ := flat_div r k u h
    refine ⟨i + 1, g, hg, ?_⟩
    rcases hx with ⟨e, hu⟩ | ⟨e, hu⟩ | ⟨e, hu⟩
    · exact .inl ⟨by omega, hu⟩
    · exact .inr (.inl ⟨by omega, hu⟩)
    · exact .inr (.inr ⟨by omega, hu⟩)
theorem RowsN.src {N : Nat → Prop} {w : World} {v : Value} {rl : List Fl} (h : RowsN N w v rl) : Src Try.prog 3 27 v rl.length (flat rl) w := by
  have hf := h.fls
  obtain ⟨ao, cap, rfl, hl, hx⟩ := h
  cases ao with
  | none =>
    cases rl with
    | nil => exact Src.ofNil _ ut27 cap
    | cons f r =>
      obtain ⟨⟨g, o, e, _⟩, _⟩ := hx 0 f rfl
      cases e
  | some b =>
    refine Src.ofSlice _ ut27 _ _ _ _ (flat_len rl) (fun k u hk => ?_) (flat_one rl hf)
    obtain ⟨i, f, hi, hcase⟩ := flat_div rl k u hk
    obtain ⟨⟨g, o, e, _, _, c0, c1, c2⟩, _⟩ := hx i f hi
    injection e with e
    subst e
    rw [add_addr]
    rcases hcase with ⟨e, hu⟩ | ⟨e, hu⟩ | ⟨e, hu⟩
    · rw [e, hu]; exact c0
    · rw [e, hu]; exact c1
    · rw [e, hu]; exact c2
theorem src32 (W : World) (d : Int) (a : Option Addr) (n c : Nat) (h : Bool) (f : Fl) (hd : f.dst = d) (hb : f.bv = .slice a n c) (hh : f.hurt = h) : Src Try.prog 3 27 (.slice (some ⟨W.heap.size, 0, none⟩) 1 1) 1 (fc f) (W.alloc (.cells #[.int .i64 d, .slice a n c, .bool h] 32)) := by
  refine Src.ofSlice _ ut27 _ 1 1 _ rfl (fun k u hk => ?_) (fun u hu => ?_)
  · rw [add_addr, Nat.zero_add, cell_of_row _ _ _ _ _ _ (heap_alloc_new W _)]
    unfold fc at hk
    rw [hb, hd, hh] at hk
    match k, hk with
    | 0, hk => exact hk
    | 1, hk => exact hk
    | 2, hk => exact hk
    | k + 3, hk => simp at hk
  · unfold fc at hu
    rw [hb] at hu
    simp at hu
    rcases hu with rfl | rfl | rfl <;> rfl
/-- A box made. -/
theorem boxed (w : World) (c : Array Value) (t : TypeId) : ∃ W, w.alloc (.cells c t) = W ∧ Below w.heap.size w W ∧ W.heap[w.heap.size]? = some (.cells c t (0, 0)) ∧ W.heap.size = w.heap.size + 1 :=
  ⟨_, rfl, vstep w _, heap_alloc_new w _, Array.size_push _⟩
def nv (v : Value) (lost : Int) : Value := .agg #[v, .int .i64 lost]
set_option maxRecDepth 100000 in
set_option maxHeartbeats 1600000 in
theorem rlook_in (N : Nat → Prop) (w : World) (rv : Value) (rl : List Fl) (lost : Int) (h : RowsN N w rv rl) (i : Nat) (f : Fl) (hf : rl[i]? = some f) :
    Calls Try.prog 12 #[nv rv lost, .int .i64 (i : Int)] w fun e w' => e = .returned (.tuple #[flv f f.bv, .int .i64 0]) ∧ Below w.heap.size w w' := by
  obtain ⟨ao, cap, rfl, hl, hx⟩ := h
  have hi := (List.getElem?_eq_some_iff.1 hf).1
  obtain ⟨⟨g, o, rfl, hg, _, c0, c1, c2⟩, hfn⟩ := hx i f hf
  obtain ⟨ab, cb, hbv⟩ := hfn.shape
  obtain ⟨W1, e1, B1, R1, s1⟩ := boxed w #[.slice (some ⟨g, o, none⟩) rl.length cap, .int .i64 lost] 29
  obtain ⟨W2, e2, B2, R2, s2⟩ := boxed W1 #[.int .i64 0, .slice none 0 0, .bool false] 32
  have E1 := Lib.hid e1
  have E2 := Lib.hid e2
  have BB := B1.trans (B2.mono B1.size)
  have d0 := (BB.cell (p := ⟨g, o + i * 3, none⟩) hg).trans c0
  have d1 := (BB.cell (p := ⟨g, o + i * 3 + 1, none⟩) hg).trans c1
  have d2 := (BB.cell (p := ⟨g, o + i * 3 + 2, none⟩) hg).trans c2
  have HB := Lib.hid BB
  have K1 := (B2.block _ (lt_of_block R1)).trans R1
  obtain ⟨z, hz⟩ : ∃ z, w.heap.size = z := ⟨_, rfl⟩
  rw [hz] at s1 K1
  rw [s1] at R2
  have k0 := cell_of_row _ z 0 _ _ _ K1
  have r0 := cell_of_row _ (z + 1) 0 _ _ _ R2
  have r1 := cell_of_row _ (z + 1) 1 _ _ _ R2
  have r2 := cell_of_row _ (z + 1) 2 _ _ _ R2
  have g0 := frozen_of_row _ (z + 1) 0 _ _ R2
  have g1 := frozen_of_row _ (z + 1) 1 _ _ R2
  have g2 := frozen_of_row _ (z + 1) 2 _ _ R2
  simp at k0 r0 r1 r2
  rw [hbv] at d1
  have hi1 : (0 : Int) ≤ (i : Int) := by omega
  have hi2 : (i : Int) < (rl.length : Int) := by omega
  have HZ := Lib.hid hz
  unfold nv flv
  rw [hbv]
  clear e1 e2 B1 B2 R1 R2 s2 BB K1 c0 c1 c2 hx hf hbv hfn
  go_enter Try.func12, Try.ntmps12
  go_upto_region 1 with (fail)
  rw [E1.out, E2.out]
  go_wp2
  refine bodyPost_ret (by simp [results, Try.results12, go_sem, r0, r1, r2]; try rfl) rfl ?_
  first
  | exact ⟨rfl, below_three HB.out (by have := HZ.out; omega) _ _ _⟩
  | exact below_three HB.out (by have := HZ.out; omega) _ _ _
  | (rw [← HZ.out]; exact ⟨rfl, below_three HB.out (by omega) _ _ _⟩)
set_option maxRecDepth 100000 in
set_option maxHeartbeats 1600000 in
theorem rlook_out (N : Nat → Prop) (w : World) (rv : Value) (rl : List Fl) (lost : Int) (h : RowsN N w rv rl) (k : Int) (hk : ¬ (0 ≤ k ∧ k < (rl.length : Int))) :
    Calls Try.prog 12 #[nv rv lost, .int .i64 k] w fun e w' => e = .returned (.tuple #[flz, .int .i64 8]) ∧ Below w.heap.size w w' := by
  obtain ⟨ao, cap, rfl, hl, hx⟩ := h
  obtain ⟨W1, e1, B1, R1, s1⟩ := boxed w #[.slice ao rl.length cap, .int .i64 lost] 29
  obtain ⟨W2, e2, B2, R2, s2⟩ := boxed W1 #[.int .i64 0, .slice none 0 0, .bool false] 32
  have E1 := Lib.hid e1
  have E2 := Lib.hid e2
  have HB := Lib.hid (B1.trans (B2.mono B1.size))
  have K1 := (B2.block _ (lt_of_block R1)).trans R1
  obtain ⟨z, hz⟩ : ∃ z, w.heap.size = z := ⟨_, rfl⟩
  rw [hz] at s1 K1
  rw [s1] at R2
  have k0 := cell_of_row _ z 0 _ _ _ K1
  have r0 := cell_of_row _ (z + 1) 0 _ _ _ R2
  have r1 := cell_of_row _ (z + 1) 1 _ _ _ R2
  have r2 := cell_of_row _ (z + 1) 2 _ _ _ R2
  have g0 := frozen_of_row _ (z + 1) 0 _ _ R2
  have g1 := frozen_of_row _ (z + 1) 1 _ _ R2
  have g2 := frozen_of_row _ (z + 1) 2 _ _ R2
  simp at k0 r0 r1 r2
  have HZ := Lib.hid hz
  unfold nv flz
  clear e1 e2 B1 B2 R1 R2 s2 K1 hx
  by_cases h1 : k < 0
  · clear hk
    go_enter Try.func12, Try.ntmps12
    go_upto_region 1 with (fail)
    rw [E1.out, E2.out]
    go_wp2
    refine bodyPost_ret (by simp [results, Try.results12, go_sem, r0, r1, r2]; try rfl) rfl ?_
    first
    | exact ⟨rfl, below_three HB.out (by have := HZ.out; omega) _ _ _⟩
    | exact below_three HB.out (by have := HZ.out; omega) _ _ _
    | (rw [← HZ.out]; exact ⟨rfl, below_three HB.out (by omega) _ _ _⟩)
  · have h2 : (rl.length : Int) ≤ k := by omega
    clear hk
    go_enter Try.func12, Try.ntmps12
    go_upto_region 1 with (fail)
    rw [E1.out, E2.out]
    go_wp2
    refine bodyPost_ret (by simp [results, Try.results12, go_sem, r0, r1, r2]; try rfl) rfl ?_
    first
    | exact ⟨rfl, below_three HB.out (by have := HZ.out; omega) _ _ _⟩
    | exact below_three HB.out (by have := HZ.out; omega) _ _ _
    | (rw [← HZ.out]; exact ⟨rfl, below_three HB.out (by omega) _ _ _⟩)
end Go.Proofs.Ytdocfoienbadhaa
