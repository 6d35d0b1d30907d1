/- slices.DeleteFunc at ops, fold.Known. Made by genfn15.py. -/
import Derived.Test.YtbeodechhneeeaaDoorFL
set_option linter.unusedVariables false
set_option linter.unusedSimpArgs false
set_option maxRecDepth 100000
namespace Go.Proofs.YtbeodechhneeeaaDoor
open Go.RowKit Go.Shelf
open Tb (Rw setF getF aboveF Rise TabI TM LiesK LiesR ltS encS Sp)
open Vx (va vw)

/-! ### a row of ops that is written over -/
def R9 (W : World) (g : Nat) (D : List O) : Prop := g < W.heap.size ∧ ∀ (j : Nat) x, D[j]? = some x → ∀ (c : Nat) u, (oc x)[c]? = some u → W.cell? ⟨g, j * 9 + c, none⟩ = some u ∧ W.frozen? ⟨g, j * 9 + c, none⟩ = false
theorem R9.of_own {W : World} {B g n cap : Nat} {D : List O} (h : W.ownsRow B 48 9 (.slice (some ⟨g, 0, none⟩) n cap) D.length (cs9 D)) : R9 W g D := by
  have hl := own_olies h
  rcases h.2 with ⟨e, _⟩ | ⟨g', cap', cur, e, hB, hg, _⟩
  · cases e
  · injection e with e1 e2 e3
    injection e1 with e1
    injection e1 with e1
    subst e1
    refine ⟨lt_of_block hg, fun j x hj c u hc => ⟨?_, frozen_of_row _ _ _ _ _ hg⟩⟩
    obtain ⟨ao, cp, e, _, _, _, hcell⟩ := hl
    injection e with e _ _
    subst e
    obtain ⟨g2, k2, e, _, hcell⟩ := hcell _ rfl (fun q => by rw [q] at hj; cases hj)
    injection e with e4 e5
    subst e4 e5
    have := hcell j x hj c u hc
    rwa [Nat.zero_add] at this
theorem R9.step {W W' : World} {g : Nat} {D : List O} (h : R9 W g D) (hb : Below W.heap.size W W') : R9 W' g D :=
  ⟨Nat.lt_of_lt_of_le h.1 hb.size, fun j x hj c u hc => ⟨(hb.cell (p := ⟨g, j * 9 + c, none⟩) h.1).trans (h.2 j x hj c u hc).1, (World.frozen?_of_block (a := ⟨g, j * 9 + c, none⟩) (hb.block g h.1)).trans (h.2 j x hj c u hc).2⟩⟩
theorem setCells_size (b : Nat) : ∀ (vs : List Value) (o : Nat) (W : World), (W.setCells b o vs).heap.size = W.heap.size
  | [], _, _ => rfl
  | v :: r, o, W => by rw [World.setCells, setCells_size b r]; simp [World.setCell]
theorem below_sc {B g : Nat} (hg : B ≤ g) : ∀ (vs : List Value) (o : Nat) (w : World), Below B w (w.setCells g o vs)
  | [], _, w => Below.refl B w
  | v :: r, o, w => ((Below.refl B w).setCell (p := ⟨g, o, none⟩) hg v).trans (below_sc hg r (o + 1) _)
theorem heap_sc {g i : Nat} (hn : i ≠ g) : ∀ (vs : List Value) (o : Nat) (w : World), (w.setCells g o vs).heap[i]? = w.heap[i]?
  | [], _, w => rfl
  | v :: r, o, w => (heap_sc hn r (o + 1) _).trans (Below.heap_setCell _ _ _ _ (fun e => hn e))
theorem R9.cells {W : World} {g : Nat} {D : List O} (h : R9 W g D) {i : Nat} (hi : i < D.length) (c : Nat) (hc : c < 9) : (W.cell? ⟨g, i * 9 + c, none⟩).isSome = true ∧ W.frozen? ⟨g, i * 9 + c, none⟩ = false := by
  have h1 := h.2 i D[i] (List.getElem?_eq_getElem hi) c _ (List.getElem?_eq_getElem (by rw [oc_len]; exact hc))
  exact ⟨by rw [h1.1]; rfl, h1.2⟩
theorem set9_in {W : World} {g : Nat} {D : List O} (h : R9 W g D) {i : Nat} (hi : i < D.length) (vs : List Value) (hv : vs.length = 9) (c : Nat) (u : Value) (hc : vs[c]? = some u) : (W.setCells g (i * 9) vs).cell? ⟨g, i * 9 + c, none⟩ = some u := by
  have hc9 := (List.getElem?_eq_some_iff.1 hc).1
  have q := World.cell?_setCells_in g vs (i * 9) W (fun c hc => (h.cells hi c (by rw [hv] at hc; exact hc)).1) c hc9
  rw [q, ← hc, List.getElem?_eq_getElem hc9]
theorem set9_out {W : World} {g : Nat} {D : List O} (h : R9 W g D) {i j : Nat} (hij : i ≠ j) (vs : List Value) (hv : vs.length = 9) (c : Nat) (hc : c < 9) : (W.setCells g (i * 9) vs).cell? ⟨g, j * 9 + c, none⟩ = W.cell? ⟨g, j * 9 + c, none⟩ :=
  World.cell?_setCells_out g vs (i * 9) W ⟨g, j * 9 + c, none⟩ (fun _ _ => by
    show j * 9 + c < i * 9 ∨ i * 9 + vs.length ≤ j * 9 + c
    rw [hv]
    omega)
theorem R9.set {W : World} {g : Nat} {D : List O} (h : R9 W g D) {i : Nat} (hi : i < D.length) (x : O) : R9 (W.setCells g (i * 9) (oc x)) g (D.set i x) := by
  have ho := oc_len x
  have hin := fun c u hc => set9_in h hi (oc x) ho c u hc
  have hout := fun j (hij : i ≠ j) c hc => set9_out h hij (oc x) ho c hc
  have hfz := fun a => World.frozen?_setCells g (oc x) (i * 9) W a
  have hsz := setCells_size g (oc x) (i * 9) W
  generalize W.setCells g (i * 9) (oc x) = W2 at *
  refine ⟨by rw [hsz]; exact h.1, fun j y hj c u hc => ?_⟩
  have hc9 : c < 9 := by have := (List.getElem?_eq_some_iff.1 hc).1; rwa [oc_len] at this
  have hj' := (List.getElem?_eq_some_iff.1 hj).1
  rw [List.length_set] at hj'
  rw [hfz]
  refine ⟨?_, (h.cells hj' c hc9).2⟩
  by_cases e : i = j
  · subst e
    rw [List.getElem?_set_self hi] at hj
    have hj := Option.some.inj hj
    rw [← hj] at hc
    exact hin c u hc
  · rw [List.getElem?_set_ne e] at hj
    exact (hout j e c hc9).trans (h.2 j y hj c u hc).1
theorem sto9 {W : World} {g : Nat} {D : List O} (h : R9 W g D) {i : Nat} (hi : i < D.length) (x : O) :
    (Instr.storeAt 48 (.pointer (some ⟨g, i * 9, none⟩)) (.agg #[.int .i64 x.t, .int .i64 x.r, .int .i64 x.q, .int .i64 x.nt, .int .i64 x.nr, .int .i64 x.pt, .int .i64 x.pr, .string x.nm, .bool x.d])).run Tryd.prog W = .ok () (W.setCells g (i * 9) (oc x)) := by
  have hst := run_storeCells_cells (P := Tryd.prog) g (i * 9) (oc x) 0 W (fun c hc => by rw [Nat.add_zero]; exact (h.cells hi c (by rw [oc_len] at hc; exact hc)).1) (fun c hc => by rw [Nat.add_zero]; exact (h.cells hi c (by rw [oc_len] at hc; exact hc)).2) (oc_one x)
  rw [Nat.add_zero] at hst
  have hz := run_size34 W
  unfold Instr.storeAt storeVar
  simp only [Instr.sureAddr, Sem.run_bind, Sem.run_pure, Result.andThen_ok, hz]
  exact hst
theorem zc_len (n : Nat) : (Builtin.zeroCells (oCells O0) n).toList.length = n * 9 := by simp [Builtin.zeroCells]; rfl
theorem clr9 {W : World} {g : Nat} {D : List O} (h : R9 W g D) {i n c : Nat} (hn : D.length = n) (hi : i < n) (ty : TypeId) :
    ∃ W', (Builtin.clear_ #[22] ty #[.slice (some ⟨g, i * 9, none⟩) (n - i) c]).run Tryd.prog W = .ok (.tuple #[]) W' ∧ R9 W' g (D.take i) ∧ W'.heap.size = W.heap.size ∧ ∀ B, B ≤ g → Below B W W' := by
  have at9 : ∀ t, t < (n - i) * 9 → (W.cell? ⟨g, i * 9 + t, none⟩).isSome = true ∧ W.frozen? ⟨g, i * 9 + t, none⟩ = false := fun t ht => by
    have := h.cells (i := i + t / 9) (by omega) (t % 9) (Nat.mod_lt _ (by omega))
    rwa [show (i + t / 9) * 9 + t % 9 = i * 9 + t by omega] at this
  have hst := run_storeCells_cells (P := Tryd.prog) g (i * 9) (Builtin.zeroCells (oCells O0) (n - i)).toList 0 W (fun t ht => by rw [Nat.add_zero]; exact (at9 t (by rwa [zc_len] at ht)).1) (fun t ht => by rw [Nat.add_zero]; exact (at9 t (by rwa [zc_len] at ht)).2) (fun v hv => by
    have hv := Array.mem_toList_iff.1 hv
    unfold Builtin.zeroCells at hv
    obtain ⟨t, ht, rfl⟩ := Array.mem_map.1 hv
    have hm : t % (oCells O0).size < 9 := Nat.mod_lt _ (by decide)
    rw [getElem!_pos (oCells O0) (t % (oCells O0).size) hm]
    exact oc_one O0 _ (by show (oCells O0)[t % (oCells O0).size] ∈ (oCells O0).toList; exact Array.mem_toList_iff.2 (Array.getElem_mem _)))
  rw [Nat.add_zero] at hst
  refine ⟨W.setCells g (i * 9) (Builtin.zeroCells (oCells O0) (n - i)).toList, ?_, ⟨by rw [setCells_size]; exact h.1, fun j x hj cc u hc => ?_⟩, setCells_size _ _ _ _, fun B hB => below_sc hB _ _ _⟩
  · obtain ⟨m, hm⟩ : ∃ m, n - i = m + 1 := ⟨n - i - 1, by omega⟩
    rw [hm] at hst ⊢
    have hzv : ∀ w, (zeroValue 48).run Tryd.prog w = .ok (.agg (oCells O0)) w := zeroOp
    simp [Builtin.clear_, run_underlying Tryd.u27, hzv, Value.cells, hst]
  · have hji : j < i := by
      have := (List.getElem?_eq_some_iff.1 hj).1
      rw [List.length_take] at this
      omega
    have hc9 : cc < 9 := by have := (List.getElem?_eq_some_iff.1 hc).1; rwa [oc_len] at this
    rw [List.getElem?_take, if_pos hji] at hj
    rw [World.frozen?_setCells, World.cell?_setCells_out g (Builtin.zeroCells (oCells O0) (n - i)).toList (i * 9) W ⟨g, j * 9 + cc, none⟩ (fun _ _ => .inl (by show j * 9 + cc < i * 9; omega))]
    exact h.2 j x hj cc u hc
theorem tail9 {W : World} {g n c i : Nat} (hi : i < n) (hn : n ≤ c) : (Instr.sliceAt 22 (.slice (some ⟨g, 0, none⟩) n c) (some (.int .i64 (i : Int))) none none).run Tryd.prog W = .ok (.slice (some ⟨g, i * 9, none⟩) (n - i) (c - i)) W := by
  have hz : (Go.sizeOf (Tryd.prog.elem 22)).run Tryd.prog W = .ok 9 W := run_size34 W
  rw [run_sliceAt_slice (P := Tryd.prog) (h := Tryd.u27), run_slice_l (P := Tryd.prog) (ht := Tryd.u27) (h0 := by omega) (h1 := by omega), hz]
  show Result.ok (Value.slice (if c = i then _ else (some (⟨g, 0, none⟩ : Addr)).map (·.add (i * 9))) (n - i) (c - i)) W = _
  rw [if_neg (by omega)]
  simp [Addr.add]
  exact fun e => e.symm
theorem R9.olies {W : World} {g n c : Nat} {D : List O} (h : R9 W g D) (hn : n = D.length) (hc : n ≤ c) (hm : c ≤ maxLen) : OLies W (.slice (some ⟨g, 0, none⟩) n c) D :=
  ⟨_, c, by rw [hn], by omega, hm, (fun e => by cases e), fun b hb hne => by
    cases hb
    exact ⟨g, 0, rfl, h.1, fun j x hj i u hi => by rw [Nat.zero_add]; exact (h.2 j x hj i u hi).1⟩⟩
theorem wpList_slt {P : Program} {w : World} {ops : Array Oper} {rest : List Oper} {o : Oper} {a : Act} {Q : Exit → Act → World → Prop} (hgd : o.guard = none) (x y : Operand) (t : TypeId)
    (ho : o.op = .slice t x (some y) none none) (v u r : Value) (hx : a.eval x = v) (hy : a.eval y = u) (hr : (Instr.sliceAt t v (some u) none none).run P w = .ok r w)
    (h : wpList P ops Q rest (a.put o.dst r) w) : wpList P ops Q (o :: rest) a w :=
  wpList_plain hgd fun _ hK => by
    unfold Oper.wp execOp
    simp only [ho, Option.map_some, Option.map_none, hx, hy, hr, Sem.run_bind, Sem.run_pure, Result.andThen_ok]
    exact hK _ _ h
theorem wpList_slh {P : Program} {w : World} {ops : Array Oper} {rest : List Oper} {o : Oper} {a : Act} {Q : Exit → Act → World → Prop} (hgd : o.guard = none) (x y : Operand) (t : TypeId)
    (ho : o.op = .slice t x none (some y) none) (v u r : Value) (hx : a.eval x = v) (hy : a.eval y = u) (hr : (Instr.sliceAt t v none (some u) none).run P w = .ok r w)
    (h : wpList P ops Q rest (a.put o.dst r) w) : wpList P ops Q (o :: rest) a w :=
  wpList_plain hgd fun _ hK => by
    unfold Oper.wp execOp
    simp only [ho, Option.map_some, Option.map_none, hx, hy, hr, Sem.run_bind, Sem.run_pure, Result.andThen_ok]
    exact hK _ _ h
theorem wpList_clr {P : Program} {w w' : World} {ops : Array Oper} {rest : List Oper} {o : Oper} {a : Act} {Q : Exit → Act → World → Prop} (hgd : o.guard = none) (s : Operand) (t : TypeId)
    (ho : o.op = .call { callee := .builtin .clear, args := #[s], argTypes := #[t] }) (v : Value) (hs : a.eval s = v) (hr : (Builtin.clear_ #[t] o.type #[v]).run P w = .ok (.tuple #[]) w')
    (h : wpList P ops Q rest (a.put o.dst (.tuple #[])) w') : wpList P ops Q (o :: rest) a w :=
  wpList_plain hgd fun _ hK => by
    unfold Oper.wp
    simp only [execOp, ho, resolve, invoke, builtin, Sem.run_bind, Sem.run_pure, Result.andThen_ok, List.map_toArray, List.map_cons, List.map_nil, hs, hr]
    exact hK _ _ h
/-- What stands in DeleteFunc's loop. -/
structure DLI (w0 : World) (B g vb : Nat) (V : List Int) (SS : List O) (W : World) (i j : Nat) : Prop where
  bel : Below B w0 W
  box : W.heap[vb]? = some (.cells (va V) 27 (0, 0))
  row : ∃ D, R9 W g D ∧ D.length = SS.length ∧ D.take i = (SS.take j).filter (keepB V) ∧ D.drop j = SS.drop j
  lt : i < j
theorem DLI.step {w0 W W' : World} {B g vb : Nat} {V : List Int} {SS : List O} {i j : Nat} (h : DLI w0 B g vb V SS W i j) (hb : Below W.heap.size W W') (hB : B ≤ W.heap.size) : DLI w0 B g vb V SS W' i j :=
  ⟨h.bel.trans (hb.mono hB), (hb.block _ (pl_lt h.box)).trans h.box, by obtain ⟨D, h1, h2⟩ := h.row; exact ⟨D, h1.step hb, h2⟩, h.lt⟩
theorem DLI.skip {w0 W : World} {B g vb : Nat} {V : List Int} {SS : List O} {i j : Nat} (h : DLI w0 B g vb V SS W i j) {x : O} (hx : SS[j]? = some x) (hk : keepB V x = false) : DLI w0 B g vb V SS W i (j + 1) := by
  obtain ⟨D, h1, h2, h3, h4⟩ := h.row
  refine ⟨h.bel, h.box, ⟨D, h1, h2, ?_, ?_⟩, by have := h.lt; omega⟩
  · rw [filt_snoc hx, hk, h3]; simp
  · rw [← List.drop_drop, ← List.drop_drop, h4]
theorem DLI.keep {w0 W : World} {B g vb : Nat} {V : List Int} {SS : List O} {i j : Nat} (h : DLI w0 B g vb V SS W i j) (hB : B ≤ g) (hgv : vb ≠ g) {x : O} (hx : SS[j]? = some x) (hk : keepB V x = true) : DLI w0 B g vb V SS (W.setCells g (i * 9) (oc x)) (i + 1) (j + 1) := by
  obtain ⟨D, h1, h2, h3, h4⟩ := h.row
  have hj := (List.getElem?_eq_some_iff.1 hx).1
  have hlt := h.lt
  have hi : i < D.length := by omega
  refine ⟨h.bel.trans (below_sc hB _ _ _), ?_, ⟨D.set i x, R9.set h1 hi x, by rw [List.length_set]; exact h2, ?_, ?_⟩, by omega⟩
  · exact (heap_sc hgv (oc x) (i * 9) W).trans h.box
  · rw [filt_snoc hx, hk, if_pos rfl, ← h3]
    apply List.ext_getElem?
    intro t
    rw [List.getElem?_take]
    by_cases ht : t < i
    · rw [if_pos (by omega), List.getElem?_set_ne (by omega), List.getElem?_append_left (by rw [List.length_take]; omega), List.getElem?_take, if_pos ht]
    · by_cases e : t = i
      · subst e
        rw [if_pos (by omega), List.getElem?_set_self hi, List.getElem?_append_right (by rw [List.length_take]; omega), List.length_take, show t - min t D.length = 0 by omega]
        rfl
      · rw [if_neg (by omega), List.getElem?_eq_none (by rw [List.length_append, List.length_take]; simp; omega)]
  · have e : (D.set i x).drop (j + 1) = D.drop (j + 1) := by
      apply List.ext_getElem?
      intro t
      rw [List.getElem?_drop, List.getElem?_drop, List.getElem?_set_ne (by omega)]
    rw [e, ← List.drop_drop, ← List.drop_drop, h4]
theorem DLI.at {w0 W : World} {B g vb : Nat} {V : List Int} {SS : List O} {i j : Nat} (h : DLI w0 B g vb V SS W i j) {x : O} (hx : SS[j]? = some x) : ∀ c u, (oc x)[c]? = some u → W.cell? ⟨g, j * 9 + c, none⟩ = some u := by
  obtain ⟨D, h1, h2, h3, h4⟩ := h.row
  intro c u hc
  have e : D[j]? = some x := by
    have : (D.drop j)[0]? = (SS.drop j)[0]? := by rw [h4]
    rw [List.getElem?_drop, List.getElem?_drop] at this
    exact this.trans hx
  exact (h1.2 j x e c u hc).1
set_option maxHeartbeats 12800000 in
theorem delf_any (w : World) (B vb : Nat) (V : List Int) (hV : V.length = 64) (hbx : w.heap[vb]? = some (.cells (va V) 27 (0, 0))) (v : Value) (SS : List O) (h : OLies w v SS)
    (hrow : ∀ g o c, v = .slice (some ⟨g, o, none⟩) SS.length c → o = 0 ∧ R9 w g SS ∧ B ≤ g ∧ vb ≠ g) (hB : B ≤ w.heap.size) (hr : ∀ x ∈ SS, 0 ≤ x.r ∧ x.r < 64) (hl : SS.length ≤ 1000) :
    Calls Tryd.prog 31 #[v, CLO vb] w fun e w' => ∃ r, e = .returned r ∧ OLies w' r (SS.filter (keepB V)) ∧ Below B w w' := by
  have CI := Lib.hid (idxf_any w vb V hV hbx v SS h hr hl)
  have H := Lib.hid h
  have HR := Lib.hid hr
  have HV := Lib.hid hV
  have HBX := Lib.hid hbx
  have HB := Lib.hid hB
  obtain ⟨ao, cap, e0, hcp, hmx, hnone, hat⟩ := h
  subst e0
  have HC := Lib.hid (And.intro hcp hmx)
  have HN := Lib.hid hnone
  have HA := Lib.hid hat
  have HW := Lib.hid hrow
  clear hbx hr hV hB hcp hmx hnone hat hrow
  go_enter Tryd.func31, Tryd.ntmps31
  go_wp2_with fail
  refine CI.out.mono ?_
  rintro e w1 ⟨k0, rfl, hk0, hb⟩
  have B1 := Lib.hid hb
  clear hb CI
  rcases hk0 with ⟨rfl, hall⟩ | ⟨i0, rfl, hi0, hx0, hall⟩
  · have FF := Lib.hid (show OLies w1 (.slice ao SS.length cap) (SS.filter (keepB V)) ∧ Below B w w1 from ⟨by rw [List.filter_eq_self.2 hall]; exact H.out.step B1.out, B1.out.mono HB.out⟩)
    clear hall
    go_wp2
    go_returns
    exact ⟨_, rfl, FF.out⟩
  · have hne : ((i0 : Int) == -1) = false := bneb_ _ _ (by omega)
    obtain ⟨b0, rfl⟩ : ∃ b, ao = some b := by
      cases ao with
      | none => have := (HN.out rfl).1; rw [this] at hi0; cases hi0
      | some b => exact ⟨b, rfl⟩
    obtain ⟨g, o0, e1, hgl, -⟩ := HA.out b0 rfl (fun e => by rw [e] at hi0; cases hi0)
    subst e1
    obtain ⟨e2, hr9, hBg, hvg⟩ := HW.out g o0 cap rfl
    subst e2
    obtain ⟨x0, hx0e⟩ : ∃ x, SS[i0]? = some x := ⟨_, List.getElem?_eq_getElem hi0⟩
    have J0 := Lib.hid (show DLI w B g vb V SS w1 i0 (i0 + 1) from ⟨B1.out.mono HB.out, (B1.out.block _ (pl_lt HBX.out)).trans HBX.out, ⟨SS, hr9.step B1.out, rfl, by rw [filt_snoc hx0e, hx0 x0 hx0e, List.filter_eq_self.2 hall]; simp, rfl⟩, by omega⟩)
    have HBG := Lib.hid hBg
    have HVG := Lib.hid hvg
    have BS := Lib.hid (show B ≤ w1.heap.size from Nat.le_trans HB.out B1.out.size)
    have I0L := Lib.hid (show i0 + 1 ≤ SS.length from hi0)
    have hw0 : wrap64 ((i0 : Int) + 1) = ((i0 + 1 : Nat) : Int) := by unfold wrap64; omega
    clear hr9 hBg hvg hx0 hall hx0e hgl HA HN HW hi0
    go_wp2_with fail
    go_loopw [5, 6] (fun iv jv wr => ∃ i j : Nat, iv = .int .i64 i ∧ jv = .int .i64 j ∧ j ≤ SS.length ∧ Hid (DLI w B g vb V SS wr i j ∧ B ≤ wr.heap.size)) (fun _ jv _ => SS.length - (intOf jv).toNat)
    case atStart => exact ⟨i0, i0 + 1, rfl, by first | rfl | (rw [hw0]) | go_num, I0L.out, Lib.hid ⟨J0.out, BS.out⟩⟩
    case round =>
      clear J0 hne hw0
      obtain ⟨i, j, rfl, rfl, hj, K⟩ := hrel
      by_cases hlt : j < SS.length
      · have hi0' : (0 : Int) ≤ (j : Int) := by omega
        have hi1 : (j : Int) < (SS.length : Int) := by omega
        have hd : decide ((j : Int) < (SS.length : Int)) = true := decide_eq_true hi1
        have hq0 : (0 : Int) ≤ (i : Int) := by omega
        have hij := K.out.1.lt
        have hq1 : (i : Int) < (SS.length : Int) := by omega
        have HL1 := Lib.hid (show j + 1 ≤ SS.length from hlt)
        have HW9 := Lib.hid (wrap_nat hlt (show SS.length ≤ 100000 by omega))
        have HWI := Lib.hid (wrap_nat (show i < SS.length by omega) (show SS.length ≤ 100000 by omega))
        have HMS := Lib.hid (meas_nat hlt)
        obtain ⟨x, hx⟩ : ∃ x, SS[j]? = some x := ⟨_, List.getElem?_eq_getElem hlt⟩
        have HX := Lib.hid hx
        have RX := HR.out x (List.mem_of_getElem? hx)
        have LX := Lib.hid (@ldO wr g (j * 9) x (K.out.1.at hx))
        have N5 := heap_alloc_new wr (.cells #[.int .i64 x.t, .int .i64 x.r, .int .i64 x.q, .int .i64 x.nt, .int .i64 x.nr, .int .i64 x.pt, .int .i64 x.pr, .string x.nm, .bool x.d] 48)
        have K5 := Lib.hid (show DLI w B g vb V SS (wr.alloc (.cells #[.int .i64 x.t, .int .i64 x.r, .int .i64 x.q, .int .i64 x.nt, .int .i64 x.nr, .int .i64 x.pt, .int .i64 x.pr, .string x.nm, .bool x.d] 48)) i j ∧ B ≤ (wr.alloc (.cells #[.int .i64 x.t, .int .i64 x.r, .int .i64 x.q, .int .i64 x.nt, .int .i64 x.nr, .int .i64 x.pt, .int .i64 x.pr, .string x.nm, .bool x.d] 48)).heap.size from ⟨K.out.1.step (pl_vstep wr _) K.out.2, Nat.le_trans K.out.2 (pl_vstep wr (.cells #[.int .i64 x.t, .int .i64 x.r, .int .i64 x.q, .int .i64 x.nt, .int .i64 x.nr, .int .i64 x.pt, .int .i64 x.pr, .string x.nm, .bool x.d] 48)).size⟩)
        clear hx hij
        go_upto_region 8 with (first
          | (refine Ve.wpList_load_arr rfl (.tmp 24) 48 rfl (.pointer (some ⟨g, j * 9, none⟩)) (.agg #[.int .i64 x.t, .int .i64 x.r, .int .i64 x.q, .int .i64 x.nt, .int .i64 x.nr, .int .i64 x.pt, .int .i64 x.pr, .string x.nm, .bool x.d]) rfl LX.out ?_))
        obtain ⟨w5, hw5⟩ : ∃ z, wr.alloc (.cells #[.int .i64 x.t, .int .i64 x.r, .int .i64 x.q, .int .i64 x.nt, .int .i64 x.nr, .int .i64 x.pt, .int .i64 x.pr, .string x.nm, .bool x.d] 48) = z := ⟨_, rfl⟩
        obtain ⟨bx, hbxx⟩ : ∃ z, wr.heap.size = z := ⟨_, rfl⟩
        rw [hw5, hbxx] at N5
        rw [hw5] at K5
        rw [hw5]
        try rw [hbxx]
        have N5 := Lib.hid N5
        clear hw5 hbxx LX K
        have CL := Lib.hid (kn1_any w5 vb V HV.out K5.out.1.box x RX.1 RX.2)
        unfold oV oCells at CL
        obtain ⟨kb, hkb⟩ : ∃ z, keepB V x = z := ⟨_, rfl⟩
        rw [hkb] at CL
        have HKB := Lib.hid hkb
        clear RX hkb
        obtain ⟨c0, c1, c2, c3, c4, c5, c6, c7, c8⟩ := cell9 N5.out
        go_wp2_with fail
        refine CL.out.mono ?_
        rintro e w6 ⟨rfl, hb6⟩
        have K6 := Lib.hid (show DLI w B g vb V SS w6 i j ∧ B ≤ w6.heap.size from ⟨K5.out.1.step hb6 K5.out.2, Nat.le_trans K5.out.2 hb6.size⟩)
        have N6 := Lib.hid ((hb6.block _ (pl_lt N5.out)).trans N5.out)
        clear hb6 CL K5 N5 c0 c1 c2 c3 c4 c5 c6 c7 c8
        cases kb with
        | false =>
          have KF := Lib.hid (show DLI w B g vb V SS w6 i (j + 1) ∧ B ≤ w6.heap.size from ⟨K6.out.1.skip HX.out HKB.out, K6.out.2⟩)
          go_wp2
          go_roundw
          case rel => exact ⟨i, j + 1, rfl, by first | (rw [HW9.out]; rfl) | go_num, HL1.out, KF⟩
          case measure => first | (rw [HW9.out]; exact HMS.out) | exact HMS.out
        | true =>
          have S6 := Lib.hid (show (Instr.storeAt 48 (.pointer (some ⟨g, i * 9, none⟩)) (.agg #[.int .i64 x.t, .int .i64 x.r, .int .i64 x.q, .int .i64 x.nt, .int .i64 x.nr, .int .i64 x.pt, .int .i64 x.pr, .string x.nm, .bool x.d])).run Tryd.prog w6 = .ok () (w6.setCells g (i * 9) (oc x)) from by
            obtain ⟨D, h1, h2, _⟩ := K6.out.1.row
            have := K6.out.1.lt
            exact sto9 h1 (by have := HL1.out; omega) x)
          have KF := Lib.hid (show DLI w B g vb V SS (w6.setCells g (i * 9) (oc x)) (i + 1) (j + 1) ∧ B ≤ (w6.setCells g (i * 9) (oc x)).heap.size from ⟨K6.out.1.keep HBG.out HVG.out HX.out HKB.out, by rw [setCells_size]; exact K6.out.2⟩)
          obtain ⟨c0, c1, c2, c3, c4, c5, c6, c7, c8⟩ := cell9 N6.out
          obtain ⟨w7, hw7⟩ : ∃ z, w6.setCells g (i * 9) (oc x) = z := ⟨_, rfl⟩
          rw [hw7] at S6 KF
          clear hw7
          go_wp2_with (first
            | (refine wpList_sto rfl (.tmp 33) (.tmp 32) 48 rfl (.pointer (some ⟨g, i * 9, none⟩)) (.agg #[.int .i64 x.t, .int .i64 x.r, .int .i64 x.q, .int .i64 x.nt, .int .i64 x.nr, .int .i64 x.pt, .int .i64 x.pr, .string x.nm, .bool x.d]) rfl rfl w7 S6.out ?_))
          go_roundw
          case rel => exact ⟨i + 1, j + 1, by first | (rw [HWI.out]; rfl) | go_num, by first | (rw [HW9.out]; rfl) | go_num, HL1.out, KF⟩
          case measure => first | (rw [HW9.out]; exact HMS.out) | exact HMS.out
      · have ei : j = SS.length := by omega
        subst ei
        have hd : decide ((SS.length : Int) < (SS.length : Int)) = false := decide_eq_false (by omega)
        have hij := K.out.1.lt
        obtain ⟨D, d1, d2, d3, d4⟩ := K.out.1.row
        have TL := Lib.hid (fun W => @tail9 W g SS.length cap i hij HC.out.1)
        have HDd := Lib.hid (fun W => (head34 H.out (Nat.le_of_lt hij)).1 W)
        have CR : ∀ ty, ∃ W', (Builtin.clear_ #[22] ty #[.slice (some ⟨g, i * 9, none⟩) (SS.length - i) (cap - i)]).run Tryd.prog wr = .ok (.tuple #[]) W' ∧ R9 W' g (D.take i) ∧ W'.heap.size = wr.heap.size ∧ ∀ B, B ≤ g → Below B wr W' := fun ty => clr9 d1 d2 hij ty
        have DT := Lib.hid (show D.take i = SS.filter (keepB V) from by rw [d3, List.take_length])
        have DL := Lib.hid (show (D.take i).length = i from by rw [List.length_take]; omega)
        have KB := Lib.hid K.out.1.bel
        have CR := Lib.hid CR
        have HIJ := Lib.hid hij
        clear K d1 d2 d3 d4 hij hlt
        go_wp2_with (first
          | (refine wpList_slt rfl (.tmp 36) (.tmp 37) 22 rfl (.slice (some ⟨g, 0, none⟩) SS.length cap) (.int .i64 (i : Int)) (.slice (some ⟨g, i * 9, none⟩) (SS.length - i) (cap - i)) rfl rfl (TL.out _) ?_)
          | (obtain ⟨W9, hc9, hr9, hs9, hb9⟩ := CR.out _; refine wpList_clr rfl (.tmp 38) 22 rfl (.slice (some ⟨g, i * 9, none⟩) (SS.length - i) (cap - i)) rfl hc9 ?_; have R9F := Lib.hid (And.intro hr9 (hb9 B HBG.out)); clear hc9 hr9 hs9 hb9)
          | (refine wpList_slh rfl (.tmp 39) (.tmp 40) 22 rfl (.slice (some ⟨g, 0, none⟩) SS.length cap) (.int .i64 (i : Int)) (.slice (some ⟨g, 0, none⟩) i cap) rfl rfl (HDd.out _) ?_))
        have FF := Lib.hid (show OLies W9 (.slice (some ⟨g, 0, none⟩) i cap) (SS.filter (keepB V)) ∧ Below B w W9 from ⟨by rw [← DT.out]; exact R9F.out.1.olies DL.out.symm (by have := HIJ.out; have := HC.out.1; omega) HC.out.2, KB.out.trans R9F.out.2⟩)
        go_returns
        exact ⟨_, rfl, FF.out⟩
set_option maxHeartbeats 3200000 in
theorem fknown_any (w : World) (v : Value) (l : List O) (V : List Int) (hV : V.length = 64) (h : OLies w v l) (hok : ∀ o ∈ l, OkO o) (hsz : ∀ o ∈ l, o.nm.size ≤ 9223372036854775807) (hl : l.length ≤ 1000) (hu : (uniqF l).length ≤ 79) :
    Calls Tryd.prog 11 #[v, vw V] w fun e w' => ∃ r, e = .returned r ∧ OLies w' r ((setO l).filter (keepB V)) ∧ Below w.heap.size w w' := by
  have B1 := pl_vstep w (.cells (va V) 27)
  have N1 := Lib.hid (heap_alloc_new w (.cells (va V) 27))
  have Cc := Lib.hid (fset_any (w.alloc (.cells (va V) 27)) v l (h.step B1) hok hsz hl hu)
  have SLN := Lib.hid (show (setO l).length ≤ 79 from by show (srtO (uniqF l)).length ≤ 79; rw [srtO_len]; exact hu)
  have HR := Lib.hid (show ∀ x ∈ setO l, 0 ≤ x.r ∧ x.r < 64 from fun x hx => rO_rep ((uniq_is l).right x (srt_mem hx)))
  have SZ0 := Lib.hid (show (w.alloc (.cells (va V) 27)).heap.size = w.heap.size + 1 by simp)
  obtain ⟨ao, cap, rfl⟩ := h.shape
  obtain ⟨SS, hSS⟩ : ∃ z, setO l = z := ⟨_, rfl⟩
  rw [hSS] at Cc SLN HR ⊢
  have B1 := Lib.hid B1
  have HV := Lib.hid hV
  clear h hsz hu hSS hV hok
  obtain ⟨VA, hVA⟩ : ∃ z, va V = z := ⟨_, rfl⟩
  unfold vw
  rw [hVA] at B1 N1 Cc SZ0
  rw [hVA]
  have HVA := Lib.hid hVA
  clear hVA
  go_enter Tryd.func11, Tryd.ntmps11
  go_upto_region 1 with (fail)
  obtain ⟨w0, hw0⟩ : ∃ z, w.alloc (.cells VA 27) = z := ⟨_, rfl⟩
  rw [hw0] at B1 N1 Cc SZ0
  rw [hw0]
  clear hw0
  go_wp2_with fail
  refine Cc.out.mono ?_
  rintro e w1 ⟨rv, rfl, hown, hb⟩
  have HX := Lib.hid (show w1.heap[w.heap.size]? = some (.cells (va V) 27 (0, 0)) from by rw [HVA.out]; exact (hb.block _ (pl_lt N1.out)).trans N1.out)
  have HOL := Lib.hid (own_olies hown)
  have DC := Lib.hid (delf_any w1 w0.heap.size w.heap.size V HV.out HX.out rv SS HOL.out (fun g o c e => by
    subst e
    have hg0 := (hown.lt g rfl).1
    have ho : o = 0 := by
      rcases hown.2 with ⟨e, _⟩ | ⟨g', cap', cur, e, _⟩
      · cases e
      · injection e with e1 _ _
        injection e1 with e1
        injection e1 with _ e1 _
    subst ho
    exact ⟨rfl, R9.of_own hown, hg0, by rw [SZ0.out] at hg0; omega⟩) hb.size HR.out (by have := SLN.out; omega))
  have BB := Lib.hid (B1.out.trans (hb.mono B1.out.size))
  obtain ⟨ra, rc, rfl⟩ := Ve.own_shape hown
  clear hown hb Cc
  go_wp2_with fail
  refine DC.out.mono ?_
  rintro e w2 ⟨r2, rfl, hol, hb2⟩
  have FF := Lib.hid (show OLies w2 r2 (SS.filter (keepB V)) ∧ Below w.heap.size w w2 from ⟨hol, BB.out.trans (hb2.mono B1.out.size)⟩)
  obtain ⟨sa, sc, rfl⟩ := hol.shape
  clear hol hb2 DC
  go_wp2
  go_returns
  exact ⟨_, rfl, FF.out⟩
end Go.Proofs.YtbeodechhneeeaaDoor
