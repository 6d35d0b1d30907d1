/- Changes taken back: the program's. Made by genhj38.py. -/
import Derived.Test.YthbmbpnpigpgpaaHI
import Derived.Test.YthbmbpnpigpgpaaHB
import Derived.Test.YthbmbpnpigpgpaaFB
import Derived.Stop.RegionWithIn
set_option linter.unusedVariables false
set_option linter.unusedSimpArgs false
set_option maxRecDepth 100000
namespace Go.Proofs.Ythbmbpnpigpgpaa
open Go.RowKit Go.Shelf

theorem backward_any (w : World) (a : Option Addr) (n c : Nat) : Calls Try.prog 31 #[.slice a n c] w fun e w' => e = .returned (.func (.func 50) #[] #[.pointer (some ⟨w.heap.size, 0, none⟩)]) ∧ w' = w.alloc (.cells #[.slice a n c] 30) := by
  go_enter Try.func31, Try.ntmps31
  go_wp2
  go_returns
  exact ⟨rfl, rfl⟩
theorem ncells_ne {W : World} {k r : Nat} {c : Array Value} {t : TypeId} {f : Nat × Nat} (h : W.heap[k]? = some (.cells c t f)) {o : Obj} (ho : W.heap[r]? = some o) (hc : o.isCells = false) : k ≠ r := fun e => by
  rw [e, ho] at h; injection h with h; subst h; cases hc
/-- What is taken back behind so many rounds. -/
def blF (T : List Rw) (N : List Ch) (i : Nat) : List Ch := ((N.drop (N.length - i)).reverse).filterMap (bkF T)
theorem bl_step {T : List Rw} {N : List Ch} {i k : Nat} {x : Ch} (hi : i < N.length) (hk : k = N.length - 1 - i) (hx : N[k]? = some x) : blF T N (i + 1) = blF T N i ++ (bkF T x).toList := by
  unfold blF
  have e1 : N.length - (i + 1) = k := by omega
  have e2 : N.length - i = k + 1 := by omega
  rw [e1, e2]
  exact back_step hx
theorem bl_le (T : List Rw) (N : List Ch) (i : Nat) : (blF T N i).length ≤ N.length := back_le T N _
structure BKI (w : World) (k7 k8 bx q qb E : Nat) (T : List Rw) (v : Value) (N : List Ch) (i : Nat) (W : World) : Prop where
  bel : Below w.heap.size w W
  b7 : W.heap[k7]? = some (.cells #[.pointer (some ⟨q, 0, none⟩)] 39 (0, 0))
  tab : TabI W q qb T
  b8 : ∃ ov, W.heap[k8]? = some (.cells #[ov] 30 (0, 0)) ∧ W.ownsRow E 71 7 ov (blF T N i).length ((blF T N i).flatMap encH)
  box : W.heap[bx]? = some (.cells #[v] 30 (0, 0))
  row : W.ownsRow (k7 + 2) 71 7 v N.length (N.flatMap encH)
theorem own_keepN {W W' : World} {E e k n : Nat} {row : Option Nat} {v : Value} {xs : List Value} (h : W.ownsRow E e k v n xs) (hg : W.grownBy W' row) (hr : ∀ r, row = some r → ∃ o : Obj, W.heap[r]? = some o ∧ o.isCells = false) : W'.ownsRow E e k v n xs :=
  own_grown h hg (fun j hj e => by
    obtain ⟨o, ho, hc⟩ := hr j e
    rcases h.2 with ⟨rfl, _⟩ | ⟨g, cap, cur, rfl, _, hb, _⟩
    · cases hj
    · have hj : some g = some j := hj
      injection hj with hj
      subst hj
      exact ncells_ne hb ho hc rfl)
theorem BKI.own (w : World) (k7 k8 bx q qb E B : Nat) (T : List Rw) (v : Value) (N : List Ch) (hb : qb < B) (hB : w.heap.size ≤ B) : OwnFrom B (BKI w k7 k8 bx q qb E T v N) := by
  intro i W W' row h hg hr
  have hnb : some qb ≠ row := fun e => by have := (hr qb e.symm).1; omega
  have hc : ∀ {k : Nat} {c : Array Value} {t : TypeId} {f : Nat × Nat}, W.heap[k]? = some (.cells c t f) → W'.heap[k]? = some (.cells c t f) := fun {k c t f} hk => (hg.block k (lt_of_block hk) (fun e => by obtain ⟨_, o, ho, hc⟩ := hr _ e.symm; exact ncells_ne hk ho hc rfl)).trans hk
  refine ⟨?_, hc h.b7, ⟨hc h.tab.box, h.tab.map.grown hg hnb⟩, ?_, hc h.box, ?_⟩
  · exact ⟨hg.os.trans h.bel.os, hg.tape.trans h.bel.tape, hg.output.trans h.bel.output, Nat.le_trans h.bel.size hg.size, fun k hk => (hg.block k (Nat.lt_of_lt_of_le hk h.bel.size) (fun e => by have := (hr k e.symm).1; omega)).trans (h.bel.block k hk)⟩
  · obtain ⟨ov, h1, h2⟩ := h.b8
    exact ⟨ov, hc h1, own_keepN h2 hg (fun r e => (hr r e).2)⟩
  · exact own_keepN h.row hg (fun r e => (hr r e).2)
/-- Where the frame's blocks lie. -/
structure BKS (w : World) (k7 bx q qb E : Nat) (v : Value) : Prop where
  lo : w.heap.size ≤ k7
  hq : q < k7 ∧ qb < k7
  hbx : k7 + 1 < bx ∧ bx < E
  hv : ∀ j, v.ownBlock = some j → k7 + 2 ≤ j ∧ j < E
/-- What a round turns: one box, and what lies above. -/
structure TW (k8 E : Nat) (W W' : World) : Prop where
  os : W'.os = W.os
  tape : W'.tape = W.tape
  output : W'.output = W.output
  size : W.heap.size ≤ W'.heap.size
  block : ∀ k, k < W.heap.size → k ≠ k8 → k < E → W'.heap[k]? = W.heap[k]?
theorem TW.below {k8 E : Nat} {W W' : World} (h : Below W.heap.size W W') : TW k8 E W W' := ⟨h.os, h.tape, h.output, h.size, fun k hk _ _ => h.block k hk⟩
theorem TW.trans {k8 E : Nat} {W W1 W' : World} (h : TW k8 E W W1) (h' : TW k8 E W1 W') : TW k8 E W W' :=
  ⟨h'.os.trans h.os, h'.tape.trans h.tape, h'.output.trans h.output, Nat.le_trans h.size h'.size, fun k hk h1 h2 => (h'.block k (Nat.lt_of_lt_of_le hk h.size) h1 h2).trans (h.block k hk h1 h2)⟩
theorem TW.grown {k8 E : Nat} {W W' : World} {row : Option Nat} (h : W.grownBy W' row) (hr : ∀ j, row = some j → E ≤ j) : TW k8 E W W' := ⟨h.os, h.tape, h.output, h.size, fun k hk _ h2 => h.block k hk (fun e => by have := hr k e.symm; omega)⟩
theorem TW.set {k8 E : Nat} {W : World} (u : Value) : TW k8 E W (W.setCell ⟨k8, 0, none⟩ u) := by
  have h : Below k8 W (W.setCell ⟨k8, 0, none⟩ u) := (Below.refl _ _).setCell (p := ⟨k8, 0, none⟩) (Nat.le_refl _) _
  exact ⟨h.os, h.tape, h.output, h.size, fun k _ h1 _ => Below.heap_setCell _ _ _ _ (fun e => h1 (by first | exact e | exact e.symm))⟩
theorem BKI.next {w W W' : World} {k7 bx q qb E : Nat} {T : List Rw} {v : Value} {N : List Ch} {i i' : Nat} (h : BKI w k7 (k7 + 1) bx q qb E T v N i W) (st : BKS w k7 bx q qb E v) (ht : TW (k7 + 1) E W W')
    (b8 : ∃ ov, W'.heap[k7 + 1]? = some (.cells #[ov] 30 (0, 0)) ∧ W'.ownsRow E 71 7 ov (blF T N i').length ((blF T N i').flatMap encH)) : BKI w k7 (k7 + 1) bx q qb E T v N i' W' := by
  have l1 := st.hq.1
  have l2 := st.hq.2
  have l3 := st.hbx.1
  have l4 := st.hbx.2
  have l5 := st.lo
  refine ⟨⟨ht.os.trans h.bel.os, ht.tape.trans h.bel.tape, ht.output.trans h.bel.output, Nat.le_trans h.bel.size ht.size, fun k hk => (ht.block k (Nat.lt_of_lt_of_le hk h.bel.size) (by omega) (by omega)).trans (h.bel.block k hk)⟩, (ht.block _ (lt_of_block h.b7) (by omega) (by omega)).trans h.b7, ?_, b8, (ht.block _ (lt_of_block h.box) (by omega) (by omega)).trans h.box, ?_⟩
  · refine ⟨(ht.block _ h.tab.plt (by omega) (by omega)).trans h.tab.box, ?_⟩
    have hlt := h.tab.blt
    obtain ⟨es, ⟨es', clock, hb, F, hs, hD⟩, h2⟩ := h.tab.map
    exact ⟨es, ⟨es', clock, (ht.block _ hlt (by omega) (by omega)).trans hb, F, hs, hD⟩, h2⟩
  · refine ⟨h.row.1, ?_⟩
    rcases h.row.2 with h0 | ⟨g, cap, cur, hv, hB, hb, h1⟩
    · exact .inl h0
    · have := st.hv g (by rw [hv]; rfl)
      exact .inr ⟨g, cap, cur, hv, hB, (ht.block g (lt_of_block hb) (by omega) (by omega)).trans hb, h1⟩
theorem wpListIn_pushH {F : Fence} {n : Nat} {w : World} {ops : Array Oper} {rest : List Oper} {o : Oper} {a : Act} {Q : Exit → Act → World → Prop} (hgd : o.guard = none) (s x : Operand)
    (ho : o.op = .call { callee := .builtin .append, args := #[s, x], argTypes := #[30, 30] }) (base : Nat) (i : TypeInfo) (hi : Try.prog.info? 71 = some i) (hz : i.zero = some (.agg #[.bool false, .int .i64 0, .int .i64 0, .int .i64 0, .int .i64 0, .string ⟨#[]⟩, .bool false])) (hsize : i.size = 7) (hby : i.bytes = 64)
    (v : Value) (l : List Ch) (p : Ch) (g : Nat) (hs : a.eval s = v) (hx : a.eval x = .slice (some ⟨g, 0, none⟩) 1 1) (hb : w.heap[g]? = some (.cells (encH p).toArray 71 (0, 0))) (hown : w.ownsRow base 71 7 v l.length (l.flatMap encH))
    (hl : l.length < 100000) (hbase : base ≤ w.heap.size)
    (h : ∀ v' w', w'.ownsRow base 71 7 v' (l ++ [p]).length ((l ++ [p]).flatMap encH) → w.grownBy w' v.ownBlock → wpListIn F n Try.prog ops Q rest (a.put o.dst v') w') : wpListIn F n Try.prog ops Q (o :: rest) a w := by
  have hsrc := (one_liesK encH_len hb).src Try.u30 encH_len (by omega) encH_one
  refine wpListIn_plain hgd fun K hK => ?_
  obtain ⟨v', w', hr, h2, h3, h4⟩ := run_append_src_own (P := Try.prog) w base 30 30 o.type 71 i (.agg #[.bool false, .int .i64 0, .int .i64 0, .int .i64 0, .int .i64 0, .string ⟨#[]⟩, .bool false]) 7 64 Try.u30 hi hz hsize hby rfl (by omega) v l.length _ hown _ 1 ([p].flatMap encH) hsrc (by unfold maxLen; omega) (by omega) hbase
  unfold Oper.wpIn
  refine ⟨by simp [Oper.about, ho, resolve, Target.leads, Sem.run_pure], ?_⟩
  rw [Oper.semAt_plain F _ _ (by rw [ho]; intro c hc'; cases hc')]
  simp only [execOp, ho, resolve, invoke, builtin, Sem.run_bind, Sem.run_pure, Result.andThen_ok, List.map_toArray, List.map_cons, List.map_nil, hs, hx, hr]
  exact hK _ _ (h v' w' (by rw [List.length_append, List.flatMap_append]; exact h2) h3)
theorem kept8 {W W' : World} {k8 E : Nat} {v u : Value} (hg : W.grownBy W' v.ownBlock) (h : W.heap[k8]? = some (.cells #[u] 30 (0, 0))) (hn : ∀ j, v.ownBlock = some j → E + 2 ≤ j) (hk : k8 < E) : W'.heap[k8]? = some (.cells #[u] 30 (0, 0)) :=
  (hg.block _ (lt_of_block h) (fun e => by have := hn _ e.symm; omega)).trans h
theorem TW.one {W : World} {k8 : Nat} (u : Value) : W.grownBy (W.setCell ⟨k8, 0, none⟩ u) (some k8) := by
  have h : Below k8 W (W.setCell ⟨k8, 0, none⟩ u) := (Below.refl _ _).setCell (p := ⟨k8, 0, none⟩) (Nat.le_refl _) _
  exact ⟨h.os, h.tape, h.output, h.size, fun k _ h1 => Below.heap_setCell _ _ _ _ (fun e => h1 (by rw [e]))⟩
theorem trash_any (w : World) : Calls Try.prog 34 #[] w fun e w' => e = .returned (.agg #[.int .i64 0, .int .i64 1]) ∧ w' = w.alloc (.cells #[.int .i64 0, .int .i64 1] 61) := by
  go_enter Try.func34, Try.ntmps34
  go_wp2
  go_returns
  exact ⟨rfl, rfl⟩
attribute [local go_sem] Oper.semAt_some
set_option maxHeartbeats 6400000 in
theorem back_in (m : Nat) (hm : 4 ≤ m) (w : World) (c p b tb : Nat) (T : List Rw) (v u : Value) (l : List Ch) (made : List Sp) (h : CaI w c p b tb T) (hv : LiesK encH 7 w v l) (hu : LiesK encS 2 w u made) (hl : l.length ≤ 1000) (hml : made.length ≤ 1000) (hT : T.length < 100000) (hok : ∀ x ∈ l, OkH x) (hmk : ∀ m ∈ made, I64 m.1 ∧ I64 m.2) :
    CallsIn Fence.wide m Try.prog 9 #[.pointer (some ⟨c, 0, none⟩), v, u] w fun e w' => ∃ r, e = .returned r ∧ w'.ownsRow w.heap.size 71 7 r (backF T (namedF made l)).length ((backF T (namedF made l)).flatMap encH) ∧ Below w.heap.size w w' := by
  have h1 : 1 ≤ m := by omega
  have hro : Fence.wide.round = none := rfl
  obtain ⟨i0, hi9, hz0, hz1, hz2⟩ := info_parts info71
  have TB := Lib.hid (callsIn_wide (n := m - 1).2 (table_any w c p b tb T h hT))
  have NM := Lib.hid (fun W (hb : Below w.heap.size w W) => callsIn_wide (n := m - 1).2 (named_any W v u l made (hv.step hb) (hu.step hb) hl hml))
  have OK := Lib.hid (named_ok hmk hok)
  have HTR := Lib.hid h.tab.map.rise
  have NLE := Lib.hid (show (namedF made l).length ≤ 1000 from Nat.le_trans (named_len made l) hl)
  obtain ⟨va, vc, rfl⟩ := hv.shape
  obtain ⟨ua, uc, rfl⟩ := hu.shape
  clear h hv hu hok hmk
  refine callsIn_of_wp_marks Try.func9 rfl trivial ?_ hro
  simp only [Try.ntmps9, List.size_toArray, List.length_cons, List.length_nil, Nat.reduceAdd, Nat.reduceSub, Array.replicate_succ, Array.replicate_zero, List.push_toArray, List.append_toArray, List.nil_append, List.cons_append]
  gi_wp2
  refine ⟨trivial, ?_⟩
  refine TB.out.mono ?_
  rintro e w1 ⟨q, qb, rfl, ho⟩
  have HO := Lib.hid ho
  clear ho TB
  gi_wp2
  have B1 := HO.out.bel
  have Ba := vstep w1 (.cells #[.pointer (some ⟨q, 0, none⟩)] 39)
  have Na := heap_alloc_new w1 (.cells #[.pointer (some ⟨q, 0, none⟩)] 39)
  have za : (w1.alloc (.cells #[.pointer (some ⟨q, 0, none⟩)] 39)).heap.size = w1.heap.size + 1 := by simp
  obtain ⟨wa, hwa⟩ : ∃ z, w1.alloc (.cells #[.pointer (some ⟨q, 0, none⟩)] 39) = z := ⟨_, rfl⟩
  rw [hwa] at Ba Na za
  rw [hwa]
  have Bb := vstep wa (.cells #[.slice none 0 0] 30)
  have Nb := heap_alloc_new wa (.cells #[.slice none 0 0] 30)
  have zb : (wa.alloc (.cells #[.slice none 0 0] 30)).heap.size = w1.heap.size + 2 := by simp [za]
  obtain ⟨w2, hw2⟩ : ∃ z, wa.alloc (.cells #[.slice none 0 0] 30) = z := ⟨_, rfl⟩
  rw [hw2] at Bb Nb zb
  rw [hw2]
  rw [za] at Nb
  have F2 := Lib.hid (show Below w.heap.size w w2 ∧ w2.heap[w1.heap.size]? = some (.cells #[.pointer (some ⟨q, 0, none⟩)] 39 (0, 0)) ∧ w2.heap[w1.heap.size + 1]? = some (.cells #[.slice none 0 0] 30 (0, 0)) ∧ TabI w2 q qb T ∧ w2.heap.size = w1.heap.size + 2 from
    ⟨B1.trans ((Ba.trans (Bb.mono Ba.size)).mono B1.size), (Bb.block _ (lt_of_block Na)).trans Na, Nb, HO.out.tab.step (Ba.trans (Bb.mono Ba.size)), zb⟩)
  obtain ⟨k7, hk7⟩ : ∃ z, w1.heap.size = z := ⟨_, rfl⟩
  rw [hk7] at F2 ⊢
  have HLO := Lib.hid (show w.heap.size ≤ k7 from by rw [← hk7]; exact B1.size)
  have HQK := Lib.hid (show q < k7 ∧ qb < k7 from by rw [← hk7]; exact ⟨HO.out.tab.plt, HO.out.tab.blt⟩)
  clear B1 Ba Na za hwa Bb Nb zb hw2 HO hk7
  refine ⟨trivial, ?_⟩
  refine (NM.out w2 F2.out.1).mono ?_
  rintro e w3 ⟨r, rfl, ho, hb⟩
  obtain ⟨na, nc, rfl⟩ := own_shapeK ho
  have HR := Lib.hid ho
  have HB3 := Lib.hid hb
  clear ho hb NM
  obtain ⟨N, hN⟩ : ∃ z, namedF made l = z := ⟨_, rfl⟩
  have HN := Lib.hid hN
  rw [hN] at HR OK NLE
  try rw [hN]
  clear hN
  have BW := Lib.hid (callsIn_wide (n := m - 1).2 (backward_any w3 na N.length nc))
  gi_wp2
  refine ⟨trivial, ?_⟩
  refine BW.out.mono ?_
  rintro e w4 ⟨rfl, hw4⟩
  have B4 := vstep w3 (.cells #[.slice na N.length nc] 30)
  have N4 := heap_alloc_new w3 (.cells #[.slice na N.length nc] 30)
  rw [← hw4] at B4 N4
  have z4 : w4.heap.size = w3.heap.size + 1 := by rw [hw4]; simp
  obtain ⟨bx, hbx⟩ : ∃ z, w3.heap.size = z := ⟨_, rfl⟩
  have B24 := Lib.hid (HB3.out.trans (B4.mono HB3.out.size))
  have I0 := Lib.hid (show BKI w k7 (k7 + 1) bx q qb (w4.heap.size + 2) T (.slice na N.length nc) N 0 w4 from
    ⟨F2.out.1.trans (B24.out.mono F2.out.1.size), (B24.out.block _ (lt_of_block F2.out.2.1)).trans F2.out.2.1, F2.out.2.2.2.1.step B24.out, ⟨.slice none 0 0, (B24.out.block _ (lt_of_block F2.out.2.2.1)).trans F2.out.2.2.1, by rw [show blF T N 0 = [] from by unfold blF; rw [Nat.sub_zero, List.drop_length]; rfl]; exact World.ownsRow_nil _ _ _ _⟩, by rw [← hbx]; exact N4, own_base (own_belowK HR.out B4) (by have := F2.out.2.2.2.2; omega)⟩)
  have HQB := Lib.hid (show qb < w4.heap.size from Nat.lt_of_lt_of_le F2.out.2.2.2.1.blt B24.out.size)
  have HWW := Lib.hid (show w.heap.size ≤ w4.heap.size from I0.out.bel.size)
  have HBX := Lib.hid (show k7 + 1 < w4.heap.size ∧ bx < w4.heap.size from ⟨by have := B24.out.size; have := F2.out.2.2.2.2; omega, by omega⟩)
  have HST := Lib.hid (show BKS w k7 bx q qb (w4.heap.size + 2) (.slice na N.length nc) from ⟨HLO.out, HQK.out, ⟨by have := HB3.out.size; have := F2.out.2.2.2.2; omega, by omega⟩, fun j hj => by have h1 := HR.out.lt j hj; have := F2.out.2.2.2.2; omega⟩)
  rw [hbx]
  clear hw4 B4 N4 z4 BW F2 HR HB3 B24 hbx
  gi_wp2
  refine range_bk (v := .slice na N.length nc) (bx := bx) (L := N) (by omega) (by have := NLE.out; omega) rfl rfl (BKI w k7 (k7 + 1) bx q qb (w4.heap.size + 2) T (.slice na N.length nc) N) (BKI.own w k7 (k7 + 1) bx q qb (w4.heap.size + 2) w4.heap.size T _ N HQB.out HWW.out) I0.out (fun i W h => ⟨cell_row h.box rfl, own_liesK encH_len h.row⟩)
    (fun k' s b' => { tmps := #[.pointer (some ⟨c, 0, none⟩), .slice va l.length vc, .slice ua made.length uc, undef, undef, undef, .slice none 0 0, .pointer (some ⟨k7, 0, none⟩), .pointer (some ⟨k7 + 1, 0, none⟩), undef, .pointer (some ⟨b', 0, none⟩), undef, undef, .pointer (some ⟨c, 0, none⟩), .pointer (some ⟨q, 0, none⟩), .slice va l.length vc, .slice ua made.length uc, .slice na N.length nc, .func (.func 50) #[] #[.pointer (some ⟨bx, 0, none⟩)], .int .i64 (k' : Int), chV s, undef, undef, undef, undef, undef, undef, undef, undef, undef, undef, undef, undef, undef, undef, undef, undef, undef, undef, undef, undef, undef, undef, undef, undef, undef, undef, undef, undef, undef], defers := [] }) ?assign ?body ?done
  case assign =>
    intro l' k' s W K hK
    obtain ⟨nw, t, r, pt, pr, nm, d⟩ := s
    unfold chV chC at *
    dsimp only at hK ⊢
    gi_wp2_with (rw [Oper.semAt_eq _ _ _ (fun c h => by cases h)]; go_simp; try go_bits)
    exact hK
  case body =>
    intro l' i k' b' s W hI hil hk' hget hb1 hb2 hbox
    have HI := Lib.hid hI
    have XO := Lib.hid (OK.out s (List.mem_of_getElem? hget))
    obtain ⟨y1, y2, y3, y4, ok, hgv⟩ := GV.ex T s.t s.r
    have GG := Lib.hid hgv
    have G := get_any W q qb T hI.tab s.t s.r XO.out.t XO.out.r
    rw [hgv.val, hgv.has] at G
    have G := Lib.hid (CallsIn.inRound l' (callsIn_wide (n := m - 1 - 1 - 1).2 G))
    have BS := Lib.hid (bl_step (T := T) hil hk' hget)
    have c7 : W.cell? ⟨k7, 0, none⟩ = some (.pointer (some ⟨q, 0, none⟩)) := cell_row hI.b7 rfl
    have NX := Lib.hid (show W.heap[b']? = some (.cells (encH s).toArray 71 (0, 0)) from hbox)
    obtain ⟨nw, t, r, pt, pr, nm, d⟩ := s
    unfold chV at *
    dsimp only [encH] at *
    have d1 := cell_row (j := 1) NX.out rfl
    have d2 := cell_row (j := 2) NX.out rfl
    clear hI hgv hget
    gi_wp2_with (rw [Oper.semAt_eq _ _ _ (fun c h => by cases h)]; go_simp; try go_bits)
    refine ⟨trivial, fun _ => by omega, ?_⟩
    refine G.out.mono ?_
    rintro e w5 ⟨rfl, hb⟩
    have B5 := Lib.hid (hb.trans ((vstep w5 (.cells #[.int .i64 y1, .int .i64 y2, .string y3, .bool y4] 78)).mono hb.size))
    have E6 := Lib.hid (EnAt.new w5 y1 y2 y3 y4)
    have N6 := Lib.hid ((B5.out.block _ (lt_of_block NX.out)).trans NX.out)
    have f0 := cell_row (j := 0) N6.out rfl
    have f1 := cell_row (j := 1) N6.out rfl
    have f2 := cell_row (j := 2) N6.out rfl
    have f5 := cell_row (j := 5) N6.out rfl
    have f6 := cell_row (j := 6) N6.out rfl
    obtain ⟨g0, g1, g2, g3⟩ := E6.out.cells
    have BB := Lib.hid hb
    clear hb G c7 d1 d2
    obtain ⟨ov, h8, ho8⟩ := HI.out.b8
    have H80 := Lib.hid h8
    have O80 := Lib.hid ho8
    have N8 := Lib.hid ((B5.out.block _ (lt_of_block h8)).trans h8)
    have O8 := Lib.hid (own_belowK ho8 B5.out)
    have SZ := Lib.hid (show w4.heap.size + 2 ≤ (w5.alloc (.cells #[.int .i64 y1, .int .i64 y2, .string y3, .bool y4] 78)).heap.size from by have := B5.out.size; omega)
    have TW0 := Lib.hid (TW.below (k8 := k7 + 1) (E := w4.heap.size + 2) B5.out)
    clear h8 ho8
    cases nw with
    | false =>
      cases ok with
      | false =>
        gi_wp2_with (rw [Oper.semAt_eq _ _ _ (fun c h => by cases h)]; go_simp; try go_bits)
        refine ⟨B5.out.block _ (by omega), B5.out.block _ (by omega), ?_⟩
        exact HI.out.next HST.out TW0.out ⟨ov, N8.out, by rw [BS.out, bk_none rfl GG.out]; simp only [Option.toList_none, List.append_nil]; exact O8.out⟩
      | true =>
      have m7 := cell_row (j := 0) N8.out rfl
      have L9 := Lib.hid (show (blF T N i).length < 100000 from by have := bl_le T N i; have := NLE.out; omega)
      obtain ⟨oa, oc', rfl⟩ := own_shapeK O8.out
      have BX := vstep (w5.alloc (.cells #[.int .i64 y1, .int .i64 y2, .string y3, .bool y4] 78)) (.cells #[.bool false, .int .i64 t, .int .i64 r, .int .i64 y1, .int .i64 y2, .string y3, .bool y4] 71)
      have HX := Lib.hid (show ((w5.alloc (.cells #[.int .i64 y1, .int .i64 y2, .string y3, .bool y4] 78)).alloc (.cells #[.bool false, .int .i64 t, .int .i64 r, .int .i64 y1, .int .i64 y2, .string y3, .bool y4] 71)).heap[w5.heap.size + 1]? = some (.cells (encH ((⟨false, t, r, y1, y2, y3, y4⟩ : Ch))).toArray 71 (0, 0)) from by have h := heap_alloc_new (w5.alloc (.cells #[.int .i64 y1, .int .i64 y2, .string y3, .bool y4] 78)) (.cells (encH (⟨false, t, r, y1, y2, y3, y4⟩ : Ch)).toArray 71); rw [World.size_alloc] at h; exact h)
      have OX := Lib.hid (own_belowK O8.out BX)
      have H8 := Lib.hid ((BX.block _ (lt_of_block N8.out)).trans N8.out)
      have HBS := Lib.hid (show w4.heap.size + 2 ≤ ((w5.alloc (.cells #[.int .i64 y1, .int .i64 y2, .string y3, .bool y4] 78)).alloc (.cells #[.bool false, .int .i64 t, .int .i64 r, .int .i64 y1, .int .i64 y2, .string y3, .bool y4] 71)).heap.size from by have := BX.size; have := SZ.out; omega)
      have NE8 := Lib.hid (fun j (hj : (Value.slice oa (blF T N i).length oc').ownBlock = some j) => (show w4.heap.size + 2 ≤ j from (O8.out.lt j hj).1))
      have K8L := Lib.hid HBX.out.1
      clear BX
      gi_wp2_with (first
        | (gi_at_builtin; go_loud (refine wpListIn_pushH rfl (.tmp 37) (.tmp 47) rfl (w4.heap.size + 2) i0 hi9 hz0 hz1 hz2 (.slice oa (blF T N i).length oc') (blF T N i) ((⟨false, t, r, y1, y2, y3, y4⟩ : Ch)) (w5.heap.size + 1) rfl rfl HX.out OX.out L9.out HBS.out ?_; intro v9 w9 hown hgr; obtain ⟨va9, vc9, rfl⟩ := own_shapeK hown; have G9 := Lib.hid hgr; have O9 := Lib.hid hown; have M8 := Lib.hid (kept8 hgr H8.out NE8.out K8L.out); have m8 := cell_row (j := 0) M8.out rfl; have z8 := frozen_of_row (j := 0) _ _ _ _ M8.out; clear hown hgr))
        | (rw [Oper.semAt_eq _ _ _ (fun c h => by cases h)]; go_simp; try go_bits))
      have TT := Lib.hid ((TW0.out.trans (TW.below (k8 := k7 + 1) (E := w4.heap.size + 2) (vstep (w5.alloc (.cells #[.int .i64 y1, .int .i64 y2, .string y3, .bool y4] 78)) (.cells #[.bool false, .int .i64 t, .int .i64 r, .int .i64 y1, .int .i64 y2, .string y3, .bool y4] 71)))).trans ((TW.grown G9.out NE8.out).trans (TW.set (.slice va9 ((blF T N i).length + 1) vc9))))
      refine ⟨TT.out.block _ (by omega) (by have := K8L.out; omega) (by omega), TT.out.block _ (by omega) (by have := K8L.out; omega) (by omega), ?_⟩
      refine HI.out.next HST.out TT.out ⟨.slice va9 ((blF T N i).length + 1) vc9, row_setC (j := 0) M8.out, ?_⟩
      rw [BS.out, show (bkF T _).toList = [(⟨false, t, r, y1, y2, y3, y4⟩ : Ch)] from by rw [bk_some HTR.out rfl GG.out]; rfl]
      have h := O9.out
      rw [List.length_append] at h
      rw [List.length_append]
      exact own_grown h (TW.one _) (fun j hj e => by have := (h.lt j hj).1; have := K8L.out; injection e with e; omega)
    | true =>
      have TA := Lib.hid (fun W => CallsIn.inRound l' (callsIn_wide (n := m - 1 - 1 - 1).2 (trash_any W)))
      have B7 := Lib.hid (vstep (w5.alloc (.cells #[.int .i64 y1, .int .i64 y2, .string y3, .bool y4] 78)) (.cells #[.int .i64 0, .int .i64 1] 61))
      have N7 := Lib.hid ((B7.out.block _ (lt_of_block N6.out)).trans N6.out)
      have E7 := Lib.hid (E6.out.step B7.out)
      have x5 := cell_row (j := 5) N7.out rfl
      have x6 := cell_row (j := 6) N7.out rfl
      obtain ⟨e0, e1, e2, e3⟩ := E7.out.cells
      obtain ⟨z0, z1, z2, z3⟩ := E7.out.free
      gi_wp2_with (rw [Oper.semAt_eq _ _ _ (fun c h => by cases h)]; go_simp; try go_bits)
      rename_i K0 hK0
      have HKK : K0 { tmps := #[.pointer (some ⟨c, 0, none⟩), .slice va l.length vc, .slice ua made.length uc, undef, undef, undef, .slice none 0 0, .pointer (some ⟨k7, 0, none⟩), .pointer (some ⟨k7 + 1, 0, none⟩), undef, .pointer (some ⟨b', 0, none⟩), .pointer (some ⟨w5.heap.size, 0, none⟩), .bool true, .pointer (some ⟨c, 0, none⟩), .pointer (some ⟨q, 0, none⟩), .slice va l.length vc, .slice ua made.length uc, .slice na N.length nc, .func (.func 50) #[] #[.pointer (some ⟨bx, 0, none⟩)], .int .i64 ((N.length - 1 - i : Nat) : Int), .agg (chC ⟨true, t, r, pt, pr, nm, d⟩), .tuple #[.agg #[.int .i64 y1, .int .i64 y2, .string y3, .bool y4], .bool ok], .pointer (some ⟨q, 0, none⟩), .pointer (some ⟨b', 1, none⟩), .agg #[.int .i64 t, .int .i64 r], .tuple #[.agg #[.int .i64 y1, .int .i64 y2, .string y3, .bool y4], .bool ok], .agg #[.int .i64 y1, .int .i64 y2, .string y3, .bool y4], .bool ok, .pointer (some ⟨b', 0, none⟩), .bool true, .agg #[.int .i64 0, .int .i64 1], .pointer (some ⟨b', 5, none⟩), .string nm, .pointer (some ⟨b', 6, none⟩), .bool d, .agg #[.int .i64 0, .int .i64 1, .string nm, .bool d], undef, undef, undef, undef, undef, undef, undef, undef, undef, undef, undef, undef, undef, undef], defers := [] } ((w5.alloc (.cells #[.int .i64 0, .int .i64 1, .string nm, .bool d] 78)).alloc (.cells #[.int .i64 0, .int .i64 1] 61)).drew := by
        refine hK0 _ _ ?_
        clear f0 f1 f2 f5 f6 g0 g1 g2 g3 x5 x6 e0 e1 e2 e3 z0 z1 z2 z3
        have S1 := vstep w5 (.cells #[.int .i64 0, .int .i64 1, .string nm, .bool d] 78)
        have S2 := (vstep (w5.alloc (.cells #[.int .i64 0, .int .i64 1, .string nm, .bool d] 78)) (.cells #[.int .i64 0, .int .i64 1] 61)).drew
        have S3 := S1.trans (S2.mono S1.size)
        have EY := (EnAt.new w5 0 1 nm d).step S2
        have zy : (((w5.alloc (.cells #[.int .i64 0, .int .i64 1, .string nm, .bool d] 78)).alloc (.cells #[.int .i64 0, .int .i64 1] 61)).drew).heap.size = w5.heap.size + 2 := by
          show (((w5.alloc (.cells #[.int .i64 0, .int .i64 1, .string nm, .bool d] 78)).alloc (.cells #[.int .i64 0, .int .i64 1] 61))).heap.size = w5.heap.size + 2
          simp
        obtain ⟨wy, hwy⟩ : ∃ z, ((w5.alloc (.cells #[.int .i64 0, .int .i64 1, .string nm, .bool d] 78)).alloc (.cells #[.int .i64 0, .int .i64 1] 61)).drew = z := ⟨_, rfl⟩
        rw [hwy] at S3 EY zy
        rw [hwy]
        clear hwy S1 S2
        have BY := Lib.hid (BB.out.trans (S3.mono BB.out.size))
        have NY := Lib.hid ((BY.out.block _ (lt_of_block NX.out)).trans NX.out)
        have f1 := cell_row (j := 1) NY.out rfl
        have f2 := cell_row (j := 2) NY.out rfl
        obtain ⟨g0, g1, g2, g3⟩ := EY.cells
        have N8y := Lib.hid ((BY.out.block _ (lt_of_block H80.out)).trans H80.out)
        have O8y := Lib.hid (own_belowK O80.out BY.out)
        have TY := Lib.hid (TW.below (k8 := k7 + 1) (E := w4.heap.size + 2) BY.out)
        have ZY := Lib.hid zy
        have SZY := Lib.hid (show w4.heap.size + 2 ≤ wy.heap.size from by have := BY.out.size; have := SZ.out; have h := BB.out.size; omega)
        clear S3 EY zy N8 O8 SZ B5 B7 E6 E7 N6 N7 TW0 TA H80 O80
        have m7 := cell_row (j := 0) N8y.out rfl
        have L9 := Lib.hid (show (blF T N i).length < 100000 from by have := bl_le T N i; have := NLE.out; omega)
        obtain ⟨oa, oc', rfl⟩ := own_shapeK O8y.out
        have BX := vstep wy (.cells #[.bool false, .int .i64 t, .int .i64 r, .int .i64 0, .int .i64 1, .string nm, .bool d] 71)
        have HX := Lib.hid (show (wy.alloc (.cells #[.bool false, .int .i64 t, .int .i64 r, .int .i64 0, .int .i64 1, .string nm, .bool d] 71)).heap[w5.heap.size + 2]? = some (.cells (encH (⟨false, t, r, 0, 1, nm, d⟩ : Ch)).toArray 71 (0, 0)) from by have h := heap_alloc_new wy (.cells (encH (⟨false, t, r, 0, 1, nm, d⟩ : Ch)).toArray 71); rw [ZY.out] at h; exact h)
        have OX := Lib.hid (own_belowK O8y.out BX)
        have H8 := Lib.hid ((BX.block _ (lt_of_block N8y.out)).trans N8y.out)
        have HBS := Lib.hid (show w4.heap.size + 2 ≤ (wy.alloc (.cells #[.bool false, .int .i64 t, .int .i64 r, .int .i64 0, .int .i64 1, .string nm, .bool d] 71)).heap.size from by have := BX.size; have := SZY.out; omega)
        have NE8 := Lib.hid (fun j (hj : (Value.slice oa (blF T N i).length oc').ownBlock = some j) => (show w4.heap.size + 2 ≤ j from (O8y.out.lt j hj).1))
        have K8L := Lib.hid HBX.out.1
        clear BX
        have zq := ZY.out
        gi_wp2_with (first
          | (gi_at_builtin; go_loud (refine wpListIn_pushH rfl (.tmp 37) (.tmp 47) rfl (w4.heap.size + 2) i0 hi9 hz0 hz1 hz2 (.slice oa (blF T N i).length oc') (blF T N i) (⟨false, t, r, 0, 1, nm, d⟩ : Ch) (w5.heap.size + 2) rfl (by rw [← ZY.out]; rfl) HX.out OX.out L9.out HBS.out ?_; intro v9 w9 hown hgr; obtain ⟨va9, vc9, rfl⟩ := own_shapeK hown; have G9 := Lib.hid hgr; have O9 := Lib.hid hown; have M8 := Lib.hid (kept8 hgr H8.out NE8.out K8L.out); have m8 := cell_row (j := 0) M8.out rfl; have z8 := frozen_of_row (j := 0) _ _ _ _ M8.out; clear hown hgr))
          | (rw [Oper.semAt_eq _ _ _ (fun c h => by cases h)]; go_simp; try go_bits))
        have TT := Lib.hid ((TY.out.trans (TW.below (k8 := k7 + 1) (E := w4.heap.size + 2) (vstep wy (.cells #[.bool false, .int .i64 t, .int .i64 r, .int .i64 0, .int .i64 1, .string nm, .bool d] 71)))).trans ((TW.grown G9.out NE8.out).trans (TW.set (.slice va9 ((blF T N i).length + 1) vc9))))
        refine ⟨TT.out.block _ (by omega) (by have := K8L.out; omega) (by omega), TT.out.block _ (by omega) (by have := K8L.out; omega) (by omega), ?_⟩
        refine HI.out.next HST.out TT.out ⟨.slice va9 ((blF T N i).length + 1) vc9, row_setC (j := 0) M8.out, ?_⟩
        rw [BS.out, show (bkF T _).toList = [(⟨false, t, r, 0, 1, nm, d⟩ : Ch)] from by rw [bk_new rfl]; rfl]
        have h := O9.out
        rw [List.length_append] at h
        rw [List.length_append]
        exact own_grown h (TW.one _) (fun j hj e => by have := (h.lt j hj).1; have := K8L.out; injection e with e; omega)
      gi_region_with (refine ⟨trivial, fun _ => by omega, ?_⟩; refine (TA.out _).mono ?_; rintro e wz ⟨rfl, hwz⟩; subst hwz)
      all_goals exact HKK
  case done =>
    intro D' W hD' hI hK
    have h2 := (BKI.own w k7 (k7 + 1) bx q qb (w4.heap.size + 2) w4.heap.size T (.slice na N.length nc) N HQB.out HWW.out).putObj (.deferred none) hI hD' hK rfl
    obtain ⟨ov, h8, ho8⟩ := hI.b8
    obtain ⟨oa, oc', rfl⟩ := own_shapeK ho8
    have m7 := cell_row (j := 0) h8 rfl
    have OF := Lib.hid (show (W.putObj D' (.deferred none)).ownsRow w.heap.size 71 7 (.slice oa (blF T N N.length).length oc') (backF T (namedF made l)).length ((backF T (namedF made l)).flatMap encH) from by
      rw [HN.out]
      have h := own_base (own_keepN ho8 (grownBy_putObj' W D' (.deferred none)) (fun r e => by cases e; exact ⟨_, hK, rfl⟩)) (show w.heap.size ≤ w4.heap.size + 2 from by have := HWW.out; omega)
      have hz : blF T N N.length = backF T N := by unfold blF backF; rw [Nat.sub_self, List.drop_zero]
      rw [hz] at h
      rw [hz]
      exact h)
    have FB := Lib.hid h2.bel
    have HK := Lib.hid hK
    clear h2 h8 ho8 hI
    gi_wp2
    exact ⟨by simp, .inl ⟨_, _, rfl, run_takeDeferred HK.out, ⟨_, results_tmp (t := 6) rfl _ _ _, _, rfl, OF.out, FB.out⟩⟩⟩
theorem back_any (w : World) (c p b tb : Nat) (T : List Rw) (v u : Value) (l : List Ch) (made : List Sp) (h : CaI w c p b tb T) (hv : LiesK encH 7 w v l) (hu : LiesK encS 2 w u made) (hl : l.length ≤ 1000) (hml : made.length ≤ 1000) (hT : T.length < 100000) (hok : ∀ x ∈ l, OkH x) (hmk : ∀ m ∈ made, I64 m.1 ∧ I64 m.2) :
    Calls Try.prog 9 #[.pointer (some ⟨c, 0, none⟩), v, u] w fun e w' => ∃ r, e = .returned r ∧ w'.ownsRow w.heap.size 71 7 r (backF T (namedF made l)).length ((backF T (namedF made l)).flatMap encH) ∧ Below w.heap.size w w' :=
  callsIn_wide.1 (back_in 4 (Nat.le_refl _) w c p b tb T v u l made h hv hu hl hml hT hok hmk)
end Go.Proofs.Ythbmbpnpigpgpaa
