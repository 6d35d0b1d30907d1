/- slices.Clone at changes, slices.Delete at lists of changes. Made by genib38.py. -/
import Derived.Test.YthbmbpnpigpgpaaIA
import Derived.Lib.SliceRun
set_option linter.unusedVariables false
set_option linter.unusedSimpArgs false
set_option maxRecDepth 100000
namespace Go.Proofs.Ythbmbpnpigpgpaa
open Go.RowKit Go.Shelf

theorem own_empty (w : World) (B : Nat) (e : TypeId) (k : Nat) (hB : B ≤ w.heap.size) : (w.alloc (.cells #[] e)).ownsRow B e k (.slice (some ⟨w.heap.size, 0, none⟩) 0 0) 0 [] :=
  ⟨by simp, .inr ⟨w.heap.size, 0, #[], rfl, hB, heap_alloc_new w _, Nat.le_refl _, Nat.zero_le _, by simp, by simp⟩⟩
set_option maxHeartbeats 1600000 in
theorem hclone_any (w : World) (v : Value) (l : List Ch) (h : LiesK encH 7 w v l) (hl : l.length ≤ 1000) :
    Calls Try.prog 44 #[v] w fun e w' => ∃ x : Ls, x.l = l ∧ e = .returned (.slice x.a l.length x.c) ∧ w'.ownsRow w.heap.size 71 7 (.slice x.a l.length x.c) l.length (l.flatMap encH) ∧ Below w.heap.size w w' := by
  obtain ⟨i0, hi, hz0, hz1, hz2⟩ := info_parts info71
  have H := Lib.hid h
  obtain ⟨ao, cap, rfl, hn, hmx, h0, hc⟩ := h
  clear hc
  cases ao with
  | none =>
    obtain ⟨rfl, rfl⟩ := h0 rfl
    have kc := fun W => Lib.run_eql_slice_nil (P := Try.prog) W 30 71 none 0 0 0 0 Try.u30
    go_enter Try.func44, Try.ntmps44
    go_wp2
    go_returns
    exact ⟨⟨none, 0, []⟩, rfl, rfl, World.ownsRow_nil _ _ _ _, Below.refl _ _⟩
  | some b =>
    clear h0
    have kc := fun W => Lib.run_eql_slice_nil (P := Try.prog) W 30 71 (some b) l.length cap 0 0 Try.u30
    have hX := vstep w (.cells #[] 71)
    have HL := Lib.hid ((H.out.step hX).src Try.u30 encH_len (by decide) encH_one)
    clear hX
    go_enter Try.func44, Try.ntmps44
    go_wp2_with (at_builtin; refine wpList_append_src_own rfl (.tmp 5) (.tmp 6) 30 30 rfl w.heap.size 71 i0 (.agg #[.bool false, .int .i64 0, .int .i64 0, .int .i64 0, .int .i64 0, .string ⟨#[]⟩, .bool false]) 7 64 Try.u30 hi hz0 hz1 hz2 rfl (by decide) _ 0 [] rfl (own_empty w _ 71 7 (Nat.le_refl _)) _ l.length (l.flatMap encH) rfl HL.out (by unfold maxLen; omega) (by omega) (by simp) ?_; intro v1 w1 hown hgr hsp)
    rw [Nat.zero_add, List.nil_append] at hown
    obtain ⟨ra, rc, rfl⟩ := own_shapeK hown
    have FF := Lib.hid (show w1.ownsRow w.heap.size 71 7 (.slice ra l.length rc) l.length (l.flatMap encH) ∧ Below w.heap.size w w1 from ⟨hown, ((Below.refl w.heap.size w).alloc (Nat.le_refl _) (.cells #[] 71)).grown hgr (by simp) (fun k hk => by simp [Act.eval, Value.ownBlock] at hk; omega)⟩)
    clear hown hgr hsp
    go_returns
    exact ⟨⟨ra, rc, l⟩, rfl, rfl, FF.out.1, FF.out.2⟩
/-! ### an append that stays in its row, a row cleared at its end -/
theorem run_append_in {P : Program} (w : World) (t ty e : TypeId) (i : TypeInfo) (ht : P.underlying t = some (.slice e)) (hi : P.info? e = some i) (hsize : i.size = 1) {g cap n m : Nat} {cur : Array Value} {x : Value} {news : List Value}
    (hg : w.heap[g]? = some (.cells cur e (0, 0))) (hcs : cur.size = cap) (hs : Src P 1 t x m news w) (hroom : n + m ≤ cap) :
    (Builtin.append_ #[t, t] ty #[.slice (some ⟨g, 0, none⟩) n cap, x]).run P w = .ok (.slice (some ⟨g, 0, none⟩) (n + m) cap) (w.setRow g (cur.toList.take n ++ news ++ cur.toList.drop (n + m)).toArray) := by
  have hm : news.length = m := by rw [hs.newsLen, Nat.mul_one]
  have hst := run_storeCells_at P g n e news 0 cur w hg (by omega) hs.one
  simp only [Nat.add_zero, hm] at hst
  rcases hs.kind with ⟨e', hk⟩ | hk <;> simp [Builtin.append_, run_underlying ht, run_underlying hk, sizeOf, typeInfo, hi, hsize, hs.len, hroom, hs.cells, Addr.add_lit, hst]
theorem zc_len (q : Nat) : (Builtin.zeroCells #[Value.slice none 0 0] q).toList.length = q := by simp [Builtin.zeroCells]
theorem zc_size (q : Nat) : (Builtin.zeroCells #[Value.slice none 0 0] q).size = q := by simp [Builtin.zeroCells]
theorem zc_one (q : Nat) : ∀ v ∈ (Builtin.zeroCells #[Value.slice none 0 0] q).toList, v.oneCell' = true := by
  intro v hv
  have hv := Array.mem_toList_iff.1 hv
  unfold Builtin.zeroCells at hv
  obtain ⟨t, ht, rfl⟩ := Array.mem_map.1 hv
  have hm : t % (#[Value.slice none 0 0]).size < 1 := Nat.mod_lt _ (by decide)
  rw [getElem!_pos #[Value.slice none 0 0] (t % (#[Value.slice none 0 0]).size) hm]
  have e0 : t % (#[Value.slice none 0 0]).size = 0 := by omega
  simp only [e0]
  rfl
theorem clr_in {W : World} {g o q c : Nat} {cur : Array Value} (hb : W.heap[g]? = some (.cells cur 30 (0, 0))) (hq : 0 < q) (ho : o + q ≤ cur.size) :
    ∃ cur' : Array Value, (∀ ty, (Builtin.clear_ #[45] ty #[.slice (some ⟨g, o, none⟩) q c]).run Try.prog W = .ok (.tuple #[]) (W.setRow g cur')) ∧ cur'.size = cur.size ∧ cur'.toList.take o = cur.toList.take o := by
  have hst := run_storeCells_at Try.prog g o 30 (Builtin.zeroCells #[Value.slice none 0 0] q).toList 0 cur W hb (by rw [zc_len]; omega) (zc_one q)
  simp only [Nat.add_zero, zc_len] at hst
  refine ⟨(cur.toList.take o ++ (Builtin.zeroCells #[Value.slice none 0 0] q).toList ++ cur.toList.drop (o + q)).toArray, ?_, ?_, ?_⟩
  rotate_left 1
  · simp only [List.size_toArray, List.length_append, List.length_take, List.length_drop, Array.length_toList, zc_size]
    omega
  · simp only [List.append_assoc]
    rw [List.take_append_of_le_length (by rw [List.length_take, Array.length_toList]; omega), List.take_take, Nat.min_self]
  · intro ty
    obtain ⟨m, hm⟩ : ∃ m, q = m + 1 := ⟨q - 1, by omega⟩
    rw [hm] at hst ⊢
    have hzv : ∀ w, (zeroValue 30).run Try.prog w = .ok (.slice none 0 0) w := fun w => by kernel_rfl
    simp [Builtin.clear_, run_underlying Try.u45, hzv, Value.cells, hst]
theorem head45 {g n cap i : Nat} (hi : i ≤ n) (hn : n ≤ cap) (W : World) : (Instr.sliceAt 45 (.slice (some ⟨g, 0, none⟩) n cap) none (some (.int .i64 (i : Int))) none).run Try.prog W = .ok (.slice (some ⟨g, 0, none⟩) i cap) W := by
  have h1 : (i : Int) ≤ (n : Int) := by omega
  have h2 : (i : Int) ≤ (cap : Int) := by omega
  go_simp
theorem tail45 {g n cap j : Nat} (hj : j ≤ n) (hn : n ≤ cap) : ∃ A : Addr, (∀ W, (Instr.sliceAt 45 (.slice (some ⟨g, 0, none⟩) n cap) (some (.int .i64 (j : Int))) none none).run Try.prog W = .ok (.slice (some A) (n - j) (cap - j)) W) ∧ (j < n → A = ⟨g, j, none⟩) := by
  have hz : ∀ W, (Go.sizeOf (Try.prog.elem 45)).run Try.prog W = .ok 1 W := fun W => by kernel_rfl
  by_cases e : cap = j
  · refine ⟨⟨g, 0, none⟩, fun W => ?_, fun h => by omega⟩
    rw [run_sliceAt_slice (P := Try.prog) (h := Try.u45), run_slice_l (P := Try.prog) (ht := Try.u45) (h0 := by omega) (h1 := by omega), hz W]
    show Result.ok (Value.slice (if cap = j then _ else (some (⟨g, 0, none⟩ : Addr)).map (·.add (j * 1))) (n - j) (cap - j)) W = _
    rw [if_pos e]
  · refine ⟨⟨g, j, none⟩, fun W => ?_, fun _ => rfl⟩
    rw [run_sliceAt_slice (P := Try.prog) (h := Try.u45), run_slice_l (P := Try.prog) (ht := Try.u45) (h0 := by omega) (h1 := by omega), hz W]
    show Result.ok (Value.slice (if cap = j then _ else (some (⟨g, 0, none⟩ : Addr)).map (·.add (j * 1))) (n - j) (cap - j)) W = _
    rw [if_neg e]
    simp [Addr.add]
    exact fun e => e.symm
theorem flat_drop (l : List Ls) (j : Nat) : (l.drop j).flatMap encL = (l.flatMap encL).drop j := by
  have e : ∀ m : List Ls, m.flatMap encL = m.map Ls.v := fun m => by induction m with
    | nil => rfl
    | cons x m ih => rw [List.flatMap_cons, ih]; rfl
  rw [e, e, List.map_drop]
theorem flat_take (l : List Ls) (j : Nat) : (l.take j).flatMap encL = (l.flatMap encL).take j := by
  have e : ∀ m : List Ls, m.flatMap encL = m.map Ls.v := fun m => by induction m with
    | nil => rfl
    | cons x m ih => rw [List.flatMap_cons, ih]; rfl
  rw [e, e, List.map_take]
/-- What the append within Delete makes. -/
theorem del_row {W : World} {B g n cap i j : Nat} {D : List Ls} (h : W.ownsRow B 30 1 (.slice (some ⟨g, 0, none⟩) n cap) n (D.flatMap encL)) (hD : D.length = n) (hij : i < j) (hj : j ≤ n) {A : Addr} (hA : j < n → A = ⟨g, j, none⟩) :
    ∃ cur : Array Value, (∀ ty, (Builtin.append_ #[45, 45] ty #[.slice (some ⟨g, 0, none⟩) i cap, .slice (some A) (n - j) (cap - j)]).run Try.prog W.drew = .ok (.slice (some ⟨g, 0, none⟩) (i + (n - j)) cap) (W.drew.setRow g cur)) ∧
      (W.drew.setRow g cur).heap[g]? = some (.cells cur 30 (0, 0)) ∧ B ≤ g ∧ n ≤ cap ∧ cap ≤ maxLen ∧ cur.size = cap ∧ cur.toList.take (i + (n - j)) = (D.take i ++ D.drop j).flatMap encL := by
  obtain ⟨i0, hi, hz0, hz1, hz2⟩ := info_parts info30
  rcases h.2 with ⟨e, _⟩ | ⟨g', cap', cur, e, hB, hb, hn, hm, hs, ht⟩
  · cases e
  · injection e with e1 e2 e3
    injection e1 with e1
    injection e1 with e1
    subst e1 e3
    rw [Nat.mul_one] at hs ht
    have hl : (D.flatMap encL).length = n := by rw [flatL_len, hD]
    have hsrc : Src Try.prog 1 45 (.slice (some A) (n - j) (cap - j)) (n - j) ((D.drop j).flatMap encL) W.drew := by
      refine Src.ofSlice _ Try.u45 _ _ _ _ (by rw [flatL_len, List.length_drop, hD, Nat.mul_one]) (fun q u hq => ?_) (flat_one encL_one _)
      have hq1 := (List.getElem?_eq_some_iff.1 hq).1
      rw [flatL_len, List.length_drop, hD] at hq1
      rw [hA (by omega), rk_addr]
      rw [flat_drop, List.getElem?_drop] at hq
      rw [← ht, List.getElem?_take, if_pos (by omega)] at hq
      exact (cell_of_row _ _ _ _ _ _ hb).trans (by rw [← hq]; simp)
    have hb' : W.drew.heap[g]? = some (.cells cur 30 (0, 0)) := hb
    refine ⟨_, fun ty => run_append_in W.drew 45 ty 30 i0 Try.u45 hi hz1 hb' hs hsrc (by omega), setRow_heap _ _ _ _ _ _ hb', hB, hn, hm, ?_, ?_⟩
    · simp only [List.size_toArray, List.length_append, List.length_take, List.length_drop, Array.length_toList, flatL_len, hD]
      omega
    · have h1 : (cur.toList.take i ++ (D.drop j).flatMap encL).length = i + (n - j) := by
        rw [List.length_append, List.length_take, flatL_len, List.length_drop, hD, Array.length_toList]
        omega
      show ((cur.toList.take i ++ (D.drop j).flatMap encL) ++ _).take (i + (n - j)) = _
      rw [← h1, List.take_left, List.flatMap_append, flat_take, ← ht, List.take_take, Nat.min_eq_left (by omega)]
theorem wpList_clr {P : Program} {w w' : World} {ops : Array Oper} {rest : List Oper} {o : Oper} {a : Act} {Q : Exit → Act → World → Prop} (hgd : o.guard = none) (s : Operand) (t : TypeId)
    (ho : o.op = .call { callee := .builtin .clear, args := #[s], argTypes := #[t] }) (v : Value) (hs : a.eval s = v) (hr : (Builtin.clear_ #[t] o.type #[v]).run P w = .ok (.tuple #[]) w')
    (h : wpList P ops Q rest (a.put o.dst (.tuple #[])) w') : wpList P ops Q (o :: rest) a w :=
  wpList_plain hgd fun _ hK => by
    unfold Oper.wp
    simp only [execOp, ho, resolve, invoke, builtin, Sem.run_bind, Sem.run_pure, Result.andThen_ok, List.map_toArray, List.map_cons, List.map_nil, hs, hr]
    exact hK _ _ h
theorem wpList_sl2 {P : Program} {w : World} {ops : Array Oper} {rest : List Oper} {o : Oper} {a : Act} {Q : Exit → Act → World → Prop} (hgd : o.guard = none) (x y z : Operand) (t : TypeId)
    (ho : o.op = .slice t x (some y) (some z) none) (v u q r : Value) (hx : a.eval x = v) (hy : a.eval y = u) (hz : a.eval z = q) (hr : (Instr.sliceAt t v (some u) (some q) none).run P w = .ok r w)
    (h : wpList P ops Q rest (a.put o.dst r) w) : wpList P ops Q (o :: rest) a w :=
  wpList_plain hgd fun _ hK => by
    unfold Oper.wp execOp
    simp only [ho, Option.map_some, Option.map_none, hx, hy, hz, hr, Sem.run_bind, Sem.run_pure, Result.andThen_ok]
    exact hK _ _ h
theorem mid45 {g n cap m : Nat} (hm : m < n) (hn : n ≤ cap) (W : World) : (Instr.sliceAt 45 (.slice (some ⟨g, 0, none⟩) m cap) (some (.int .i64 (m : Int))) (some (.int .i64 (n : Int))) none).run Try.prog W = .ok (.slice (some ⟨g, m, none⟩) (n - m) (cap - m)) W := by
  have h1 : (m : Int) ≤ (n : Int) := by omega
  have h2 : (n : Int) ≤ (cap : Int) := by omega
  have h3 : ¬ (cap = m) := by omega
  go_simp
set_option maxHeartbeats 3200000 in
theorem del_any (w : World) (B g n cap i j : Nat) (D : List Ls) (h : w.ownsRow B 30 1 (.slice (some ⟨g, 0, none⟩) n cap) n (D.flatMap encL)) (hD : D.length = n) (hij : i < j) (hj : j ≤ n) (hn6 : n ≤ 100000) :
    Calls Try.prog 45 #[.slice (some ⟨g, 0, none⟩) n cap, .int .i64 (i : Int), .int .i64 (j : Int)] w fun e w' => e = .returned (.slice (some ⟨g, 0, none⟩) (i + (n - j)) cap) ∧ w'.ownsRow B 30 1 (.slice (some ⟨g, 0, none⟩) (i + (n - j)) cap) (i + (n - j)) ((D.take i ++ D.drop j).flatMap encL) ∧ w.grownBy w' (some g) := by
  have hcap : n ≤ cap ∧ cap ≤ maxLen := by
    rcases h.2 with ⟨e, _⟩ | ⟨g', cap', cur, e, hB, hb, hn, hm, hs, ht⟩
    · cases e
    · injection e with e1 e2 e3
      subst e3
      exact ⟨hn, hm⟩
  have hnc := hcap.1
  have hc6 : cap ≤ 9223372036854775807 := by have := hcap.2; unfold maxLen at this; omega
  obtain ⟨A, hA, hA2⟩ := tail45 (g := g) hj hnc
  have HD0 := Lib.hid (fun W => head45 (g := g) (show i ≤ n by omega) hnc W)
  have TL0 := Lib.hid hA
  obtain ⟨cur, hrun, hb1, hBg, -, hmx, hcs, hct⟩ := del_row h hD hij hj hA2
  obtain ⟨m, hm⟩ : ∃ m, i + (n - j) = m := ⟨_, rfl⟩
  have hmn : m < n := by omega
  rw [hm] at hrun hct ⊢
  have MD0 := Lib.hid (fun W => mid45 (g := g) hmn hnc W)
  obtain ⟨cur2, hcl, hcs2, hct2⟩ := clr_in (c := cap - m) hb1 (show 0 < n - m by omega) (show m + (n - m) ≤ cur.size by omega)
  have HRUN := Lib.hid hrun
  have HCT := Lib.hid (show cur2.toList.take (m * 1) = (D.take i ++ D.drop j).flatMap encL by rw [Nat.mul_one, hct2, hct])
  have HB2 := Lib.hid (setRow_heap _ g _ cur2 _ _ hb1)
  have hi1 : (i : Int) ≤ (j : Int) := by omega
  have hj1 : (j : Int) ≤ (n : Int) := by omega
  have hn1 : (n : Int) ≤ (cap : Int) := by omega
  have hne : ((i : Int) == (j : Int)) = false := by simp; omega
  have X := Lib.hid h
  clear hA hA2 hrun hb1 hct hct2 h
  have HCL := Lib.hid hcl
  have FF := Lib.hid (show ((w.drew.setRow g cur).setRow g cur2).ownsRow B 30 1 (.slice (some ⟨g, 0, none⟩) m cap) m ((D.take i ++ D.drop j).flatMap encL) ∧ w.grownBy ((w.drew.setRow g cur).setRow g cur2) (some g) from by
    refine ⟨⟨by rw [flatL_len, List.length_append, List.length_take, List.length_drop]; omega, .inr ⟨g, cap, cur2, rfl, hBg, HB2.out, by omega, hmx, by rw [hcs2, hcs, Nat.mul_one], HCT.out⟩⟩, ⟨rfl, rfl, rfl, by simp, fun k _ hk => ?_⟩⟩
    have hne : k ≠ g := fun e => hk (by rw [e])
    exact (setRow_other _ _ _ _ hne).trans ((setRow_other _ _ _ _ hne).trans rfl))
  clear hcl
  go_enter Try.func45, Try.ntmps45
  go_upto_region 5 with (fail)
  refine wp_region_held_drew (S := (fun _ => True)) (by kernel_rfl) (trivial) (fun hHeld => ?_)
  have BV := Lib.hid (trivial)
  clear hHeld
  refine take_at (i := 0) 20 ?_ rfl rfl (by kernel_rfl) (by kernel_rfl) (by kernel_rfl) (fun _ _ _ h => h) (.inl ⟨rfl, ?_⟩) BV.out ?_
  rotate_left 1
  · intro w hSw; go_simp; try with_reducible rfl
  simp only [Act.put, List.setIfInBounds_toArray, List.set_cons_zero, List.set_cons_succ]
  refine take_at (i := 1) 21 ?_ rfl rfl (by kernel_rfl) (by kernel_rfl) (by kernel_rfl) (fun _ _ _ h => h) (.inl ⟨rfl, ?_⟩) BV.out ?_
  rotate_left 1
  · intro w hSw; go_simp; try with_reducible rfl
  simp only [Act.put, List.setIfInBounds_toArray, List.set_cons_zero, List.set_cons_succ]
  refine take_at (i := 2) 22 (.slice (some ⟨g, 0, none⟩) i cap) rfl rfl (by kernel_rfl) (by kernel_rfl) (by kernel_rfl) (fun _ _ _ h => h) (yields_slh (.tmp 20) (.tmp 21) 45 (.slice (some ⟨g, 0, none⟩) n cap) (.int .i64 (i : Int)) _ HD0.out rfl rfl rfl rfl) BV.out ?_
  simp only [Act.put, List.setIfInBounds_toArray, List.set_cons_zero, List.set_cons_succ]
  refine take_at (i := 3) 23 ?_ rfl rfl (by kernel_rfl) (by kernel_rfl) (by kernel_rfl) (fun _ _ _ h => h) (.inl ⟨rfl, ?_⟩) BV.out ?_
  rotate_left 1
  · intro w hSw; go_simp; try with_reducible rfl
  simp only [Act.put, List.setIfInBounds_toArray, List.set_cons_zero, List.set_cons_succ]
  refine take_at (i := 4) 24 ?_ rfl rfl (by kernel_rfl) (by kernel_rfl) (by kernel_rfl) (fun _ _ _ h => h) (.inl ⟨rfl, ?_⟩) BV.out ?_
  rotate_left 1
  · intro w hSw; go_simp; try with_reducible rfl
  simp only [Act.put, List.setIfInBounds_toArray, List.set_cons_zero, List.set_cons_succ]
  refine take_at (i := 5) 25 (.slice (some A) (n - j) (cap - j)) rfl rfl (by kernel_rfl) (by kernel_rfl) (by kernel_rfl) (fun _ _ _ h => h) (yields_sll (.tmp 23) (.tmp 24) 45 (.slice (some ⟨g, 0, none⟩) n cap) (.int .i64 (j : Int)) _ TL0.out rfl rfl rfl rfl) BV.out ?_
  simp only [Act.put, List.setIfInBounds_toArray, List.set_cons_zero, List.set_cons_succ]
  refine wpAnyH_ready (rs := [6]) (by kernel_rfl) (by simp) (br_append (i := 6) 26 (.tmp 22) (.tmp 25) 45 45 rfl rfl rfl rfl _ _ _ _ rfl rfl (HRUN.out _) trivial (fun _ => ?_) AllReadyH.nil)
  simp only [Act.put, List.setIfInBounds_toArray, List.set_cons_zero, List.set_cons_succ]
  refine take_at (i := 7) 0 ?_ rfl rfl (by kernel_rfl) (by kernel_rfl) (by kernel_rfl) (fun _ _ _ h => h) (.inl ⟨rfl, ?_⟩) BV.out ?_
  rotate_left 1
  · intro w hSw; go_simp; try with_reducible rfl
  simp only [Act.put, List.setIfInBounds_toArray, List.set_cons_zero, List.set_cons_succ]
  refine wpAnyH_done (by kernel_rfl) ?_ _
  go_wp2_with (first
    | (refine wpList_sl2 rfl (.tmp 27) (.tmp 29) (.tmp 30) 45 rfl (.slice (some ⟨g, 0, none⟩) m cap) (.int .i64 (m : Int)) (.int .i64 (n : Int)) (.slice (some ⟨g, m, none⟩) (n - m) (cap - m)) rfl rfl rfl (MD0.out _) ?_)
    | (refine wpList_clr rfl (.tmp 31) 45 rfl (.slice (some ⟨g, m, none⟩) (n - m) (cap - m)) rfl (HCL.out _) ?_))
  go_returns
  exact ⟨rfl, FF.out⟩
end Go.Proofs.Ythbmbpnpigpgpaa
