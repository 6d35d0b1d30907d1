/- Lists of changes: mine, Theirs. Made by genhd38.py. -/
import Derived.Test.YthbmbpnpigpgpaaHQ
set_option linter.unusedVariables false
set_option linter.unusedSimpArgs false
set_option maxRecDepth 100000
namespace Go.Proofs.Ythbmbpnpigpgpaa
open Go.RowKit Go.Shelf

theorem run_pushK {α : Type} {enc : α → List Value} {k : Nat} {P : Program} (w : World) (t : TypeId) (ty : TypeId) (hk : ∀ x, (enc x).length = k) (hk0 : 0 < k) (h1 : ∀ x, ∀ v ∈ enc x, v.oneCell' = true)
    (base : Nat) (e : TypeId) (i : TypeInfo) (z : Value) (bytes : Nat) (ht : P.underlying t = some (.slice e)) (hi : P.info? e = some i) (hz : i.zero = some z)
    (hsize : i.size = k) (hby : i.bytes = bytes) (hzs : z.cells.size = k) (v : Value) (l : List α) (p : α) (g : Nat) (hb : w.heap[g]? = some (.cells (enc p).toArray e (0, 0)))
    (hown : w.ownsRow base e k v l.length (l.flatMap enc)) (h63 : l.length + 1 ≤ maxLen) (hbytes : (l.length + 1) * bytes ≤ 140737488355328) (hbase : base ≤ w.heap.size) :
    ∃ v' w', (Builtin.append_ #[t, t] ty #[v, .slice (some ⟨g, 0, none⟩) 1 1]).run P w = .ok v' w' ∧ w'.ownsRow base e k v' (l ++ [p]).length ((l ++ [p]).flatMap enc) ∧ w.grownBy w' v.ownBlock := by
  obtain ⟨v', w', h2, h3, h4, _⟩ := run_append_src_own (P := P) w base t t ty e i z k bytes ht hi hz hsize hby hzs hk0 v l.length (l.flatMap enc) hown (.slice (some ⟨g, 0, none⟩) 1 1) 1 ([p].flatMap enc) ((one_liesK hk hb).src ht hk hk0 h1) h63 hbytes hbase
  exact ⟨v', w', h2, by rw [List.length_append, List.flatMap_append]; exact h3, h4⟩
theorem info71 : (Try.prog.info? 71).map (fun i => (i.zero, i.size, i.bytes)) = some (some (.agg #[.bool false, .int .i64 0, .int .i64 0, .int .i64 0, .int .i64 0, .string ⟨#[]⟩, .bool false]), 7, 64) := by kernel_rfl
theorem info63 : (Try.prog.info? 63).map (fun i => (i.zero, i.size, i.bytes)) = some (some (.agg #[.bool false, .int .i64 0, .int .i64 0, .int .i64 0, .int .i64 0, .string ⟨#[]⟩, .bool false]), 7, 64) := by kernel_rfl
theorem Try.u30 : Try.prog.underlying 30 = some (.slice 71) := by kernel_rfl
theorem Try.u23 : Try.prog.underlying 23 = some (.slice 63) := by kernel_rfl
theorem ixH30 {g o n cap i : Nat} (h : i < n) (hn : n ≤ 9223372036854775807) (W : World) : (Instr.indexAt 30 (.slice (some ⟨g, o, none⟩) n cap) (.int .i64 (i : Int))).run Try.prog W = .ok (.pointer (some ⟨g, o + i * 7, none⟩)) W := by
  go_simp
theorem ixH23 {g o n cap i : Nat} (h : i < n) (hn : n ≤ 9223372036854775807) (W : World) : (Instr.indexAt 23 (.slice (some ⟨g, o, none⟩) n cap) (.int .i64 (i : Int))).run Try.prog W = .ok (.pointer (some ⟨g, o + i * 7, none⟩)) W := by
  go_simp
/-- A change's cells. -/
structure ChAt (W : World) (g k : Nat) (x : Ch) : Prop where
  c0 : W.cell? ⟨g, k, none⟩ = some (.bool x.nw)
  c1 : W.cell? ⟨g, k + 1, none⟩ = some (.int .i64 x.t)
  c2 : W.cell? ⟨g, k + 2, none⟩ = some (.int .i64 x.r)
  c3 : W.cell? ⟨g, k + 3, none⟩ = some (.int .i64 x.pt)
  c4 : W.cell? ⟨g, k + 4, none⟩ = some (.int .i64 x.pr)
  c5 : W.cell? ⟨g, k + 5, none⟩ = some (.string x.nm)
  c6 : W.cell? ⟨g, k + 6, none⟩ = some (.bool x.d)
theorem ChAt.of {W : World} {g k : Nat} {x : Ch} (hc : ∀ r u, (encH x)[r]? = some u → W.cell? ⟨g, k + r, none⟩ = some u) : ChAt W g k x :=
  ⟨hc 0 _ rfl, hc 1 _ rfl, hc 2 _ rfl, hc 3 _ rfl, hc 4 _ rfl, hc 5 _ rfl, hc 6 _ rfl⟩
theorem ChAt.keep {W W' : World} {g k B : Nat} {x : Ch} (h : ChAt W g k x) (hb : Below B W W') (hg : g < B) : ChAt W' g k x :=
  ⟨(hb.cell (p := ⟨g, k, none⟩) hg).trans h.c0, (hb.cell (p := ⟨g, k + 1, none⟩) hg).trans h.c1, (hb.cell (p := ⟨g, k + 2, none⟩) hg).trans h.c2, (hb.cell (p := ⟨g, k + 3, none⟩) hg).trans h.c3, (hb.cell (p := ⟨g, k + 4, none⟩) hg).trans h.c4, (hb.cell (p := ⟨g, k + 5, none⟩) hg).trans h.c5, (hb.cell (p := ⟨g, k + 6, none⟩) hg).trans h.c6⟩
theorem ldB {W : World} {g o : Nat} {b : Bool} (c0 : W.cell? ⟨g, o, none⟩ = some (.bool b)) : (Instr.loadAt 4 (.pointer (some ⟨g, o, none⟩))).run Try.prog W = .ok (.bool b) W := by
  go_simp
theorem ldN {W : World} {g o : Nat} {s : ByteArray} (c0 : W.cell? ⟨g, o, none⟩ = some (.string s)) : (Instr.loadAt 9 (.pointer (some ⟨g, o, none⟩))).run Try.prog W = .ok (.string s) W := by
  go_simp
theorem ldS {W : World} {g o : Nat} {a b : Int} (c0 : W.cell? ⟨g, o, none⟩ = some (.int .i64 a)) (c1 : W.cell? ⟨g, o + 1, none⟩ = some (.int .i64 b)) : (Instr.loadAt 61 (.pointer (some ⟨g, o, none⟩))).run Try.prog W = .ok (.agg #[.int .i64 a, .int .i64 b]) W := by
  go_simp
theorem ldC71 {W : World} {g o : Nat} {x : Ch} (h : ChAt W g o x) : (Instr.loadAt 71 (.pointer (some ⟨g, o, none⟩))).run Try.prog W = .ok (.agg #[.bool x.nw, .int .i64 x.t, .int .i64 x.r, .int .i64 x.pt, .int .i64 x.pr, .string x.nm, .bool x.d]) W := by
  obtain ⟨c0, c1, c2, c3, c4, c5, c6⟩ := h
  go_simp
theorem ldC63 {W : World} {g o : Nat} {x : Ch} (h : ChAt W g o x) : (Instr.loadAt 63 (.pointer (some ⟨g, o, none⟩))).run Try.prog W = .ok (.agg #[.bool x.nw, .int .i64 x.t, .int .i64 x.r, .int .i64 x.pt, .int .i64 x.pr, .string x.nm, .bool x.d]) W := by
  obtain ⟨c0, c1, c2, c3, c4, c5, c6⟩ := h
  go_simp
theorem bsH30 (W : World) (x : Ch) : (Instr.buildSlice 30 1 #[(0, .agg #[.bool x.nw, .int .i64 x.t, .int .i64 x.r, .int .i64 x.pt, .int .i64 x.pr, .string x.nm, .bool x.d])]).run Try.prog W = .ok (.slice (some ⟨W.heap.size, 0, none⟩) 1 1) (W.alloc (.cells (encH x).toArray 71)) := by
  go_simp
  try rfl
theorem bsH23 (W : World) (x : Ch) : (Instr.buildSlice 23 1 #[(0, .agg #[.bool x.nw, .int .i64 x.t, .int .i64 x.r, .int .i64 x.pt, .int .i64 x.pr, .string x.nm, .bool x.d])]).run Try.prog W = .ok (.slice (some ⟨W.heap.size, 0, none⟩) 1 1) (W.alloc (.cells (encH x).toArray 63)) := by
  go_simp
  try rfl
theorem chsnoc {l : List Ch} {i : Nat} {x : Ch} (h : l[i]? = some x) : l.take (i + 1) = l.take i ++ [x] := by
  obtain ⟨hlt, e⟩ := List.getElem?_eq_some_iff.1 h
  rw [List.take_succ_eq_append_getElem hlt, e]
set_option maxHeartbeats 3200000 in
theorem mine_any (w : World) (v : Value) (l : List Ch) (h : LiesK encH 7 w v l) (hl : l.length ≤ 1000) :
    Calls Try.prog 10 #[v] w fun e w' => ∃ r, e = .returned r ∧ w'.ownsRow w.heap.size 71 7 r l.length (l.flatMap encH) ∧ Below w.heap.size w w' := by
  obtain ⟨i0, hi9, hz0, hz1, hz2⟩ := info_parts info71
  have H := Lib.hid h
  have HLL := Lib.hid (show l.length ≤ 9223372036854775807 by omega)
  obtain ⟨ao, cap, rfl⟩ := h.shape
  clear h
  go_enter Try.func10, Try.ntmps10
  go_wp2
  go_loopw [3, 4] (fun ov kv wr => ∃ i : Nat, kv = .int .i64 i ∧ i ≤ l.length ∧ Hid (wr.ownsRow w.heap.size 71 7 ov (l.take i).length ((l.take i).flatMap encH) ∧ Below w.heap.size w wr)) (fun _ kv _ => l.length - (intOf kv).toNat)
  case atStart => exact ⟨0, rfl, Nat.zero_le _, Lib.hid ⟨World.ownsRow_nil _ _ _ _, Below.refl _ _⟩⟩
  case round =>
    obtain ⟨i, rfl, hi, hK⟩ := hrel
    obtain ⟨oa, oc, rfl⟩ := own_shapeK hK.out.1
    have KK := Lib.hid hK.out
    clear hK
    by_cases hlt : i < l.length
    · obtain ⟨g, o, x, rfl, hx, hg, hc⟩ := H.out.at' hlt
      have AF := Lib.hid (fun W (hb : Below w.heap.size w W) => (ChAt.of hc).keep hb hg)
      have IX := Lib.hid (fun W => ixH23 (g := g) (o := o) (cap := cap) hlt HLL.out W)
      have SN := Lib.hid (chsnoc hx)
      obtain ⟨m, hm⟩ : ∃ m, l.take i = m := ⟨_, rfl⟩
      have LM := Lib.hid (show m.length ≤ 1000 from by rw [← hm, List.length_take]; omega)
      rw [hm] at SN KK ⊢
      clear hm hx hg hc
      go_upto_region 5 with (fail)
      have OB := Lib.hid (own_belowK KK.out.1 (Below.refl wr.heap.size wr).drew)
      refine wp_region_held_drew (S := fun w' => Below w.heap.size w w') (by kernel_rfl) ((KK.out.2.trans ((Below.refl wr.heap.size wr).drew.mono KK.out.2.size))) (fun hHeld => ?_)
      have BV := Lib.hid (show Below w.heap.size w wr.drew from (KK.out.2.trans ((Below.refl wr.heap.size wr).drew.mono KK.out.2.size)))
      clear hHeld
      refine take_at (i := 0) 11 ?_ rfl rfl (by kernel_rfl) (by kernel_rfl) (by kernel_rfl) (fun _ _ _ h => h) (.inl ⟨rfl, ?_⟩) BV.out ?_
      rotate_left 1
      · intro w hSw; go_simp; try with_reducible rfl
      simp only [Act.put, List.setIfInBounds_toArray, List.set_cons_zero, List.set_cons_succ]
      refine take_at (i := 1) 12 ?_ rfl rfl (by kernel_rfl) (by kernel_rfl) (by kernel_rfl) (fun _ _ _ h => h) (.inl ⟨rfl, ?_⟩) BV.out ?_
      rotate_left 1
      · intro w hSw; go_simp; try with_reducible rfl
      simp only [Act.put, List.setIfInBounds_toArray, List.set_cons_zero, List.set_cons_succ]
      refine take_at (i := 2) 13 ?_ rfl rfl (by kernel_rfl) (by kernel_rfl) (by kernel_rfl) (fun _ _ _ h => h) (.inl ⟨rfl, ?_⟩) BV.out ?_
      rotate_left 1
      · intro w hSw; go_simp; try with_reducible rfl
      simp only [Act.put, List.setIfInBounds_toArray, List.set_cons_zero, List.set_cons_succ]
      refine take_at (i := 3) 14 (.pointer (some ⟨g, o + i * 7, none⟩)) rfl rfl (by kernel_rfl) (by kernel_rfl) (by kernel_rfl) (fun _ _ _ h => h) (yields_ix (.tmp 12) (.tmp 13) 23 (.slice (some ⟨g, o, none⟩) l.length cap) (.int .i64 (i : Int)) _ (fun W => IX.out W) rfl rfl rfl rfl) BV.out ?_
      simp only [Act.put, List.setIfInBounds_toArray, List.set_cons_zero, List.set_cons_succ]
      refine take_at (i := 4) 15 ?_ rfl rfl (by kernel_rfl) (by kernel_rfl) (by kernel_rfl) (fun _ _ _ h => h) (.inl ⟨rfl, ?_⟩) BV.out ?_
      rotate_left 1
      · intro w hSw; go_simp; try with_reducible rfl
      simp only [Act.put, List.setIfInBounds_toArray, List.set_cons_zero, List.set_cons_succ]
      refine take_at (i := 5) 16 (.bool x.nw) rfl rfl (by kernel_rfl) (by kernel_rfl) (by kernel_rfl) (fun _ _ _ h => h) (yields_ld (.tmp 15) 4 (.pointer (some ⟨g, o + i * 7, none⟩)) _ (fun W hb => ldB (AF.out W hb).c0) rfl rfl rfl) BV.out ?_
      simp only [Act.put, List.setIfInBounds_toArray, List.set_cons_zero, List.set_cons_succ]
      refine take_at (i := 6) 17 ?_ rfl rfl (by kernel_rfl) (by kernel_rfl) (by kernel_rfl) (fun _ _ _ h => h) (.inl ⟨rfl, ?_⟩) BV.out ?_
      rotate_left 1
      · intro w hSw; go_simp; try with_reducible rfl
      simp only [Act.put, List.setIfInBounds_toArray, List.set_cons_zero, List.set_cons_succ]
      refine take_at (i := 7) 18 ?_ rfl rfl (by kernel_rfl) (by kernel_rfl) (by kernel_rfl) (fun _ _ _ h => h) (.inl ⟨rfl, ?_⟩) BV.out ?_
      rotate_left 1
      · intro w hSw; go_simp; try with_reducible rfl
      simp only [Act.put, List.setIfInBounds_toArray, List.set_cons_zero, List.set_cons_succ]
      refine take_at (i := 8) 19 (.pointer (some ⟨g, o + i * 7, none⟩)) rfl rfl (by kernel_rfl) (by kernel_rfl) (by kernel_rfl) (fun _ _ _ h => h) (yields_ix (.tmp 17) (.tmp 18) 23 (.slice (some ⟨g, o, none⟩) l.length cap) (.int .i64 (i : Int)) _ (fun W => IX.out W) rfl rfl rfl rfl) BV.out ?_
      simp only [Act.put, List.setIfInBounds_toArray, List.set_cons_zero, List.set_cons_succ]
      refine take_at (i := 9) 20 ?_ rfl rfl (by kernel_rfl) (by kernel_rfl) (by kernel_rfl) (fun _ _ _ h => h) (.inl ⟨rfl, ?_⟩) BV.out ?_
      rotate_left 1
      · intro w hSw; go_simp; try with_reducible rfl
      simp only [Act.put, List.setIfInBounds_toArray, List.set_cons_zero, List.set_cons_succ]
      refine take_at (i := 10) 21 (.agg #[.int .i64 x.t, .int .i64 x.r]) rfl rfl (by kernel_rfl) (by kernel_rfl) (by kernel_rfl) (fun _ _ _ h => h) (yields_ld (.tmp 20) 61 (.pointer (some ⟨g, o + i * 7 + 1, none⟩)) _ (fun W hb => ldS (AF.out W hb).c1 (AF.out W hb).c2) rfl rfl rfl) BV.out ?_
      simp only [Act.put, List.setIfInBounds_toArray, List.set_cons_zero, List.set_cons_succ]
      refine take_at (i := 11) 22 ?_ rfl rfl (by kernel_rfl) (by kernel_rfl) (by kernel_rfl) (fun _ _ _ h => h) (.inl ⟨rfl, ?_⟩) BV.out ?_
      rotate_left 1
      · intro w hSw; go_simp; try with_reducible rfl
      simp only [Act.put, List.setIfInBounds_toArray, List.set_cons_zero, List.set_cons_succ]
      refine take_at (i := 12) 23 ?_ rfl rfl (by kernel_rfl) (by kernel_rfl) (by kernel_rfl) (fun _ _ _ h => h) (.inl ⟨rfl, ?_⟩) BV.out ?_
      rotate_left 1
      · intro w hSw; go_simp; try with_reducible rfl
      simp only [Act.put, List.setIfInBounds_toArray, List.set_cons_zero, List.set_cons_succ]
      refine take_at (i := 13) 24 (.pointer (some ⟨g, o + i * 7, none⟩)) rfl rfl (by kernel_rfl) (by kernel_rfl) (by kernel_rfl) (fun _ _ _ h => h) (yields_ix (.tmp 22) (.tmp 23) 23 (.slice (some ⟨g, o, none⟩) l.length cap) (.int .i64 (i : Int)) _ (fun W => IX.out W) rfl rfl rfl rfl) BV.out ?_
      simp only [Act.put, List.setIfInBounds_toArray, List.set_cons_zero, List.set_cons_succ]
      refine take_at (i := 14) 25 ?_ rfl rfl (by kernel_rfl) (by kernel_rfl) (by kernel_rfl) (fun _ _ _ h => h) (.inl ⟨rfl, ?_⟩) BV.out ?_
      rotate_left 1
      · intro w hSw; go_simp; try with_reducible rfl
      simp only [Act.put, List.setIfInBounds_toArray, List.set_cons_zero, List.set_cons_succ]
      refine take_at (i := 15) 26 (.agg #[.int .i64 x.pt, .int .i64 x.pr]) rfl rfl (by kernel_rfl) (by kernel_rfl) (by kernel_rfl) (fun _ _ _ h => h) (yields_ld (.tmp 25) 61 (.pointer (some ⟨g, o + i * 7 + 3, none⟩)) _ (fun W hb => ldS (AF.out W hb).c3 (AF.out W hb).c4) rfl rfl rfl) BV.out ?_
      simp only [Act.put, List.setIfInBounds_toArray, List.set_cons_zero, List.set_cons_succ]
      refine take_at (i := 16) 27 ?_ rfl rfl (by kernel_rfl) (by kernel_rfl) (by kernel_rfl) (fun _ _ _ h => h) (.inl ⟨rfl, ?_⟩) BV.out ?_
      rotate_left 1
      · intro w hSw; go_simp; try with_reducible rfl
      simp only [Act.put, List.setIfInBounds_toArray, List.set_cons_zero, List.set_cons_succ]
      refine take_at (i := 17) 28 ?_ rfl rfl (by kernel_rfl) (by kernel_rfl) (by kernel_rfl) (fun _ _ _ h => h) (.inl ⟨rfl, ?_⟩) BV.out ?_
      rotate_left 1
      · intro w hSw; go_simp; try with_reducible rfl
      simp only [Act.put, List.setIfInBounds_toArray, List.set_cons_zero, List.set_cons_succ]
      refine take_at (i := 18) 29 (.pointer (some ⟨g, o + i * 7, none⟩)) rfl rfl (by kernel_rfl) (by kernel_rfl) (by kernel_rfl) (fun _ _ _ h => h) (yields_ix (.tmp 27) (.tmp 28) 23 (.slice (some ⟨g, o, none⟩) l.length cap) (.int .i64 (i : Int)) _ (fun W => IX.out W) rfl rfl rfl rfl) BV.out ?_
      simp only [Act.put, List.setIfInBounds_toArray, List.set_cons_zero, List.set_cons_succ]
      refine take_at (i := 19) 30 ?_ rfl rfl (by kernel_rfl) (by kernel_rfl) (by kernel_rfl) (fun _ _ _ h => h) (.inl ⟨rfl, ?_⟩) BV.out ?_
      rotate_left 1
      · intro w hSw; go_simp; try with_reducible rfl
      simp only [Act.put, List.setIfInBounds_toArray, List.set_cons_zero, List.set_cons_succ]
      refine take_at (i := 20) 31 (.string x.nm) rfl rfl (by kernel_rfl) (by kernel_rfl) (by kernel_rfl) (fun _ _ _ h => h) (yields_ld (.tmp 30) 9 (.pointer (some ⟨g, o + i * 7 + 5, none⟩)) _ (fun W hb => ldN (AF.out W hb).c5) rfl rfl rfl) BV.out ?_
      simp only [Act.put, List.setIfInBounds_toArray, List.set_cons_zero, List.set_cons_succ]
      refine take_at (i := 21) 32 ?_ rfl rfl (by kernel_rfl) (by kernel_rfl) (by kernel_rfl) (fun _ _ _ h => h) (.inl ⟨rfl, ?_⟩) BV.out ?_
      rotate_left 1
      · intro w hSw; go_simp; try with_reducible rfl
      simp only [Act.put, List.setIfInBounds_toArray, List.set_cons_zero, List.set_cons_succ]
      refine take_at (i := 22) 33 ?_ rfl rfl (by kernel_rfl) (by kernel_rfl) (by kernel_rfl) (fun _ _ _ h => h) (.inl ⟨rfl, ?_⟩) BV.out ?_
      rotate_left 1
      · intro w hSw; go_simp; try with_reducible rfl
      simp only [Act.put, List.setIfInBounds_toArray, List.set_cons_zero, List.set_cons_succ]
      refine take_at (i := 23) 34 (.pointer (some ⟨g, o + i * 7, none⟩)) rfl rfl (by kernel_rfl) (by kernel_rfl) (by kernel_rfl) (fun _ _ _ h => h) (yields_ix (.tmp 32) (.tmp 33) 23 (.slice (some ⟨g, o, none⟩) l.length cap) (.int .i64 (i : Int)) _ (fun W => IX.out W) rfl rfl rfl rfl) BV.out ?_
      simp only [Act.put, List.setIfInBounds_toArray, List.set_cons_zero, List.set_cons_succ]
      refine take_at (i := 24) 35 ?_ rfl rfl (by kernel_rfl) (by kernel_rfl) (by kernel_rfl) (fun _ _ _ h => h) (.inl ⟨rfl, ?_⟩) BV.out ?_
      rotate_left 1
      · intro w hSw; go_simp; try with_reducible rfl
      simp only [Act.put, List.setIfInBounds_toArray, List.set_cons_zero, List.set_cons_succ]
      refine take_at (i := 25) 36 (.bool x.d) rfl rfl (by kernel_rfl) (by kernel_rfl) (by kernel_rfl) (fun _ _ _ h => h) (yields_ld (.tmp 35) 4 (.pointer (some ⟨g, o + i * 7 + 6, none⟩)) _ (fun W hb => ldB (AF.out W hb).c6) rfl rfl rfl) BV.out ?_
      simp only [Act.put, List.setIfInBounds_toArray, List.set_cons_zero, List.set_cons_succ]
      refine take_at (i := 26) 37 ?_ rfl rfl (by kernel_rfl) (by kernel_rfl) (by kernel_rfl) (fun _ _ _ h => h) (.inl ⟨rfl, ?_⟩) BV.out ?_
      rotate_left 1
      · intro w hSw; go_simp; try with_reducible rfl
      simp only [Act.put, List.setIfInBounds_toArray, List.set_cons_zero, List.set_cons_succ]
      refine wpAnyH_ready (rs := [27]) (by kernel_rfl) (by simp) (br_bslice (i := 27) 38 30 1 _ #[(0, .agg #[.bool x.nw, .int .i64 x.t, .int .i64 x.r, .int .i64 x.pt, .int .i64 x.pr, .string x.nm, .bool x.d])] _ _ rfl rfl rfl rfl rfl ((fun W => bsH30 W x) wr.drew) (BV.out.trans ((vstep wr.drew _).mono BV.out.size)) (fun _ => ?_) AllReadyH.nil)
      obtain ⟨v1, hv1⟩ : ∃ zz, wr.drew.alloc (.cells (encH x).toArray 71) = zz := ⟨_, rfl⟩
      have hb : Below wr.drew.heap.size wr.drew v1 := by rw [← hv1]; exact vstep wr.drew _
      have HX := Lib.hid (show v1.heap[wr.drew.heap.size]? = some (.cells (encH x).toArray 71 (0, 0)) from by rw [← hv1]; exact heap_alloc_new wr.drew _)
      rw [hv1]
      obtain ⟨k1, hk1⟩ : ∃ zz, wr.drew.heap.size = zz := ⟨_, rfl⟩
      rw [hk1] at HX ⊢
      have BV := Lib.hid (BV.out.trans (hb.mono BV.out.size))
      have OB := Lib.hid (own_belowK OB.out hb)
      clear hb hv1 hk1
      simp only [Act.put, List.setIfInBounds_toArray, List.set_cons_zero, List.set_cons_succ]
      obtain ⟨va2, v2, hr2, ho2, hg2⟩ := run_pushK (P := Try.prog) v1 30 30 encH_len (by decide) encH_one w.heap.size 71 i0 (.agg #[.bool false, .int .i64 0, .int .i64 0, .int .i64 0, .int .i64 0, .string ⟨#[]⟩, .bool false]) 64 Try.u30 hi9 hz0 hz1 hz2 rfl (.slice oa m.length oc) m x k1 HX.out OB.out (by have := LM.out; unfold maxLen; omega) (by have := LM.out; omega) BV.out.size
      have BW2 := Lib.hid (show Below w.heap.size w v2 from BV.out.grown hg2 BV.out.size (fun k e => (OB.out.lt k e).1))
      have ON := Lib.hid ho2
      have HR2 := Lib.hid hr2
      clear hr2 ho2 hg2
      refine wpAnyH_ready (rs := [28]) (by kernel_rfl) (by simp) (br_append (i := 28) 39 (.tmp 11) (.tmp 38) 30 30 rfl rfl rfl rfl _ _ va2 v2 rfl rfl HR2.out BW2.out (fun _ => ?_) AllReadyH.nil)
      have BV := Lib.hid BW2.out
      clear HR2 BW2
      simp only [Act.put, List.setIfInBounds_toArray, List.set_cons_zero, List.set_cons_succ]
      refine take_at (i := 29) 3 ?_ rfl rfl (by kernel_rfl) (by kernel_rfl) (by kernel_rfl) (fun _ _ _ h => h) (.inl ⟨rfl, ?_⟩) BV.out ?_
      rotate_left 1
      · intro w hSw; go_simp; try with_reducible rfl
      simp only [Act.put, List.setIfInBounds_toArray, List.set_cons_zero, List.set_cons_succ]
      refine wpAnyH_done (by kernel_rfl) ?_ _
      have FIN := Lib.hid (show v2.ownsRow w.heap.size 71 7 va2 (l.take (i + 1)).length ((l.take (i + 1)).flatMap encH) ∧ Below w.heap.size w v2 from ⟨by rw [SN.out]; exact ON.out, BV.out⟩)
      go_wp2
      go_roundw
      case rel => exact ⟨i + 1, by go_num, by omega, FIN⟩
      case measure => simp [intOf]; omega
    · have FIN := Lib.hid (show wr.ownsRow w.heap.size 71 7 (.slice oa (l.take i).length oc) l.length (l.flatMap encH) ∧ Below w.heap.size w wr from by
        have h := KK.out
        rw [show l.take i = l from List.take_of_length_le (by omega)] at h ⊢
        exact h)
      clear KK
      go_wp2
      go_returns
      exact ⟨_, rfl, FIN.out.1, FIN.out.2⟩
set_option maxHeartbeats 3200000 in
theorem theirs_any (w : World) (v : Value) (l : List Ch) (h : LiesK encH 7 w v l) (hl : l.length ≤ 1000) :
    Calls Try.prog 13 #[v] w fun e w' => ∃ r, e = .returned r ∧ w'.ownsRow w.heap.size 63 7 r l.length (l.flatMap encH) ∧ Below w.heap.size w w' := by
  obtain ⟨i0, hi9, hz0, hz1, hz2⟩ := info_parts info63
  have H := Lib.hid h
  have HLL := Lib.hid (show l.length ≤ 9223372036854775807 by omega)
  obtain ⟨ao, cap, rfl⟩ := h.shape
  clear h
  go_enter Try.func13, Try.ntmps13
  go_wp2
  go_loopw [3, 4] (fun ov kv wr => ∃ i : Nat, kv = .int .i64 i ∧ i ≤ l.length ∧ Hid (wr.ownsRow w.heap.size 63 7 ov (l.take i).length ((l.take i).flatMap encH) ∧ Below w.heap.size w wr)) (fun _ kv _ => l.length - (intOf kv).toNat)
  case atStart => exact ⟨0, rfl, Nat.zero_le _, Lib.hid ⟨World.ownsRow_nil _ _ _ _, Below.refl _ _⟩⟩
  case round =>
    obtain ⟨i, rfl, hi, hK⟩ := hrel
    obtain ⟨oa, oc, rfl⟩ := own_shapeK hK.out.1
    have KK := Lib.hid hK.out
    clear hK
    by_cases hlt : i < l.length
    · obtain ⟨g, o, x, rfl, hx, hg, hc⟩ := H.out.at' hlt
      have AF := Lib.hid (fun W (hb : Below w.heap.size w W) => (ChAt.of hc).keep hb hg)
      have IX := Lib.hid (fun W => ixH30 (g := g) (o := o) (cap := cap) hlt HLL.out W)
      have SN := Lib.hid (chsnoc hx)
      obtain ⟨m, hm⟩ : ∃ m, l.take i = m := ⟨_, rfl⟩
      have LM := Lib.hid (show m.length ≤ 1000 from by rw [← hm, List.length_take]; omega)
      rw [hm] at SN KK ⊢
      clear hm hx hg hc
      go_upto_region 5 with (fail)
      have OB := Lib.hid (own_belowK KK.out.1 (Below.refl wr.heap.size wr).drew)
      refine wp_region_held_drew (S := fun w' => Below w.heap.size w w') (by kernel_rfl) ((KK.out.2.trans ((Below.refl wr.heap.size wr).drew.mono KK.out.2.size))) (fun hHeld => ?_)
      have BV := Lib.hid (show Below w.heap.size w wr.drew from (KK.out.2.trans ((Below.refl wr.heap.size wr).drew.mono KK.out.2.size)))
      clear hHeld
      refine take_at (i := 0) 11 ?_ rfl rfl (by kernel_rfl) (by kernel_rfl) (by kernel_rfl) (fun _ _ _ h => h) (.inl ⟨rfl, ?_⟩) BV.out ?_
      rotate_left 1
      · intro w hSw; go_simp; try with_reducible rfl
      simp only [Act.put, List.setIfInBounds_toArray, List.set_cons_zero, List.set_cons_succ]
      refine take_at (i := 1) 12 ?_ rfl rfl (by kernel_rfl) (by kernel_rfl) (by kernel_rfl) (fun _ _ _ h => h) (.inl ⟨rfl, ?_⟩) BV.out ?_
      rotate_left 1
      · intro w hSw; go_simp; try with_reducible rfl
      simp only [Act.put, List.setIfInBounds_toArray, List.set_cons_zero, List.set_cons_succ]
      refine take_at (i := 2) 13 ?_ rfl rfl (by kernel_rfl) (by kernel_rfl) (by kernel_rfl) (fun _ _ _ h => h) (.inl ⟨rfl, ?_⟩) BV.out ?_
      rotate_left 1
      · intro w hSw; go_simp; try with_reducible rfl
      simp only [Act.put, List.setIfInBounds_toArray, List.set_cons_zero, List.set_cons_succ]
      refine take_at (i := 3) 14 (.pointer (some ⟨g, o + i * 7, none⟩)) rfl rfl (by kernel_rfl) (by kernel_rfl) (by kernel_rfl) (fun _ _ _ h => h) (yields_ix (.tmp 12) (.tmp 13) 30 (.slice (some ⟨g, o, none⟩) l.length cap) (.int .i64 (i : Int)) _ (fun W => IX.out W) rfl rfl rfl rfl) BV.out ?_
      simp only [Act.put, List.setIfInBounds_toArray, List.set_cons_zero, List.set_cons_succ]
      refine take_at (i := 4) 15 ?_ rfl rfl (by kernel_rfl) (by kernel_rfl) (by kernel_rfl) (fun _ _ _ h => h) (.inl ⟨rfl, ?_⟩) BV.out ?_
      rotate_left 1
      · intro w hSw; go_simp; try with_reducible rfl
      simp only [Act.put, List.setIfInBounds_toArray, List.set_cons_zero, List.set_cons_succ]
      refine take_at (i := 5) 16 (.bool x.nw) rfl rfl (by kernel_rfl) (by kernel_rfl) (by kernel_rfl) (fun _ _ _ h => h) (yields_ld (.tmp 15) 4 (.pointer (some ⟨g, o + i * 7, none⟩)) _ (fun W hb => ldB (AF.out W hb).c0) rfl rfl rfl) BV.out ?_
      simp only [Act.put, List.setIfInBounds_toArray, List.set_cons_zero, List.set_cons_succ]
      refine take_at (i := 6) 17 ?_ rfl rfl (by kernel_rfl) (by kernel_rfl) (by kernel_rfl) (fun _ _ _ h => h) (.inl ⟨rfl, ?_⟩) BV.out ?_
      rotate_left 1
      · intro w hSw; go_simp; try with_reducible rfl
      simp only [Act.put, List.setIfInBounds_toArray, List.set_cons_zero, List.set_cons_succ]
      refine take_at (i := 7) 18 ?_ rfl rfl (by kernel_rfl) (by kernel_rfl) (by kernel_rfl) (fun _ _ _ h => h) (.inl ⟨rfl, ?_⟩) BV.out ?_
      rotate_left 1
      · intro w hSw; go_simp; try with_reducible rfl
      simp only [Act.put, List.setIfInBounds_toArray, List.set_cons_zero, List.set_cons_succ]
      refine take_at (i := 8) 19 (.pointer (some ⟨g, o + i * 7, none⟩)) rfl rfl (by kernel_rfl) (by kernel_rfl) (by kernel_rfl) (fun _ _ _ h => h) (yields_ix (.tmp 17) (.tmp 18) 30 (.slice (some ⟨g, o, none⟩) l.length cap) (.int .i64 (i : Int)) _ (fun W => IX.out W) rfl rfl rfl rfl) BV.out ?_
      simp only [Act.put, List.setIfInBounds_toArray, List.set_cons_zero, List.set_cons_succ]
      refine take_at (i := 9) 20 ?_ rfl rfl (by kernel_rfl) (by kernel_rfl) (by kernel_rfl) (fun _ _ _ h => h) (.inl ⟨rfl, ?_⟩) BV.out ?_
      rotate_left 1
      · intro w hSw; go_simp; try with_reducible rfl
      simp only [Act.put, List.setIfInBounds_toArray, List.set_cons_zero, List.set_cons_succ]
      refine take_at (i := 10) 21 (.agg #[.int .i64 x.t, .int .i64 x.r]) rfl rfl (by kernel_rfl) (by kernel_rfl) (by kernel_rfl) (fun _ _ _ h => h) (yields_ld (.tmp 20) 61 (.pointer (some ⟨g, o + i * 7 + 1, none⟩)) _ (fun W hb => ldS (AF.out W hb).c1 (AF.out W hb).c2) rfl rfl rfl) BV.out ?_
      simp only [Act.put, List.setIfInBounds_toArray, List.set_cons_zero, List.set_cons_succ]
      refine take_at (i := 11) 22 ?_ rfl rfl (by kernel_rfl) (by kernel_rfl) (by kernel_rfl) (fun _ _ _ h => h) (.inl ⟨rfl, ?_⟩) BV.out ?_
      rotate_left 1
      · intro w hSw; go_simp; try with_reducible rfl
      simp only [Act.put, List.setIfInBounds_toArray, List.set_cons_zero, List.set_cons_succ]
      refine take_at (i := 12) 23 ?_ rfl rfl (by kernel_rfl) (by kernel_rfl) (by kernel_rfl) (fun _ _ _ h => h) (.inl ⟨rfl, ?_⟩) BV.out ?_
      rotate_left 1
      · intro w hSw; go_simp; try with_reducible rfl
      simp only [Act.put, List.setIfInBounds_toArray, List.set_cons_zero, List.set_cons_succ]
      refine take_at (i := 13) 24 (.pointer (some ⟨g, o + i * 7, none⟩)) rfl rfl (by kernel_rfl) (by kernel_rfl) (by kernel_rfl) (fun _ _ _ h => h) (yields_ix (.tmp 22) (.tmp 23) 30 (.slice (some ⟨g, o, none⟩) l.length cap) (.int .i64 (i : Int)) _ (fun W => IX.out W) rfl rfl rfl rfl) BV.out ?_
      simp only [Act.put, List.setIfInBounds_toArray, List.set_cons_zero, List.set_cons_succ]
      refine take_at (i := 14) 25 ?_ rfl rfl (by kernel_rfl) (by kernel_rfl) (by kernel_rfl) (fun _ _ _ h => h) (.inl ⟨rfl, ?_⟩) BV.out ?_
      rotate_left 1
      · intro w hSw; go_simp; try with_reducible rfl
      simp only [Act.put, List.setIfInBounds_toArray, List.set_cons_zero, List.set_cons_succ]
      refine take_at (i := 15) 26 (.agg #[.int .i64 x.pt, .int .i64 x.pr]) rfl rfl (by kernel_rfl) (by kernel_rfl) (by kernel_rfl) (fun _ _ _ h => h) (yields_ld (.tmp 25) 61 (.pointer (some ⟨g, o + i * 7 + 3, none⟩)) _ (fun W hb => ldS (AF.out W hb).c3 (AF.out W hb).c4) rfl rfl rfl) BV.out ?_
      simp only [Act.put, List.setIfInBounds_toArray, List.set_cons_zero, List.set_cons_succ]
      refine take_at (i := 16) 27 ?_ rfl rfl (by kernel_rfl) (by kernel_rfl) (by kernel_rfl) (fun _ _ _ h => h) (.inl ⟨rfl, ?_⟩) BV.out ?_
      rotate_left 1
      · intro w hSw; go_simp; try with_reducible rfl
      simp only [Act.put, List.setIfInBounds_toArray, List.set_cons_zero, List.set_cons_succ]
      refine take_at (i := 17) 28 ?_ rfl rfl (by kernel_rfl) (by kernel_rfl) (by kernel_rfl) (fun _ _ _ h => h) (.inl ⟨rfl, ?_⟩) BV.out ?_
      rotate_left 1
      · intro w hSw; go_simp; try with_reducible rfl
      simp only [Act.put, List.setIfInBounds_toArray, List.set_cons_zero, List.set_cons_succ]
      refine take_at (i := 18) 29 (.pointer (some ⟨g, o + i * 7, none⟩)) rfl rfl (by kernel_rfl) (by kernel_rfl) (by kernel_rfl) (fun _ _ _ h => h) (yields_ix (.tmp 27) (.tmp 28) 30 (.slice (some ⟨g, o, none⟩) l.length cap) (.int .i64 (i : Int)) _ (fun W => IX.out W) rfl rfl rfl rfl) BV.out ?_
      simp only [Act.put, List.setIfInBounds_toArray, List.set_cons_zero, List.set_cons_succ]
      refine take_at (i := 19) 30 ?_ rfl rfl (by kernel_rfl) (by kernel_rfl) (by kernel_rfl) (fun _ _ _ h => h) (.inl ⟨rfl, ?_⟩) BV.out ?_
      rotate_left 1
      · intro w hSw; go_simp; try with_reducible rfl
      simp only [Act.put, List.setIfInBounds_toArray, List.set_cons_zero, List.set_cons_succ]
      refine take_at (i := 20) 31 (.string x.nm) rfl rfl (by kernel_rfl) (by kernel_rfl) (by kernel_rfl) (fun _ _ _ h => h) (yields_ld (.tmp 30) 9 (.pointer (some ⟨g, o + i * 7 + 5, none⟩)) _ (fun W hb => ldN (AF.out W hb).c5) rfl rfl rfl) BV.out ?_
      simp only [Act.put, List.setIfInBounds_toArray, List.set_cons_zero, List.set_cons_succ]
      refine take_at (i := 21) 32 ?_ rfl rfl (by kernel_rfl) (by kernel_rfl) (by kernel_rfl) (fun _ _ _ h => h) (.inl ⟨rfl, ?_⟩) BV.out ?_
      rotate_left 1
      · intro w hSw; go_simp; try with_reducible rfl
      simp only [Act.put, List.setIfInBounds_toArray, List.set_cons_zero, List.set_cons_succ]
      refine take_at (i := 22) 33 ?_ rfl rfl (by kernel_rfl) (by kernel_rfl) (by kernel_rfl) (fun _ _ _ h => h) (.inl ⟨rfl, ?_⟩) BV.out ?_
      rotate_left 1
      · intro w hSw; go_simp; try with_reducible rfl
      simp only [Act.put, List.setIfInBounds_toArray, List.set_cons_zero, List.set_cons_succ]
      refine take_at (i := 23) 34 (.pointer (some ⟨g, o + i * 7, none⟩)) rfl rfl (by kernel_rfl) (by kernel_rfl) (by kernel_rfl) (fun _ _ _ h => h) (yields_ix (.tmp 32) (.tmp 33) 30 (.slice (some ⟨g, o, none⟩) l.length cap) (.int .i64 (i : Int)) _ (fun W => IX.out W) rfl rfl rfl rfl) BV.out ?_
      simp only [Act.put, List.setIfInBounds_toArray, List.set_cons_zero, List.set_cons_succ]
      refine take_at (i := 24) 35 ?_ rfl rfl (by kernel_rfl) (by kernel_rfl) (by kernel_rfl) (fun _ _ _ h => h) (.inl ⟨rfl, ?_⟩) BV.out ?_
      rotate_left 1
      · intro w hSw; go_simp; try with_reducible rfl
      simp only [Act.put, List.setIfInBounds_toArray, List.set_cons_zero, List.set_cons_succ]
      refine take_at (i := 25) 36 (.bool x.d) rfl rfl (by kernel_rfl) (by kernel_rfl) (by kernel_rfl) (fun _ _ _ h => h) (yields_ld (.tmp 35) 4 (.pointer (some ⟨g, o + i * 7 + 6, none⟩)) _ (fun W hb => ldB (AF.out W hb).c6) rfl rfl rfl) BV.out ?_
      simp only [Act.put, List.setIfInBounds_toArray, List.set_cons_zero, List.set_cons_succ]
      refine take_at (i := 26) 37 ?_ rfl rfl (by kernel_rfl) (by kernel_rfl) (by kernel_rfl) (fun _ _ _ h => h) (.inl ⟨rfl, ?_⟩) BV.out ?_
      rotate_left 1
      · intro w hSw; go_simp; try with_reducible rfl
      simp only [Act.put, List.setIfInBounds_toArray, List.set_cons_zero, List.set_cons_succ]
      refine wpAnyH_ready (rs := [27]) (by kernel_rfl) (by simp) (br_bslice (i := 27) 38 23 1 _ #[(0, .agg #[.bool x.nw, .int .i64 x.t, .int .i64 x.r, .int .i64 x.pt, .int .i64 x.pr, .string x.nm, .bool x.d])] _ _ rfl rfl rfl rfl rfl ((fun W => bsH23 W x) wr.drew) (BV.out.trans ((vstep wr.drew _).mono BV.out.size)) (fun _ => ?_) AllReadyH.nil)
      obtain ⟨v1, hv1⟩ : ∃ zz, wr.drew.alloc (.cells (encH x).toArray 63) = zz := ⟨_, rfl⟩
      have hb : Below wr.drew.heap.size wr.drew v1 := by rw [← hv1]; exact vstep wr.drew _
      have HX := Lib.hid (show v1.heap[wr.drew.heap.size]? = some (.cells (encH x).toArray 63 (0, 0)) from by rw [← hv1]; exact heap_alloc_new wr.drew _)
      rw [hv1]
      obtain ⟨k1, hk1⟩ : ∃ zz, wr.drew.heap.size = zz := ⟨_, rfl⟩
      rw [hk1] at HX ⊢
      have BV := Lib.hid (BV.out.trans (hb.mono BV.out.size))
      have OB := Lib.hid (own_belowK OB.out hb)
      clear hb hv1 hk1
      simp only [Act.put, List.setIfInBounds_toArray, List.set_cons_zero, List.set_cons_succ]
      obtain ⟨va2, v2, hr2, ho2, hg2⟩ := run_pushK (P := Try.prog) v1 23 23 encH_len (by decide) encH_one w.heap.size 63 i0 (.agg #[.bool false, .int .i64 0, .int .i64 0, .int .i64 0, .int .i64 0, .string ⟨#[]⟩, .bool false]) 64 Try.u23 hi9 hz0 hz1 hz2 rfl (.slice oa m.length oc) m x k1 HX.out OB.out (by have := LM.out; unfold maxLen; omega) (by have := LM.out; omega) BV.out.size
      have BW2 := Lib.hid (show Below w.heap.size w v2 from BV.out.grown hg2 BV.out.size (fun k e => (OB.out.lt k e).1))
      have ON := Lib.hid ho2
      have HR2 := Lib.hid hr2
      clear hr2 ho2 hg2
      refine wpAnyH_ready (rs := [28]) (by kernel_rfl) (by simp) (br_append (i := 28) 39 (.tmp 11) (.tmp 38) 23 23 rfl rfl rfl rfl _ _ va2 v2 rfl rfl HR2.out BW2.out (fun _ => ?_) AllReadyH.nil)
      have BV := Lib.hid BW2.out
      clear HR2 BW2
      simp only [Act.put, List.setIfInBounds_toArray, List.set_cons_zero, List.set_cons_succ]
      refine take_at (i := 29) 3 ?_ rfl rfl (by kernel_rfl) (by kernel_rfl) (by kernel_rfl) (fun _ _ _ h => h) (.inl ⟨rfl, ?_⟩) BV.out ?_
      rotate_left 1
      · intro w hSw; go_simp; try with_reducible rfl
      simp only [Act.put, List.setIfInBounds_toArray, List.set_cons_zero, List.set_cons_succ]
      refine wpAnyH_done (by kernel_rfl) ?_ _
      have FIN := Lib.hid (show v2.ownsRow w.heap.size 63 7 va2 (l.take (i + 1)).length ((l.take (i + 1)).flatMap encH) ∧ Below w.heap.size w v2 from ⟨by rw [SN.out]; exact ON.out, BV.out⟩)
      go_wp2
      go_roundw
      case rel => exact ⟨i + 1, by go_num, by omega, FIN⟩
      case measure => simp [intOf]; omega
    · have FIN := Lib.hid (show wr.ownsRow w.heap.size 63 7 (.slice oa (l.take i).length oc) l.length (l.flatMap encH) ∧ Below w.heap.size w wr from by
        have h := KK.out
        rw [show l.take i = l from List.take_of_length_le (by omega)] at h ⊢
        exact h)
      clear KK
      go_wp2
      go_returns
      exact ⟨_, rfl, FIN.out.1, FIN.out.2⟩
end Go.Proofs.Ythbmbpnpigpgpaa
