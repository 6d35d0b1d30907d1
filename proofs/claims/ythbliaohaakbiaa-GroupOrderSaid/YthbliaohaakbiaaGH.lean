/- The reference's group of an item. Made by gengh17.py. -/
import Derived.Test.YthbliaohaakbiaaGF
set_option linter.unusedVariables false
set_option linter.unusedSimpArgs false
set_option maxRecDepth 100000
namespace Go.Proofs.Ythbliaohaakbiaa
open Go.RowKit Go.Sort

theorem row_setC {w : World} {b j : Nat} {c : Array Value} {t : TypeId} {fz : Nat × Nat} {u : Value} (h : w.heap[b]? = some (.cells c t fz)) : (w.setCell ⟨b, j, none⟩ u).heap[b]? = some (.cells (c.setIfInBounds j u) t fz) := by
  have hlt := lt_of_block h
  simp only [World.setCell, Array.getElem?_modify, h, if_true]
  rfl
theorem heap_setC {w : World} {b j k : Nat} {u : Value} (h : k ≠ b) : (w.setCell ⟨b, j, none⟩ u).heap[k]? = w.heap[k]? := heap_setCell_other w ⟨b, j, none⟩ k u h
theorem free3 {W : World} {g : Nat} {a b c : Value} {T : TypeId} (h : W.heap[g]? = some (.cells #[a, b, c] T (0, 0))) : W.frozen? ⟨g, 0, none⟩ = false ∧ W.frozen? ⟨g, 1, none⟩ = false ∧ W.frozen? ⟨g, 2, none⟩ = false :=
  ⟨frozen_of_row _ _ _ _ _ h, frozen_of_row _ _ _ _ _ h, frozen_of_row _ _ _ _ _ h⟩
def sets3 (w : World) (b : Nat) (x y z : Value) : World := ((w.setCell ⟨b, 0, none⟩ x).setCell ⟨b, 1, none⟩ y).setCell ⟨b, 2, none⟩ z
theorem sets3_row {w : World} {b : Nat} {T : TypeId} {x y z x' y' z' : Value} (h : w.heap[b]? = some (.cells #[x, y, z] T (0, 0))) : (sets3 w b x' y' z').heap[b]? = some (.cells #[x', y', z'] T (0, 0)) := by
  unfold sets3
  exact row_setC (j := 2) (u := z') (row_setC (j := 1) (u := y') (row_setC (j := 0) (u := x') h))
theorem sets3_below {w w1 : World} {B b : Nat} {x y z : Value} (h : Below B w w1) (hb : B ≤ b) : Below B w (sets3 w1 b x y z) :=
  ((h.setCell (p := ⟨b, 0, none⟩) hb _).setCell (p := ⟨b, 1, none⟩) hb _).setCell (p := ⟨b, 2, none⟩) hb _
theorem sets3_other {w : World} {b k : Nat} {x y z : Value} (h : k ≠ b) : (sets3 w b x y z).heap[k]? = w.heap[k]? := by
  unfold sets3
  rw [heap_setC h, heap_setC h, heap_setC h]
theorem sets3_size (w : World) (b : Nat) (x y z : Value) : (sets3 w b x y z).heap.size = w.heap.size := by
  unfold sets3
  simp [World.setCell]
/-- Blocks that are as they were but for one. -/
theorem LiesK.block {α : Type} {enc : α → List Value} {k : Nat} {w w' : World} {g : Nat} {v : Value} {l : List α} (h : LiesK enc k w v l) (ho : ∀ a n c, v = .slice (some a) n c → a.block ≠ g) (hs : w.heap.size ≤ w'.heap.size) (hb : ∀ k, k < w.heap.size → k ≠ g → w'.heap[k]? = w.heap[k]?) : LiesK enc k w' v l := by
  obtain ⟨ao, cap, rfl, hn, hm, h0, hc⟩ := h
  refine ⟨ao, cap, rfl, hn, hm, h0, fun b hbb hne => ?_⟩
  obtain ⟨k', o, rfl, hk, hcc⟩ := hc b hbb hne
  subst hbb
  have hne := ho _ _ _ rfl
  refine ⟨k', o, rfl, Nat.lt_of_lt_of_le hk hs, fun j p hj i u hi => ?_⟩
  have e := hb k' hk hne
  have := hcc j p hj i u hi
  unfold World.cell? at this ⊢
  dsimp only at this ⊢
  rw [e]
  exact this
/-- Its boxes: the item, the result, the group. -/
structure RG (w W : World) (x : It) (rc : Array Value) (a : Option Addr) (m : List Sp) (c : Nat) : Prop where
  bx : W.heap[w.heap.size]? = some (.cells #[.int .i64 x.t, .int .i64 x.r, .string x.n, .bool x.d] 42 (0, 0))
  br : W.heap[w.heap.size + 1]? = some (.cells #[.string ⟨#[]⟩, .bool false, .slice none 0 0] 58 (0, 0))
  bg : W.heap[w.heap.size + 2]? = some (.cells #[.string x.n, .bool x.d, .slice a m.length c] 58 (0, 0))
  own : W.ownsRow (w.heap.size + 3) 39 2 (.slice a m.length c) m.length (m.flatMap encS)
  bel : Below w.heap.size w W
theorem RG.sz {w W : World} {x : It} {rc : Array Value} {a : Option Addr} {m : List Sp} {c : Nat} (h : RG w W x rc a m c) : w.heap.size + 3 ≤ W.heap.size := lt_of_block h.bg
theorem RG.step {w W W' : World} {x : It} {rc : Array Value} {a : Option Addr} {m : List Sp} {c : Nat} (h : RG w W x rc a m c) (hb : Below W.heap.size W W') : RG w W' x rc a m c :=
  ⟨(hb.block _ (lt_of_block h.bx)).trans h.bx, (hb.block _ (lt_of_block h.br)).trans h.br, (hb.block _ (lt_of_block h.bg)).trans h.bg, own_belowK h.own hb, h.bel.trans (hb.mono h.bel.size)⟩
/-- The nodes set anew: an append, and a store into the group. -/
theorem RG.put {w W1 W2 : World} {x : It} {rc : Array Value} {a a' : Option Addr} {m m' : List Sp} {c c' : Nat} (h : RG w W1 x rc a m c) (hg : W1.grownBy W2 (Value.slice a m.length c).ownBlock) (ho : W2.ownsRow (w.heap.size + 3) 39 2 (.slice a' m'.length c') m'.length (m'.flatMap encS)) :
    RG w (W2.setCell ⟨w.heap.size + 2, 2, none⟩ (.slice a' m'.length c')) x rc a' m' c' := by
  have hob : ∀ g, (Value.slice a m.length c).ownBlock = some g → w.heap.size + 3 ≤ g := fun g e => (h.own.lt g e).1
  have hne : ∀ k, k < w.heap.size + 3 → some k ≠ (Value.slice a m.length c).ownBlock := fun k hk e => by have := hob k e.symm; omega
  have hs := h.sz
  have b2 := (hg.block (w.heap.size + 2) (by omega) (hne _ (by omega))).trans h.bg
  refine ⟨?_, ?_, ?_, ?_, ?_⟩
  · rw [heap_setC (by omega)]; exact (hg.block _ (by omega) (hne _ (by omega))).trans h.bx
  · rw [heap_setC (by omega)]; exact (hg.block _ (by omega) (hne _ (by omega))).trans h.br
  · exact row_setC b2
  · refine ne_kept ho (grown_setCell W2 (w.heap.size + 2) 2 (.slice a' m'.length c')) (fun e => ?_)
    have := (ho.lt _ e).1
    omega
  · exact (h.bel.grown hg h.bel.size (fun g e => by have := hob g e; omega)).setCell (p := ⟨w.heap.size + 2, 2, none⟩) (by show w.heap.size ≤ w.heap.size + 2; omega) _
theorem RG.free {w W : World} {x : It} {rc : Array Value} {a : Option Addr} {m : List Sp} {c : Nat} (h : RG w W x rc a m c) : W.frozen? ⟨w.heap.size + 2, 2, none⟩ = false := (free3 h.bg).2.2
theorem isD_mates {l : List It} {i : Nat} {y : It} (n : ByteArray) (h : l[i]? = some y) : mates (l.take (i + 1)) n = mates (l.take i) n ++ (if isD y n then [ndI y] else []) := by rw [take_snoc h, mates_snoc]
theorem mates_len (l : List It) (n : ByteArray) : (mates l n).length ≤ l.length := by unfold mates; rw [List.length_map]; exact List.length_filter_le _ _
set_option maxHeartbeats 12800000 in
theorem rgroup_any (w : World) (v : Value) (l : List It) (x : It) (h : LiesK encI 4 w v l) (hl : l.length ≤ 1000) :
    Calls Try.prog 27 #[v, ivl x] w fun e w' => ∃ g : Gn, e = .returned (gvl g.n g.d (.slice g.a g.l.length g.c)) ∧ g.p = grpBy sortF l x ∧ LiesK encS 2 w' g.v g.l ∧ Below w.heap.size w w' := by
  obtain ⟨j0, hj9, hy0, hy1, hy2⟩ := info_parts info39
  have B1 := vstep w (.cells #[.int .i64 x.t, .int .i64 x.r, .string x.n, .bool x.d] 42)
  have B2 := vstep (w.alloc (.cells #[.int .i64 x.t, .int .i64 x.r, .string x.n, .bool x.d] 42)) (.cells #[.string ⟨#[]⟩, .bool false, .slice none 0 0] 58)
  have B3 := vstep ((w.alloc (.cells #[.int .i64 x.t, .int .i64 x.r, .string x.n, .bool x.d] 42)).alloc (.cells #[.string ⟨#[]⟩, .bool false, .slice none 0 0] 58)) (.cells #[.string x.n, .bool x.d, .slice none 0 0] 58)
  have N1 := heap_alloc_new w (.cells #[.int .i64 x.t, .int .i64 x.r, .string x.n, .bool x.d] 42)
  have N2 := heap_alloc_new (w.alloc (.cells #[.int .i64 x.t, .int .i64 x.r, .string x.n, .bool x.d] 42)) (.cells #[.string ⟨#[]⟩, .bool false, .slice none 0 0] 58)
  have N3 := heap_alloc_new ((w.alloc (.cells #[.int .i64 x.t, .int .i64 x.r, .string x.n, .bool x.d] 42)).alloc (.cells #[.string ⟨#[]⟩, .bool false, .slice none 0 0] 58)) (.cells #[.string x.n, .bool x.d, .slice none 0 0] 58)
  have N1b := (B2.block _ (lt_of_block N1)).trans N1
  rw [World.size_alloc] at N2
  rw [World.size_alloc, World.size_alloc] at N3
  have R0 := Lib.hid (show RG w (((w.alloc (.cells #[.int .i64 x.t, .int .i64 x.r, .string x.n, .bool x.d] 42)).alloc (.cells #[.string ⟨#[]⟩, .bool false, .slice none 0 0] 58)).alloc (.cells #[.string x.n, .bool x.d, .slice none 0 0] 58)) x #[] none [] 0 from
    ⟨(B3.block _ (lt_of_block N1b)).trans N1b, (B3.block _ (lt_of_block N2)).trans N2, N3, World.ownsRow_nil _ _ _ _, (B1.trans (B2.mono B1.size)).trans (B3.mono (B1.trans (B2.mono B1.size)).size)⟩)
  have C1 := Lib.hid (box4 N1b)
  have Z2 := Lib.hid (show ((w.alloc (.cells #[.int .i64 x.t, .int .i64 x.r, .string x.n, .bool x.d] 42)).alloc (.cells #[.string ⟨#[]⟩, .bool false, .slice none 0 0] 58)).heap.size = w.heap.size + 2 from by simp)
  obtain ⟨W1, hW1⟩ : ∃ y, (w.alloc (.cells #[.int .i64 x.t, .int .i64 x.r, .string x.n, .bool x.d] 42)).alloc (.cells #[.string ⟨#[]⟩, .bool false, .slice none 0 0] 58) = y := ⟨_, rfl⟩
  rw [hW1] at R0 C1 Z2
  have HW1 := Lib.hid hW1
  obtain ⟨W0, hW0⟩ : ∃ y, W1.alloc (.cells #[.string x.n, .bool x.d, .slice none 0 0] 58) = y := ⟨_, rfl⟩
  rw [hW0] at R0
  have HW0 := Lib.hid hW0
  have L := Lib.hid h
  have HLL := Lib.hid h.len
  obtain ⟨ao, cap, rfl⟩ := h.shape
  clear B1 B2 B3 N1 N2 N3 N1b hW1 hW0 h
  go_enter Try.func27, Try.ntmps27
  go_upto_region 1 with (fail)
  rw [HW1.out]
  obtain ⟨c0, c1, c2, c3⟩ := C1.out
  go_upto_region 2 with (fail)
  rw [HW0.out, Z2.out]
  clear c0 c1 c2 c3
  obtain ⟨c0, c1, c2, c3⟩ := box4 R0.out.bx
  obtain ⟨f0, f1, f2⟩ := box3 R0.out.bg
  cases hd : x.d with
  | false =>
    rw [hd] at c3 f1
    have SR := Lib.hid ((one_liesK (p := ndI x) encS_len (heap_alloc_new W0 (.cells (encS (ndI x)).toArray 39))).src Try.u30 encS_len (by decide) encS_one)
    have R1 := Lib.hid (R0.out.step (vstep W0 (.cells (encS (ndI x)).toArray 39)))
    have QX := Lib.hid (show w.heap.size + 3 ≤ (W0.alloc (.cells (encS (ndI x)).toArray 39)).heap.size from R1.out.sz)
    go_upto_region 4 with (at_builtin; refine wpList_append_src_own rfl (.tmp 16) (.tmp 19) 30 30 rfl (w.heap.size + 3) 39 j0 (.agg #[.int .i64 0, .int .i64 0]) 2 16 Try.u30 hj9 hy0 hy1 hy2 rfl (by decide) (.slice none 0 0) 0 [] rfl R1.out.own _ 1 ([ndI x].flatMap encS) rfl SR.out (by unfold maxLen; omega) (by omega) QX.out ?_; intro v5 w5 hown hgr hsp; obtain ⟨a5, k5, rfl⟩ := own_shapeK hown; have O5 := Lib.hid (show w5.ownsRow (w.heap.size + 3) 39 2 (.slice a5 [ndI x].length k5) [ndI x].length ([ndI x].flatMap encS) from by simpa using hown); have G5 := Lib.hid hgr; have BG := (hgr.block (w.heap.size + 2) (Nat.lt_of_lt_of_le (Nat.lt_succ_self _) R1.out.sz) (by intro e; cases e)).trans R1.out.bg; have f1 := (free3 BG).2.2; obtain ⟨_, _, f0⟩ := box3 BG; clear BG; clear hown hgr hsp)
    obtain ⟨w6, hw6⟩ : ∃ zz, w5.setCell ⟨w.heap.size + 2, 2, none⟩ (.slice a5 1 k5) = zz := ⟨_, rfl⟩
    have RF := Lib.hid (show RG w (w5.setCell ⟨w.heap.size + 2, 2, none⟩ (.slice a5 1 k5)) x #[] a5 [ndI x] k5 from RG.put R1.out G5.out O5.out)
    rw [hw6] at RF
    have hw6' : w5.setCell ⟨w.heap.size + 2, 2, none⟩ (.slice a5 [ndI x].length k5) = w6 := hw6
    first | rw [hw6] | rw [hw6']
    have XD := Lib.hid hd
    clear hw6 hw6' f0 f1 SR QX O5 G5 R1 R0
    have OWNL := own_liesK encS_len RF.out.own
    have OFFB : ∀ a n c, (Value.slice a5 [ndI x].length k5) = .slice (some a) n c → a.block ≠ w.heap.size + 1 := fun a n c e q => by
      injection e with e
      subst e
      have := (RF.out.own.lt a.block rfl).1
      omega
    have f1 : True := trivial
    have f0 : True := trivial
    have FB := Lib.hid (box3 RF.out.br)
    have FR := Lib.hid (free3 RF.out.br)
    clear c0 c1 c2 c3 f0 f1 f2
    obtain ⟨f0, f1, f2⟩ := box3 RF.out.bg
    rw [XD.out] at f1
    obtain ⟨g0, g1, g2⟩ := FB.out
    obtain ⟨k0, k1, k2⟩ := FR.out
    go_wp2
    obtain ⟨w7, hw7⟩ : ∃ zz, sets3 w6 (w.heap.size + 1) (.string x.n) (.bool false) (.slice a5 1 k5) = zz := ⟨_, rfl⟩
    have R7 := sets3_row (x' := .string x.n) (y' := .bool false) (z' := .slice a5 1 k5) RF.out.br
    have B7 := sets3_below (x := .string x.n) (y := .bool false) (z := .slice a5 1 k5) RF.out.bel (show w.heap.size ≤ w.heap.size + 1 by omega)
    have L7 := (show LiesK encS 2 (sets3 w6 (w.heap.size + 1) (.string x.n) (.bool false) (.slice a5 1 k5)) (.slice a5 [ndI x].length k5) [ndI x] from OWNL.block (fun a n c e => OFFB a n c e) (by rw [sets3_size]; exact Nat.le_refl _) (fun k _ hk => sets3_other hk))
    rw [hw7] at R7 B7 L7
    unfold sets3 at hw7
    rw [hw7]
    clear hw7 f0 f1 f2 g0 g1 g2 k0 k1 k2
    obtain ⟨g0, g1, g2⟩ := box3 R7
    refine bodyPost_ret (by simp [results, Try.results27, go_sem, g0, g1, g2]; try rfl) rfl ?_
    exact ⟨⟨x.n, false, a5, k5, [ndI x]⟩, rfl, by unfold grpBy; rw [XD.out]; rfl, L7, B7⟩
  | true =>
    rw [hd] at c3 f1
    have XD := Lib.hid hd
    go_wp2_with fail
    clear c0 c1 c2 c3 f0 f1 f2
    go_loopw [6] (fun kv wr => ∃ (i : Nat) (a : Option Addr) (c : Nat), kv = .int .i64 i ∧ i ≤ l.length ∧ Hid (RG w wr x #[] a (mates (l.take i) x.n) c)) (fun kv _ => l.length - (intOf kv).toNat)
    case atStart => exact ⟨0, none, 0, rfl, Nat.zero_le _, Lib.hid R0.out⟩
    case round =>
      obtain ⟨i, a, c, rfl, hi, hR⟩ := hrel
      have R1 := Lib.hid hR.out
      clear hR R0
      by_cases hlt : i < l.length
      · obtain ⟨g, o, y, rfl, hy, hg, a0, a1, a2, a3⟩ := L.out.it hlt
        have AF := Lib.hid (fun W (hb : Below w.heap.size w W) => AFI hg a0 a1 a2 a3 W hb)
        have XF := Lib.hid (fun W (hb : Below wr.heap.size wr W) => box4 (R1.out.step hb).bx)
        have MS := Lib.hid (isD_mates x.n hy)
        clear a0 a1 a2 a3 hy hg
        have hxd := XD.out
        obtain ⟨m, hm⟩ : ∃ zz, mates (l.take i) x.n = zz := ⟨_, rfl⟩
        have ML := Lib.hid (show m.length ≤ 1000 from by rw [← hm]; have := mates_len (l.take i) x.n; rw [List.length_take] at this; omega)
        rw [hm] at R1 MS
        clear hm
        have l2 := fun z : Later wr => (AF.out z.w (R1.out.bel.trans (z.below.mono R1.out.bel.size))).2.2.1
        have l3 := fun z : Later wr => (AF.out z.w (R1.out.bel.trans (z.below.mono R1.out.bel.size))).2.2.2
        have m2 := fun z : Later wr => (XF.out z.w z.below).2.2.1
        cases hyd : y.d with
        | false =>
          rw [hyd] at l3
          have MN := Lib.hid (show mates (l.take (i + 1)) x.n = m from by rw [MS.out]; unfold isD; rw [hyd]; simp)
          go_upto_region 8 with (fail)
          refine wp_region_later (by kernel_rfl) (by kernel_rfl) ?_
          repeat (go_big_quiet_step (fail))
          refine wpQuiet_nil ?_
          rintro _ ⟨xl1, rfl⟩
          have FIN := Lib.hid (show RG w xl1.w x #[] a (mates (l.take (i + 1)) x.n) c from by rw [MN.out]; exact R1.out.step xl1.below)
          generalize xl1.w = w1 at *
          clear l2 l3 m2
          go_wp2
          go_roundw
          case rel => exact ⟨i + 1, a, c, by go_num, by omega, FIN⟩
          case measure => simp [intOf]; omega
        | true =>
          rw [hyd] at l3
          by_cases hn : y.n = x.n
          · have t1 := tl_eq hn
            have MN := Lib.hid (show mates (l.take (i + 1)) x.n = m ++ [ndI y] from by rw [MS.out]; unfold isD; rw [hyd, hn]; simp)
            go_upto_region 8 with (fail)
            refine wp_region_later (by kernel_rfl) (by kernel_rfl) ?_
            repeat (go_big_quiet_step (fail))
            refine wpQuiet_nil ?_
            rintro _ ⟨xl1, rfl⟩
            have R2 := Lib.hid (R1.out.step xl1.below)
            generalize xl1.w = wx at *
            clear l2 l3 m2 R1 XF t1 hn
            go_upto_region 9 with (fail)
            have BD := Lib.hid (show Below wx.heap.size wx wx.drew from (Below.refl _ _).drew)
            obtain ⟨wd, hwd⟩ : ∃ zz, wx.drew = zz := ⟨_, rfl⟩
            rw [hwd] at BD
            have HWD := Lib.hid hwd
            have BS := Lib.hid (bsS wd y.t y.r)
            have V1 := vstep wd (.cells (encS (y.t, y.r)).toArray 39)
            have N1 := heap_alloc_new wd (.cells (encS (y.t, y.r)).toArray 39)
            obtain ⟨wee, hwe⟩ : ∃ zz, wd.alloc (.cells (encS (y.t, y.r)).toArray 39) = zz := ⟨_, rfl⟩
            rw [hwe] at BS V1 N1
            have BE := Lib.hid (BD.out.trans (V1.mono BD.out.size))
            have RE := Lib.hid (R2.out.step BE.out)
            obtain ⟨v3, w3, hr3, ho3, hg3, hs3⟩ := run_append_src_own (P := Try.prog) wee (w.heap.size + 3) 30 30 30 39 j0 (.agg #[.int .i64 0, .int .i64 0]) 2 16 Try.u30 hj9 hy0 hy1 hy2 rfl (by decide) (.slice a m.length c) m.length (m.flatMap encS) RE.out.own (.slice (some ⟨wd.heap.size, 0, none⟩) 1 1) 1 ([ndI y].flatMap encS) ((one_liesK (p := ndI y) encS_len N1).src Try.u30 encS_len (by decide) encS_one) (by have := ML.out; unfold maxLen; omega) (by have := ML.out; omega) RE.out.sz
            obtain ⟨a3, c3', rfl⟩ := own_shapeK ho3
            have ho3 : w3.ownsRow (w.heap.size + 3) 39 2 (.slice a3 (m ++ [ndI y]).length c3') (m ++ [ndI y]).length ((m ++ [ndI y]).flatMap encS) := by rw [List.length_append, List.flatMap_append]; exact ho3
            have hr3 : (Builtin.append_ #[30, 30] 30 #[.slice a m.length c, .slice (some ⟨wd.heap.size, 0, none⟩) 1 1]).run Try.prog wee = .ok (.slice a3 (m ++ [ndI y]).length c3') w3 := by rw [List.length_append]; exact hr3
            have b3 := (hg3.block (w.heap.size + 2) (Nat.lt_of_lt_of_le (Nat.lt_succ_self _) RE.out.sz) (fun e => by have := (RE.out.own.lt _ e.symm).1; omega)).trans RE.out.bg
            have HS := Lib.hid (run_storeV w3 (w.heap.size + 2) 2 a3 (m ++ [ndI y]).length c3' _ (box3 b3).2.2 (free3 b3).2.2)
            have HR := Lib.hid hr3
            have FIN := Lib.hid (RG.put RE.out hg3 ho3)
            obtain ⟨w4, hw4⟩ : ∃ zz, w3.setCell ⟨w.heap.size + 2, 2, none⟩ (.slice a3 (m ++ [ndI y]).length c3') = zz := ⟨_, rfl⟩
            rw [hw4] at HS FIN
            have FIN := Lib.hid (show RG w w4 x #[] a3 (mates (l.take (i + 1)) x.n) c3' from by rw [MN.out]; exact FIN.out)
            have IX := Lib.hid (fun W => ix22 (g := g) (o := o) (cap := cap) hlt HLL.out W)
            have LD := Lib.hid (fun W (hb : Below wx.heap.size wx W) => And.intro (ldV (box3 (R2.out.step hb).bg).2.2) (ldS (AF.out W (R2.out.step hb).bel).1 (AF.out W (R2.out.step hb).bel).2.1))
            clear hr3 ho3 hg3 hs3 b3 hw4 V1 N1 hwe
            refine wp_region_held_drew (S := fun _ => True) (by kernel_rfl) trivial (fun _ => ?_)
            rw [HWD.out]
            clear hwd
            refine take_at (i := 0) 44 ?_ rfl rfl (by kernel_rfl) (by kernel_rfl) (by kernel_rfl) (fun _ _ _ h => h) (.inl ⟨rfl, ?_⟩) trivial ?_
            rotate_left 1
            · intro w hSw; go_simp; try with_reducible rfl
            simp only [Act.put, List.setIfInBounds_toArray, List.set_cons_zero, List.set_cons_succ]
            refine take_at (i := 2) 46 ?_ rfl rfl (by kernel_rfl) (by kernel_rfl) (by kernel_rfl) (fun _ _ _ h => h) (.inl ⟨rfl, ?_⟩) trivial ?_
            rotate_left 1
            · intro w hSw; go_simp; try with_reducible rfl
            simp only [Act.put, List.setIfInBounds_toArray, List.set_cons_zero, List.set_cons_succ]
            refine take_at (i := 3) 47 ?_ rfl rfl (by kernel_rfl) (by kernel_rfl) (by kernel_rfl) (fun _ _ _ h => h) (.inl ⟨rfl, ?_⟩) trivial ?_
            rotate_left 1
            · intro w hSw; go_simp; try with_reducible rfl
            simp only [Act.put, List.setIfInBounds_toArray, List.set_cons_zero, List.set_cons_succ]
            refine take_at (i := 4) 48 (.pointer (some ⟨g, o + i * 4, none⟩)) rfl rfl (by kernel_rfl) (by kernel_rfl) (by kernel_rfl) (fun _ _ _ h => h) (yields_ix (.tmp 46) (.tmp 47) 22 (.slice (some ⟨g, o, none⟩) l.length cap) (.int .i64 (i : Int)) _ (fun W => IX.out W) rfl rfl rfl rfl) trivial ?_
            simp only [Act.put, List.setIfInBounds_toArray, List.set_cons_zero, List.set_cons_succ]
            refine take_at (i := 5) 49 ?_ rfl rfl (by kernel_rfl) (by kernel_rfl) (by kernel_rfl) (fun _ _ _ h => h) (.inl ⟨rfl, ?_⟩) trivial ?_
            rotate_left 1
            · intro w hSw; go_simp; try with_reducible rfl
            simp only [Act.put, List.setIfInBounds_toArray, List.set_cons_zero, List.set_cons_succ]
            refine wpAnyH_ready (rs := [1, 6]) (by kernel_rfl) (by simp) (br_load (i := 1) 45 (.tmp 44) 30 _ (.slice a m.length c) rfl rfl rfl rfl rfl (LD.out wd BD.out).1 trivial (fun _ => ?_) (br_load (i := 6) 50 (.tmp 49) 39 _ (.agg #[.int .i64 y.t, .int .i64 y.r]) rfl rfl rfl rfl rfl (LD.out wd BD.out).2 trivial (fun _ => ?_) AllReadyH.nil))
            · simp only [Act.put, List.setIfInBounds_toArray, List.set_cons_zero, List.set_cons_succ]
              refine wpAnyH_ready (rs := [6]) (by kernel_rfl) (by simp) (br_load (i := 6) 50 (.tmp 49) 39 _ (.agg #[.int .i64 y.t, .int .i64 y.r]) rfl rfl rfl rfl rfl (LD.out wd BD.out).2 trivial (fun _ => ?_) AllReadyH.nil)
              simp only [Act.put, List.setIfInBounds_toArray, List.set_cons_zero, List.set_cons_succ]
              refine wpAnyH_ready (rs := [7]) (by kernel_rfl) (by simp) (br_bslice (i := 7) 51 30 1 _ #[(0, .agg #[.int .i64 y.t, .int .i64 y.r])] _ wee rfl rfl rfl rfl rfl BS.out trivial (fun _ => ?_) AllReadyH.nil)
              simp only [Act.put, List.setIfInBounds_toArray, List.set_cons_zero, List.set_cons_succ]
              refine one_append (i := 8) 52 (.tmp 45) (.tmp 51) 30 30 rfl rfl (by kernel_rfl) rfl rfl _ _ _ w3 rfl rfl HR.out trivial (fun _ => ?_)
              simp only [Act.put, List.setIfInBounds_toArray, List.set_cons_zero, List.set_cons_succ]
              refine take_at (i := 9) 53 ?_ rfl rfl (by kernel_rfl) (by kernel_rfl) (by kernel_rfl) (fun _ _ _ h => h) (.inl ⟨rfl, ?_⟩) trivial ?_
              rotate_left 1
              · intro w hSw; go_simp; try with_reducible rfl
              simp only [Act.put, List.setIfInBounds_toArray, List.set_cons_zero, List.set_cons_succ]
              refine wpAnyH_ready (rs := [10]) (by kernel_rfl) (by simp) (br_store (i := 10) 30 (.tmp 53) (.tmp 52) _ _ w4 rfl rfl rfl rfl rfl rfl HS.out trivial (fun _ => ?_) AllReadyH.nil)
              simp only [Act.put, List.setIfInBounds_toArray, List.set_cons_zero, List.set_cons_succ]
              refine wpAnyH_done (by kernel_rfl) ?_ _
              go_wp2
              go_roundw
              case rel => exact ⟨i + 1, a3, c3', by go_num, by omega, FIN⟩
              case measure => simp [intOf]; omega
            · simp only [Act.put, List.setIfInBounds_toArray, List.set_cons_zero, List.set_cons_succ]
              refine wpAnyH_ready (rs := [1, 7]) (by kernel_rfl) (by simp) (br_load (i := 1) 45 (.tmp 44) 30 _ (.slice a m.length c) rfl rfl rfl rfl rfl (LD.out wd BD.out).1 trivial (fun _ => ?_) (br_bslice (i := 7) 51 30 1 _ #[(0, .agg #[.int .i64 y.t, .int .i64 y.r])] _ wee rfl rfl rfl rfl rfl BS.out trivial (fun _ => ?_) AllReadyH.nil))
              · simp only [Act.put, List.setIfInBounds_toArray, List.set_cons_zero, List.set_cons_succ]
                refine wpAnyH_ready (rs := [7]) (by kernel_rfl) (by simp) (br_bslice (i := 7) 51 30 1 _ #[(0, .agg #[.int .i64 y.t, .int .i64 y.r])] _ wee rfl rfl rfl rfl rfl BS.out trivial (fun _ => ?_) AllReadyH.nil)
                simp only [Act.put, List.setIfInBounds_toArray, List.set_cons_zero, List.set_cons_succ]
                refine one_append (i := 8) 52 (.tmp 45) (.tmp 51) 30 30 rfl rfl (by kernel_rfl) rfl rfl _ _ _ w3 rfl rfl HR.out trivial (fun _ => ?_)
                simp only [Act.put, List.setIfInBounds_toArray, List.set_cons_zero, List.set_cons_succ]
                refine take_at (i := 9) 53 ?_ rfl rfl (by kernel_rfl) (by kernel_rfl) (by kernel_rfl) (fun _ _ _ h => h) (.inl ⟨rfl, ?_⟩) trivial ?_
                rotate_left 1
                · intro w hSw; go_simp; try with_reducible rfl
                simp only [Act.put, List.setIfInBounds_toArray, List.set_cons_zero, List.set_cons_succ]
                refine wpAnyH_ready (rs := [10]) (by kernel_rfl) (by simp) (br_store (i := 10) 30 (.tmp 53) (.tmp 52) _ _ w4 rfl rfl rfl rfl rfl rfl HS.out trivial (fun _ => ?_) AllReadyH.nil)
                simp only [Act.put, List.setIfInBounds_toArray, List.set_cons_zero, List.set_cons_succ]
                refine wpAnyH_done (by kernel_rfl) ?_ _
                go_wp2
                go_roundw
                case rel => exact ⟨i + 1, a3, c3', by go_num, by omega, FIN⟩
                case measure => simp [intOf]; omega
              · simp only [Act.put, List.setIfInBounds_toArray, List.set_cons_zero, List.set_cons_succ]
                refine wpAnyH_ready (rs := [1]) (by kernel_rfl) (by simp) (br_load (i := 1) 45 (.tmp 44) 30 _ (.slice a m.length c) rfl rfl rfl rfl rfl (LD.out wee BE.out).1 trivial (fun _ => ?_) AllReadyH.nil)
                simp only [Act.put, List.setIfInBounds_toArray, List.set_cons_zero, List.set_cons_succ]
                refine one_append (i := 8) 52 (.tmp 45) (.tmp 51) 30 30 rfl rfl (by kernel_rfl) rfl rfl _ _ _ w3 rfl rfl HR.out trivial (fun _ => ?_)
                simp only [Act.put, List.setIfInBounds_toArray, List.set_cons_zero, List.set_cons_succ]
                refine take_at (i := 9) 53 ?_ rfl rfl (by kernel_rfl) (by kernel_rfl) (by kernel_rfl) (fun _ _ _ h => h) (.inl ⟨rfl, ?_⟩) trivial ?_
                rotate_left 1
                · intro w hSw; go_simp; try with_reducible rfl
                simp only [Act.put, List.setIfInBounds_toArray, List.set_cons_zero, List.set_cons_succ]
                refine wpAnyH_ready (rs := [10]) (by kernel_rfl) (by simp) (br_store (i := 10) 30 (.tmp 53) (.tmp 52) _ _ w4 rfl rfl rfl rfl rfl rfl HS.out trivial (fun _ => ?_) AllReadyH.nil)
                simp only [Act.put, List.setIfInBounds_toArray, List.set_cons_zero, List.set_cons_succ]
                refine wpAnyH_done (by kernel_rfl) ?_ _
                go_wp2
                go_roundw
                case rel => exact ⟨i + 1, a3, c3', by go_num, by omega, FIN⟩
                case measure => simp [intOf]; omega
          · have t1 := tl_ne hn
            have MN := Lib.hid (show mates (l.take (i + 1)) x.n = m from by rw [MS.out]; unfold isD; rw [hyd]; simp [hn])
            go_upto_region 8 with (fail)
            refine wp_region_later (by kernel_rfl) (by kernel_rfl) ?_
            repeat (go_big_quiet_step (fail))
            refine wpQuiet_nil ?_
            rintro _ ⟨xl1, rfl⟩
            have FIN := Lib.hid (show RG w xl1.w x #[] a (mates (l.take (i + 1)) x.n) c from by rw [MN.out]; exact R1.out.step xl1.below)
            generalize xl1.w = w1 at *
            clear l2 l3 m2
            go_wp2
            go_roundw
            case rel => exact ⟨i + 1, a, c, by go_num, by omega, FIN⟩
            case measure => simp [intOf]; omega
      · have R2 := Lib.hid (show RG w wr x #[] a (mates l x.n) c from by have h := R1.out; rwa [List.take_of_length_le (by omega)] at h)
        have ML := Lib.hid (mates_len l x.n)
        have ST := Lib.hid (rsort_any wr _ (mates l x.n) (own_liesK encS_len R2.out.own) (fun i => by have := sort_len ((mates l x.n).take i); have h2 := mates_len l x.n; rw [List.length_take] at this; omega))
        have R1 := Lib.hid R2.out
        have MR := Lib.hid (show grpBy sortF l x = ⟨x.n, true, sortF (mates l x.n)⟩ from by unfold grpBy; rw [XD.out]; simp)
        obtain ⟨m, hm⟩ : ∃ zz, mates l x.n = zz := ⟨_, rfl⟩
        rw [hm] at R2 ST MR
        clear hm R1
        obtain ⟨f0, f1, f2⟩ := box3 R2.out.bg
        go_wp2_with fail
        refine ST.out.mono ?_
        rintro e w5 ⟨r5, rfl, hr5, hb5⟩
        obtain ⟨a5, k5, rfl⟩ := own_shapeK hr5
        have R3 := Lib.hid (R2.out.step hb5)
        have O5 := Lib.hid (own_less hr5 R2.out.sz)
        clear hr5 hb5 f0 f1 f2
        obtain ⟨f0, f1, f2⟩ := box3 R3.out.bg
        have f3 := R3.out.free
        obtain ⟨srt, hsrt⟩ : ∃ zz, sortF m = zz := ⟨_, rfl⟩
        rw [hsrt] at O5 MR ⊢
        clear hsrt
        go_upto_region 11 with (fail)
        have RF := Lib.hid (RG.put R3.out (World.grownBy.refl w5 _) O5.out)
        obtain ⟨w6, hw6⟩ : ∃ zz, w5.setCell ⟨w.heap.size + 2, 2, none⟩ (.slice a5 srt.length k5) = zz := ⟨_, rfl⟩
        rw [hw6] at RF ⊢
        clear hw6 f3 O5 R3
        have OWNL := own_liesK encS_len RF.out.own
        have OFFB : ∀ a n c, (Value.slice a5 srt.length k5) = .slice (some a) n c → a.block ≠ w.heap.size + 1 := fun a n c e q => by
          injection e with e
          subst e
          have := (RF.out.own.lt a.block rfl).1
          omega
        have c0 : True := trivial
        have c1 : True := trivial
        have c2 : True := trivial
        have c3 : True := trivial
        have FB := Lib.hid (box3 RF.out.br)
        have FR := Lib.hid (free3 RF.out.br)
        clear c0 c1 c2 c3 f0 f1 f2
        obtain ⟨f0, f1, f2⟩ := box3 RF.out.bg
        rw [XD.out] at f1
        obtain ⟨g0, g1, g2⟩ := FB.out
        obtain ⟨k0, k1, k2⟩ := FR.out
        go_wp2
        obtain ⟨w7, hw7⟩ : ∃ zz, sets3 w6 (w.heap.size + 1) (.string x.n) (.bool true) (.slice a5 srt.length k5) = zz := ⟨_, rfl⟩
        have R7 := sets3_row (x' := .string x.n) (y' := .bool true) (z' := .slice a5 srt.length k5) RF.out.br
        have B7 := sets3_below (x := .string x.n) (y := .bool true) (z := .slice a5 srt.length k5) RF.out.bel (show w.heap.size ≤ w.heap.size + 1 by omega)
        have L7 := (show LiesK encS 2 (sets3 w6 (w.heap.size + 1) (.string x.n) (.bool true) (.slice a5 srt.length k5)) (.slice a5 srt.length k5) srt from OWNL.block (fun a n c e => OFFB a n c e) (by rw [sets3_size]; exact Nat.le_refl _) (fun k _ hk => sets3_other hk))
        rw [hw7] at R7 B7 L7
        unfold sets3 at hw7
        rw [hw7]
        clear hw7 f0 f1 f2 g0 g1 g2 k0 k1 k2
        obtain ⟨g0, g1, g2⟩ := box3 R7
        refine bodyPost_ret (by simp [results, Try.results27, go_sem, g0, g1, g2]; try rfl) rfl ?_
        exact ⟨⟨x.n, true, a5, k5, srt⟩, rfl, MR.out.symm, L7, B7⟩
end Go.Proofs.Ythbliaohaakbiaa
