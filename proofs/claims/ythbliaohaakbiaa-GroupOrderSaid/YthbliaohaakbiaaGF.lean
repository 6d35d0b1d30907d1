/- group.Of, walked. Made by gengf17.py. -/
import Derived.Test.YthbliaohaakbiaaGO
set_option linter.unusedVariables false
set_option linter.unusedSimpArgs false
set_option maxRecDepth 100000
namespace Go.Proofs.Ythbliaohaakbiaa
open Go.RowKit Go.Sort Go.WideMaps Go.Maps

theorem box4 {W : World} {g : Nat} {a b c d : Value} {T : TypeId} (h : W.heap[g]? = some (.cells #[a, b, c, d] T (0, 0))) : W.cell? ⟨g, 0, none⟩ = some a ∧ W.cell? ⟨g, 1, none⟩ = some b ∧ W.cell? ⟨g, 2, none⟩ = some c ∧ W.cell? ⟨g, 3, none⟩ = some d := by
  refine ⟨?_, ?_, ?_, ?_⟩ <;> (rw [cell_of_row _ _ _ _ _ _ h]; rfl)
theorem sum_mem {l : List Nat} {x : Nat} (h : x ∈ l) : x ≤ l.sum := by
  induction l with
  | nil => cases h
  | cons y r ih =>
    rw [List.sum_cons]
    rcases List.mem_cons.1 h with rfl | h
    · omega
    · have := ih h; omega
/-- What a round lays out ahead. -/
structure Rd (w2 wr W : World) (b q0 n : Nat) (f' : SF) (x : It) : Prop where
  rows : ∀ (B e kk n : Nat) (v : Value) (xs : List Value), wr.ownsRow B e kk v n xs → W.ownsRow B e kk v n xs
  size : wr.heap.size + 1 ≤ W.heap.size
  map : IMap W b (n + 1) f'
  bel : Below w2.heap.size w2 W
  box : W.heap[wr.heap.size]? = some (.cells #[.int .i64 x.t, .int .i64 x.r, .string x.n, .bool x.d] 41 (0, 0))
set_option maxHeartbeats 12800000 in
theorem of_any (w : World) (v : Value) (l : List It) (h : LiesK encI 4 w v l) (hl : l.length ≤ 1000) (hu : Unlike l) (hok : ∀ x ∈ l, x.n.size ≤ maxLen) :
    Calls Try.prog 9 #[v] w fun e w' => ∃ r gs, e = .returned r ∧ GsL w' r gs ∧ IsOf l (gs.map Gn.p) ∧ Below w.heap.size w w' := by
  obtain ⟨i0, hi9, hz0, hz1, hz2⟩ := info_parts info32
  obtain ⟨j0, hj9, hy0, hy1, hy2⟩ := info_parts info39
  have hmm := @run_makeMap Try.prog
  have CL := Lib.hid (clone_any w v l h hl)
  obtain ⟨ao, cap, rfl⟩ := h.shape
  have HOK := Lib.hid hok
  have HUL := Lib.hid hu
  clear h hok hu
  go_enter Try.func9, Try.ntmps9
  go_wp2_with fail
  refine CL.out.mono ?_
  rintro e w1 ⟨r1, rfl, ho, hb⟩
  have SO := Lib.hid (sortI_own w1 w.heap.size r1 l ho (by omega))
  obtain ⟨ra, rc, rfl⟩ := own_shapeK ho
  have B1 := Lib.hid hb
  have O1 := Lib.hid ho
  clear ho hb CL
  go_wp2_with fail
  refine SO.out.mono ?_
  rintro e w2 ⟨rfl, s, hp, hs, ho, hg⟩
  have hsl : s.length = l.length := hp.length_eq
  have HP := Lib.hid hp
  have RS := Lib.hid (rise_of_sorted HUL.out hp hs)
  have US := Lib.hid (show Unlike s from (hp.map ndI).nodup_iff.2 HUL.out)
  have OKS := Lib.hid (fun x (hx : x ∈ s) => HOK.out x (hp.mem_iff.1 hx))
  have L2 := Lib.hid (show LiesK encI 4 w2 (.slice ra s.length rc) s from by rw [hsl]; have := own_liesK encI_len (show w2.ownsRow w.heap.size 41 4 (.slice ra l.length rc) s.length (s.flatMap encI) from by rw [hsl]; exact ho); exact this)
  have B2 := Lib.hid (B1.out.grown hg B1.out.size (fun k e => (O1.out.lt k e).1))
  rw [← hsl]
  have SL := Lib.hid (show s.length ≤ 1000 from by omega)
  clear hp hs ho hg SO O1 B1 hsl HOK HUL
  go_wp2_with fail
  have I0 := Lib.hid (show OI w2 (w2.alloc (.map #[] 0)) w2.heap.size (.slice none 0 0) s 0 [] (fun _ => none) from ⟨World.ownsRow_nil _ _ _ _, fun _ => rfl, rfl, fun x hx => (by cases hx), List.Pairwise.nil, imap_made w2, fun n i h => (by cases h), fun n _ x hx => (by cases hx), vstep w2 _⟩)
  go_loopw [3, 16] (fun gv kv wr => ∃ (k : Nat) (gs : List Gn) (f : SF), kv = .int .i64 k ∧ k ≤ s.length ∧ gs.length ≤ k ∧ Hid (OI w2 wr w2.heap.size gv s k gs f)) (fun _ kv _ => s.length - (intOf kv).toNat)
  case atStart => exact ⟨0, [], _, rfl, Nat.zero_le _, Nat.zero_le _, I0⟩
  case round =>
    obtain ⟨k, gs, f, rfl, hk, hgl, hI⟩ := hrel
    obtain ⟨ga, gc, rfl⟩ := own_shapeK hI.out.row
    clear I0
    have hs1000 := SL.out
    by_cases hlt : k < s.length
    · obtain ⟨g, o, x, rfl, hx, hg, a0, a1, a2, a3⟩ := (L2.out.step hI.out.bel).it hlt
      have HX := Lib.hid hx
      have XN := Lib.hid (OKS.out x (List.mem_of_getElem? hx))
      have OB := Lib.hid (hI.out.step (vstep wr (.cells #[.int .i64 x.t, .int .i64 x.r, .string x.n, .bool x.d] 41)))
      have BX := heap_alloc_new wr (.cells #[.int .i64 x.t, .int .i64 x.r, .string x.n, .bool x.d] 41)
      have RW := fun B e kk n v xs (q : wr.ownsRow B e kk v n xs) => own_belowK q (vstep wr (.cells #[.int .i64 x.t, .int .i64 x.r, .string x.n, .bool x.d] 41))
      have SZ : wr.heap.size + 1 ≤ (wr.alloc (.cells #[.int .i64 x.t, .int .i64 x.r, .string x.n, .bool x.d] 41)).heap.size := by simp
      have LG := Lib.hid (show gs.length ≤ 1000 from by have := SL.out; omega)
      go_upto_region 8 with (fail)
      obtain ⟨wx, hwx⟩ : ∃ zz, wr.alloc (.cells #[.int .i64 x.t, .int .i64 x.r, .string x.n, .bool x.d] 41) = zz := ⟨_, rfl⟩
      rw [hwx] at OB BX RW SZ ⊢
      have BX := Lib.hid BX
      have RW := Lib.hid RW
      have SZ := Lib.hid SZ
      clear hwx a0 a1 a2 a3 hx hg
      obtain ⟨c0, c1, c2, c3⟩ := box4 BX.out
      have LK := Lib.hid (show IMap wx w2.heap.size gs.length f from OB.out.map)
      cases hd : x.d with
      | false =>
        rw [hd] at c3
        go_upto_region 13 with (at_lookup; refine wpList_ilookok _ rfl _ _ rfl _ gs.length f rfl LK.out x.n rfl XN.out ?_)
        have RD := Lib.hid (show Rd w2 wr wx w2.heap.size 0 gs.length f x from ⟨RW.out, SZ.out, by obtain ⟨D, q1, q2⟩ := LK.out; exact ⟨D, q1.mono (by omega), q2⟩, OB.out.bel, BX.out⟩)
        have HF := Lib.hid (show f = if x.d then upd f x.n (gs.length : Int) else f from by rw [hd]; rfl)
        have HN := Lib.hid (show x.d = true → f x.n = none from fun e => by rw [hd] at e; cases e)
        generalize wx = wy at *
        clear c0 c1 c2 c3
        obtain ⟨c0, c1, c2, c3⟩ := box4 RD.out.box
        rw [hd] at c3
        have N1 := heap_alloc_new wy (.cells #[.int .i64 x.t, .int .i64 x.r] 39)
        have V1 := vstep wy (.cells #[.int .i64 x.t, .int .i64 x.r] 39)
        have V2 := vstep (wy.alloc (.cells #[.int .i64 x.t, .int .i64 x.r] 39)) (.cells #[.string x.n, .bool false, .slice (some ⟨wy.heap.size, 0, none⟩) 1 1] 32)
        have N2 := heap_alloc_new (wy.alloc (.cells #[.int .i64 x.t, .int .i64 x.r] 39)) (.cells #[.string x.n, .bool false, .slice (some ⟨wy.heap.size, 0, none⟩) 1 1] 32)
        obtain ⟨wz, hwz⟩ : ∃ zz, (wy.alloc (.cells #[.int .i64 x.t, .int .i64 x.r] 39)).alloc (.cells #[.string x.n, .bool false, .slice (some ⟨wy.heap.size, 0, none⟩) 1 1] 32) = zz := ⟨_, rfl⟩
        rw [World.size_alloc] at N2
        rw [hwz] at V2 N2
        have VZ := Lib.hid (V1.trans (V2.mono V1.size))
        have QB := Lib.hid ((V2.block _ (lt_of_block N1)).trans N1)
        have HWZ := Lib.hid hwz
        have SR := Lib.hid (show Src Try.prog 3 25 (.slice (some ⟨wy.heap.size + 1, 0, none⟩) 1 1) 1 ([Gn.new x wy.heap.size].flatMap encN) wz from (one_liesK (p := Gn.new x wy.heap.size) encN_len (show wz.heap[wy.heap.size + 1]? = some (.cells (encN (Gn.new x wy.heap.size)).toArray 32 (0, 0)) from by rw [N2]; unfold encN Gn.new Gn.v; dsimp only; rw [hd]; rfl)).src Try.u25 encN_len (by decide) encN_one)
        have OZ := Lib.hid (own_belowK (RD.out.rows _ _ _ _ _ _ hI.out.row) VZ.out)
        have QZ := Lib.hid (And.intro (show gs.length + 1 ≤ maxLen from by have := LG.out; unfold maxLen; omega) (And.intro (show (gs.length + 1) * 48 ≤ 140737488355328 from by have := LG.out; omega) (show w2.heap.size + 1 ≤ wz.heap.size from by have := hI.out.map.lt; have := RD.out.size; have := VZ.out.size; omega)))
        clear V1 V2 N1 N2 hwz
        go_wp2_with (at_builtin; rw [HWZ.out]; refine wpList_append_src_own rfl (.tmp 52) (.tmp 61) 25 25 rfl (w2.heap.size + 1) 32 i0 (.agg #[.string ⟨#[]⟩, .bool false, .slice none 0 0]) 3 48 Try.u25 hi9 hz0 hz1 hz2 rfl (by decide) (.slice ga gs.length gc) gs.length (gs.flatMap encN) rfl OZ.out _ 1 ([Gn.new x wy.heap.size].flatMap encN) rfl SR.out QZ.out.1 QZ.out.2.1 QZ.out.2.2 ?_; intro v5 w5 hown hgr hsp; have OW := Lib.hid (show w5.ownsRow (w2.heap.size + 1) 32 3 v5 (gs ++ [Gn.new x wy.heap.size]).length ((gs ++ [Gn.new x wy.heap.size]).flatMap encN) from by rw [List.length_append, List.flatMap_append]; exact hown); have GW := Lib.hid (And.intro hgr hsp); clear hown hgr hsp)
        have FIN := Lib.hid (show OI w2 w5 w2.heap.size v5 s (k + 1) (gs ++ [Gn.new x wy.heap.size]) f from by
          refine OI.push (W1 := wz) hI.out HX.out US.out rfl HN.out HF.out (fun B e kk n v xs q => own_belowK (RD.out.rows B e kk n v xs q) VZ.out) (by have := RD.out.size; have := VZ.out.size; omega) (RD.out.map.step VZ.out) (RD.out.bel.trans (VZ.out.mono RD.out.bel.size)) QB.out (by have := RD.out.size; omega) OW.out GW.out.1 GW.out.2)
        clear c0 c1 c2 c3 HWZ
        go_roundw
        case rel => exact ⟨k + 1, gs ++ [Gn.new x wy.heap.size], f, by go_num, by omega, by rw [List.length_append]; simp; omega, FIN⟩
        case measure => simp [intOf]; omega
      | true =>
        rw [hd] at c3
        cases hf : f x.n with
        | none =>
          go_upto_region 13 with (first
            | (at_lookup; refine wpList_ilookok _ rfl _ _ rfl _ gs.length f rfl LK.out x.n rfl XN.out ?_; rw [hf])
            | (at_mapUpdate; refine wpList_iput _ rfl _ _ _ rfl _ gs.length f rfl LK.out (by have := LG.out; omega) x.n (gs.length : Int) rfl rfl XN.out (by have := LG.out; omega) ?_; intro wy im hg; have IM := Lib.hid im; have GM := Lib.hid hg; clear im hg))
          have RD := Lib.hid (show Rd w2 wr wy w2.heap.size 0 gs.length (upd f x.n (gs.length : Int)) x from ⟨fun B ee kk n v xs q => ne_kept (RW.out B ee kk n v xs q) GM.out (fun e => row_imap (RW.out B ee kk n v xs q) LK.out e.symm), Nat.le_trans SZ.out GM.out.size, IM.out, OB.out.bel.grown GM.out OB.out.bel.size (fun k e => by injection e with e; omega), by rw [GM.out.block _ (lt_of_block BX.out) (fun e => by injection e with e; have := hI.out.map.lt; omega)]; exact BX.out⟩)
          have HF := Lib.hid (show upd f x.n (gs.length : Int) = if x.d then upd f x.n (gs.length : Int) else f from by rw [hd]; rfl)
          have HN := Lib.hid (show x.d = true → f x.n = none from fun _ => hf)
          clear c0 c1 c2 c3
          obtain ⟨c0, c1, c2, c3⟩ := box4 RD.out.box
          rw [hd] at c3
          have N1 := heap_alloc_new wy (.cells #[.int .i64 x.t, .int .i64 x.r] 39)
          have V1 := vstep wy (.cells #[.int .i64 x.t, .int .i64 x.r] 39)
          have V2 := vstep (wy.alloc (.cells #[.int .i64 x.t, .int .i64 x.r] 39)) (.cells #[.string x.n, .bool true, .slice (some ⟨wy.heap.size, 0, none⟩) 1 1] 32)
          have N2 := heap_alloc_new (wy.alloc (.cells #[.int .i64 x.t, .int .i64 x.r] 39)) (.cells #[.string x.n, .bool true, .slice (some ⟨wy.heap.size, 0, none⟩) 1 1] 32)
          obtain ⟨wz, hwz⟩ : ∃ zz, (wy.alloc (.cells #[.int .i64 x.t, .int .i64 x.r] 39)).alloc (.cells #[.string x.n, .bool true, .slice (some ⟨wy.heap.size, 0, none⟩) 1 1] 32) = zz := ⟨_, rfl⟩
          rw [World.size_alloc] at N2
          rw [hwz] at V2 N2
          have VZ := Lib.hid (V1.trans (V2.mono V1.size))
          have QB := Lib.hid ((V2.block _ (lt_of_block N1)).trans N1)
          have HWZ := Lib.hid hwz
          have SR := Lib.hid (show Src Try.prog 3 25 (.slice (some ⟨wy.heap.size + 1, 0, none⟩) 1 1) 1 ([Gn.new x wy.heap.size].flatMap encN) wz from (one_liesK (p := Gn.new x wy.heap.size) encN_len (show wz.heap[wy.heap.size + 1]? = some (.cells (encN (Gn.new x wy.heap.size)).toArray 32 (0, 0)) from by rw [N2]; unfold encN Gn.new Gn.v; dsimp only; rw [hd]; rfl)).src Try.u25 encN_len (by decide) encN_one)
          have OZ := Lib.hid (own_belowK (RD.out.rows _ _ _ _ _ _ hI.out.row) VZ.out)
          have QZ := Lib.hid (And.intro (show gs.length + 1 ≤ maxLen from by have := LG.out; unfold maxLen; omega) (And.intro (show (gs.length + 1) * 48 ≤ 140737488355328 from by have := LG.out; omega) (show w2.heap.size + 1 ≤ wz.heap.size from by have := hI.out.map.lt; have := RD.out.size; have := VZ.out.size; omega)))
          clear V1 V2 N1 N2 hwz
          go_wp2_with (at_builtin; rw [HWZ.out]; refine wpList_append_src_own rfl (.tmp 52) (.tmp 61) 25 25 rfl (w2.heap.size + 1) 32 i0 (.agg #[.string ⟨#[]⟩, .bool false, .slice none 0 0]) 3 48 Try.u25 hi9 hz0 hz1 hz2 rfl (by decide) (.slice ga gs.length gc) gs.length (gs.flatMap encN) rfl OZ.out _ 1 ([Gn.new x wy.heap.size].flatMap encN) rfl SR.out QZ.out.1 QZ.out.2.1 QZ.out.2.2 ?_; intro v5 w5 hown hgr hsp; have OW := Lib.hid (show w5.ownsRow (w2.heap.size + 1) 32 3 v5 (gs ++ [Gn.new x wy.heap.size]).length ((gs ++ [Gn.new x wy.heap.size]).flatMap encN) from by rw [List.length_append, List.flatMap_append]; exact hown); have GW := Lib.hid (And.intro hgr hsp); clear hown hgr hsp)
          have FIN := Lib.hid (show OI w2 w5 w2.heap.size v5 s (k + 1) (gs ++ [Gn.new x wy.heap.size]) (upd f x.n (gs.length : Int)) from by
            refine OI.push (W1 := wz) hI.out HX.out US.out rfl HN.out HF.out (fun B e kk n v xs q => own_belowK (RD.out.rows B e kk n v xs q) VZ.out) (by have := RD.out.size; have := VZ.out.size; omega) (RD.out.map.step VZ.out) (RD.out.bel.trans (VZ.out.mono RD.out.bel.size)) QB.out (by have := RD.out.size; omega) OW.out GW.out.1 GW.out.2)
          clear c0 c1 c2 c3 HWZ
          go_roundw
          case rel => exact ⟨k + 1, gs ++ [Gn.new x wy.heap.size], upd f x.n (gs.length : Int), by go_num, by omega, by rw [List.length_append]; simp; omega, FIN⟩
          case measure => simp [intOf]; omega
        | some i1 =>
          obtain ⟨j, y, hij, hj, hyd, hyn⟩ := OB.out.fs _ _ hf
          subst hij
          have hjl : j < gs.length := (List.getElem?_eq_some_iff.1 hj).1
          go_upto_region 10 with (at_lookup; refine wpList_ilookok _ rfl _ _ rfl _ gs.length f rfl LK.out x.n rfl XN.out ?_; rw [hf])
          have hym := List.mem_of_getElem? hj
          obtain ⟨gb, hgb, hgB1, hgB2⟩ := own_some OB.out.row (by omega)
          have hgaa : ga = some ⟨gb, 0, none⟩ := by
            rcases OB.out.row.2 with ⟨e1, _⟩ | ⟨g', cap', cur, e1, _⟩
            · injection e1 with e1; subst e1; simp [Value.ownBlock] at hgb
            · injection e1 with e1
              subst e1
              have : g' = gb := by simpa [Value.ownBlock] using hgb
              rw [this]
          subst hgaa
          -- what is read, at every later world
          have RY := Lib.hid (fun W (hb : Below wx.heap.size wx W) => show W.cell? ⟨gb, j * 3 + 2, none⟩ = some (.slice y.a y.l.length y.c) from by
            obtain ⟨g1, o1, y1, e1, hy1, hg1, _, _, q3⟩ := grN (own_liesK encN_len (own_belowK OB.out.row hb)) hjl
            rw [hj] at hy1
            injection hy1 with hy1
            injection e1 with e1
            injection e1 with e1 e2
            subst hy1 e1 e2
            rw [Nat.zero_add] at q3
            exact q3)
          have XB := Lib.hid (fun W (hb : Below wx.heap.size wx W) => box4 ((hb.block _ (lt_of_block BX.out)).trans BX.out))
          have BD := Lib.hid (show Below wx.heap.size wx wx.drew from (Below.refl _ _).drew)
          obtain ⟨wd, hwd⟩ : ∃ zz, wx.drew = zz := ⟨_, rfl⟩
          rw [hwd] at BD
          have HWD := Lib.hid hwd
          have BS := Lib.hid (bsS wd x.t x.r)
          have V1 := vstep wd (.cells (encS (x.t, x.r)).toArray 39)
          have N1 := heap_alloc_new wd (.cells (encS (x.t, x.r)).toArray 39)
          obtain ⟨wee, hwe⟩ : ∃ zz, wd.alloc (.cells (encS (x.t, x.r)).toArray 39) = zz := ⟨_, rfl⟩
          rw [hwe] at BS V1 N1
          have BE := Lib.hid (BD.out.trans (V1.mono BD.out.size))
          have YL := Lib.hid (show y.l.length ≤ 100000 from by
            have hkk : Unlike (s.take k) := US.out.sublist ((List.take_sublist k s).map ndI)
            have h1 := (items_gOf _ hkk).length_eq
            have h2 : y.l.length ≤ (itemsOf (gOf (s.take k))).length := by
              rw [← hI.out.is]
              unfold itemsOf
              rw [List.length_flatMap]
              have hm : (y.l.length) ∈ ((gs.map Gn.p).map fun g => (g.l.map (fun p => (⟨p.1, p.2, g.n, g.d⟩ : It))).length) := List.mem_map.2 ⟨y.p, List.mem_map.2 ⟨y, hym, rfl⟩, by simp [Gn.p]⟩
              exact sum_mem hm
            rw [h1, List.length_take] at h2
            have := SL.out
            omega)
          obtain ⟨v3, w3, hr3, ho3, hg3, hs3⟩ := run_append_src_own (P := Try.prog) wee (w2.heap.size + 1) 30 30 30 39 j0 (.agg #[.int .i64 0, .int .i64 0]) 2 16 Try.u30 hj9 hy0 hy1 hy2 rfl (by decide) (.slice y.a y.l.length y.c) y.l.length (y.l.flatMap encS) (own_belowK (OB.out.each y hym).1 BE.out) (.slice (some ⟨wd.heap.size, 0, none⟩) 1 1) 1 ([ndI x].flatMap encS) ((one_liesK (p := ndI x) encS_len N1).src Try.u30 encS_len (by decide) encS_one) (by have := YL.out; unfold maxLen; omega) (by have := YL.out; omega) (by have := OB.out.bel.size; have := BE.out.size; have := OB.out.map.lt; omega)
          obtain ⟨a3, c3', rfl⟩ := own_shapeK ho3
          have ho3 : w3.ownsRow (w2.heap.size + 1) 39 2 (.slice a3 (y.l ++ [ndI x]).length c3') (y.l ++ [ndI x]).length ((y.l ++ [ndI x]).flatMap encS) := by rw [List.length_append, List.flatMap_append]; exact ho3
          have hs3 : Sprung wee y.v (.slice a3 (y.l ++ [ndI x]).length c3') := by rw [List.length_append]; exact hs3
          have hr3 : (Builtin.append_ #[30, 30] 30 #[.slice y.a y.l.length y.c, .slice (some ⟨wd.heap.size, 0, none⟩) 1 1]).run Try.prog wee = .ok (.slice a3 (y.l ++ [ndI x]).length c3') w3 := by rw [List.length_append]; exact hr3
          have FIN := Lib.hid (OI.more (W1 := wee) OB.out HX.out US.out hd rfl hj hyd hyn BE.out ho3 hg3 hs3)
          have C3 : w3.cell? ⟨gb, j * 3 + 2, none⟩ = some (.slice y.a y.l.length y.c) ∧ w3.frozen? ⟨gb, j * 3 + 2, none⟩ = false := by
            have hrow3 := ne_kept (own_belowK OB.out.row BE.out) hg3 (fun e => (OB.out.each y hym).2 e.symm)
            obtain ⟨g1, o1, y1, e1, hy1, hg1, _, _, q3⟩ := grN (own_liesK encN_len hrow3) hjl
            rw [hj] at hy1
            injection hy1 with hy1
            injection e1 with e1
            injection e1 with e1 e2
            subst hy1 e1 e2
            rw [Nat.zero_add] at q3
            refine ⟨q3, ?_⟩
            rcases hrow3.2 with ⟨e1, _⟩ | ⟨g', cap', cur, e1, _, hb3, _⟩
            · cases e1
            · injection e1 with e1
              injection e1 with e1
              injection e1 with e1
              subst e1
              exact frozen_of_row _ _ _ _ _ hb3
          have HS := Lib.hid (run_storeV w3 gb (j * 3 + 2) a3 (y.l ++ [ndI x]).length c3' _ C3.1 C3.2)
          have HR := Lib.hid hr3
          obtain ⟨w4, hw4⟩ : ∃ zz, w3.setCell ⟨gb, j * 3 + 2, none⟩ (.slice a3 (y.l ++ [ndI x]).length c3') = zz := ⟨_, rfl⟩
          rw [hw4] at HS FIN
          have GL := Lib.hid (show (gs.set j ⟨y.n, y.d, a3, c3', y.l ++ [ndI x]⟩).length = gs.length from List.length_set ..)
          rw [GL.out] at FIN
          have IX := Lib.hid (fun W => ix25 (g := gb) (o := 0) (cap := gc) hjl (by have := LG.out; omega) W)
          have IXZ := Lib.hid (show (0 : Nat) + j * 3 = j * 3 from by omega)
          rw [IXZ.out] at IX
          have LD := Lib.hid (fun W (hb : Below wx.heap.size wx W) => And.intro (ldV (RY.out W hb)) (ldS (a := x.t) (b := x.r) (g := wr.heap.size) (o := 0) (XB.out W hb).1 (XB.out W hb).2.1))
          clear hr3 ho3 hg3 hs3 C3 hw4 V1 N1 hwe hgb hgB1 hgB2 RY XB c0 c1 c2 c3 hym hj hyd hyn
          refine wp_region_held_drew (S := fun _ => True) (by kernel_rfl) trivial (fun _ => ?_)
          rw [HWD.out]
          clear hwd
          refine take_at (i := 0) 32 ?_ rfl rfl (by kernel_rfl) (by kernel_rfl) (by kernel_rfl) (fun _ _ _ h => h) (.inl ⟨rfl, ?_⟩) trivial ?_
          rotate_left 1
          · intro w hSw; go_simp; try with_reducible rfl
          simp only [Act.put, List.setIfInBounds_toArray, List.set_cons_zero, List.set_cons_succ]
          refine take_at (i := 1) 33 ?_ rfl rfl (by kernel_rfl) (by kernel_rfl) (by kernel_rfl) (fun _ _ _ h => h) (.inl ⟨rfl, ?_⟩) trivial ?_
          rotate_left 1
          · intro w hSw; go_simp; try with_reducible rfl
          simp only [Act.put, List.setIfInBounds_toArray, List.set_cons_zero, List.set_cons_succ]
          refine take_at (i := 2) 34 ?_ rfl rfl (by kernel_rfl) (by kernel_rfl) (by kernel_rfl) (fun _ _ _ h => h) (.inl ⟨rfl, ?_⟩) trivial ?_
          rotate_left 1
          · intro w hSw; go_simp; try with_reducible rfl
          simp only [Act.put, List.setIfInBounds_toArray, List.set_cons_zero, List.set_cons_succ]
          refine take_at (i := 3) 35 ?_ rfl rfl (by kernel_rfl) (by kernel_rfl) (by kernel_rfl) (fun _ _ _ h => h) (.inl ⟨rfl, ?_⟩) trivial ?_
          rotate_left 1
          · intro w hSw; go_simp; try with_reducible rfl
          simp only [Act.put, List.setIfInBounds_toArray, List.set_cons_zero, List.set_cons_succ]
          refine take_at (i := 4) 36 (.pointer (some ⟨gb, j * 3, none⟩)) rfl rfl (by kernel_rfl) (by kernel_rfl) (by kernel_rfl) (fun _ _ _ h => h) (yields_ix (.tmp 34) (.tmp 35) 25 (.slice (some ⟨gb, 0, none⟩) gs.length gc) (.int .i64 (j : Int)) _ (fun W => IX.out W) rfl rfl rfl rfl) trivial ?_
          simp only [Act.put, List.setIfInBounds_toArray, List.set_cons_zero, List.set_cons_succ]
          refine take_at (i := 5) 37 ?_ rfl rfl (by kernel_rfl) (by kernel_rfl) (by kernel_rfl) (fun _ _ _ h => h) (.inl ⟨rfl, ?_⟩) trivial ?_
          rotate_left 1
          · intro w hSw; go_simp; try with_reducible rfl
          simp only [Act.put, List.setIfInBounds_toArray, List.set_cons_zero, List.set_cons_succ]
          refine take_at (i := 7) 39 ?_ rfl rfl (by kernel_rfl) (by kernel_rfl) (by kernel_rfl) (fun _ _ _ h => h) (.inl ⟨rfl, ?_⟩) trivial ?_
          rotate_left 1
          · intro w hSw; go_simp; try with_reducible rfl
          simp only [Act.put, List.setIfInBounds_toArray, List.set_cons_zero, List.set_cons_succ]
          refine wpAnyH_ready (rs := [6, 8]) (by kernel_rfl) (by simp) (br_load (i := 6) 38 (.tmp 37) 30 _ (.slice y.a y.l.length y.c) rfl rfl rfl rfl rfl (LD.out wd BD.out).1 trivial (fun _ => ?_) (br_load (i := 8) 40 (.tmp 39) 39 _ (.agg #[.int .i64 x.t, .int .i64 x.r]) rfl rfl rfl rfl rfl (LD.out wd BD.out).2 trivial (fun _ => ?_) AllReadyH.nil))
          · simp only [Act.put, List.setIfInBounds_toArray, List.set_cons_zero, List.set_cons_succ]
            refine wpAnyH_ready (rs := [8]) (by kernel_rfl) (by simp) (br_load (i := 8) 40 (.tmp 39) 39 _ (.agg #[.int .i64 x.t, .int .i64 x.r]) rfl rfl rfl rfl rfl (LD.out wd BD.out).2 trivial (fun _ => ?_) AllReadyH.nil)
            simp only [Act.put, List.setIfInBounds_toArray, List.set_cons_zero, List.set_cons_succ]
            refine wpAnyH_ready (rs := [9]) (by kernel_rfl) (by simp) (br_bslice (i := 9) 41 30 1 _ #[(0, .agg #[.int .i64 x.t, .int .i64 x.r])] _ wee rfl rfl rfl rfl rfl BS.out trivial (fun _ => ?_) AllReadyH.nil)
            simp only [Act.put, List.setIfInBounds_toArray, List.set_cons_zero, List.set_cons_succ]
            refine one_append (i := 10) 42 (.tmp 38) (.tmp 41) 30 30 rfl rfl (by kernel_rfl) rfl rfl _ _ _ w3 rfl rfl HR.out trivial (fun _ => ?_)
            simp only [Act.put, List.setIfInBounds_toArray, List.set_cons_zero, List.set_cons_succ]
            refine take_at (i := 11) 43 (.pointer (some ⟨gb, j * 3, none⟩)) rfl rfl (by kernel_rfl) (by kernel_rfl) (by kernel_rfl) (fun _ _ _ h => h) (yields_ix (.tmp 32) (.tmp 33) 25 (.slice (some ⟨gb, 0, none⟩) gs.length gc) (.int .i64 (j : Int)) _ (fun W => IX.out W) rfl rfl rfl rfl) trivial ?_
            simp only [Act.put, List.setIfInBounds_toArray, List.set_cons_zero, List.set_cons_succ]
            refine take_at (i := 12) 44 ?_ rfl rfl (by kernel_rfl) (by kernel_rfl) (by kernel_rfl) (fun _ _ _ h => h) (.inl ⟨rfl, ?_⟩) trivial ?_
            rotate_left 1
            · intro w hSw; go_simp; try with_reducible rfl
            simp only [Act.put, List.setIfInBounds_toArray, List.set_cons_zero, List.set_cons_succ]
            refine wpAnyH_ready (rs := [13]) (by kernel_rfl) (by simp) (br_store (i := 13) 30 (.tmp 44) (.tmp 42) _ _ w4 rfl rfl rfl rfl rfl rfl HS.out trivial (fun _ => ?_) AllReadyH.nil)
            simp only [Act.put, List.setIfInBounds_toArray, List.set_cons_zero, List.set_cons_succ]
            refine wpAnyH_done (by kernel_rfl) ?_ _
            go_wp2
            go_roundw
            case rel => exact ⟨k + 1, gs.set j ⟨y.n, y.d, a3, c3', y.l ++ [ndI x]⟩, f, by go_num, by omega, by rw [GL.out]; omega, FIN⟩
            case measure => simp [intOf]; omega
          · simp only [Act.put, List.setIfInBounds_toArray, List.set_cons_zero, List.set_cons_succ]
            refine wpAnyH_ready (rs := [6, 9]) (by kernel_rfl) (by simp) (br_load (i := 6) 38 (.tmp 37) 30 _ (.slice y.a y.l.length y.c) rfl rfl rfl rfl rfl (LD.out wd BD.out).1 trivial (fun _ => ?_) (br_bslice (i := 9) 41 30 1 _ #[(0, .agg #[.int .i64 x.t, .int .i64 x.r])] _ wee rfl rfl rfl rfl rfl BS.out trivial (fun _ => ?_) AllReadyH.nil))
            · simp only [Act.put, List.setIfInBounds_toArray, List.set_cons_zero, List.set_cons_succ]
              refine wpAnyH_ready (rs := [9]) (by kernel_rfl) (by simp) (br_bslice (i := 9) 41 30 1 _ #[(0, .agg #[.int .i64 x.t, .int .i64 x.r])] _ wee rfl rfl rfl rfl rfl BS.out trivial (fun _ => ?_) AllReadyH.nil)
              simp only [Act.put, List.setIfInBounds_toArray, List.set_cons_zero, List.set_cons_succ]
              refine one_append (i := 10) 42 (.tmp 38) (.tmp 41) 30 30 rfl rfl (by kernel_rfl) rfl rfl _ _ _ w3 rfl rfl HR.out trivial (fun _ => ?_)
              simp only [Act.put, List.setIfInBounds_toArray, List.set_cons_zero, List.set_cons_succ]
              refine take_at (i := 11) 43 (.pointer (some ⟨gb, j * 3, none⟩)) rfl rfl (by kernel_rfl) (by kernel_rfl) (by kernel_rfl) (fun _ _ _ h => h) (yields_ix (.tmp 32) (.tmp 33) 25 (.slice (some ⟨gb, 0, none⟩) gs.length gc) (.int .i64 (j : Int)) _ (fun W => IX.out W) rfl rfl rfl rfl) trivial ?_
              simp only [Act.put, List.setIfInBounds_toArray, List.set_cons_zero, List.set_cons_succ]
              refine take_at (i := 12) 44 ?_ rfl rfl (by kernel_rfl) (by kernel_rfl) (by kernel_rfl) (fun _ _ _ h => h) (.inl ⟨rfl, ?_⟩) trivial ?_
              rotate_left 1
              · intro w hSw; go_simp; try with_reducible rfl
              simp only [Act.put, List.setIfInBounds_toArray, List.set_cons_zero, List.set_cons_succ]
              refine wpAnyH_ready (rs := [13]) (by kernel_rfl) (by simp) (br_store (i := 13) 30 (.tmp 44) (.tmp 42) _ _ w4 rfl rfl rfl rfl rfl rfl HS.out trivial (fun _ => ?_) AllReadyH.nil)
              simp only [Act.put, List.setIfInBounds_toArray, List.set_cons_zero, List.set_cons_succ]
              refine wpAnyH_done (by kernel_rfl) ?_ _
              go_wp2
              go_roundw
              case rel => exact ⟨k + 1, gs.set j ⟨y.n, y.d, a3, c3', y.l ++ [ndI x]⟩, f, by go_num, by omega, by rw [GL.out]; omega, FIN⟩
              case measure => simp [intOf]; omega
            · simp only [Act.put, List.setIfInBounds_toArray, List.set_cons_zero, List.set_cons_succ]
              refine wpAnyH_ready (rs := [6]) (by kernel_rfl) (by simp) (br_load (i := 6) 38 (.tmp 37) 30 _ (.slice y.a y.l.length y.c) rfl rfl rfl rfl rfl (LD.out wee BE.out).1 trivial (fun _ => ?_) AllReadyH.nil)
              simp only [Act.put, List.setIfInBounds_toArray, List.set_cons_zero, List.set_cons_succ]
              refine one_append (i := 10) 42 (.tmp 38) (.tmp 41) 30 30 rfl rfl (by kernel_rfl) rfl rfl _ _ _ w3 rfl rfl HR.out trivial (fun _ => ?_)
              simp only [Act.put, List.setIfInBounds_toArray, List.set_cons_zero, List.set_cons_succ]
              refine take_at (i := 11) 43 (.pointer (some ⟨gb, j * 3, none⟩)) rfl rfl (by kernel_rfl) (by kernel_rfl) (by kernel_rfl) (fun _ _ _ h => h) (yields_ix (.tmp 32) (.tmp 33) 25 (.slice (some ⟨gb, 0, none⟩) gs.length gc) (.int .i64 (j : Int)) _ (fun W => IX.out W) rfl rfl rfl rfl) trivial ?_
              simp only [Act.put, List.setIfInBounds_toArray, List.set_cons_zero, List.set_cons_succ]
              refine take_at (i := 12) 44 ?_ rfl rfl (by kernel_rfl) (by kernel_rfl) (by kernel_rfl) (fun _ _ _ h => h) (.inl ⟨rfl, ?_⟩) trivial ?_
              rotate_left 1
              · intro w hSw; go_simp; try with_reducible rfl
              simp only [Act.put, List.setIfInBounds_toArray, List.set_cons_zero, List.set_cons_succ]
              refine wpAnyH_ready (rs := [13]) (by kernel_rfl) (by simp) (br_store (i := 13) 30 (.tmp 44) (.tmp 42) _ _ w4 rfl rfl rfl rfl rfl rfl HS.out trivial (fun _ => ?_) AllReadyH.nil)
              simp only [Act.put, List.setIfInBounds_toArray, List.set_cons_zero, List.set_cons_succ]
              refine wpAnyH_done (by kernel_rfl) ?_ _
              go_wp2
              go_roundw
              case rel => exact ⟨k + 1, gs.set j ⟨y.n, y.d, a3, c3', y.l ++ [ndI x]⟩, f, by go_num, by omega, by rw [GL.out]; omega, FIN⟩
              case measure => simp [intOf]; omega
    · have hkk : s.take k = s := List.take_of_length_le (by omega)
      have IS := Lib.hid (show gs.map Gn.p = gOf s from by have := hI.out.is; rwa [hkk] at this)
      have SG := Lib.hid (sortG_own wr (w2.heap.size + 1) (.slice ga gs.length gc) gs hI.out.row (by have := SL.out; omega) hI.out.nil (fun x hx => ⟨hI.out.ne US.out x hx, own_liesK encS_len (hI.out.each x hx).1, fun g hg => ⟨own_liesK encS_len (hI.out.each x hx).1, fun a n c e q => by
        have := (hI.out.each x hx).2
        rw [hg, e] at this
        apply this
        rcases (hI.out.each x hx).1.2 with ⟨e1, _⟩ | ⟨g', cap', cur, e1, _⟩
        · rw [e] at e1; cases e1
        · rw [e] at e1
          injection e1 with e1
          injection e1 with e1
          subst e1
          rw [← q]
          rfl⟩⟩))
      go_wp2_with fail
      refine SG.out.mono ?_
      rintro e w6 ⟨rfl, gs', hp, hs, ho, hg⟩
      have hlen : gs'.length = gs.length := hp.length_eq
      have FIN := Lib.hid (show GsL w6 (.slice ga gs.length gc) gs' ∧ IsOf l (gs'.map Gn.p) ∧ Below w.heap.size w w6 from by
        refine ⟨⟨?_, fun x hx => ?_⟩, ⟨s, HP.out, RS.out, ?_, ?_⟩, ?_⟩
        · rw [← hlen] at ho ⊢
          exact own_liesK encN_len ho
        · have hxm := hp.mem_iff.1 hx
          have := ne_kept (hI.out.each x hxm).1 hg (hI.out.each x hxm).2
          exact own_liesK encS_len this
        · rw [← IS.out]; exact hp.map _
        · refine up_of_sorted US.out (by rw [← IS.out]; exact hp.map _) ?_
          rw [List.pairwise_map]
          exact hs
        · exact (B2.out.trans (hI.out.bel.mono B2.out.size)).grown hg (Nat.le_trans B2.out.size hI.out.bel.size) (fun k e => by have := (hI.out.row.lt k e).1; have := B2.out.size; omega))
      clear hp hs ho hg hlen
      go_wp2
      go_returns
      exact ⟨_, gs', rfl, FIN.out.1, FIN.out.2.1, FIN.out.2.2⟩
end Go.Proofs.Ythbliaohaakbiaa
