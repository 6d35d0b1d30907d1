/- The cache's put, Set. Made by genhq38.py. -/
import Derived.Test.YthbmbpnpigpgpaaHC
import Derived.Test.YthbmbpnpigpgpaaRH
import Derived.Laws.StructEq
import Derived.BigFrame
set_option linter.unusedVariables false
set_option linter.unusedSimpArgs false
set_option maxRecDepth 100000
namespace Go.Proofs.Ythbmbpnpigpgpaa
open Go.RowKit Go.Shelf

theorem cell_row {w : World} {b j : Nat} {c : Array Value} {t : TypeId} {f : Nat × Nat} (h : w.heap[b]? = some (.cells c t f)) {v : Value} (hv : c[j]? = some v) : w.cell? ⟨b, j, none⟩ = some v := (cell_of_row _ _ _ _ _ _ h).trans hv
theorem alc78 (W : World) : (Instr.alloc 78 true (.tuple #[])).run Try.prog W = .ok (.pointer (some ⟨W.heap.size, 0, none⟩)) (W.alloc (.cells #[.int .i64 0, .int .i64 0, .string ⟨#[]⟩, .bool false] 78)) := by kernel_rfl
theorem st78 {W : World} {k : Nat} {o1 o2 o3 o4 : Value} (h : W.heap[k]? = some (.cells #[o1, o2, o3, o4] 78 (0, 0))) (y1 y2 : Int) (y3 : ByteArray) (y4 : Bool) :
    (Instr.storeAt 78 (.pointer (some ⟨k, 0, none⟩)) (.agg #[.int .i64 y1, .int .i64 y2, .string y3, .bool y4])).run Try.prog W = .ok () (sets4 W k (.int .i64 y1) (.int .i64 y2) (.string y3) (.bool y4)) := by
  have z0 := cell_row (j := 0) h rfl
  have z1 := cell_row (j := 1) h rfl
  have z2 := cell_row (j := 2) h rfl
  have z3 := cell_row (j := 3) h rfl
  have f0 := frozen_of_row (j := 0) _ _ _ _ h
  have f1 := frozen_of_row (j := 1) _ _ _ _ h
  have f2 := frozen_of_row (j := 2) _ _ _ _ h
  have f3 := frozen_of_row (j := 3) _ _ _ _ h
  unfold sets4
  clear h
  go_simp
theorem ldP {W : World} {k : Nat} {p : Option Addr} (h : W.cell? ⟨k, 0, none⟩ = some (.pointer p)) : (Instr.loadAt 39 (.pointer (some ⟨k, 0, none⟩))).run Try.prog W = .ok (.pointer p) W := by
  go_simp
theorem ldT {W : World} {k : Nat} {t r : Int} (h : StAt W k t r) : (Instr.loadAt 61 (.pointer (some ⟨k, 0, none⟩))).run Try.prog W = .ok (.agg #[.int .i64 t, .int .i64 r]) W := by
  obtain ⟨c0, c1⟩ := h.cells
  clear h
  go_simp
theorem set_id {T : List Rw} (h : Rise T) {x : Rw} (hx : x ∈ T) : setF T x = T := by
  refine rise_ext (rise_set h x) h (fun y => ⟨fun hy => ?_, fun hy => ?_⟩)
  · rcases mem_set.1 hy with rfl | hy
    · exact hx
    · exact hy.1
  · cases hs : sameN y x with
    | false => exact mem_set.2 (.inr ⟨hy, hs⟩)
    | true => exact mem_set.2 (.inl (rise_one h hy hx hs))
/-- What a get tells, in words. -/
structure GV (T : List Rw) (t r y1 y2 : Int) (y3 : ByteArray) (y4 ok : Bool) : Prop where
  val : gv T t r = .agg #[.int .i64 y1, .int .i64 y2, .string y3, .bool y4]
  has : (getF T t r).isSome = ok
theorem GV.ex (T : List Rw) (t r : Int) : ∃ y1 y2 y3 y4 ok, GV T t r y1 y2 y3 y4 ok := by
  obtain ⟨y1, y2, y3, y4, h⟩ := gv_form T t r
  exact ⟨y1, y2, y3, y4, _, h, rfl⟩
theorem GV.mem {T : List Rw} {t r y1 y2 : Int} {y3 : ByteArray} {y4 : Bool} (h : GV T t r y1 y2 y3 y4 true) (hT : Rise T) : (⟨t, r, y1, y2, y3, y4⟩ : Rw) ∈ T := by
  obtain ⟨h1, h2⟩ := h
  cases hg : getF T t r with
  | none => rw [hg] at h2; cases h2
  | some x =>
    unfold gv at h1
    rw [hg] at h1
    have h1 : (Value.agg #[.int .i64 x.pt, .int .i64 x.pr, .string x.nm, .bool x.d]) = .agg #[.int .i64 y1, .int .i64 y2, .string y3, .bool y4] := h1
    simp only [Value.agg.injEq, Array.mk.injEq, List.cons.injEq, Value.int.injEq, Value.string.injEq, Value.bool.injEq, true_and, and_true] at h1
    obtain ⟨hm, e1, e2⟩ := (get_some hT).1 hg
    obtain ⟨e3, e4, e5, e6⟩ := h1
    have : x = ⟨t, r, y1, y2, y3, y4⟩ := Rw.ext' e1 e2 e3 e4 e5 e6
    rwa [← this]
theorem eqE (y1 y2 x1 x2 : Int) (y3 x3 : ByteArray) (y4 x4 : Bool) (W : World) : (binOp .eql 78 (.agg #[.int .i64 y1, .int .i64 y2, .string y3, .bool y4]) (.agg #[.int .i64 x1, .int .i64 x2, .string x3, .bool x4])).run Try.prog W = .ok (.bool (decide (y1 = x1 ∧ y2 = x2 ∧ y3 = x3 ∧ y4 = x4))) W := by
  by_cases h1 : y1 = x1
  · by_cases h2 : y2 = x2
    · by_cases h3 : y3 = x3
      · by_cases h4 : y4 = x4
        · rw [decide_eq_true ⟨h1, h2, h3, h4⟩]
          have q0 := beqb_ _ _ h1
          have q1 := beqb_ _ _ h2
          have q2 := (Go.MapKept.bytes_beq _ _).2 h3
          have q2l := nm_yes h3
          have q3 : (y4 == x4) = true := by rw [h4]; simp
          clear h1 h2 h3 h4
          go_simp
        · rw [decide_eq_false (fun q => h4 q.2.2.2)]
          have q0 := beqb_ _ _ h1
          have q1 := beqb_ _ _ h2
          have q2 := (Go.MapKept.bytes_beq _ _).2 h3
          have q2l := nm_yes h3
          have q3 := d_no h4
          clear h1 h2 h3 h4
          go_simp
      · rw [decide_eq_false (fun q => h3 q.2.2.1)]
        have q0 := beqb_ _ _ h1
        have q1 := beqb_ _ _ h2
        have q2 := nm_no' h3
        have q2l := nm_no h3
        clear h1 h2 h3
        go_simp
    · rw [decide_eq_false (fun q => h2 q.2.1)]
      have q0 := beqb_ _ _ h1
      have q1 := bneb_ _ _ h2
      clear h1 h2
      go_simp
  · rw [decide_eq_false (fun q => h1 q.1)]
    have q0 := bneb_ _ _ h1
    clear h1
    go_simp
theorem egtE : (Try.prog.eqGuardType Try.prog.depth 78) = false := by kernel_rfl
theorem geqE (x y : Operand) (a b : Array Value) (w : World) : (eqGuard .eql 78 x y (.agg a) (.agg b)).run Try.prog w = .ok () w := run_eqGuard_agg w .eql 78 x y _ _ egtE
theorem ldE {W : World} {k : Nat} {a b : Int} {n : ByteArray} {d : Bool} (h : EnAt W k a b n d) : (Instr.loadAt 78 (.pointer (some ⟨k, 0, none⟩))).run Try.prog W = .ok (.agg #[.int .i64 a, .int .i64 b, .string n, .bool d]) W := by
  obtain ⟨c0, c1, c2, c3⟩ := h.cells
  clear h
  go_simp
theorem wpList_binG {P : Program} {w : World} {ops : Array Oper} {rest : List Oper} {o : Oper} {a : Act} {Q : Exit → Act → World → Prop} (hw : Region.wanted o (yielded ops a.tmps) = true) (b : BinOp) (x y : Operand) (ty ty' : TypeId)
    (ho : o.op = .binOp b ty x y ty') (v u r : Value) (hx : a.eval x = v) (hy : a.eval y = u) (hG : (eqGuard b ty x y v u).run P w = .ok () w) (hS : (binOp b ty v u).run P w = .ok r w)
    (h : wpList P ops Q rest (a.put o.dst r) w) : wpList P ops Q (o :: rest) a w :=
  BigFrame.wpList_want hw fun _ hK => by
    unfold Oper.wp execOp
    simp only [ho, hx, hy, hS, hG, Sem.run_bind, Sem.run_pure, Result.andThen_ok]
    exact hK _ _ h
theorem wpList_ldG {P : Program} {w : World} {ops : Array Oper} {rest : List Oper} {o : Oper} {a : Act} {Q : Exit → Act → World → Prop} (hw : Region.wanted o (yielded ops a.tmps) = true) (x : Operand) (ty : TypeId)
    (ho : o.op = .load ty x) (v u : Value) (hx : a.eval x = v) (hl : (Instr.loadAt ty v).run P w = .ok u w)
    (h : wpList P ops Q rest (a.put o.dst u) w) : wpList P ops Q (o :: rest) a w :=
  BigFrame.wpList_want hw fun _ hK => by
    unfold Oper.wp execOp
    simp only [ho, hx, hl, Sem.run_bind, Sem.run_pure, Result.andThen_ok]
    exact hK _ _ h
/-- What put's frame holds behind its first region. -/
structure PQ (w W : World) (c p b tb : Nat) (T : List Rw) (x : Rw) : Prop where
  bel : Below w.heap.size w W
  ci : CaI W c p b tb T
  st : StAt W w.heap.size x.t x.r
  en : EnAt W (w.heap.size + 1) x.pt x.pr x.nm x.d
theorem PQ.step {w W W' : World} {c p b tb : Nat} {T : List Rw} {x : Rw} (h : PQ w W c p b tb T x) (hb : Below W.heap.size W W') : PQ w W' c p b tb T x := ⟨h.bel.trans (hb.mono h.bel.size), h.ci.step hb, h.st.step hb, h.en.step hb⟩
/-- What the last region reads. -/
structure SQ (w W : World) (c p tb : Nat) (x : Rw) : Prop where
  box : W.heap[c]? = some (.cells #[.pointer (some ⟨p, 0, none⟩), .map (some tb), .int .i64 0] 90 (0, 0))
  st : StAt W w.heap.size x.t x.r
  en : EnAt W (w.heap.size + 1) x.pt x.pr x.nm x.d
theorem SQ.turn {w W W' : World} {c p b tb : Nat} {x : Rw} {T : List Rw} (h : SQ w W c p tb x) (ho : TOut W W' p b T) (h1 : c ≠ b) (h2 : b < w.heap.size) : SQ w W' c p tb x :=
  ⟨(ho.grow.block _ (lt_of_block h.box) (fun e => by injection e with e; exact h1 e)).trans h.box, (ho.grow.block _ (lt_of_block h.st) (fun e => by injection e with e; omega)).trans h.st, (ho.grow.block _ (lt_of_block h.en) (fun e => by injection e with e; omega)).trans h.en⟩
theorem PQ.sq {w W : World} {c p b tb : Nat} {T : List Rw} {x : Rw} (h : PQ w W c p b tb T x) : SQ w W c p tb x := ⟨h.ci.box, h.st, h.en⟩
set_option maxHeartbeats 6400000 in
theorem put_any (w : World) (c p b tb : Nat) (T : List Rw) (h : CaI w c p b tb T) (hl : T.length < 1000000) (x : Rw) (hx : x.ok) :
    Calls Try.prog 49 #[.pointer (some ⟨c, 0, none⟩), .agg #[.int .i64 x.t, .int .i64 x.r], .agg #[.int .i64 x.pt, .int .i64 x.pr, .string x.nm, .bool x.d]] w fun e w' => ∃ q, e = .returned (.bool q) ∧ COut w w' c p b tb (setF T x) := by
  have B0 := vstep w (.cells #[.int .i64 x.t, .int .i64 x.r] 61)
  have S0 := StAt.new w x.t x.r
  have z0 : (w.alloc (.cells #[.int .i64 x.t, .int .i64 x.r] 61)).heap.size = w.heap.size + 1 := by simp
  obtain ⟨wa, hwa⟩ : ∃ z, w.alloc (.cells #[.int .i64 x.t, .int .i64 x.r] 61) = z := ⟨_, rfl⟩
  rw [hwa] at B0 S0 z0
  have B1 := vstep wa (.cells #[.int .i64 x.pt, .int .i64 x.pr, .string x.nm, .bool x.d] 78)
  have E1 := EnAt.new wa x.pt x.pr x.nm x.d
  rw [z0] at E1
  obtain ⟨w0, hw0⟩ : ∃ z, wa.alloc (.cells #[.int .i64 x.pt, .int .i64 x.pr, .string x.nm, .bool x.d] 78) = z := ⟨_, rfl⟩
  rw [hw0] at B1 E1
  have HWA := Lib.hid hwa
  have HW0 := Lib.hid hw0
  have S := Lib.hid (S0.step B1)
  have E := Lib.hid E1
  have BB := Lib.hid (B0.trans (B1.mono B0.size))
  have H := Lib.hid (h.step BB.out)
  have XO := Lib.hid hx
  have HBW := Lib.hid (show b < w.heap.size from h.tab.blt)
  have HL := Lib.hid hl
  obtain ⟨y1, y2, y3, y4, ok, hgv⟩ := GV.ex T x.t x.r
  have GVV := Lib.hid hgv
  have G := Lib.hid (fun W (hb : Below w0.heap.size w0 W) => get_any W p b T (H.out.tab.step hb) x.t x.r hx.1 hx.2.1)
  simp only [hgv.val, hgv.has] at G
  have LP := Lib.hid (fun W (hb : Below w0.heap.size w0 W) => ldP (H.out.step hb).cells.1)
  have LT := Lib.hid (fun W (hb : Below w0.heap.size w0 W) => ldT (S.out.step hb))
  clear B0 S0 z0 B1 E1 hwa hw0 h hx hl hgv
  go_enter Try.func49, Try.ntmps49
  go_upto_region 1 with (fail)
  rw [HWA.out, HW0.out]
  go_cut [7, 8] from 9 to 17 (fun pv ov wx => ∃ kb, pv = .pointer (some ⟨kb, 0, none⟩) ∧ ov = .bool ok ∧ Hid (EnAt wx kb y1 y2 y3 y4 ∧ Below w0.heap.size w0 wx))
  case first =>
    refine wp_region_held_drew (S := fun w' => Below w0.heap.size w0 w') (by kernel_rfl) (Below.refl _ _).drew (fun hHeld => ?_)
    have BV := Lib.hid (show Below w0.heap.size w0 w0.drew from (Below.refl _ _).drew)
    clear hHeld
    refine take_at (i := 0) 10 ?_ rfl rfl (by kernel_rfl) (by kernel_rfl) (by kernel_rfl) (fun _ _ _ h => h) (.inl ⟨rfl, ?_⟩) BV.out ?_
    rotate_left 1
    · intro w hSw; go_simp; try with_reducible rfl
    simp only [Act.put, List.setIfInBounds_toArray, List.set_cons_zero, List.set_cons_succ]
    refine take_at (i := 1) 11 ?_ rfl rfl (by kernel_rfl) (by kernel_rfl) (by kernel_rfl) (fun _ _ _ h => h) (.inl ⟨rfl, ?_⟩) BV.out ?_
    rotate_left 1
    · intro w hSw; go_simp; try with_reducible rfl
    simp only [Act.put, List.setIfInBounds_toArray, List.set_cons_zero, List.set_cons_succ]
    refine take_at (i := 2) 12 ?_ rfl rfl (by kernel_rfl) (by kernel_rfl) (by kernel_rfl) (fun _ _ _ h => h) (.inl ⟨rfl, ?_⟩) BV.out ?_
    rotate_left 1
    · intro w hSw; go_simp; try with_reducible rfl
    simp only [Act.put, List.setIfInBounds_toArray, List.set_cons_zero, List.set_cons_succ]
    refine take_at (i := 3) 13 (.pointer (some ⟨p, 0, none⟩)) rfl rfl (by kernel_rfl) (by kernel_rfl) (by kernel_rfl) (fun _ _ _ h => h) (yields_ld (.tmp 12) 39 (.pointer (some ⟨c, 0, none⟩)) _ LP.out rfl rfl rfl) BV.out ?_
    simp only [Act.put, List.setIfInBounds_toArray, List.set_cons_zero, List.set_cons_succ]
    refine take_at (i := 4) 14 (.agg #[.int .i64 x.t, .int .i64 x.r]) rfl rfl (by kernel_rfl) (by kernel_rfl) (by kernel_rfl) (fun _ _ _ h => h) (yields_ld (.tmp 4) 61 (.pointer (some ⟨w.heap.size, 0, none⟩)) _ LT.out rfl rfl rfl) BV.out ?_
    simp only [Act.put, List.setIfInBounds_toArray, List.set_cons_zero, List.set_cons_succ]
    refine wpAnyH_ready (rs := [5, 9]) (by kernel_rfl) (by simp) (br_call (i := 5) 15 33 #[.pointer (some ⟨p, 0, none⟩), .agg #[.int .i64 x.t, .int .i64 x.r]] rfl rfl rfl (by go_simp) ((G.out _ BV.out).mono ?_) (br_alloc (i := 9) 7 78 _ _ rfl rfl rfl rfl (alc78 w0.drew) (BV.out.trans ((vstep w0.drew _).mono BV.out.size)) (fun _ => ?_) AllReadyH.nil))
    · rintro e v1 ⟨rfl, hb⟩
      have BV := Lib.hid (BV.out.trans (hb.mono BV.out.size))
      clear hb
      refine ⟨_, rfl, BV.out, fun _ => ?_⟩
      simp only [Act.put, List.setIfInBounds_toArray, List.set_cons_zero, List.set_cons_succ]
      refine take_at (i := 6) 9 ?_ rfl rfl (by kernel_rfl) (by kernel_rfl) (by kernel_rfl) (fun _ _ _ h => h) (.inl ⟨rfl, ?_⟩) BV.out ?_
      rotate_left 1
      · intro w hSw; go_simp; try with_reducible rfl
      simp only [Act.put, List.setIfInBounds_toArray, List.set_cons_zero, List.set_cons_succ]
      refine take_at (i := 7) 16 ?_ rfl rfl (by kernel_rfl) (by kernel_rfl) (by kernel_rfl) (fun _ _ _ h => h) (.inl ⟨rfl, ?_⟩) BV.out ?_
      rotate_left 1
      · intro w hSw; go_simp; try with_reducible rfl
      simp only [Act.put, List.setIfInBounds_toArray, List.set_cons_zero, List.set_cons_succ]
      refine take_at (i := 8) 17 ?_ rfl rfl (by kernel_rfl) (by kernel_rfl) (by kernel_rfl) (fun _ _ _ h => h) (.inl ⟨rfl, ?_⟩) BV.out ?_
      rotate_left 1
      · intro w hSw; go_simp; try with_reducible rfl
      simp only [Act.put, List.setIfInBounds_toArray, List.set_cons_zero, List.set_cons_succ]
      refine wpAnyH_ready (rs := [9]) (by kernel_rfl) (by simp) (br_alloc (i := 9) 7 78 _ _ rfl rfl rfl rfl (alc78 v1) (BV.out.trans ((vstep v1 _).mono BV.out.size)) (fun _ => ?_) AllReadyH.nil)
      have KB := Lib.hid (show w0.heap.size ≤ v1.heap.size from BV.out.size)
      obtain ⟨v2, hv2⟩ : ∃ zz, v1.alloc (.cells #[.int .i64 0, .int .i64 0, .string ⟨#[]⟩, .bool false] 78) = zz := ⟨_, rfl⟩
      have hb : Below v1.heap.size v1 v2 := by rw [← hv2]; exact vstep v1 _
      have NB := Lib.hid (show EnAt v2 v1.heap.size 0 0 ⟨#[]⟩ false from by rw [← hv2]; exact EnAt.new v1 _ _ _ _)
      rw [hv2]
      obtain ⟨kb, hkb⟩ : ∃ zz, v1.heap.size = zz := ⟨_, rfl⟩
      rw [hkb] at NB KB ⊢
      clear hv2
      have BV := Lib.hid (BV.out.trans (hb.mono BV.out.size))
      clear hb
      clear hkb
      simp only [Act.put, List.setIfInBounds_toArray, List.set_cons_zero, List.set_cons_succ]
      refine wpAnyH_ready (rs := [10]) (by kernel_rfl) (by simp) (br_store (i := 10) 78 (.tmp 7) (.tmp 16) _ _ _ rfl rfl rfl rfl rfl rfl (st78 NB.out y1 y2 y3 y4) (sets4_below BV.out KB.out) (fun _ => ?_) AllReadyH.nil)
      have N2 := Lib.hid (show EnAt (sets4 v2 kb (.int .i64 y1) (.int .i64 y2) (.string y3) (.bool y4)) kb y1 y2 y3 y4 from sets4_row NB.out)
      have BV := Lib.hid (sets4_below (x := .int .i64 y1) (y := .int .i64 y2) (z := .string y3) (v := .bool y4) BV.out KB.out)
      obtain ⟨v3, hv3⟩ : ∃ zz, sets4 v2 kb (.int .i64 y1) (.int .i64 y2) (.string y3) (.bool y4) = zz := ⟨_, rfl⟩
      rw [hv3] at BV N2 ⊢
      clear hv3 NB
      simp only [Act.put, List.setIfInBounds_toArray, List.set_cons_zero, List.set_cons_succ]
      refine take_at (i := 11) 8 ?_ rfl rfl (by kernel_rfl) (by kernel_rfl) (by kernel_rfl) (fun _ _ _ h => h) (.inl ⟨rfl, ?_⟩) BV.out ?_
      rotate_left 1
      · intro w hSw; go_simp; try with_reducible rfl
      simp only [Act.put, List.setIfInBounds_toArray, List.set_cons_zero, List.set_cons_succ]
      refine wpAnyH_done (by kernel_rfl) ?_ _
      have FF := Lib.hid (And.intro N2.out BV.out)
      clear BV N2
      go_wp2_with fail
      go_meet
      exact ⟨_, rfl, rfl, FF⟩
    · have KB := Lib.hid (show w0.heap.size ≤ w0.drew.heap.size from BV.out.size)
      obtain ⟨v4, hv4⟩ : ∃ zz, w0.drew.alloc (.cells #[.int .i64 0, .int .i64 0, .string ⟨#[]⟩, .bool false] 78) = zz := ⟨_, rfl⟩
      have hb : Below w0.drew.heap.size w0.drew v4 := by rw [← hv4]; exact vstep w0.drew _
      have NB := Lib.hid (show EnAt v4 w0.drew.heap.size 0 0 ⟨#[]⟩ false from by rw [← hv4]; exact EnAt.new w0.drew _ _ _ _)
      rw [hv4]
      obtain ⟨kb, hkb⟩ : ∃ zz, w0.drew.heap.size = zz := ⟨_, rfl⟩
      rw [hkb] at NB KB ⊢
      clear hv4
      have BV := Lib.hid (BV.out.trans (hb.mono BV.out.size))
      clear hb
      clear hkb
      simp only [Act.put, List.setIfInBounds_toArray, List.set_cons_zero, List.set_cons_succ]
      refine wpAnyH_ready (rs := [5]) (by kernel_rfl) (by simp) (br_call (i := 5) 15 33 #[.pointer (some ⟨p, 0, none⟩), .agg #[.int .i64 x.t, .int .i64 x.r]] rfl rfl rfl (by go_simp) ((G.out _ BV.out).mono ?_) AllReadyH.nil)
      rintro e v5 ⟨rfl, hb⟩
      have BV := Lib.hid (BV.out.trans (hb.mono BV.out.size))
      have NB := Lib.hid (NB.out.step hb)
      clear hb
      refine ⟨_, rfl, BV.out, fun _ => ?_⟩
      simp only [Act.put, List.setIfInBounds_toArray, List.set_cons_zero, List.set_cons_succ]
      refine take_at (i := 6) 9 ?_ rfl rfl (by kernel_rfl) (by kernel_rfl) (by kernel_rfl) (fun _ _ _ h => h) (.inl ⟨rfl, ?_⟩) BV.out ?_
      rotate_left 1
      · intro w hSw; go_simp; try with_reducible rfl
      simp only [Act.put, List.setIfInBounds_toArray, List.set_cons_zero, List.set_cons_succ]
      refine take_at (i := 7) 16 ?_ rfl rfl (by kernel_rfl) (by kernel_rfl) (by kernel_rfl) (fun _ _ _ h => h) (.inl ⟨rfl, ?_⟩) BV.out ?_
      rotate_left 1
      · intro w hSw; go_simp; try with_reducible rfl
      simp only [Act.put, List.setIfInBounds_toArray, List.set_cons_zero, List.set_cons_succ]
      refine take_at (i := 8) 17 ?_ rfl rfl (by kernel_rfl) (by kernel_rfl) (by kernel_rfl) (fun _ _ _ h => h) (.inl ⟨rfl, ?_⟩) BV.out ?_
      rotate_left 1
      · intro w hSw; go_simp; try with_reducible rfl
      simp only [Act.put, List.setIfInBounds_toArray, List.set_cons_zero, List.set_cons_succ]
      refine wpAnyH_ready (rs := [10]) (by kernel_rfl) (by simp) (br_store (i := 10) 78 (.tmp 7) (.tmp 16) _ _ _ rfl rfl rfl rfl rfl rfl (st78 NB.out y1 y2 y3 y4) (sets4_below BV.out KB.out) (fun _ => ?_) AllReadyH.nil)
      have N2 := Lib.hid (show EnAt (sets4 v5 kb (.int .i64 y1) (.int .i64 y2) (.string y3) (.bool y4)) kb y1 y2 y3 y4 from sets4_row NB.out)
      have BV := Lib.hid (sets4_below (x := .int .i64 y1) (y := .int .i64 y2) (z := .string y3) (v := .bool y4) BV.out KB.out)
      obtain ⟨v6, hv6⟩ : ∃ zz, sets4 v5 kb (.int .i64 y1) (.int .i64 y2) (.string y3) (.bool y4) = zz := ⟨_, rfl⟩
      rw [hv6] at BV N2 ⊢
      clear hv6 NB
      simp only [Act.put, List.setIfInBounds_toArray, List.set_cons_zero, List.set_cons_succ]
      refine take_at (i := 11) 8 ?_ rfl rfl (by kernel_rfl) (by kernel_rfl) (by kernel_rfl) (fun _ _ _ h => h) (.inl ⟨rfl, ?_⟩) BV.out ?_
      rotate_left 1
      · intro w hSw; go_simp; try with_reducible rfl
      simp only [Act.put, List.setIfInBounds_toArray, List.set_cons_zero, List.set_cons_succ]
      refine wpAnyH_done (by kernel_rfl) ?_ _
      have FF := Lib.hid (And.intro N2.out BV.out)
      clear BV N2
      go_wp2_with fail
      go_meet
      exact ⟨_, rfl, rfl, FF⟩
  case rest =>
    obtain ⟨kb, rfl, rfl, FF⟩ := hcut
    generalize wc = w1 at *
    have K := Lib.hid (show PQ w w1 c p b tb T x from ⟨BB.out.trans (FF.out.2.mono BB.out.size), H.out.step FF.out.2, S.out.step FF.out.2, E.out.step FF.out.2⟩)
    have NB := Lib.hid FF.out.1
    clear FF G LP LT H S E BB HWA HW0
    have RS := Lib.hid K.out.ci.tab.map.rise
    have FG := Lib.hid (fun W t r (hk : PQ w W c p b tb T x) => forget_any W c p b tb T hk.ci t r)
    cases ok with
    | true =>
      have LA := Lib.hid (ldE NB.out)
      have LB := Lib.hid (ldE K.out.en)
      have EE := Lib.hid (eqE y1 y2 x.pt x.pr y3 x.nm y4 x.d w1)
      by_cases he : y1 = x.pt ∧ y2 = x.pr ∧ y3 = x.nm ∧ y4 = x.d
      · have FIN := Lib.hid (show COut w w1 c p b tb (setF T x) from by
          have hm := GVV.out.mem RS.out
          rw [he.1, he.2.1, he.2.2.1, he.2.2.2] at hm
          rw [set_id RS.out hm]
          exact ⟨K.out.ci, below_grown K.out.bel _⟩)
        rw [decide_eq_true he] at EE
        clear he K GVV RS FG
        go_wp2_with (first
          | (refine wpList_ldG rfl (.tmp 7) 78 rfl (.pointer (some ⟨kb, 0, none⟩)) (.agg #[.int .i64 y1, .int .i64 y2, .string y3, .bool y4]) rfl LA.out ?_)
          | (refine wpList_ldG rfl (.tmp 5) 78 rfl (.pointer (some ⟨w.heap.size + 1, 0, none⟩)) (.agg #[.int .i64 x.pt, .int .i64 x.pr, .string x.nm, .bool x.d]) rfl LB.out ?_)
          | (refine wpList_binG rfl .eql (.tmp 20) (.tmp 21) 78 78 rfl (.agg #[.int .i64 y1, .int .i64 y2, .string y3, .bool y4]) (.agg #[.int .i64 x.pt, .int .i64 x.pr, .string x.nm, .bool x.d]) (.bool true) rfl rfl (geqE _ _ _ _ _) EE.out ?_))
        go_returns
        exact ⟨_, rfl, FIN.out⟩
      · rw [decide_eq_false he] at EE
        clear he GVV
        go_upto_region 5 with (first
          | (refine wpList_ldG rfl (.tmp 7) 78 rfl (.pointer (some ⟨kb, 0, none⟩)) (.agg #[.int .i64 y1, .int .i64 y2, .string y3, .bool y4]) rfl LA.out ?_)
          | (refine wpList_ldG rfl (.tmp 5) 78 rfl (.pointer (some ⟨w.heap.size + 1, 0, none⟩)) (.agg #[.int .i64 x.pt, .int .i64 x.pr, .string x.nm, .bool x.d]) rfl LB.out ?_)
          | (refine wpList_binG rfl .eql (.tmp 20) (.tmp 21) 78 78 rfl (.agg #[.int .i64 y1, .int .i64 y2, .string y3, .bool y4]) (.agg #[.int .i64 x.pt, .int .i64 x.pr, .string x.nm, .bool x.d]) (.bool false) rfl rfl (geqE _ _ _ _ _) EE.out ?_))
        obtain ⟨n0, n1, n2, n3⟩ := NB.out.cells
        have F1 := Lib.hid (FG.out w1 y1 y2 K.out)
        clear LA LB EE
        go_wp2_with fail
        refine F1.out.mono ?_
        rintro e w2 ⟨rfl, hb⟩
        have K := Lib.hid (K.out.step hb)
        clear hb F1 n0 n1 n2 n3 NB
        obtain ⟨m0, m1, m2, m3⟩ := K.out.en.cells
        have F2 := Lib.hid (FG.out w2 x.pt x.pr K.out)
        go_wp2_with fail
        refine F2.out.mono ?_
        rintro e w3 ⟨rfl, hb⟩
        have K := Lib.hid (K.out.step hb)
        clear hb F2 m0 m1 m2 m3 FG
        have LP := Lib.hid (fun W (hs : SQ w W c p tb x) => ldP (W := W) (k := c) (cell_row (j := 0) hs.box rfl))
        have LT := Lib.hid (fun W (hs : SQ w W c p tb x) => ldT hs.st)
        have LE := Lib.hid (fun W (hs : SQ w W c p tb x) => ldE hs.en)
        have ST := Lib.hid (set_any w3.drew p b T (K.out.ci.tab.step (Below.refl _ _).drew) HL.out x XO.out)
        have TN := Lib.hid (fun W' (ho : TOut w3.drew W' p b (setF T x)) => COut.pre (K.out.bel.trans ((Below.refl w3.heap.size w3).drew.mono K.out.bel.size)) ((K.out.ci.step (Below.refl _ _).drew).turn ho))
        have SS := Lib.hid ((K.out.step (Below.refl _ _).drew).sq)
        have CB := Lib.hid (show c ≠ b from K.out.ci.cb)
        clear K
        go_upto_region 7 with (fail)
        refine wp_region_held_drew (S := fun w' => SQ w w' c p tb x) (by kernel_rfl) SS.out (fun hHeld => ?_)
        have BV := Lib.hid SS.out
        clear hHeld
        refine take_at (i := 0) 33 ?_ rfl rfl (by kernel_rfl) (by kernel_rfl) (by kernel_rfl) (fun _ _ _ h => h) (.inl ⟨rfl, ?_⟩) BV.out ?_
        rotate_left 1
        · intro w hSw; go_simp; try with_reducible rfl
        simp only [Act.put, List.setIfInBounds_toArray, List.set_cons_zero, List.set_cons_succ]
        refine take_at (i := 1) 34 ?_ rfl rfl (by kernel_rfl) (by kernel_rfl) (by kernel_rfl) (fun _ _ _ h => h) (.inl ⟨rfl, ?_⟩) BV.out ?_
        rotate_left 1
        · intro w hSw; go_simp; try with_reducible rfl
        simp only [Act.put, List.setIfInBounds_toArray, List.set_cons_zero, List.set_cons_succ]
        refine take_at (i := 2) 35 ?_ rfl rfl (by kernel_rfl) (by kernel_rfl) (by kernel_rfl) (fun _ _ _ h => h) (.inl ⟨rfl, ?_⟩) BV.out ?_
        rotate_left 1
        · intro w hSw; go_simp; try with_reducible rfl
        simp only [Act.put, List.setIfInBounds_toArray, List.set_cons_zero, List.set_cons_succ]
        refine take_at (i := 3) 36 (.pointer (some ⟨p, 0, none⟩)) rfl rfl (by kernel_rfl) (by kernel_rfl) (by kernel_rfl) (fun _ _ _ h => h) (yields_ld (.tmp 35) 39 (.pointer (some ⟨c, 0, none⟩)) _ LP.out rfl rfl rfl) BV.out ?_
        simp only [Act.put, List.setIfInBounds_toArray, List.set_cons_zero, List.set_cons_succ]
        refine take_at (i := 4) 37 (.agg #[.int .i64 x.t, .int .i64 x.r]) rfl rfl (by kernel_rfl) (by kernel_rfl) (by kernel_rfl) (fun _ _ _ h => h) (yields_ld (.tmp 4) 61 (.pointer (some ⟨w.heap.size, 0, none⟩)) _ LT.out rfl rfl rfl) BV.out ?_
        simp only [Act.put, List.setIfInBounds_toArray, List.set_cons_zero, List.set_cons_succ]
        refine take_at (i := 5) 38 (.agg #[.int .i64 x.pt, .int .i64 x.pr, .string x.nm, .bool x.d]) rfl rfl (by kernel_rfl) (by kernel_rfl) (by kernel_rfl) (fun _ _ _ h => h) (yields_ld (.tmp 5) 78 (.pointer (some ⟨w.heap.size + 1, 0, none⟩)) _ LE.out rfl rfl rfl) BV.out ?_
        simp only [Act.put, List.setIfInBounds_toArray, List.set_cons_zero, List.set_cons_succ]
        refine wpAnyH_ready (rs := [6]) (by kernel_rfl) (by simp) (br_call (i := 6) 39 42 #[.pointer (some ⟨p, 0, none⟩), .agg #[.int .i64 x.t, .int .i64 x.r], .agg #[.int .i64 x.pt, .int .i64 x.pr, .string x.nm, .bool x.d]] rfl rfl rfl (by go_simp) (ST.out.mono ?_) AllReadyH.nil)
        rintro e v1 ⟨rfl, ho⟩
        have CO := Lib.hid (TN.out _ ho)
        have BV := Lib.hid (BV.out.turn ho CB.out HBW.out)
        clear ho
        refine ⟨_, rfl, BV.out, fun _ => ?_⟩
        simp only [Act.put, List.setIfInBounds_toArray, List.set_cons_zero, List.set_cons_succ]
        refine wpAnyH_done (by kernel_rfl) ?_ _
        go_wp2
        go_returns
        exact ⟨_, rfl, CO.out⟩
    | false =>
      clear GVV NB RS
      have K := K
      go_upto_region 6 with (fail)
      have w2e : True := trivial
      obtain ⟨m0, m1, m2, m3⟩ := K.out.en.cells
      have F2 := Lib.hid (FG.out w1 x.pt x.pr K.out)
      go_wp2_with fail
      refine F2.out.mono ?_
      rintro e w3 ⟨rfl, hb⟩
      have K := Lib.hid (K.out.step hb)
      clear hb F2 m0 m1 m2 m3 FG
      have LP := Lib.hid (fun W (hs : SQ w W c p tb x) => ldP (W := W) (k := c) (cell_row (j := 0) hs.box rfl))
      have LT := Lib.hid (fun W (hs : SQ w W c p tb x) => ldT hs.st)
      have LE := Lib.hid (fun W (hs : SQ w W c p tb x) => ldE hs.en)
      have ST := Lib.hid (set_any w3.drew p b T (K.out.ci.tab.step (Below.refl _ _).drew) HL.out x XO.out)
      have TN := Lib.hid (fun W' (ho : TOut w3.drew W' p b (setF T x)) => COut.pre (K.out.bel.trans ((Below.refl w3.heap.size w3).drew.mono K.out.bel.size)) ((K.out.ci.step (Below.refl _ _).drew).turn ho))
      have SS := Lib.hid ((K.out.step (Below.refl _ _).drew).sq)
      have CB := Lib.hid (show c ≠ b from K.out.ci.cb)
      clear K
      go_upto_region 7 with (fail)
      refine wp_region_held_drew (S := fun w' => SQ w w' c p tb x) (by kernel_rfl) SS.out (fun hHeld => ?_)
      have BV := Lib.hid SS.out
      clear hHeld
      refine take_at (i := 0) 33 ?_ rfl rfl (by kernel_rfl) (by kernel_rfl) (by kernel_rfl) (fun _ _ _ h => h) (.inl ⟨rfl, ?_⟩) BV.out ?_
      rotate_left 1
      · intro w hSw; go_simp; try with_reducible rfl
      simp only [Act.put, List.setIfInBounds_toArray, List.set_cons_zero, List.set_cons_succ]
      refine take_at (i := 1) 34 ?_ rfl rfl (by kernel_rfl) (by kernel_rfl) (by kernel_rfl) (fun _ _ _ h => h) (.inl ⟨rfl, ?_⟩) BV.out ?_
      rotate_left 1
      · intro w hSw; go_simp; try with_reducible rfl
      simp only [Act.put, List.setIfInBounds_toArray, List.set_cons_zero, List.set_cons_succ]
      refine take_at (i := 2) 35 ?_ rfl rfl (by kernel_rfl) (by kernel_rfl) (by kernel_rfl) (fun _ _ _ h => h) (.inl ⟨rfl, ?_⟩) BV.out ?_
      rotate_left 1
      · intro w hSw; go_simp; try with_reducible rfl
      simp only [Act.put, List.setIfInBounds_toArray, List.set_cons_zero, List.set_cons_succ]
      refine take_at (i := 3) 36 (.pointer (some ⟨p, 0, none⟩)) rfl rfl (by kernel_rfl) (by kernel_rfl) (by kernel_rfl) (fun _ _ _ h => h) (yields_ld (.tmp 35) 39 (.pointer (some ⟨c, 0, none⟩)) _ LP.out rfl rfl rfl) BV.out ?_
      simp only [Act.put, List.setIfInBounds_toArray, List.set_cons_zero, List.set_cons_succ]
      refine take_at (i := 4) 37 (.agg #[.int .i64 x.t, .int .i64 x.r]) rfl rfl (by kernel_rfl) (by kernel_rfl) (by kernel_rfl) (fun _ _ _ h => h) (yields_ld (.tmp 4) 61 (.pointer (some ⟨w.heap.size, 0, none⟩)) _ LT.out rfl rfl rfl) BV.out ?_
      simp only [Act.put, List.setIfInBounds_toArray, List.set_cons_zero, List.set_cons_succ]
      refine take_at (i := 5) 38 (.agg #[.int .i64 x.pt, .int .i64 x.pr, .string x.nm, .bool x.d]) rfl rfl (by kernel_rfl) (by kernel_rfl) (by kernel_rfl) (fun _ _ _ h => h) (yields_ld (.tmp 5) 78 (.pointer (some ⟨w.heap.size + 1, 0, none⟩)) _ LE.out rfl rfl rfl) BV.out ?_
      simp only [Act.put, List.setIfInBounds_toArray, List.set_cons_zero, List.set_cons_succ]
      refine wpAnyH_ready (rs := [6]) (by kernel_rfl) (by simp) (br_call (i := 6) 39 42 #[.pointer (some ⟨p, 0, none⟩), .agg #[.int .i64 x.t, .int .i64 x.r], .agg #[.int .i64 x.pt, .int .i64 x.pr, .string x.nm, .bool x.d]] rfl rfl rfl (by go_simp) (ST.out.mono ?_) AllReadyH.nil)
      rintro e v1 ⟨rfl, ho⟩
      have CO := Lib.hid (TN.out _ ho)
      have BV := Lib.hid (BV.out.turn ho CB.out HBW.out)
      clear ho
      refine ⟨_, rfl, BV.out, fun _ => ?_⟩
      simp only [Act.put, List.setIfInBounds_toArray, List.set_cons_zero, List.set_cons_succ]
      refine wpAnyH_done (by kernel_rfl) ?_ _
      go_wp2
      go_returns
      exact ⟨_, rfl, CO.out⟩
end Go.Proofs.Ythbmbpnpigpgpaa
