/- Load, New; place; Ops, Did, Base, of any tree whose 'have' is known. Made by genec14.py. -/
import Derived.Test.YtkmeceoilighiaaEB
import Derived.Test.YtkmeceoilighiaaBB
set_option linter.unusedVariables false
set_option linter.unusedSimpArgs false
set_option maxRecDepth 100000
namespace Go.Proofs.Ytkmeceoilighiaa
open Go.RowKit Go.Shelf
open Tb (Rw setF dropF getF aboveF Rise TabI TM LiesK TOut)
attribute [local go_sem ↓] fld0 fld1 fld2

def Clones (w : World) (u : Option Addr) (T : List Rw) : Prop := ∀ W, Below w.heap.size w W → Calls Try.prog 57 #[.pointer u] W fun e w' => ∃ q b, e = .returned (.pointer (some ⟨q, 0, none⟩)) ∧ TabI w' q b T ∧ W.heap.size ≤ q ∧ W.heap.size ≤ b ∧ Below W.heap.size W w'
theorem clones_none (w : World) : Clones w none [] := fun W _ => Tb.clone_dead W (.pointer none) (.inl rfl)
theorem clones_tab {w : World} {p b : Nat} {T : List Rw} (h : TabI w p b T) (hl : T.length < 100000) : Clones w (some ⟨p, 0, none⟩) T := fun W hW => (Tb.clone_any W p b T (h.step hW) hl).mono (by
  rintro e w' ⟨q, qb, rfl, ho⟩
  exact ⟨q, qb, rfl, ho.tab, ho.q0, ho.b0, ho.bel⟩)
theorem Clones.step {w w1 : World} {u : Option Addr} {T : List Rw} (h : Clones w u T) (hb : Below w.heap.size w w1) : Clones w1 u T := fun W hW => h W (hb.trans (hW.mono hb.size))
theorem build77 (W : World) (u : Option Addr) (ft fr : Int) : (Instr.build 77 #[(0, .pointer u), (1, .agg #[.int .i64 ft, .int .i64 fr])]).run Try.prog W = .ok (.agg #[.pointer u, .int .i64 ft, .int .i64 fr, .slice none 0 0]) W := by kernel_rfl
theorem build79 (W : World) (u : Option Addr) (ft fr : Int) : (Instr.build 79 #[(0, .agg #[.pointer u, .int .i64 ft, .int .i64 fr, .slice none 0 0])]).run Try.prog W = .ok (.agg #[.pointer u, .int .i64 ft, .int .i64 fr, .slice none 0 0]) W := by kernel_rfl
theorem box79 (W : World) (u : Option Addr) (ft fr : Int) : (Instr.box 79 (.agg #[.pointer u, .int .i64 ft, .int .i64 fr, .slice none 0 0])).run Try.prog W = .ok (.pointer (some ⟨W.heap.size, 0, none⟩)) (W.alloc (.cells #[.pointer u, .int .i64 ft, .int .i64 fr, .slice none 0 0] 79)) := by kernel_rfl
theorem yields_bld {ops : Array Oper} {S : World → Prop} {op : Oper} {a : Act} (ty : TypeId) (ps : Array (Nat × Operand)) (vs : Array (Nat × Value)) (u : Value) (hw : Region.wanted op (yielded ops a.tmps) = true) (ho : op.op = .build ty ps)
    (hv : (ps.toList.map fun (i, x) => (i, a.eval x)).toArray = vs) (hrun : ∀ w, (Instr.build ty vs).run Try.prog w = .ok u w) : YieldsIf Try.prog ops S op u a :=
  .inl ⟨hw, fun w _ => by
    have hv' : (ps.map fun (i, x) => (i, a.eval x)) = vs := by rw [← hv, ← Array.toList_map, Array.toArray_toList]
    unfold execOp
    simp only [ho, hv', hrun w, Sem.run_bind, Sem.run_pure, Result.andThen_ok]⟩
set_option maxHeartbeats 1600000 in
theorem load_of (w : World) (u : Option Addr) (ft fr : Int) (T : List Rw) (G : Clones w u T) :
    Calls Try.prog 39 #[.pointer u, .agg #[.int .i64 ft, .int .i64 fr]] w fun e w' => ∃ p q mb, e = .returned (pv p) ∧ TreeI w' w.heap.size p q mb T ft fr [] none 0 ∧ Below w.heap.size w w' := by
  have hb := pl_vstep w (.cells #[.int .i64 ft, .int .i64 fr] 24)
  have hn := heap_alloc_new w (.cells #[.int .i64 ft, .int .i64 fr] 24)
  obtain ⟨w0, hw0⟩ : ∃ z, w.alloc (.cells #[.int .i64 ft, .int .i64 fr] 24) = z := ⟨_, rfl⟩
  rw [hw0] at hb hn
  have HW := Lib.hid hw0
  have G := Lib.hid G
  have B0 := Lib.hid hb
  have BX := Lib.hid (fun W (hb : Below w0.heap.size w0 W) => ldSt ((hb.block _ (pl_lt hn)).trans hn))
  clear hw0 hb hn
  go_enter Try.func39, Try.ntmps39
  go_upto_region 1 with (fail)
  rw [HW.out]
  refine wp_region_held_drew (S := fun w' => Below w0.heap.size w0 w') (by kernel_rfl) (Below.refl _ _).drew (fun hHeld => ?_)
  have BV := Lib.hid (show Below w0.heap.size w0 w0.drew from (Below.refl _ _).drew)
  clear hHeld
  refine take_at (i := 0) 5 ?_ rfl rfl (by kernel_rfl) (by kernel_rfl) (by kernel_rfl) (fun _ _ _ h => h) (.inl ⟨rfl, ?_⟩) BV.out ?_
  rotate_left 1
  · intro w hSw; go_simp; try with_reducible rfl
  simp only [Act.put, List.setIfInBounds_toArray, List.set_cons_zero, List.set_cons_succ]
  refine take_at (i := 2) 7 (.agg #[.int .i64 ft, .int .i64 fr]) rfl rfl (by kernel_rfl) (by kernel_rfl) (by kernel_rfl) (fun _ _ _ h => h) (yields_ld (.tmp 3) 24 (.pointer (some ⟨w.heap.size, 0, none⟩)) _ BX.out rfl rfl rfl) BV.out ?_
  simp only [Act.put, List.setIfInBounds_toArray, List.set_cons_zero, List.set_cons_succ]
  refine wpAnyH_ready (rs := [1]) (by kernel_rfl) (by simp) (br_call (i := 1) 6 57 #[.pointer u] rfl rfl rfl (by go_simp) ((G.out _ (B0.out.trans (BV.out.mono B0.out.size))).mono ?_) AllReadyH.nil)
  rintro e v1 ⟨q, mb, rfl, h1, h2, h3, hb⟩
  have BV := Lib.hid (BV.out.trans (hb.mono BV.out.size))
  have TB := Lib.hid h1
  have TZ := Lib.hid (And.intro h2 h3)
  clear h1 h2 h3
  clear hb
  refine ⟨_, rfl, BV.out, fun _ => ?_⟩
  simp only [Act.put, List.setIfInBounds_toArray, List.set_cons_zero, List.set_cons_succ]
  refine take_at (i := 3) 8 (.agg #[.pointer (some ⟨q, 0, none⟩), .int .i64 ft, .int .i64 fr, .slice none 0 0]) rfl rfl (by kernel_rfl) (by kernel_rfl) (by kernel_rfl) (fun _ _ _ h => h) (yields_bld 77 _ _ _ rfl rfl rfl (fun W => build77 W (some ⟨q, 0, none⟩) ft fr)) BV.out ?_
  simp only [Act.put, List.setIfInBounds_toArray, List.set_cons_zero, List.set_cons_succ]
  refine take_at (i := 4) 9 (.agg #[.pointer (some ⟨q, 0, none⟩), .int .i64 ft, .int .i64 fr, .slice none 0 0]) rfl rfl (by kernel_rfl) (by kernel_rfl) (by kernel_rfl) (fun _ _ _ h => h) (yields_bld 79 _ _ _ rfl rfl rfl (fun W => build79 W (some ⟨q, 0, none⟩) ft fr)) BV.out ?_
  simp only [Act.put, List.setIfInBounds_toArray, List.set_cons_zero, List.set_cons_succ]
  refine wpAnyH_ready (rs := [5]) (by kernel_rfl) (by simp) (br_box (i := 5) 10 79 (.tmp 9) (.agg #[.pointer (some ⟨q, 0, none⟩), .int .i64 ft, .int .i64 fr, .slice none 0 0]) _ _ rfl rfl rfl rfl rfl (box79 v1 _ ft fr) (BV.out.trans ((pl_vstep v1 _).mono BV.out.size)) (fun _ => ?_) AllReadyH.nil)
  have NB := Lib.hid (heap_alloc_new v1 (.cells #[.pointer (some ⟨q, 0, none⟩), .int .i64 ft, .int .i64 fr, .slice none 0 0] 79))
  have hb := pl_vstep v1 (.cells #[.pointer (some ⟨q, 0, none⟩), .int .i64 ft, .int .i64 fr, .slice none 0 0] 79)
  have SZ := Lib.hid BV.out.size
  generalize v1.alloc (.cells #[.pointer (some ⟨q, 0, none⟩), .int .i64 ft, .int .i64 fr, .slice none 0 0] 79) = v2 at NB hb ⊢
  have BV := Lib.hid (BV.out.trans (hb.mono BV.out.size))
  have TB := Lib.hid (TB.out.step hb)
  clear hb
  simp only [Act.put, List.setIfInBounds_toArray, List.set_cons_zero, List.set_cons_succ]
  refine take_at (i := 6) 4 ?_ rfl rfl (by kernel_rfl) (by kernel_rfl) (by kernel_rfl) (fun _ _ _ h => h) (.inl ⟨rfl, ?_⟩) BV.out ?_
  rotate_left 1
  · intro w hSw; go_simp; try with_reducible rfl
  simp only [Act.put, List.setIfInBounds_toArray, List.set_cons_zero, List.set_cons_succ]
  refine wpAnyH_done (by kernel_rfl) ?_ _
  have B2 := Lib.hid (B0.out.trans (BV.out.mono B0.out.size))
  go_wp2
  go_returns
  have hz := TZ.out
  have hs := SZ.out
  have h0 := B0.out.size
  have hdr : w0.drew.heap.size = w0.heap.size := rfl
  refine ⟨_, q, mb, rfl, ⟨NB.out, TB.out, World.ownsRow_nil _ _ _ _, ⟨by omega, by omega, by omega⟩, TB.out.map.rise⟩, B2.out⟩
set_option maxHeartbeats 800000 in
theorem new_of (w : World) : Calls Try.prog 10 #[] w fun e w' => ∃ p q mb, e = .returned (pv p) ∧ TreeI w' w.heap.size p q mb [] 0 0 [] none 0 ∧ Below w.heap.size w w' := by
  have L := Lib.hid (load_of w none 0 0 [] (clones_none w))
  go_enter Try.func10, Try.ntmps10
  go_wp2_with fail
  refine L.out.mono ?_
  rintro e w1 ⟨p, q, mb, rfl, ht, hb⟩
  have F := Lib.hid (And.intro ht hb)
  clear ht hb
  go_wp2
  go_returns
  exact ⟨p, q, mb, rfl, F.out.1, F.out.2⟩
set_option maxHeartbeats 1600000 in
theorem place_of (w : World) (u : Option Addr) (ft fr : Int) (a : Option Addr) (n c : Nat) (S : List Stp) (t r : Int) (hS : LiesK stc1 15 w (.slice a n c) S) (hu : RiseO (S.map (·.o))) (hl : S.length ≤ 100000) :
    Calls Try.prog 44 #[.agg #[.pointer u, .int .i64 ft, .int .i64 fr, .slice a n c], .agg #[.int .i64 t, .int .i64 r]] w fun e w' => e = .returned (.tuple #[.int .i64 (posF (S.map (·.o)) t r : Nat), .bool (hasO (S.map (·.o)) t r)]) ∧ Below w.heap.size w w' := by
  have hb1 := pl_vstep w (.cells #[.pointer u, .int .i64 ft, .int .i64 fr, .slice a n c] 77)
  have hb2 := pl_vstep (w.alloc (.cells #[.pointer u, .int .i64 ft, .int .i64 fr, .slice a n c] 77)) (.cells #[.int .i64 t, .int .i64 r] 24)
  have hb := hb1.trans (hb2.mono hb1.size)
  have BS := Lib.hid (bsearch_any _ _ S t r (hS.step hb) hu hl)
  have B0 := Lib.hid hb
  obtain ⟨ps, hps⟩ : ∃ z, posF (S.map (·.o)) t r = z := ⟨_, rfl⟩
  obtain ⟨hs, hhs⟩ : ∃ z, hasO (S.map (·.o)) t r = z := ⟨_, rfl⟩
  rw [hps, hhs] at BS ⊢
  clear hb hb1 hb2 hS hu hps hhs
  go_enter Try.func44, Try.ntmps44
  go_wp2_with fail
  refine BS.out.mono ?_
  rintro e w1 ⟨rfl, hb⟩
  have B1 := Lib.hid (B0.out.trans (hb.mono B0.out.size))
  clear hb
  go_wp2
  go_returns
  exact ⟨rfl, B1.out⟩
end Go.Proofs.Ytkmeceoilighiaa
