/- The tree's small functions: what have tells, handed on. Made by geneb14.py. -/
import Derived.Test.YtkmeceoilighiaaEA
import Derived.Deep.MidRow
set_option linter.unusedVariables false
set_option linter.unusedSimpArgs false
set_option maxRecDepth 100000
namespace Go.Proofs.Ytkmeceoilighiaa
open Go.RowKit Go.Shelf
open Tb (Rw setF dropF getF aboveF Rise TabI TM LiesK TOut)

theorem fld0 (u : Option Addr) (ft fr : Int) (a : Option Addr) (n c : Nat) (W : World) : (Instr.field 77 (.agg #[.pointer u, .int .i64 ft, .int .i64 fr, .slice a n c]) 0).run Try.prog W = .ok (.pointer u) W := by kernel_rfl
theorem fld1 (u : Option Addr) (ft fr : Int) (a : Option Addr) (n c : Nat) (W : World) : (Instr.field 77 (.agg #[.pointer u, .int .i64 ft, .int .i64 fr, .slice a n c]) 1).run Try.prog W = .ok (.agg #[.int .i64 ft, .int .i64 fr]) W := by kernel_rfl
theorem fld2 (u : Option Addr) (ft fr : Int) (a : Option Addr) (n c : Nat) (W : World) : (Instr.field 77 (.agg #[.pointer u, .int .i64 ft, .int .i64 fr, .slice a n c]) 2).run Try.prog W = .ok (.slice a n c) W := by kernel_rfl
attribute [local go_sem ↓] fld0 fld1 fld2
/-- What have tells of a tree, now and later. -/
def Have (w : World) (X : Value) (u : Option Addr) (ft fr : Int) (a : Option Addr) (n c : Nat) : Prop := ∀ W, Below w.heap.size w W → Calls Try.prog 41 #[X] W fun e w' => e = .returned (.agg #[.pointer u, .int .i64 ft, .int .i64 fr, .slice a n c]) ∧ Below W.heap.size W w'
/-- A call upon the table, now and later. -/
def Tells (w : World) (f : Nat) (args : Array Value) (v : Value) : Prop := ∀ W, Below w.heap.size w W → Calls Try.prog f args W fun e w' => e = .returned v ∧ Below W.heap.size W w'
theorem Have.step {w w1 : World} {X : Value} {u : Option Addr} {ft fr : Int} {a : Option Addr} {n c : Nat} (h : Have w X u ft fr a n c) (hb : Below w.heap.size w w1) : Have w1 X u ft fr a n c := fun W hW => h W (hb.trans (hW.mono hb.size))
theorem Tells.step {w w1 : World} {f : Nat} {args : Array Value} {v : Value} (h : Tells w f args v) (hb : Below w.heap.size w w1) : Tells w1 f args v := fun W hW => h W (hb.trans (hW.mono hb.size))
theorem TreeI.haveL {w : World} {B p q mb : Nat} {T0 : List Rw} {ft fr : Int} {L : List O} {la : Option Addr} {lc : Nat} (h : TreeI w B p q mb T0 ft fr L la lc) : Have w (pv p) (some ⟨q, 0, none⟩) ft fr la L.length lc := fun W hW => (h.step hW).have
theorem have_none (w : World) : Have w (.pointer none) none 0 0 none 0 0 := fun W _ => have_nil W
theorem have_zero {w : World} {p : Nat} (h : w.heap[p]? = some (.cells #[.pointer none, .int .i64 0, .int .i64 0, .slice none 0 0] 79 (0, 0))) : Have w (pv p) none 0 0 none 0 0 := fun W hW => have_box W p none 0 0 none 0 0 ((hW.block p (pl_lt h)).trans h)
set_option maxHeartbeats 800000 in
theorem len_of (w : World) (X : Value) (u : Option Addr) (ft fr : Int) (a : Option Addr) (n c : Nat) (H : Have w X u ft fr a n c) : Calls Try.prog 17 #[X] w fun e w' => e = .returned (.int .i64 (n : Int)) ∧ Below w.heap.size w w' := by
  have H := Lib.hid H
  go_enter Try.func17, Try.ntmps17
  go_wp2_with fail
  refine (H.out w (Below.refl _ _)).mono ?_
  rintro e w1 ⟨rfl, hb⟩
  have B1 := Lib.hid hb
  clear hb
  go_wp2
  go_returns
  exact ⟨rfl, B1.out⟩
set_option maxHeartbeats 800000 in
theorem nodes_of (w : World) (X : Value) (u : Option Addr) (ft fr : Int) (a : Option Addr) (n c : Nat) (r : Int) (H : Have w X u ft fr a n c) (G : Tells w 40 #[.pointer u] (.int .i64 r)) : Calls Try.prog 33 #[X] w fun e w' => e = .returned (.int .i64 r) ∧ Below w.heap.size w w' := by
  have H := Lib.hid H
  have G := Lib.hid G
  go_enter Try.func33, Try.ntmps33
  go_wp2_with fail
  refine (H.out w (Below.refl _ _)).mono ?_
  rintro e w1 ⟨rfl, hb⟩
  have B1 := Lib.hid hb
  clear hb
  go_wp2_with fail
  refine (G.out w1 B1.out).mono ?_
  rintro e w2 ⟨rfl, hb⟩
  have B2 := Lib.hid (B1.out.trans (hb.mono B1.out.size))
  clear hb
  go_wp2
  go_returns
  exact ⟨rfl, B2.out⟩
set_option maxHeartbeats 800000 in
theorem table_of (w : World) (X : Value) (u : Option Addr) (ft fr : Int) (a : Option Addr) (n c : Nat) (T : List Rw) (H : Have w X u ft fr a n c) (G : ∀ W, Below w.heap.size w W → Calls Try.prog 57 #[.pointer u] W fun e w' => ∃ q b, e = .returned (.pointer (some ⟨q, 0, none⟩)) ∧ TabI w' q b T ∧ W.heap.size ≤ q ∧ W.heap.size ≤ b ∧ Below W.heap.size W w') :
    Calls Try.prog 32 #[X] w fun e w' => ∃ q b, e = .returned (.pointer (some ⟨q, 0, none⟩)) ∧ TabI w' q b T ∧ w.heap.size ≤ q ∧ w.heap.size ≤ b ∧ Below w.heap.size w w' := by
  have H := Lib.hid H
  have G := Lib.hid G
  go_enter Try.func32, Try.ntmps32
  go_wp2_with fail
  refine (H.out w (Below.refl _ _)).mono ?_
  rintro e w1 ⟨rfl, hb⟩
  have B1 := Lib.hid hb
  clear hb
  go_wp2_with fail
  refine (G.out w1 B1.out).mono ?_
  rintro e w2 ⟨q, b, rfl, h1, h2, h3, hb⟩
  have B2 := Lib.hid (B1.out.trans (hb.mono B1.out.size))
  have T2 := Lib.hid h1
  have Z2 := Lib.hid (And.intro (Nat.le_trans B1.out.size h2) (Nat.le_trans B1.out.size h3))
  clear hb h1 h2 h3
  go_wp2
  go_returns
  exact ⟨q, b, rfl, T2.out, Z2.out.1, Z2.out.2, B2.out⟩
set_option maxHeartbeats 800000 in
theorem floor_of (w : World) (X : Value) (u : Option Addr) (ft fr : Int) (a : Option Addr) (n c : Nat) (H : Have w X u ft fr a n c) : Calls Try.prog 18 #[X] w fun e w' => e = .returned (.agg #[.int .i64 ft, .int .i64 fr]) ∧ Below w.heap.size w w' := by
  have hb := pl_vstep w (.cells #[.int .i64 0, .int .i64 0] 24)
  have hn := heap_alloc_new w (.cells #[.int .i64 0, .int .i64 0] 24)
  obtain ⟨w0, hw0⟩ : ∃ z, w.alloc (.cells #[.int .i64 0, .int .i64 0] 24) = z := ⟨_, rfl⟩
  rw [hw0] at hb hn
  have HW := Lib.hid hw0
  have H := Lib.hid H
  have B0 := Lib.hid hb
  have N0 := Lib.hid hn
  clear hw0 hb hn
  go_enter Try.func18, Try.ntmps18
  go_upto_region 1 with (fail)
  rw [HW.out]
  go_wp2_with fail
  refine (H.out w0 B0.out).mono ?_
  rintro e w1 ⟨rfl, hb⟩
  have B1 := Lib.hid (B0.out.trans (hb.mono B0.out.size))
  have hn := (hb.block _ (pl_lt N0.out)).trans N0.out
  have c0 : w1.cell? ⟨w.heap.size, 0, none⟩ = some (.int .i64 0) := by rw [cell_of_row _ _ _ _ _ _ hn]; rfl
  have c1 : w1.cell? ⟨w.heap.size, 1, none⟩ = some (.int .i64 0) := by rw [cell_of_row _ _ _ _ _ _ hn]; rfl
  have f0 : w1.frozen? ⟨w.heap.size, 0, none⟩ = false := frozen_of_row _ _ _ _ _ hn
  have f1 : w1.frozen? ⟨w.heap.size, 1, none⟩ = false := frozen_of_row _ _ _ _ _ hn
  have D := Lib.hid (Ve.row_setC (j := 1) (u := .int .i64 fr) (Ve.row_setC (j := 0) (u := .int .i64 ft) hn))
  have BD := Lib.hid ((B1.out.setCell (p := ⟨w.heap.size, 0, none⟩) (Nat.le_refl _) (.int .i64 ft)).setCell (p := ⟨w.heap.size, 1, none⟩) (Nat.le_refl _) (.int .i64 fr))
  clear hb hn
  go_wp2
  obtain ⟨w2, hw2⟩ : ∃ z, (w1.setCell ⟨w.heap.size, 0, none⟩ (.int .i64 ft)).setCell ⟨w.heap.size, 1, none⟩ (.int .i64 fr) = z := ⟨_, rfl⟩
  rw [hw2] at D BD ⊢
  have d0 : w2.cell? ⟨w.heap.size, 0, none⟩ = some (.int .i64 ft) := by rw [cell_of_row _ _ _ _ _ _ D.out]; rfl
  have d1 : w2.cell? ⟨w.heap.size, 1, none⟩ = some (.int .i64 fr) := by rw [cell_of_row _ _ _ _ _ _ D.out]; rfl
  clear hw2
  refine bodyPost_ret (by simp [results, Try.results18, go_sem, d0, d1]; try rfl) rfl ⟨rfl, BD.out⟩
set_option maxHeartbeats 1600000 in
theorem kids_of (w : World) (X : Value) (u : Option Addr) (ft fr : Int) (a : Option Addr) (n c : Nat) (t r : Int) (P : World → Value → Prop) (H : Have w X u ft fr a n c) (G : ∀ W, Below w.heap.size w W → Calls Try.prog 54 #[.pointer u, .agg #[.int .i64 t, .int .i64 r]] W fun e w' => ∃ v, e = .returned v ∧ P w' v ∧ Below W.heap.size W w') :
    Calls Try.prog 22 #[X, .agg #[.int .i64 t, .int .i64 r]] w fun e w' => ∃ v, e = .returned v ∧ P w' v ∧ Below w.heap.size w w' := by
  have hb := pl_vstep w (.cells #[.int .i64 t, .int .i64 r] 24)
  have hn := heap_alloc_new w (.cells #[.int .i64 t, .int .i64 r] 24)
  obtain ⟨w0, hw0⟩ : ∃ z, w.alloc (.cells #[.int .i64 t, .int .i64 r] 24) = z := ⟨_, rfl⟩
  rw [hw0] at hb hn
  have HW := Lib.hid hw0
  have H := Lib.hid H
  have G := Lib.hid G
  have B0 := Lib.hid hb
  have BX := Lib.hid (fun W (hb : Below w0.heap.size w0 W) => ldSt ((hb.block _ (pl_lt hn)).trans hn))
  clear hw0 hb hn
  go_enter Try.func22, Try.ntmps22
  go_upto_region 1 with (fail)
  rw [HW.out]
  refine wp_region_held_drew (S := fun w' => Below w0.heap.size w0 w') (by kernel_rfl) (Below.refl _ _).drew (fun hHeld => ?_)
  have BV := Lib.hid (show Below w0.heap.size w0 w0.drew from (Below.refl _ _).drew)
  clear hHeld
  refine take_at (i := 0) 5 ?_ rfl rfl (by kernel_rfl) (by kernel_rfl) (by kernel_rfl) (fun _ _ _ h => h) (.inl ⟨rfl, ?_⟩) BV.out ?_
  rotate_left 1
  · intro w hSw; go_simp; try with_reducible rfl
  simp only [Act.put, List.setIfInBounds_toArray, List.set_cons_zero, List.set_cons_succ]
  refine take_at (i := 3) 8 (.agg #[.int .i64 t, .int .i64 r]) rfl rfl (by kernel_rfl) (by kernel_rfl) (by kernel_rfl) (fun _ _ _ h => h) (yields_ld (.tmp 3) 24 (.pointer (some ⟨w.heap.size, 0, none⟩)) _ BX.out rfl rfl rfl) BV.out ?_
  simp only [Act.put, List.setIfInBounds_toArray, List.set_cons_zero, List.set_cons_succ]
  refine wpAnyH_ready (rs := [1]) (by kernel_rfl) (by simp) (br_call (i := 1) 6 41 #[X] rfl rfl rfl (by go_simp) ((H.out _ (B0.out.trans (BV.out.mono B0.out.size))).mono ?_) AllReadyH.nil)
  rintro e v1 ⟨rfl, hb⟩
  have BV := Lib.hid (BV.out.trans (hb.mono BV.out.size))
  clear hb
  refine ⟨_, rfl, BV.out, fun _ => ?_⟩
  simp only [Act.put, List.setIfInBounds_toArray, List.set_cons_zero, List.set_cons_succ]
  refine take_at (i := 2) 7 ?_ rfl rfl (by kernel_rfl) (by kernel_rfl) (by kernel_rfl) (fun _ _ _ h => h) (.inl ⟨rfl, ?_⟩) BV.out ?_
  rotate_left 1
  · intro w hSw; go_simp; try with_reducible rfl
  simp only [Act.put, List.setIfInBounds_toArray, List.set_cons_zero, List.set_cons_succ]
  refine wpAnyH_ready (rs := [4]) (by kernel_rfl) (by simp) (br_call (i := 4) 9 54 #[.pointer u, .agg #[.int .i64 t, .int .i64 r]] rfl rfl rfl (by go_simp) ((G.out _ (B0.out.trans (BV.out.mono B0.out.size))).mono ?_) AllReadyH.nil)
  rintro e v2 ⟨v, rfl, hk, hb⟩
  have BV := Lib.hid (BV.out.trans (hb.mono BV.out.size))
  have K := Lib.hid hk
  clear hk
  clear hb
  refine ⟨_, rfl, BV.out, fun _ => ?_⟩
  simp only [Act.put, List.setIfInBounds_toArray, List.set_cons_zero, List.set_cons_succ]
  refine take_at (i := 5) 4 ?_ rfl rfl (by kernel_rfl) (by kernel_rfl) (by kernel_rfl) (fun _ _ _ h => h) (.inl ⟨rfl, ?_⟩) BV.out ?_
  rotate_left 1
  · intro w hSw; go_simp; try with_reducible rfl
  simp only [Act.put, List.setIfInBounds_toArray, List.set_cons_zero, List.set_cons_succ]
  refine wpAnyH_done (by kernel_rfl) ?_ _
  have B2 := Lib.hid (B0.out.trans (BV.out.mono B0.out.size))
  go_wp2
  go_returns
  exact ⟨v, rfl, K.out, B2.out⟩
set_option maxHeartbeats 1600000 in
theorem above_of (w : World) (X : Value) (u : Option Addr) (ft fr : Int) (a : Option Addr) (n c : Nat) (a1 a2 t r : Int) (v : Bool) (H : Have w X u ft fr a n c) (G : Tells w 35 #[.pointer u, .agg #[.int .i64 a1, .int .i64 a2], .agg #[.int .i64 t, .int .i64 r]] (.bool v)) :
    Calls Try.prog 24 #[X, .agg #[.int .i64 a1, .int .i64 a2], .agg #[.int .i64 t, .int .i64 r]] w fun e w' => e = .returned (.bool v) ∧ Below w.heap.size w w' := by
  have hb1 := pl_vstep w (.cells #[.int .i64 a1, .int .i64 a2] 24)
  have hn1 := heap_alloc_new w (.cells #[.int .i64 a1, .int .i64 a2] 24)
  have hs1 : (w.alloc (.cells #[.int .i64 a1, .int .i64 a2] 24)).heap.size = w.heap.size + 1 := by simp
  have hb2 := pl_vstep (w.alloc (.cells #[.int .i64 a1, .int .i64 a2] 24)) (.cells #[.int .i64 t, .int .i64 r] 24)
  have hn2 := heap_alloc_new (w.alloc (.cells #[.int .i64 a1, .int .i64 a2] 24)) (.cells #[.int .i64 t, .int .i64 r] 24)
  rw [hs1] at hn2
  have hn1 := (hb2.block _ (pl_lt hn1)).trans hn1
  have hb := hb1.trans (hb2.mono hb1.size)
  obtain ⟨w0, hw0⟩ : ∃ z, (w.alloc (.cells #[.int .i64 a1, .int .i64 a2] 24)).alloc (.cells #[.int .i64 t, .int .i64 r] 24) = z := ⟨_, rfl⟩
  rw [hw0] at hb hn1 hn2
  have HW := Lib.hid hw0
  have H := Lib.hid H
  have G := Lib.hid G
  have B0 := Lib.hid hb
  have BX := Lib.hid (fun W (hb : Below w0.heap.size w0 W) => ldSt ((hb.block _ (pl_lt hn1)).trans hn1))
  have BY := Lib.hid (fun W (hb : Below w0.heap.size w0 W) => ldSt ((hb.block _ (pl_lt hn2)).trans hn2))
  clear hw0 hb hn1 hn2 hb1 hb2 hs1
  go_enter Try.func24, Try.ntmps24
  go_upto_region 1 with (fail)
  rw [HW.out]
  refine wp_region_held_drew (S := fun w' => Below w0.heap.size w0 w') (by kernel_rfl) (Below.refl _ _).drew (fun hHeld => ?_)
  have BV := Lib.hid (show Below w0.heap.size w0 w0.drew from (Below.refl _ _).drew)
  clear hHeld
  refine take_at (i := 0) 7 ?_ rfl rfl (by kernel_rfl) (by kernel_rfl) (by kernel_rfl) (fun _ _ _ h => h) (.inl ⟨rfl, ?_⟩) BV.out ?_
  rotate_left 1
  · intro w hSw; go_simp; try with_reducible rfl
  simp only [Act.put, List.setIfInBounds_toArray, List.set_cons_zero, List.set_cons_succ]
  refine take_at (i := 3) 10 (.agg #[.int .i64 a1, .int .i64 a2]) rfl rfl (by kernel_rfl) (by kernel_rfl) (by kernel_rfl) (fun _ _ _ h => h) (yields_ld (.tmp 4) 24 (.pointer (some ⟨w.heap.size, 0, none⟩)) _ BX.out rfl rfl rfl) BV.out ?_
  simp only [Act.put, List.setIfInBounds_toArray, List.set_cons_zero, List.set_cons_succ]
  refine take_at (i := 4) 11 (.agg #[.int .i64 t, .int .i64 r]) rfl rfl (by kernel_rfl) (by kernel_rfl) (by kernel_rfl) (fun _ _ _ h => h) (yields_ld (.tmp 5) 24 (.pointer (some ⟨w.heap.size + 1, 0, none⟩)) _ BY.out rfl rfl rfl) BV.out ?_
  simp only [Act.put, List.setIfInBounds_toArray, List.set_cons_zero, List.set_cons_succ]
  refine wpAnyH_ready (rs := [1]) (by kernel_rfl) (by simp) (br_call (i := 1) 8 41 #[X] rfl rfl rfl (by go_simp) ((H.out _ (B0.out.trans (BV.out.mono B0.out.size))).mono ?_) AllReadyH.nil)
  rintro e v1 ⟨rfl, hb⟩
  have BV := Lib.hid (BV.out.trans (hb.mono BV.out.size))
  clear hb
  refine ⟨_, rfl, BV.out, fun _ => ?_⟩
  simp only [Act.put, List.setIfInBounds_toArray, List.set_cons_zero, List.set_cons_succ]
  refine take_at (i := 2) 9 ?_ rfl rfl (by kernel_rfl) (by kernel_rfl) (by kernel_rfl) (fun _ _ _ h => h) (.inl ⟨rfl, ?_⟩) BV.out ?_
  rotate_left 1
  · intro w hSw; go_simp; try with_reducible rfl
  simp only [Act.put, List.setIfInBounds_toArray, List.set_cons_zero, List.set_cons_succ]
  refine wpAnyH_ready (rs := [5]) (by kernel_rfl) (by simp) (br_call (i := 5) 12 35 #[.pointer u, .agg #[.int .i64 a1, .int .i64 a2], .agg #[.int .i64 t, .int .i64 r]] rfl rfl rfl (by go_simp) ((G.out _ (B0.out.trans (BV.out.mono B0.out.size))).mono ?_) AllReadyH.nil)
  rintro e v2 ⟨rfl, hb⟩
  have BV := Lib.hid (BV.out.trans (hb.mono BV.out.size))
  clear hb
  refine ⟨_, rfl, BV.out, fun _ => ?_⟩
  simp only [Act.put, List.setIfInBounds_toArray, List.set_cons_zero, List.set_cons_succ]
  refine take_at (i := 6) 6 ?_ rfl rfl (by kernel_rfl) (by kernel_rfl) (by kernel_rfl) (fun _ _ _ h => h) (.inl ⟨rfl, ?_⟩) BV.out ?_
  rotate_left 1
  · intro w hSw; go_simp; try with_reducible rfl
  simp only [Act.put, List.setIfInBounds_toArray, List.set_cons_zero, List.set_cons_succ]
  refine wpAnyH_done (by kernel_rfl) ?_ _
  have B2 := Lib.hid (B0.out.trans (BV.out.mono B0.out.size))
  go_wp2
  go_returns
  exact ⟨rfl, B2.out⟩
/-- Get's two boxes. -/
structure GS (w W : World) (t r : Int) : Prop where
  bel : Below w.heap.size w W
  st : Tb.StAt W w.heap.size t r
  en : ∃ y1 y2 y3 y4, Tb.EnAt W (w.heap.size + 1) y1 y2 y3 y4
theorem GS.step {w W W' : World} {t r : Int} (h : GS w W t r) (hb : Below W.heap.size W W') : GS w W' t r := by
  obtain ⟨h1, h2, y1, y2, y3, y4, h3⟩ := h
  exact ⟨h1.trans (hb.mono h1.size), h2.step hb, y1, y2, y3, y4, h3.step hb⟩
theorem GS.run {w W : World} {t r : Int} (h : GS w W t r) (x1 x2 : Int) (x3 : ByteArray) (x4 : Bool) : (Instr.storeAt 69 (.pointer (some ⟨w.heap.size + 1, 0, none⟩)) (.agg #[.int .i64 x1, .int .i64 x2, .string x3, .bool x4])).run Try.prog W = .ok () (Tb.sets4 W (w.heap.size + 1) (.int .i64 x1) (.int .i64 x2) (.string x3) (.bool x4)) := by
  obtain ⟨h1, h2, y1, y2, y3, y4, h3⟩ := h
  obtain ⟨c0, c1, c2, c3⟩ := h3.cells
  obtain ⟨f0, f1, f2, f3⟩ := h3.free
  unfold Tb.sets4
  clear h1 h2 h3
  go_simp
theorem GS.set {w W : World} {t r : Int} (h : GS w W t r) (x1 x2 : Int) (x3 : ByteArray) (x4 : Bool) : GS w (Tb.sets4 W (w.heap.size + 1) (.int .i64 x1) (.int .i64 x2) (.string x3) (.bool x4)) t r ∧ Tb.EnAt (Tb.sets4 W (w.heap.size + 1) (.int .i64 x1) (.int .i64 x2) (.string x3) (.bool x4)) (w.heap.size + 1) x1 x2 x3 x4 := by
  obtain ⟨h1, h2, y1, y2, y3, y4, h3⟩ := h
  have e := Tb.sets4_row (x' := .int .i64 x1) (y' := .int .i64 x2) (z' := .string x3) (v' := .bool x4) h3
  refine ⟨⟨Tb.sets4_below h1 (by omega), ?_, x1, x2, x3, x4, e⟩, e⟩
  show (Tb.sets4 _ _ _ _ _ _).heap[w.heap.size]? = _
  unfold Tb.sets4
  rw [Below.heap_setCell _ _ _ _ (by simp), Below.heap_setCell _ _ _ _ (by simp), Below.heap_setCell _ _ _ _ (by simp), Below.heap_setCell _ _ _ _ (by simp)]
  exact h2
theorem GS.start (w : World) (t r : Int) : GS w ((w.alloc (.cells #[.int .i64 t, .int .i64 r] 24)).alloc (.cells #[.int .i64 0, .int .i64 0, .string ⟨#[]⟩, .bool false] 69)) t r := by
  have B1 := pl_vstep w (.cells #[.int .i64 t, .int .i64 r] 24)
  have N1 := Tb.StAt.new w t r
  have z1 : (w.alloc (.cells #[.int .i64 t, .int .i64 r] 24)).heap.size = w.heap.size + 1 := by simp
  generalize w.alloc (.cells #[.int .i64 t, .int .i64 r] 24) = w1 at *
  have B2 := pl_vstep w1 (.cells #[.int .i64 0, .int .i64 0, .string ⟨#[]⟩, .bool false] 69)
  have N2 := Tb.EnAt.new w1 0 0 ⟨#[]⟩ false
  rw [z1] at N2
  exact ⟨B1.trans (B2.mono B1.size), N1.step B2, _, _, _, _, N2⟩
set_option maxHeartbeats 1600000 in
theorem get_of (w : World) (X : Value) (u : Option Addr) (ft fr : Int) (a : Option Addr) (n c : Nat) (t r x1 x2 : Int) (x3 : ByteArray) (x4 ok : Bool) (H : Have w X u ft fr a n c) (G : Tells w 56 #[.pointer u, .agg #[.int .i64 t, .int .i64 r]] (.tuple #[.agg #[.int .i64 x1, .int .i64 x2, .string x3, .bool x4], .bool ok])) :
    Calls Try.prog 36 #[X, .agg #[.int .i64 t, .int .i64 r]] w fun e w' => e = .returned (.tuple #[.agg #[.int .i64 x1, .int .i64 x2, .string x3, .bool x4], .bool ok]) ∧ Below w.heap.size w w' := by
  have K0 := GS.start w t r
  obtain ⟨w0, hw0⟩ : ∃ z, (w.alloc (.cells #[.int .i64 t, .int .i64 r] 24)).alloc (.cells #[.int .i64 0, .int .i64 0, .string ⟨#[]⟩, .bool false] 69) = z := ⟨_, rfl⟩
  rw [hw0] at K0
  have HW := Lib.hid hw0
  have H := Lib.hid H
  have G := Lib.hid G
  have K0 := Lib.hid K0
  have LD := Lib.hid (fun W (h : GS w W t r) => ldSt h.st)
  clear hw0
  go_enter Try.func36, Try.ntmps36
  go_upto_region 1 with (fail)
  rw [HW.out]
  refine wp_region_held_drew (S := fun W => GS w W t r) (by kernel_rfl) (K0.out.step (Below.refl _ _).drew) (fun hHeld => ?_)
  have BV := Lib.hid (K0.out.step (Below.refl _ _).drew)
  clear hHeld
  refine take_at (i := 0) 6 ?_ rfl rfl (by kernel_rfl) (by kernel_rfl) (by kernel_rfl) (fun _ _ _ h => h) (.inl ⟨rfl, ?_⟩) BV.out ?_
  rotate_left 1
  · intro w hSw; go_simp; try with_reducible rfl
  simp only [Act.put, List.setIfInBounds_toArray, List.set_cons_zero, List.set_cons_succ]
  refine take_at (i := 3) 9 (.agg #[.int .i64 t, .int .i64 r]) rfl rfl (by kernel_rfl) (by kernel_rfl) (by kernel_rfl) (fun _ _ _ h => h) (yields_ld (.tmp 3) 24 (.pointer (some ⟨w.heap.size, 0, none⟩)) _ LD.out rfl rfl rfl) BV.out ?_
  simp only [Act.put, List.setIfInBounds_toArray, List.set_cons_zero, List.set_cons_succ]
  refine wpAnyH_ready (rs := [1]) (by kernel_rfl) (by simp) (br_call (i := 1) 7 41 #[X] rfl rfl rfl (by go_simp) ((H.out _ BV.out.bel).mono ?_) AllReadyH.nil)
  rintro e v1 ⟨rfl, hb⟩
  have BV := Lib.hid (BV.out.step hb)
  clear hb
  refine ⟨_, rfl, BV.out, fun _ => ?_⟩
  simp only [Act.put, List.setIfInBounds_toArray, List.set_cons_zero, List.set_cons_succ]
  refine take_at (i := 2) 8 ?_ rfl rfl (by kernel_rfl) (by kernel_rfl) (by kernel_rfl) (fun _ _ _ h => h) (.inl ⟨rfl, ?_⟩) BV.out ?_
  rotate_left 1
  · intro w hSw; go_simp; try with_reducible rfl
  simp only [Act.put, List.setIfInBounds_toArray, List.set_cons_zero, List.set_cons_succ]
  refine wpAnyH_ready (rs := [4]) (by kernel_rfl) (by simp) (br_call (i := 4) 10 56 #[.pointer u, .agg #[.int .i64 t, .int .i64 r]] rfl rfl rfl (by go_simp) ((G.out _ BV.out.bel).mono ?_) AllReadyH.nil)
  rintro e v2 ⟨rfl, hb⟩
  have BV := Lib.hid (BV.out.step hb)
  clear hb
  refine ⟨_, rfl, BV.out, fun _ => ?_⟩
  simp only [Act.put, List.setIfInBounds_toArray, List.set_cons_zero, List.set_cons_succ]
  refine take_at (i := 5) 11 ?_ rfl rfl (by kernel_rfl) (by kernel_rfl) (by kernel_rfl) (fun _ _ _ h => h) (.inl ⟨rfl, ?_⟩) BV.out ?_
  rotate_left 1
  · intro w hSw; go_simp; try with_reducible rfl
  simp only [Act.put, List.setIfInBounds_toArray, List.set_cons_zero, List.set_cons_succ]
  refine take_at (i := 6) 12 ?_ rfl rfl (by kernel_rfl) (by kernel_rfl) (by kernel_rfl) (fun _ _ _ h => h) (.inl ⟨rfl, ?_⟩) BV.out ?_
  rotate_left 1
  · intro w hSw; go_simp; try with_reducible rfl
  simp only [Act.put, List.setIfInBounds_toArray, List.set_cons_zero, List.set_cons_succ]
  refine wpAnyH_ready (rs := [7]) (by kernel_rfl) (by simp) (br_store (i := 7) 69 (.tmp 4) (.tmp 11) (.pointer (some ⟨w.heap.size + 1, 0, none⟩)) (.agg #[.int .i64 x1, .int .i64 x2, .string x3, .bool x4]) _ rfl rfl rfl rfl rfl rfl (BV.out.run x1 x2 x3 x4) (BV.out.set x1 x2 x3 x4).1 (fun _ => ?_) AllReadyH.nil)
  have EN := Lib.hid (BV.out.set x1 x2 x3 x4).2
  have BV := Lib.hid (BV.out.set x1 x2 x3 x4).1
  generalize Tb.sets4 v2 (w.heap.size + 1) (.int .i64 x1) (.int .i64 x2) (.string x3) (.bool x4) = v3 at EN BV ⊢
  simp only [Act.put, List.setIfInBounds_toArray, List.set_cons_zero, List.set_cons_succ]
  refine take_at (i := 8) 5 ?_ rfl rfl (by kernel_rfl) (by kernel_rfl) (by kernel_rfl) (fun _ _ _ h => h) (.inl ⟨rfl, ?_⟩) BV.out ?_
  rotate_left 1
  · intro w hSw; go_simp; try with_reducible rfl
  simp only [Act.put, List.setIfInBounds_toArray, List.set_cons_zero, List.set_cons_succ]
  refine wpAnyH_done (by kernel_rfl) ?_ _
  have BZ := Lib.hid BV.out.bel
  obtain ⟨d0, d1, d2, d3⟩ := EN.out.cells
  clear BV
  go_wp2
  refine bodyPost_ret (by simp [results, Try.results36, go_sem, d0, d1, d2, d3]; try rfl) rfl ?_
  exact ⟨rfl, BZ.out⟩
end Go.Proofs.Ytkmeceoilighiaa
