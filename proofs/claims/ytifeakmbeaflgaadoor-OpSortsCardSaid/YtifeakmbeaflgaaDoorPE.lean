/- The reference's Get. Made by genpe7.py. -/
import Derived.Test.YtifeakmbeaflgaaDoorPD
set_option linter.unusedVariables false
set_option linter.unusedSimpArgs false
set_option maxRecDepth 100000
namespace Go.Proofs.YtifeakmbeaflgaaDoor
open Go.RowKit
open Wi (Feed Kr St Byt rd bytesOf)

/-- While Get goes. -/
structure QI (w W : World) (M g : Nat) (v : Value) (bs : List Int) (s : St) : Prop where
  rs : RS W M g v bs s
  kr : Kr w W g
  res : W.heap[w.heap.size]? = some (.cells #[.int .i64 0, .int .i64 0, .int .i64 0, .int .i64 0, .int .i64 0, .int .i64 0, .int .i64 0, .string ⟨#[]⟩, .bool false] 25 (0, 0))
  gl : g < w.heap.size
  ml : M ≤ w.heap.size
theorem QI.call {w W W' : World} {M g : Nat} {v : Value} {bs : List Int} {s s' : St} (h : QI w W M g v bs s) (k : RO W W' M g v bs s') : QI w W' M g v bs s' :=
  ⟨k.1, h.kr.trans k.2, (k.2.block _ (lt_of_block h.res) (by have := h.gl; omega)).trans h.res, h.gl, h.ml⟩
theorem QI.below {w W W' : World} {M g : Nat} {v : Value} {bs : List Int} {s : St} (h : QI w W M g v bs s) (k : Below W.heap.size W W') : QI w W' M g v bs s :=
  h.call ⟨h.rs.below k, Kr.ofBelow g k⟩
def B2 (W : World) (w : World) (b : Nat) (x y : Int) : Prop := W.heap[b]? = some (.cells #[.int .i64 x, .int .i64 y] 23 (0, 0)) ∧ w.heap.size < b
theorem B2.kr {W W' w : World} {b g : Nat} {x y : Int} (h : B2 W w b x y) (k : Kr W W' g) (hg : g < w.heap.size) : B2 W' w b x y := ⟨(k.block b (lt_of_block h.1) (by have := h.2; omega)).trans h.1, h.2⟩
theorem B2.below {W W' w : World} {b : Nat} {x y : Int} (h : B2 W w b x y) (k : Below W.heap.size W W') : B2 W' w b x y := ⟨(k.block b (lt_of_block h.1)).trans h.1, h.2⟩
theorem B2.new {W w : World} {M g : Nat} {v : Value} {bs : List Int} {s : St} (h : QI w W M g v bs s) (x y : Int) : B2 (W.alloc (.cells #[.int .i64 x, .int .i64 y] 23)) w W.heap.size x y := ⟨heap_alloc_new W _, lt_of_block h.res⟩
theorem B2.cells {W w : World} {b : Nat} {x y : Int} (h : B2 W w b x y) : W.cell? ⟨b, 0, none⟩ = some (.int .i64 x) ∧ W.cell? ⟨b, 1, none⟩ = some (.int .i64 y) := by
  obtain ⟨c0, c1, _, _⟩ := Wi.two_cells h.1
  exact ⟨c0, c1⟩
theorem sets9_other (W : World) (b : Nat) (u0 u1 u2 u3 u4 u5 u6 u7 u8 : Value) : ∀ k, k ≠ b → (sets9 W b u0 u1 u2 u3 u4 u5 u6 u7 u8).heap[k]? = W.heap[k]? := by
  intro k hk
  unfold sets9
  exact (Below.heap_setCell _ (⟨b, 8, none⟩ : Addr) _ _ hk).trans ((Below.heap_setCell _ (⟨b, 7, none⟩ : Addr) _ _ hk).trans ((Below.heap_setCell _ (⟨b, 6, none⟩ : Addr) _ _ hk).trans ((Below.heap_setCell _ (⟨b, 5, none⟩ : Addr) _ _ hk).trans ((Below.heap_setCell _ (⟨b, 4, none⟩ : Addr) _ _ hk).trans ((Below.heap_setCell _ (⟨b, 3, none⟩ : Addr) _ _ hk).trans ((Below.heap_setCell _ (⟨b, 2, none⟩ : Addr) _ _ hk).trans ((Below.heap_setCell _ (⟨b, 1, none⟩ : Addr) _ _ hk).trans (Below.heap_setCell _ (⟨b, 0, none⟩ : Addr) _ _ hk))))))))
theorem sets9_kr {w W : World} {g b : Nat} (h : Kr w W g) (hb : w.heap.size ≤ b) (u0 u1 u2 u3 u4 u5 u6 u7 u8 : Value) : Kr w (sets9 W b u0 u1 u2 u3 u4 u5 u6 u7 u8) g := by
  unfold sets9
  exact ((((((((h.setNew (p := ⟨b, 0, none⟩) hb _).setNew (p := ⟨b, 1, none⟩) hb _).setNew (p := ⟨b, 2, none⟩) hb _).setNew (p := ⟨b, 3, none⟩) hb _).setNew (p := ⟨b, 4, none⟩) hb _).setNew (p := ⟨b, 5, none⟩) hb _).setNew (p := ⟨b, 6, none⟩) hb _).setNew (p := ⟨b, 7, none⟩) hb _).setNew (p := ⟨b, 8, none⟩) hb _
theorem sets9_size (W : World) (b : Nat) (u0 u1 u2 u3 u4 u5 u6 u7 u8 : Value) : W.heap.size ≤ (sets9 W b u0 u1 u2 u3 u4 u5 u6 u7 u8).heap.size := by
  unfold sets9
  simp [World.setCell]
theorem sets9_row {W : World} {b : Nat} {z0 z1 z2 z3 z4 z5 z6 z7 z8 : Value} (h : W.heap[b]? = some (.cells #[z0, z1, z2, z3, z4, z5, z6, z7, z8] 25 (0, 0))) (u0 u1 u2 u3 u4 u5 u6 u7 u8 : Value) : (sets9 W b u0 u1 u2 u3 u4 u5 u6 u7 u8).heap[b]? = some (.cells #[u0, u1, u2, u3, u4, u5, u6, u7, u8] 25 (0, 0)) := by
  have k0 : (W.setCell ⟨b, 0, none⟩ u0).heap[b]? = some (.cells #[u0, z1, z2, z3, z4, z5, z6, z7, z8] 25 (0, 0)) := Wi.row_setC (j := 0) (u := u0) h
  have k1 : ((W.setCell ⟨b, 0, none⟩ u0).setCell ⟨b, 1, none⟩ u1).heap[b]? = some (.cells #[u0, u1, z2, z3, z4, z5, z6, z7, z8] 25 (0, 0)) := Wi.row_setC (j := 1) (u := u1) k0
  have k2 : (((W.setCell ⟨b, 0, none⟩ u0).setCell ⟨b, 1, none⟩ u1).setCell ⟨b, 2, none⟩ u2).heap[b]? = some (.cells #[u0, u1, u2, z3, z4, z5, z6, z7, z8] 25 (0, 0)) := Wi.row_setC (j := 2) (u := u2) k1
  have k3 : ((((W.setCell ⟨b, 0, none⟩ u0).setCell ⟨b, 1, none⟩ u1).setCell ⟨b, 2, none⟩ u2).setCell ⟨b, 3, none⟩ u3).heap[b]? = some (.cells #[u0, u1, u2, u3, z4, z5, z6, z7, z8] 25 (0, 0)) := Wi.row_setC (j := 3) (u := u3) k2
  have k4 : (((((W.setCell ⟨b, 0, none⟩ u0).setCell ⟨b, 1, none⟩ u1).setCell ⟨b, 2, none⟩ u2).setCell ⟨b, 3, none⟩ u3).setCell ⟨b, 4, none⟩ u4).heap[b]? = some (.cells #[u0, u1, u2, u3, u4, z5, z6, z7, z8] 25 (0, 0)) := Wi.row_setC (j := 4) (u := u4) k3
  have k5 : ((((((W.setCell ⟨b, 0, none⟩ u0).setCell ⟨b, 1, none⟩ u1).setCell ⟨b, 2, none⟩ u2).setCell ⟨b, 3, none⟩ u3).setCell ⟨b, 4, none⟩ u4).setCell ⟨b, 5, none⟩ u5).heap[b]? = some (.cells #[u0, u1, u2, u3, u4, u5, z6, z7, z8] 25 (0, 0)) := Wi.row_setC (j := 5) (u := u5) k4
  have k6 : (((((((W.setCell ⟨b, 0, none⟩ u0).setCell ⟨b, 1, none⟩ u1).setCell ⟨b, 2, none⟩ u2).setCell ⟨b, 3, none⟩ u3).setCell ⟨b, 4, none⟩ u4).setCell ⟨b, 5, none⟩ u5).setCell ⟨b, 6, none⟩ u6).heap[b]? = some (.cells #[u0, u1, u2, u3, u4, u5, u6, z7, z8] 25 (0, 0)) := Wi.row_setC (j := 6) (u := u6) k5
  have k7 : ((((((((W.setCell ⟨b, 0, none⟩ u0).setCell ⟨b, 1, none⟩ u1).setCell ⟨b, 2, none⟩ u2).setCell ⟨b, 3, none⟩ u3).setCell ⟨b, 4, none⟩ u4).setCell ⟨b, 5, none⟩ u5).setCell ⟨b, 6, none⟩ u6).setCell ⟨b, 7, none⟩ u7).heap[b]? = some (.cells #[u0, u1, u2, u3, u4, u5, u6, u7, z8] 25 (0, 0)) := Wi.row_setC (j := 7) (u := u7) k6
  have k8 : (((((((((W.setCell ⟨b, 0, none⟩ u0).setCell ⟨b, 1, none⟩ u1).setCell ⟨b, 2, none⟩ u2).setCell ⟨b, 3, none⟩ u3).setCell ⟨b, 4, none⟩ u4).setCell ⟨b, 5, none⟩ u5).setCell ⟨b, 6, none⟩ u6).setCell ⟨b, 7, none⟩ u7).setCell ⟨b, 8, none⟩ u8).heap[b]? = some (.cells #[u0, u1, u2, u3, u4, u5, u6, u7, u8] 25 (0, 0)) := Wi.row_setC (j := 8) (u := u8) k7
  exact k8
theorem QI.fin {w W : World} {M g : Nat} {v : Value} {bs : List Int} {s : St} (h : QI w W M g v bs s) (u0 u1 u2 u3 u4 u5 u6 u7 u8 : Value) : RO w (sets9 W w.heap.size u0 u1 u2 u3 u4 u5 u6 u7 u8) M g v bs s :=
  ⟨h.rs.other (b := w.heap.size) (by have := h.gl; omega) h.ml (sets9_size _ _ _ _ _ _ _ _ _ _ _) (sets9_other _ _ _ _ _ _ _ _ _ _ _), sets9_kr h.kr (Nat.le_refl _) _ _ _ _ _ _ _ _ _⟩
theorem QI.bad2 {w W : World} {M g : Nat} {v : Value} {bs : List Int} {s : St} (h : QI w W M g v bs s) (e : Int) (he : e ≠ 0) : QI w (W.setCell ⟨g, 2, none⟩ (.int .i64 e)) M g v bs ⟨[], e⟩ := by
  obtain ⟨p, h1, h2⟩ := h.rs
  exact h.call ⟨⟨p, (h1.set2 e).1, fun q => absurd q he⟩, (h1.set2 e).2⟩
set_option maxHeartbeats 12800000 in
theorem rrget_any (w : World) (M g : Nat) (v : Value) (bs : List Int) (s : St) (h : RS w M g v bs s) :
    Calls Tryd.prog 65 #[ptrR g] w fun e w' => e = .returned (oV (getO s).1) ∧ RO w w' M g v bs (getO s).2 := by
  have V := vstep w (.cells #[.int .i64 0, .int .i64 0, .int .i64 0, .int .i64 0, .int .i64 0, .int .i64 0, .int .i64 0, .string ⟨#[]⟩, .bool false] 25)
  have K0 := Lib.hid (show QI w (w.alloc (.cells #[.int .i64 0, .int .i64 0, .int .i64 0, .int .i64 0, .int .i64 0, .int .i64 0, .int .i64 0, .string ⟨#[]⟩, .bool false] 25)) M g v bs s from ⟨h.below V, Kr.ofBelow g V, heap_alloc_new w _, h.lt.1, h.lt.2⟩)
  obtain ⟨W0, hW0⟩ : ∃ z, w.alloc (.cells #[.int .i64 0, .int .i64 0, .int .i64 0, .int .i64 0, .int .i64 0, .int .i64 0, .int .i64 0, .string ⟨#[]⟩, .bool false] 25) = z := ⟨_, rfl⟩
  rw [hW0] at K0
  have HW := Lib.hid hW0
  clear h V hW0
  have ER := Lib.hid (show getR s = (⟨s.stamp.1.1, s.stamp.1.2, s.stamp.2.num.1, s.stamp.2.num.2.stamp.1.1, s.stamp.2.num.2.stamp.1.2, s.stamp.2.num.2.stamp.2.stamp.1.1, s.stamp.2.num.2.stamp.2.stamp.1.2, (s.stamp.2.num.2.stamp.2.stamp.2.text 255).1, (s.stamp.2.num.2.stamp.2.stamp.2.text 255).2.flag.1⟩, (s.stamp.2.num.2.stamp.2.stamp.2.text 255).2.flag.2) from rfl)
  have ES := Lib.hid (show getS s = if rO (getR s).1 = true then (getR s).2 else (getR s).2.fail 2 from rfl)
  have EO := Lib.hid (show getO s = if (getS s).bad ≠ 0 then (O0, getS s) else ((getR s).1, getS s) from rfl)
  generalize getR s = RR at *
  generalize getS s = SS at *
  generalize getO s = OO at *
  have C1 := Lib.hid (fun W (h : RS W M g v bs s) => rrstamp_any W M g v bs s h)
  obtain ⟨⟨⟨t, r⟩, s1⟩, h1⟩ : ∃ x, s.stamp = x := ⟨_, rfl⟩
  rw [h1] at ER C1
  simp only at ER C1
  have C2 := Lib.hid (fun W (h : RS W M g v bs s1) => rrnum_any W M g v bs s1 h)
  obtain ⟨⟨q, s2⟩, h2⟩ : ∃ x, s1.num = x := ⟨_, rfl⟩
  rw [h2] at ER C2
  simp only at ER C2
  have C3 := Lib.hid (fun W (h : RS W M g v bs s2) => rrstamp_any W M g v bs s2 h)
  obtain ⟨⟨⟨nt, nr⟩, s3⟩, h3⟩ : ∃ x, s2.stamp = x := ⟨_, rfl⟩
  rw [h3] at ER C3
  simp only at ER C3
  have C4 := Lib.hid (fun W (h : RS W M g v bs s3) => rrstamp_any W M g v bs s3 h)
  obtain ⟨⟨⟨pt, pr⟩, s4⟩, h4⟩ : ∃ x, s3.stamp = x := ⟨_, rfl⟩
  rw [h4] at ER C4
  simp only at ER C4
  have C5 := Lib.hid (fun W (h : RS W M g v bs s4) => rrtext_any W M g v bs s4 255 h)
  have TS := Lib.hid (text_size s4)
  obtain ⟨⟨nm, s5⟩, h5⟩ : ∃ x, s4.text 255 = x := ⟨_, rfl⟩
  rw [h5] at ER C5 TS
  simp only at ER C5 TS
  have C6 := Lib.hid (fun W (h : RS W M g v bs s5) => rrflag_any W M g v bs s5 h)
  obtain ⟨⟨d, s6⟩, h6⟩ : ∃ x, s5.flag = x := ⟨_, rfl⟩
  rw [h6] at ER C6
  simp only at ER C6
  clear h1 h2 h3 h4 h5 h6
  have C7 := Lib.hid (fun W => rright_any W t r q nt nr pt pr nm d (by have := TS.out; omega))
  obtain ⟨rb, hrb⟩ : ∃ rb, rB t r q nt nr pt pr nm = rb := ⟨_, rfl⟩
  rw [hrb] at C7
  have RB := Lib.hid hrb
  have ESS := Lib.hid (show SS = if rb = true then s6 else s6.fail 2 from by
    rw [ES.out, ER.out]
    show (if rB t r q nt nr pt pr nm = true then s6 else s6.fail 2) = _
    rw [hrb])
  have EOO := Lib.hid (show OO = if SS.bad ≠ 0 then (O0, SS) else ((⟨t, r, q, nt, nr, pt, pr, nm, d⟩ : O), SS) from by rw [EO.out, ER.out])
  clear hrb ER ES EO
  unfold ptrR at *
  go_enter Tryd.func65, Tryd.ntmps65
  go_upto_region 1 with (fail)
  rw [HW.out]
  go_wp2_with fail
  refine (C1.out W0 K0.out.rs).mono ?_
  rintro e w1 ⟨rfl, hR⟩
  have Q1 := Lib.hid (K0.out.call hR)
  clear hR
  have X3 := Lib.hid (B2.new Q1.out t r)
  have V1 := vstep w1 (.cells #[.int .i64 t, .int .i64 r] 23)
  have Q1b := Lib.hid (Q1.out.below V1)
  go_upto_region 2 with (fail)
  obtain ⟨W1, hW1⟩ : ∃ z, w1.alloc (.cells #[.int .i64 t, .int .i64 r] 23) = z := ⟨_, rfl⟩
  rw [hW1] at X3 Q1b ⊢
  obtain ⟨bX3, hbX3⟩ : ∃ z, w1.heap.size = z := ⟨_, rfl⟩
  rw [hbX3] at X3 ⊢
  clear hW1 hbX3 V1
  go_wp2_with fail
  refine (C2.out W1 Q1b.out.rs).mono ?_
  rintro e w2 ⟨rfl, hR⟩
  have Q2 := Lib.hid (Q1b.out.call hR)
  have X3 := Lib.hid (X3.out.kr hR.2 Q2.out.gl)
  clear hR
  go_wp2_with fail
  refine (C3.out w2 Q2.out.rs).mono ?_
  rintro e w3 ⟨rfl, hR⟩
  have Q3 := Lib.hid (Q2.out.call hR)
  have X3 := Lib.hid (X3.out.kr hR.2 Q3.out.gl)
  clear hR
  have X5 := Lib.hid (B2.new Q3.out nt nr)
  have V1 := vstep w3 (.cells #[.int .i64 nt, .int .i64 nr] 23)
  have Q3b := Lib.hid (Q3.out.below V1)
  have X3 := Lib.hid (X3.out.below V1)
  go_upto_region 4 with (fail)
  obtain ⟨W3, hW3⟩ : ∃ z, w3.alloc (.cells #[.int .i64 nt, .int .i64 nr] 23) = z := ⟨_, rfl⟩
  rw [hW3] at X5 Q3b X3 ⊢
  obtain ⟨bX5, hbX5⟩ : ∃ z, w3.heap.size = z := ⟨_, rfl⟩
  rw [hbX5] at X5 ⊢
  clear hW3 hbX5 V1
  go_wp2_with fail
  refine (C4.out W3 Q3b.out.rs).mono ?_
  rintro e w4 ⟨rfl, hR⟩
  have Q4 := Lib.hid (Q3b.out.call hR)
  have X3 := Lib.hid (X3.out.kr hR.2 Q4.out.gl)
  have X5 := Lib.hid (X5.out.kr hR.2 Q4.out.gl)
  clear hR
  have X6 := Lib.hid (B2.new Q4.out pt pr)
  have V1 := vstep w4 (.cells #[.int .i64 pt, .int .i64 pr] 23)
  have Q4b := Lib.hid (Q4.out.below V1)
  have X3 := Lib.hid (X3.out.below V1)
  have X5 := Lib.hid (X5.out.below V1)
  go_upto_region 5 with (fail)
  obtain ⟨W4, hW4⟩ : ∃ z, w4.alloc (.cells #[.int .i64 pt, .int .i64 pr] 23) = z := ⟨_, rfl⟩
  rw [hW4] at X6 Q4b X3 X5 ⊢
  obtain ⟨bX6, hbX6⟩ : ∃ z, w4.heap.size = z := ⟨_, rfl⟩
  rw [hbX6] at X6 ⊢
  clear hW4 hbX6 V1
  go_wp2_with fail
  refine (C5.out W4 Q4b.out.rs).mono ?_
  rintro e w5 ⟨rfl, hR⟩
  have Q5 := Lib.hid (Q4b.out.call hR)
  have X3 := Lib.hid (X3.out.kr hR.2 Q5.out.gl)
  have X5 := Lib.hid (X5.out.kr hR.2 Q5.out.gl)
  have X6 := Lib.hid (X6.out.kr hR.2 Q5.out.gl)
  clear hR
  go_wp2_with fail
  refine (C6.out w5 Q5.out.rs).mono ?_
  rintro e w6 ⟨rfl, hR⟩
  have Q6 := Lib.hid (Q5.out.call hR)
  have X3 := Lib.hid (X3.out.kr hR.2 Q6.out.gl)
  have X5 := Lib.hid (X5.out.kr hR.2 Q6.out.gl)
  have X6 := Lib.hid (X6.out.kr hR.2 Q6.out.gl)
  clear hR Q1 Q1b Q2 Q3 Q3b Q4 Q4b Q5 K0 C1 C2 C3 C4 C5 C6
  obtain ⟨a0, a1⟩ := X3.out.cells
  obtain ⟨a2, a3⟩ := X5.out.cells
  obtain ⟨a4, a5⟩ := X6.out.cells
  have OX := Lib.hid (show (w6.alloc (.cells #[.int .i64 t, .int .i64 r, .int .i64 q, .int .i64 nt, .int .i64 nr, .int .i64 pt, .int .i64 pr, .string nm, .bool d] 25)).heap[w6.heap.size]? = some (.cells #[.int .i64 t, .int .i64 r, .int .i64 q, .int .i64 nt, .int .i64 nr, .int .i64 pt, .int .i64 pr, .string nm, .bool d] 25 (0, 0)) from heap_alloc_new w6 _)
  have V7 := vstep w6 (.cells #[.int .i64 t, .int .i64 r, .int .i64 q, .int .i64 nt, .int .i64 nr, .int .i64 pt, .int .i64 pr, .string nm, .bool d] 25)
  have Q7 := Lib.hid (Q6.out.below V7)
  go_upto_region 8 with (fail)
  obtain ⟨w7, hw7⟩ : ∃ z, w6.alloc (.cells #[.int .i64 t, .int .i64 r, .int .i64 q, .int .i64 nt, .int .i64 nr, .int .i64 pt, .int .i64 pr, .string nm, .bool d] 25) = z := ⟨_, rfl⟩
  rw [hw7] at OX Q7 ⊢
  obtain ⟨b9, hb9⟩ : ∃ z, w6.heap.size = z := ⟨_, rfl⟩
  rw [hb9] at OX ⊢
  have BN := Lib.hid (show b9 ≠ g ∧ b9 ≠ w.heap.size from ⟨by have := Q6.out.gl; have := lt_of_block Q6.out.res; omega, by have := lt_of_block Q6.out.res; omega⟩)
  clear hw7 hb9 V7 a0 a1 a2 a3 a4 a5 X3 X5 X6 Q6
  obtain ⟨p, hi, hd⟩ := Q7.out.rs
  have H := Lib.hid hi
  obtain ⟨c0, c1, c2⟩ := hi.cells
  have f2 := hi.free 2
  obtain ⟨d0, gd0⟩ := row_cells OX.out (j := 0) rfl
  clear gd0
  obtain ⟨d1, gd1⟩ := row_cells OX.out (j := 1) rfl
  clear gd1
  obtain ⟨d2, gd2⟩ := row_cells OX.out (j := 2) rfl
  clear gd2
  obtain ⟨d3, gd3⟩ := row_cells OX.out (j := 3) rfl
  clear gd3
  obtain ⟨d4, gd4⟩ := row_cells OX.out (j := 4) rfl
  clear gd4
  obtain ⟨d5, gd5⟩ := row_cells OX.out (j := 5) rfl
  clear gd5
  obtain ⟨d6, gd6⟩ := row_cells OX.out (j := 6) rfl
  clear gd6
  obtain ⟨d7, gd7⟩ := row_cells OX.out (j := 7) rfl
  clear gd7
  obtain ⟨d8, gd8⟩ := row_cells OX.out (j := 8) rfl
  clear gd8
  clear hi hd c0 c1
  by_cases hb : s6.bad = 0
  · have q1 := eqb0 _ _ hb
    have HB := Lib.hid hb
    have q2 := nebF _ _ hb
    clear hb
    go_wp2_with fail
    refine (C7.out w7).mono ?_
    rintro e w8 ⟨rfl, hbl⟩
    have Q8 := Lib.hid (Q7.out.below hbl)
    have OX8 := Lib.hid ((hbl.block b9 (lt_of_block OX.out)).trans OX.out)
    clear hbl d0 d1 d2 d3 d4 d5 d6 d7 d8 c2 f2 H Q7 OX
    obtain ⟨p, hi, hd⟩ := Q8.out.rs
    obtain ⟨c0, c1, c2⟩ := hi.cells
    have f2 := hi.free 2
    clear hi hd c0 c1
    cases rb with
    | true =>
      have E := Lib.hid (show OO = ((⟨t, r, q, nt, nr, pt, pr, nm, d⟩ : O), s6) from by
        have e : SS = s6 := ESS.out
        rw [EOO.out, e, if_neg (by have := HB.out; omega)])
      obtain ⟨d0, gd0⟩ := row_cells OX8.out (j := 0) rfl
      clear gd0
      obtain ⟨d1, gd1⟩ := row_cells OX8.out (j := 1) rfl
      clear gd1
      obtain ⟨d2, gd2⟩ := row_cells OX8.out (j := 2) rfl
      clear gd2
      obtain ⟨d3, gd3⟩ := row_cells OX8.out (j := 3) rfl
      clear gd3
      obtain ⟨d4, gd4⟩ := row_cells OX8.out (j := 4) rfl
      clear gd4
      obtain ⟨d5, gd5⟩ := row_cells OX8.out (j := 5) rfl
      clear gd5
      obtain ⟨d6, gd6⟩ := row_cells OX8.out (j := 6) rfl
      clear gd6
      obtain ⟨d7, gd7⟩ := row_cells OX8.out (j := 7) rfl
      clear gd7
      obtain ⟨d8, gd8⟩ := row_cells OX8.out (j := 8) rfl
      clear gd8
      obtain ⟨z0, kz0⟩ := row_cells Q8.out.res (j := 0) rfl
      obtain ⟨z1, kz1⟩ := row_cells Q8.out.res (j := 1) rfl
      obtain ⟨z2, kz2⟩ := row_cells Q8.out.res (j := 2) rfl
      obtain ⟨z3, kz3⟩ := row_cells Q8.out.res (j := 3) rfl
      obtain ⟨z4, kz4⟩ := row_cells Q8.out.res (j := 4) rfl
      obtain ⟨z5, kz5⟩ := row_cells Q8.out.res (j := 5) rfl
      obtain ⟨z6, kz6⟩ := row_cells Q8.out.res (j := 6) rfl
      obtain ⟨z7, kz7⟩ := row_cells Q8.out.res (j := 7) rfl
      obtain ⟨z8, kz8⟩ := row_cells Q8.out.res (j := 8) rfl
      go_wp2
      clear d0 d1 d2 d3 d4 d5 d6 d7 d8 c2 f2 q1 q2
      clear z0 kz0 z1 kz1 z2 kz2 z3 kz3 z4 kz4 z5 kz5 z6 kz6 z7 kz7 z8 kz8
      have r5 := sets9_row Q8.out.res (.int .i64 t) (.int .i64 r) (.int .i64 q) (.int .i64 nt) (.int .i64 nr) (.int .i64 pt) (.int .i64 pr) (.string nm) (.bool d)
      have f5 := Lib.hid (Q8.out.fin (.int .i64 t) (.int .i64 r) (.int .i64 q) (.int .i64 nt) (.int .i64 nr) (.int .i64 pt) (.int .i64 pr) (.string nm) (.bool d))
      obtain ⟨W5, hW5⟩ : ∃ z, sets9 w8 w.heap.size (.int .i64 t) (.int .i64 r) (.int .i64 q) (.int .i64 nt) (.int .i64 nr) (.int .i64 pt) (.int .i64 pr) (.string nm) (.bool d) = z := ⟨_, rfl⟩
      rw [hW5] at r5 f5
      unfold sets9 at hW5
      rw [hW5]
      clear hW5
      obtain ⟨d0, _⟩ := row_cells r5 (j := 0) rfl
      obtain ⟨d1, _⟩ := row_cells r5 (j := 1) rfl
      obtain ⟨d2, _⟩ := row_cells r5 (j := 2) rfl
      obtain ⟨d3, _⟩ := row_cells r5 (j := 3) rfl
      obtain ⟨d4, _⟩ := row_cells r5 (j := 4) rfl
      obtain ⟨d5, _⟩ := row_cells r5 (j := 5) rfl
      obtain ⟨d6, _⟩ := row_cells r5 (j := 6) rfl
      obtain ⟨d7, _⟩ := row_cells r5 (j := 7) rfl
      obtain ⟨d8, _⟩ := row_cells r5 (j := 8) rfl
      refine bodyPost_ret (by simp [results, Tryd.results65, go_sem, d0, d1, d2, d3, d4, d5, d6, d7, d8]; try rfl) rfl ?_
      rw [E.out]
      exact ⟨rfl, f5.out⟩
    | false =>
      have E := Lib.hid (show OO = (O0, ⟨[], 2⟩) from by
        have e : SS = ⟨[], 2⟩ := ESS.out.trans (by show s6.fail 2 = _; unfold St.fail; rw [if_neg (by have := HB.out; omega)])
        rw [EOO.out, e]
        rfl)
      have Q9 := Lib.hid (Q8.out.bad2 2 (by decide))
      go_upto_region 10 with (fail)
      obtain ⟨w9, hw9⟩ : ∃ z, w8.setCell ⟨g, 2, none⟩ (.int .i64 2) = z := ⟨_, rfl⟩
      rw [hw9] at Q9 ⊢
      clear hw9 c2 f2
      obtain ⟨p, hi, hd⟩ := Q9.out.rs
      obtain ⟨c0, c1, c2⟩ := hi.cells
      clear hi hd c0 c1 q1 q2
      obtain ⟨z0, kz0⟩ := row_cells Q9.out.res (j := 0) rfl
      obtain ⟨z1, kz1⟩ := row_cells Q9.out.res (j := 1) rfl
      obtain ⟨z2, kz2⟩ := row_cells Q9.out.res (j := 2) rfl
      obtain ⟨z3, kz3⟩ := row_cells Q9.out.res (j := 3) rfl
      obtain ⟨z4, kz4⟩ := row_cells Q9.out.res (j := 4) rfl
      obtain ⟨z5, kz5⟩ := row_cells Q9.out.res (j := 5) rfl
      obtain ⟨z6, kz6⟩ := row_cells Q9.out.res (j := 6) rfl
      obtain ⟨z7, kz7⟩ := row_cells Q9.out.res (j := 7) rfl
      obtain ⟨z8, kz8⟩ := row_cells Q9.out.res (j := 8) rfl
      go_wp2
      clear c2
      clear z0 kz0 z1 kz1 z2 kz2 z3 kz3 z4 kz4 z5 kz5 z6 kz6 z7 kz7 z8 kz8
      have r5 := sets9_row Q9.out.res (.int .i64 0) (.int .i64 0) (.int .i64 0) (.int .i64 0) (.int .i64 0) (.int .i64 0) (.int .i64 0) (.string ⟨#[]⟩) (.bool false)
      have f5 := Lib.hid (Q9.out.fin (.int .i64 0) (.int .i64 0) (.int .i64 0) (.int .i64 0) (.int .i64 0) (.int .i64 0) (.int .i64 0) (.string ⟨#[]⟩) (.bool false))
      obtain ⟨W5, hW5⟩ : ∃ z, sets9 w9 w.heap.size (.int .i64 0) (.int .i64 0) (.int .i64 0) (.int .i64 0) (.int .i64 0) (.int .i64 0) (.int .i64 0) (.string ⟨#[]⟩) (.bool false) = z := ⟨_, rfl⟩
      rw [hW5] at r5 f5
      unfold sets9 at hW5
      rw [hW5]
      clear hW5
      obtain ⟨d0, _⟩ := row_cells r5 (j := 0) rfl
      obtain ⟨d1, _⟩ := row_cells r5 (j := 1) rfl
      obtain ⟨d2, _⟩ := row_cells r5 (j := 2) rfl
      obtain ⟨d3, _⟩ := row_cells r5 (j := 3) rfl
      obtain ⟨d4, _⟩ := row_cells r5 (j := 4) rfl
      obtain ⟨d5, _⟩ := row_cells r5 (j := 5) rfl
      obtain ⟨d6, _⟩ := row_cells r5 (j := 6) rfl
      obtain ⟨d7, _⟩ := row_cells r5 (j := 7) rfl
      obtain ⟨d8, _⟩ := row_cells r5 (j := 8) rfl
      refine bodyPost_ret (by simp [results, Tryd.results65, go_sem, d0, d1, d2, d3, d4, d5, d6, d7, d8]; try rfl) rfl ?_
      rw [E.out]
      exact ⟨rfl, f5.out⟩
  · have q1 := eqbF _ _ hb
    have q2 := nebT _ _ hb
    have E := Lib.hid (show OO = (O0, s6) from by
      have e : SS = s6 := ESS.out.trans (by
        cases rb with
        | true => rfl
        | false => show s6.fail 2 = s6; unfold St.fail; rw [if_pos (.inl hb)])
      rw [EOO.out, e, if_pos hb])
    clear hb d0 d1 d2 d3 d4 d5 d6 d7 d8
    obtain ⟨z0, kz0⟩ := row_cells Q7.out.res (j := 0) rfl
    obtain ⟨z1, kz1⟩ := row_cells Q7.out.res (j := 1) rfl
    obtain ⟨z2, kz2⟩ := row_cells Q7.out.res (j := 2) rfl
    obtain ⟨z3, kz3⟩ := row_cells Q7.out.res (j := 3) rfl
    obtain ⟨z4, kz4⟩ := row_cells Q7.out.res (j := 4) rfl
    obtain ⟨z5, kz5⟩ := row_cells Q7.out.res (j := 5) rfl
    obtain ⟨z6, kz6⟩ := row_cells Q7.out.res (j := 6) rfl
    obtain ⟨z7, kz7⟩ := row_cells Q7.out.res (j := 7) rfl
    obtain ⟨z8, kz8⟩ := row_cells Q7.out.res (j := 8) rfl
    go_wp2
    clear c2 f2
    clear z0 kz0 z1 kz1 z2 kz2 z3 kz3 z4 kz4 z5 kz5 z6 kz6 z7 kz7 z8 kz8
    have r5 := sets9_row Q7.out.res (.int .i64 0) (.int .i64 0) (.int .i64 0) (.int .i64 0) (.int .i64 0) (.int .i64 0) (.int .i64 0) (.string ⟨#[]⟩) (.bool false)
    have f5 := Lib.hid (Q7.out.fin (.int .i64 0) (.int .i64 0) (.int .i64 0) (.int .i64 0) (.int .i64 0) (.int .i64 0) (.int .i64 0) (.string ⟨#[]⟩) (.bool false))
    obtain ⟨W5, hW5⟩ : ∃ z, sets9 w7 w.heap.size (.int .i64 0) (.int .i64 0) (.int .i64 0) (.int .i64 0) (.int .i64 0) (.int .i64 0) (.int .i64 0) (.string ⟨#[]⟩) (.bool false) = z := ⟨_, rfl⟩
    rw [hW5] at r5 f5
    unfold sets9 at hW5
    rw [hW5]
    clear hW5
    obtain ⟨d0, _⟩ := row_cells r5 (j := 0) rfl
    obtain ⟨d1, _⟩ := row_cells r5 (j := 1) rfl
    obtain ⟨d2, _⟩ := row_cells r5 (j := 2) rfl
    obtain ⟨d3, _⟩ := row_cells r5 (j := 3) rfl
    obtain ⟨d4, _⟩ := row_cells r5 (j := 4) rfl
    obtain ⟨d5, _⟩ := row_cells r5 (j := 5) rfl
    obtain ⟨d6, _⟩ := row_cells r5 (j := 6) rfl
    obtain ⟨d7, _⟩ := row_cells r5 (j := 7) rfl
    obtain ⟨d8, _⟩ := row_cells r5 (j := 8) rfl
    refine bodyPost_ret (by simp [results, Tryd.results65, go_sem, d0, d1, d2, d3, d4, d5, d6, d7, d8]; try rfl) rfl ?_
    rw [E.out]
    exact ⟨rfl, f5.out⟩
end Go.Proofs.YtifeakmbeaflgaaDoor
