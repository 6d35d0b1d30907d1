/- The reference's disk: Do, its short ways. Made by genrz10.py. -/
import Derived.Test.YtoddofcmdbifpaaRX
import Derived.Test.YtoddofcmdbifpaaRM
set_option linter.unusedVariables false
set_option linter.unusedSimpArgs false
set_option maxRecDepth 100000
namespace Go.Proofs.Ytoddofcmdbifpaa
open Go.RowKit Go.WideMaps Go.Maps

structure D0 (w W : World) (v : Value) (room lasts : Int) (dn : Bool) : Prop where
  g6 : RB W w.heap.size v room lasts dn
  g12 : RB W (w.heap.size + 1) (.slice none 0 0) 0 0 false
  bel : Below w.heap.size w W
theorem D0.step {w W W' : World} {v : Value} {room lasts : Int} {dn : Bool} (h : D0 w W v room lasts dn) (hb : Below W.heap.size W W') : D0 w W' v room lasts dn :=
  ⟨h.g6.step hb, h.g12.step hb, h.bel.trans (hb.mono h.bel.size)⟩
theorem D0.start (w : World) (v : Value) (room lasts : Int) (dn : Bool) : D0 w ((w.alloc (.cells #[v, .int .i64 room, .int .i64 lasts, .bool dn] 29)).alloc (.cells #[.slice none 0 0, .int .i64 0, .int .i64 0, .bool false] 29)) v room lasts dn := by
  have B1 := vstep w (.cells #[v, .int .i64 room, .int .i64 lasts, .bool dn] 29)
  have B2 := vstep (w.alloc (.cells #[v, .int .i64 room, .int .i64 lasts, .bool dn] 29)) (.cells #[.slice none 0 0, .int .i64 0, .int .i64 0, .bool false] 29)
  refine ⟨(RB.new w v room lasts dn).step B2, ?_, B1.trans (B2.mono B1.size)⟩
  have := RB.new (w.alloc (.cells #[v, .int .i64 room, .int .i64 lasts, .bool dn] 29)) (.slice none 0 0) 0 0 false
  rwa [World.size_alloc] at this
theorem D0.big {w W : World} {v : Value} {room lasts : Int} {dn : Bool} (h : D0 w W v room lasts dn) : w.heap.size + 2 ≤ W.heap.size := by have := lt_of_block h.g12; omega
/-- What a call of the reference's hands back: its list, and where it lies. -/
structure RN (w w' : World) (l : List Fl) (u : Value) (l' : List Fl) : Prop where
  rd : RD w' u l'
  top : l' ≠ [] → ∀ j, u.ownBlock = some j → w.heap.size ≤ j
  el : ∀ x ∈ l', (∃ y ∈ l, (x.b ≠ [] → y.b ≠ []) ∧ x.v.ownBlock = y.v.ownBlock) ∨ (x.b ≠ [] → ∀ j, x.v.ownBlock = some j → w.heap.size ≤ j)
/-- A list that with made, in memory. -/
theorem rd_ins {w W : World} {v u : Value} {l : List Fl} {f : Fl} (h : RD w v l) (hb : Below w.heap.size w W) (nm : ByteArray) (ho : LiesK encR 3 W u (ins f (dropF l nm))) (hf : LiesK encB 1 W (.slice f.a f.b.length f.c) f.b) : RD W u (ins f (dropF l nm)) := by
  refine ⟨ho, fun x hx => ?_⟩
  rcases List.mem_cons.1 ((ins_perm f _).mem_iff.1 hx) with rfl | hx
  · exact hf
  · exact (h.2 x (List.mem_filter.1 hx).1).step hb
theorem rd_drop {w W : World} {v u : Value} {l : List Fl} (h : RD w v l) (hb : Below w.heap.size w W) (nm : ByteArray) (ho : LiesK encR 3 W u (dropF l nm)) : RD W u (dropF l nm) :=
  ⟨ho, fun x hx => (h.2 x (List.mem_filter.1 hx).1).step hb⟩
theorem rd_ins2 {w W : World} {v u : Value} {l : List Fl} {f : Fl} (h : RD w v l) (hb : Below w.heap.size w W) (nm nt : ByteArray) (ho : LiesK encR 3 W u (ins f (dropF (dropF l nm) nt))) (hf : LiesK encB 1 W (.slice f.a f.b.length f.c) f.b) : RD W u (ins f (dropF (dropF l nm) nt)) := by
  refine ⟨ho, fun x hx => ?_⟩
  rcases List.mem_cons.1 ((ins_perm f _).mem_iff.1 hx) with rfl | hx
  · exact hf
  · exact (h.2 x (List.mem_filter.1 (List.mem_filter.1 hx).1).1).step hb
theorem rn_ins {w W : World} {v u : Value} {l : List Fl} {f : Fl} {E e : Nat} (h : RD w v l) (hb : Below w.heap.size w W) (nm : ByteArray) (ho : W.ownsRow E e 3 u (ins f (dropF l nm)).length ((ins f (dropF l nm)).flatMap encR)) (hE : w.heap.size ≤ E) (hf : LiesK encB 1 W (.slice f.a f.b.length f.c) f.b)
    (hf2 : f.b ≠ [] → ∀ j, (Value.slice f.a f.b.length f.c).ownBlock = some j → w.heap.size ≤ j) : RN w W l u (ins f (dropF l nm)) :=
  ⟨rd_ins h hb nm (own_liesK encR_len ho) hf, fun _ j q => Nat.le_trans hE (ho.lt j q).1, fun x hx => by
    rcases List.mem_cons.1 ((ins_perm f _).mem_iff.1 hx) with rfl | hx
    · exact .inr hf2
    · exact .inl ⟨x, (List.mem_filter.1 hx).1, fun q => q, rfl⟩⟩
theorem rn_ins2 {w W : World} {v u : Value} {l : List Fl} {f : Fl} {E e : Nat} (h : RD w v l) (hb : Below w.heap.size w W) (nm nt : ByteArray) (ho : W.ownsRow E e 3 u (ins f (dropF (dropF l nm) nt)).length ((ins f (dropF (dropF l nm) nt)).flatMap encR)) (hE : w.heap.size ≤ E) (hf : LiesK encB 1 W (.slice f.a f.b.length f.c) f.b)
    (hf2 : f.b ≠ [] → ∀ j, (Value.slice f.a f.b.length f.c).ownBlock = some j → w.heap.size ≤ j) : RN w W l u (ins f (dropF (dropF l nm) nt)) :=
  ⟨rd_ins2 h hb nm nt (own_liesK encR_len ho) hf, fun _ j q => Nat.le_trans hE (ho.lt j q).1, fun x hx => by
    rcases List.mem_cons.1 ((ins_perm f _).mem_iff.1 hx) with rfl | hx
    · exact .inr hf2
    · exact .inl ⟨x, (List.mem_filter.1 (List.mem_filter.1 hx).1).1, fun q => q, rfl⟩⟩
theorem rn_drop {w W : World} {v u : Value} {l : List Fl} {E e : Nat} (h : RD w v l) (hb : Below w.heap.size w W) (nm : ByteArray) (ho : W.ownsRow E e 3 u (dropF l nm).length ((dropF l nm).flatMap encR)) (hE : w.heap.size ≤ E) : RN w W l u (dropF l nm) :=
  ⟨rd_drop h hb nm (own_liesK encR_len ho), fun _ j q => Nat.le_trans hE (ho.lt j q).1, fun x hx => .inl ⟨x, (List.mem_filter.1 hx).1, fun q => q, rfl⟩⟩
theorem own_set4 {W : World} {E e k n b : Nat} {u x y z t : Value} {xs : List Value} (h : W.ownsRow E e k u n xs) (hb : b < E) : (sets4 W b x y z t).ownsRow E e k u n xs := by
  unfold sets4
  exact ownsRow_setCell_below (ownsRow_setCell_below (ownsRow_setCell_below (ownsRow_setCell_below h hb _) hb _) hb _) hb _
set_option maxHeartbeats 3200000 in
theorem do_dn (w : World) (v : Value) (l : List Fl) (room lasts : Int) (h : RD w v l) (hl : l.length < 80000) (nm nt : ByteArray) (bv : Value) (n : Int) (kd : Int) :
    Calls Try.prog 29 #[rdv v room lasts true, .int .i64 kd, .string nm, bv, .int .i64 n, .string nt] w fun e w' => e = .returned (.tuple #[rdv v room lasts true, .int .i64 12]) ∧ Below w.heap.size w w' := by
  obtain ⟨ao, cap, rfl⟩ := h.1.shape
  have H := Lib.hid h
  have S0 := D0.start w (.slice ao l.length cap) room lasts true
  obtain ⟨W0, hW0⟩ : ∃ y, (w.alloc (.cells #[.slice ao l.length cap, .int .i64 room, .int .i64 lasts, .bool true] 29)).alloc (.cells #[.slice none 0 0, .int .i64 0, .int .i64 0, .bool false] 29) = y := ⟨_, rfl⟩
  rw [hW0] at S0
  have HW := Lib.hid hW0
  have K0 := Lib.hid S0
  have hlm := h.1.len
  clear h S0 hW0
  go_enter Try.func29, Try.ntmps29
  go_upto_region 1 with (fail)
  rw [HW.out]
  obtain ⟨c0, c1, c2, c3⟩ := K0.out.g6.cells
  obtain ⟨e0, e1, e2, e3⟩ := K0.out.g12.cells
  obtain ⟨f0, f1, f2, f3⟩ := K0.out.g12.free
  go_wp2
  clear c0 c1 c2 c3 e0 e1 e2 e3 f0 f1 f2 f3
  obtain ⟨w5, hW5⟩ : ∃ w5, sets4 W0 (w.heap.size + 1) (.slice ao l.length cap) (.int .i64 room) (.int .i64 lasts) (.bool true) = w5 := ⟨_, rfl⟩
  have hb5 := sets4_row (x' := .slice ao l.length cap) (y' := room) (z' := lasts) (v' := true) K0.out.g12
  have hw5 := sets4_below (x := .slice ao l.length cap) (y := .int .i64 room) (z := .int .i64 lasts) (v := .bool true) K0.out.bel (show w.heap.size ≤ w.heap.size + 1 by omega)
  rw [hW5] at hb5 hw5
  unfold sets4 at hW5
  rw [hW5]
  clear hW5
  obtain ⟨d0, d1, d2, d3⟩ := RB.cells (show RB w5 (w.heap.size + 1) (.slice ao l.length cap) room lasts true from hb5)
  refine bodyPost_ret (by simp [results, Try.results29, go_sem, d0, d1, d2, d3]; try rfl) rfl ?_
  exact ⟨rfl, hw5⟩
set_option maxHeartbeats 3200000 in
theorem do_has (w : World) (v : Value) (l : List Fl) (room lasts : Int) (h : RD w v l) (hl : l.length < 80000) (nm nt : ByteArray) (bv : Value) (n : Int) (i : Nat) (hat : atF l nm = (i : Int)) :
    Calls Try.prog 29 #[rdv v room lasts false, .int .i64 0, .string nm, bv, .int .i64 n, .string nt] w fun e w' => e = .returned (.tuple #[rdv v room lasts false, .int .i64 9]) ∧ Below w.heap.size w w' := by
  obtain ⟨ao, cap, rfl⟩ := h.1.shape
  have H := Lib.hid h
  have S0 := D0.start w (.slice ao l.length cap) room lasts false
  obtain ⟨W0, hW0⟩ : ∃ y, (w.alloc (.cells #[.slice ao l.length cap, .int .i64 room, .int .i64 lasts, .bool false] 29)).alloc (.cells #[.slice none 0 0, .int .i64 0, .int .i64 0, .bool false] 29) = y := ⟨_, rfl⟩
  rw [hW0] at S0
  have HW := Lib.hid hW0
  have K0 := Lib.hid S0
  have AT := Lib.hid (rat_any W0 (.slice ao l.length cap) l room lasts false (h.step S0.bel) nm (by omega))
  rw [hat] at AT
  have hlm := h.1.len
  clear h S0 hW0
  go_enter Try.func29, Try.ntmps29
  go_upto_region 1 with (fail)
  rw [HW.out]
  obtain ⟨c0, c1, c2, c3⟩ := K0.out.g6.cells
  go_wp2_with fail
  refine AT.out.mono ?_
  rintro e w1 ⟨rfl, hb⟩
  have K1 := Lib.hid (K0.out.step hb)
  clear hb c0 c1 c2 c3 AT
  obtain ⟨c0, c1, c2, c3⟩ := K1.out.g6.cells
  obtain ⟨e0, e1, e2, e3⟩ := K1.out.g12.cells
  obtain ⟨f0, f1, f2, f3⟩ := K1.out.g12.free
  go_wp2
  clear c0 c1 c2 c3 e0 e1 e2 e3 f0 f1 f2 f3
  obtain ⟨w5, hW5⟩ : ∃ w5, sets4 w1 (w.heap.size + 1) (.slice ao l.length cap) (.int .i64 room) (.int .i64 lasts) (.bool false) = w5 := ⟨_, rfl⟩
  have hb5 := sets4_row (x' := .slice ao l.length cap) (y' := room) (z' := lasts) (v' := false) K1.out.g12
  have hw5 := sets4_below (x := .slice ao l.length cap) (y := .int .i64 room) (z := .int .i64 lasts) (v := .bool false) K1.out.bel (show w.heap.size ≤ w.heap.size + 1 by omega)
  rw [hW5] at hb5 hw5
  unfold sets4 at hW5
  rw [hW5]
  clear hW5
  obtain ⟨d0, d1, d2, d3⟩ := RB.cells (show RB w5 (w.heap.size + 1) (.slice ao l.length cap) room lasts false from hb5)
  refine bodyPost_ret (by simp [results, Try.results29, go_sem, d0, d1, d2, d3]; try rfl) rfl ?_
  exact ⟨rfl, hw5⟩
set_option maxHeartbeats 3200000 in
theorem do_none (w : World) (v : Value) (l : List Fl) (room lasts : Int) (h : RD w v l) (hl : l.length < 80000) (nm nt : ByteArray) (bv : Value) (n : Int) (kd : Int) (hk : kd ≠ 0) (hat : atF l nm = -1) :
    Calls Try.prog 29 #[rdv v room lasts false, .int .i64 kd, .string nm, bv, .int .i64 n, .string nt] w fun e w' => e = .returned (.tuple #[rdv v room lasts false, .int .i64 8]) ∧ Below w.heap.size w w' := by
  obtain ⟨ao, cap, rfl⟩ := h.1.shape
  have H := Lib.hid h
  have S0 := D0.start w (.slice ao l.length cap) room lasts false
  obtain ⟨W0, hW0⟩ : ∃ y, (w.alloc (.cells #[.slice ao l.length cap, .int .i64 room, .int .i64 lasts, .bool false] 29)).alloc (.cells #[.slice none 0 0, .int .i64 0, .int .i64 0, .bool false] 29) = y := ⟨_, rfl⟩
  rw [hW0] at S0
  have HW := Lib.hid hW0
  have K0 := Lib.hid S0
  have AT := Lib.hid (rat_any W0 (.slice ao l.length cap) l room lasts false (h.step S0.bel) nm (by omega))
  rw [hat] at AT
  have hlm := h.1.len
  clear h S0 hW0
  go_enter Try.func29, Try.ntmps29
  go_upto_region 1 with (fail)
  rw [HW.out]
  obtain ⟨c0, c1, c2, c3⟩ := K0.out.g6.cells
  go_wp2_with fail
  refine AT.out.mono ?_
  rintro e w1 ⟨rfl, hb⟩
  have K1 := Lib.hid (K0.out.step hb)
  clear hb c0 c1 c2 c3 AT
  have hk0 : (kd == 0) = false := by simpa using hk
  obtain ⟨c0, c1, c2, c3⟩ := K1.out.g6.cells
  obtain ⟨e0, e1, e2, e3⟩ := K1.out.g12.cells
  obtain ⟨f0, f1, f2, f3⟩ := K1.out.g12.free
  go_wp2
  clear c0 c1 c2 c3 e0 e1 e2 e3 f0 f1 f2 f3
  obtain ⟨w5, hW5⟩ : ∃ w5, sets4 w1 (w.heap.size + 1) (.slice ao l.length cap) (.int .i64 room) (.int .i64 lasts) (.bool false) = w5 := ⟨_, rfl⟩
  have hb5 := sets4_row (x' := .slice ao l.length cap) (y' := room) (z' := lasts) (v' := false) K1.out.g12
  have hw5 := sets4_below (x := .slice ao l.length cap) (y := .int .i64 room) (z := .int .i64 lasts) (v := .bool false) K1.out.bel (show w.heap.size ≤ w.heap.size + 1 by omega)
  rw [hW5] at hb5 hw5
  unfold sets4 at hW5
  rw [hW5]
  clear hW5
  obtain ⟨d0, d1, d2, d3⟩ := RB.cells (show RB w5 (w.heap.size + 1) (.slice ao l.length cap) room lasts false from hb5)
  refine bodyPost_ret (by simp [results, Try.results29, go_sem, d0, d1, d2, d3]; try rfl) rfl ?_
  exact ⟨rfl, hw5⟩
set_option maxHeartbeats 3200000 in
theorem do_cstop (w : World) (v : Value) (l : List Fl) (room lasts : Int) (h : RD w v l) (hl : l.length < 80000) (nm nt : ByteArray) (bv : Value) (n : Int) (hat : atF l nm = -1) (hla : lasts ≤ 9223372036854775807) (l2 : Int) (d2 : Bool) (hr : rst lasts false = (l2, d2, false)) :
    Calls Try.prog 29 #[rdv v room lasts false, .int .i64 0, .string nm, bv, .int .i64 n, .string nt] w fun e w' => e = .returned (.tuple #[rdv v room l2 d2, .int .i64 12]) ∧ Below w.heap.size w w' := by
  obtain ⟨ao, cap, rfl⟩ := h.1.shape
  have H := Lib.hid h
  have S0 := D0.start w (.slice ao l.length cap) room lasts false
  obtain ⟨W0, hW0⟩ : ∃ y, (w.alloc (.cells #[.slice ao l.length cap, .int .i64 room, .int .i64 lasts, .bool false] 29)).alloc (.cells #[.slice none 0 0, .int .i64 0, .int .i64 0, .bool false] 29) = y := ⟨_, rfl⟩
  rw [hW0] at S0
  have HW := Lib.hid hW0
  have K0 := Lib.hid S0
  have AT := Lib.hid (rat_any W0 (.slice ao l.length cap) l room lasts false (h.step S0.bel) nm (by omega))
  rw [hat] at AT
  have hlm := h.1.len
  clear h S0 hW0
  go_enter Try.func29, Try.ntmps29
  go_upto_region 1 with (fail)
  rw [HW.out]
  obtain ⟨c0, c1, c2, c3⟩ := K0.out.g6.cells
  go_wp2_with fail
  refine AT.out.mono ?_
  rintro e w1 ⟨rfl, hb⟩
  have K1 := Lib.hid (K0.out.step hb)
  clear hb c0 c1 c2 c3 AT
  have ST := Lib.hid (rstep_any w1 ao l.length cap room lasts false hla)
  rw [hr] at ST
  obtain ⟨c0, c1, c2, c3⟩ := K1.out.g6.cells
  go_wp2_with fail
  refine ST.out.mono ?_
  rintro e w2 ⟨rfl, hb⟩
  have K2 := Lib.hid (K1.out.step hb)
  clear hb c0 c1 c2 c3 ST
  have VB := vstep w2 (.cells #[.slice ao l.length cap, .int .i64 room, .int .i64 l2, .bool d2] 29)
  have K3 := Lib.hid (K2.out.step VB)
  have BX := Lib.hid (RB.new w2 (.slice ao l.length cap) room l2 d2)
  go_upto_region 8 with (fail)
  obtain ⟨W3, hW3⟩ : ∃ y, w2.alloc (.cells #[.slice ao l.length cap, .int .i64 room, .int .i64 l2, .bool d2] 29) = y := ⟨_, rfl⟩
  rw [hW3] at K3 BX VB ⊢
  obtain ⟨kBX, hkBX⟩ : ∃ z, w2.heap.size = z := ⟨_, rfl⟩
  rw [hkBX] at BX ⊢
  clear hW3 hkBX VB
  obtain ⟨c0, c1, c2, c3⟩ := BX.out.cells
  obtain ⟨e0, e1, e2, e3⟩ := K3.out.g12.cells
  obtain ⟨f0, f1, f2, f3⟩ := K3.out.g12.free
  go_wp2
  clear c0 c1 c2 c3 e0 e1 e2 e3 f0 f1 f2 f3
  obtain ⟨w5, hW5⟩ : ∃ w5, sets4 W3 (w.heap.size + 1) (.slice ao l.length cap) (.int .i64 room) (.int .i64 l2) (.bool d2) = w5 := ⟨_, rfl⟩
  have hb5 := sets4_row (x' := .slice ao l.length cap) (y' := room) (z' := l2) (v' := d2) K3.out.g12
  have hw5 := sets4_below (x := .slice ao l.length cap) (y := .int .i64 room) (z := .int .i64 l2) (v := .bool d2) K3.out.bel (show w.heap.size ≤ w.heap.size + 1 by omega)
  rw [hW5] at hb5 hw5
  unfold sets4 at hW5
  rw [hW5]
  clear hW5
  obtain ⟨d0, d1, d2, d3⟩ := RB.cells (show RB w5 (w.heap.size + 1) (.slice ao l.length cap) room l2 d2 from hb5)
  refine bodyPost_ret (by simp [results, Try.results29, go_sem, d0, d1, d2, d3]; try rfl) rfl ?_
  exact ⟨rfl, hw5⟩
set_option maxHeartbeats 3200000 in
theorem do_create (w : World) (v : Value) (l : List Fl) (room lasts : Int) (h : RD w v l) (hl : l.length < 80000) (nm nt : ByteArray) (bv : Value) (n : Int) (hat : atF l nm = -1) (hla : lasts ≤ 9223372036854775807) (l2 : Int) (d2 : Bool) (hr : rst lasts false = (l2, d2, true)) :
    Calls Try.prog 29 #[rdv v room lasts false, .int .i64 0, .string nm, bv, .int .i64 n, .string nt] w fun e w' => ∃ u, e = .returned (.tuple #[rdv u room l2 d2, .int .i64 0]) ∧ RN w w' l u (ins (zf nm) (dropF l nm)) ∧ Below w.heap.size w w' := by
  obtain ⟨ao, cap, rfl⟩ := h.1.shape
  have H := Lib.hid h
  have S0 := D0.start w (.slice ao l.length cap) room lasts false
  obtain ⟨W0, hW0⟩ : ∃ y, (w.alloc (.cells #[.slice ao l.length cap, .int .i64 room, .int .i64 lasts, .bool false] 29)).alloc (.cells #[.slice none 0 0, .int .i64 0, .int .i64 0, .bool false] 29) = y := ⟨_, rfl⟩
  rw [hW0] at S0
  have HW := Lib.hid hW0
  have K0 := Lib.hid S0
  have AT := Lib.hid (rat_any W0 (.slice ao l.length cap) l room lasts false (h.step S0.bel) nm (by omega))
  rw [hat] at AT
  have hlm := h.1.len
  clear h S0 hW0
  go_enter Try.func29, Try.ntmps29
  go_upto_region 1 with (fail)
  rw [HW.out]
  obtain ⟨c0, c1, c2, c3⟩ := K0.out.g6.cells
  go_wp2_with fail
  refine AT.out.mono ?_
  rintro e w1 ⟨rfl, hb⟩
  have K1 := Lib.hid (K0.out.step hb)
  clear hb c0 c1 c2 c3 AT
  have ST := Lib.hid (rstep_any w1 ao l.length cap room lasts false hla)
  rw [hr] at ST
  obtain ⟨c0, c1, c2, c3⟩ := K1.out.g6.cells
  go_wp2_with fail
  refine ST.out.mono ?_
  rintro e w2 ⟨rfl, hb⟩
  have K2 := Lib.hid (K1.out.step hb)
  clear hb c0 c1 c2 c3 ST
  have VB := vstep w2 (.cells #[.slice ao l.length cap, .int .i64 room, .int .i64 l2, .bool d2] 29)
  have K3 := Lib.hid (K2.out.step VB)
  have BX := Lib.hid (RB.new w2 (.slice ao l.length cap) room l2 d2)
  go_upto_region 8 with (fail)
  obtain ⟨W3, hW3⟩ : ∃ y, w2.alloc (.cells #[.slice ao l.length cap, .int .i64 room, .int .i64 l2, .bool d2] 29) = y := ⟨_, rfl⟩
  rw [hW3] at K3 BX VB ⊢
  obtain ⟨kBX, hkBX⟩ : ∃ z, w2.heap.size = z := ⟨_, rfl⟩
  rw [hkBX] at BX ⊢
  clear hW3 hkBX VB
  obtain ⟨c0, c1, c2, c3⟩ := BX.out.cells
  have WI := Lib.hid (with_any W3 (.slice ao l.length cap) l room l2 d2 (H.out.step K3.out.bel) (zf nm) (by omega))
  go_wp2_with fail
  refine WI.out.mono ?_
  rintro e w4 ⟨u, rfl, ho, hb⟩
  have K4 := Lib.hid (K3.out.step hb)
  have HO := Lib.hid ho
  have HB := Lib.hid hb
  obtain ⟨ua, uc, rfl⟩ := own_shapeK ho
  clear ho hb WI
  clear c0 c1 c2 c3
  obtain ⟨e0, e1, e2, e3⟩ := K4.out.g12.cells
  obtain ⟨f0, f1, f2, f3⟩ := K4.out.g12.free
  obtain ⟨ml, hml⟩ : ∃ ml, ins (zf nm) (dropF l nm) = ml := ⟨_, rfl⟩
  simp only [hml] at HO HB ⊢
  have HML := Lib.hid hml
  clear hml
  go_wp2
  clear e0 e1 e2 e3 f0 f1 f2 f3
  obtain ⟨w5, hW5⟩ : ∃ w5, sets4 w4 (w.heap.size + 1) (.slice ua ml.length uc) (.int .i64 room) (.int .i64 l2) (.bool d2) = w5 := ⟨_, rfl⟩
  have hb5 := sets4_row (x' := .slice ua ml.length uc) (y' := room) (z' := l2) (v' := d2) K4.out.g12
  have hw5 := sets4_below (x := .slice ua ml.length uc) (y := .int .i64 room) (z := .int .i64 l2) (v := .bool d2) K4.out.bel (show w.heap.size ≤ w.heap.size + 1 by omega)
  have ho1 := own_set4 (b := w.heap.size + 1) (x := .slice ua ml.length uc) (y := .int .i64 room) (z := .int .i64 l2) (t := .bool d2) HO.out (by have := K3.out.big; omega)
  rw [hW5] at hb5 hw5 ho1
  unfold sets4 at hW5
  rw [hW5]
  clear hW5
  obtain ⟨d0, d1, d2, d3⟩ := RB.cells (show RB w5 (w.heap.size + 1) (.slice ua ml.length uc) room l2 d2 from hb5)
  refine bodyPost_ret (by simp [results, Try.results29, go_sem, d0, d1, d2, d3]; try rfl) rfl ?_
  refine ⟨_, rfl, ?_, hw5⟩
  rw [← HML.out] at ho1 ⊢
  exact rn_ins H.out hw5 nm ho1 (by have := K3.out.big; omega) (LiesK.nil _) (fun q => absurd rfl q)
end Go.Proofs.Ytoddofcmdbifpaa
