/- Merged by tools/merge.py: UA, UB, UC, UD, UE, UF. -/
import Derived.Test.YtkmeceoilighiaaMT
import Derived.Deep.RegionHeld3
import Derived.MapKept
import Derived.Lib.SlicesS

set_option linter.unusedVariables false
set_option maxRecDepth 100000
namespace Go.Proofs.Ytkmeceoilighiaa.Tb
open Go.RowKit Go.WideMaps Go.Maps

def Dead (w : World) (u : Value) : Prop := u = .pointer none ∨ ∃ z, u = .pointer (some ⟨z, 0, none⟩) ∧ w.heap[z]? = some (.cells #[.map none] 106 (0, 0))
theorem Dead.step {w w' : World} {u : Value} (h : Dead w u) (hb : Below w.heap.size w w') : Dead w' u := by
  rcases h with h | ⟨z, h1, h2⟩
  · exact .inl h
  · exact .inr ⟨z, h1, (hb.block z (lt_of_block h2)).trans h2⟩
theorem made_dead (w : World) (u : Value) (h : Dead w u) : Calls Try.prog 58 #[u] w fun e w' => e = .returned (.bool false) ∧ w = w' := by
  rcases h with rfl | ⟨z, rfl, h2⟩
  · exact made_nil w
  · exact made_zero w z (cell_of_one h2)
theorem len_dead (w : World) (u : Value) (h : Dead w u) : Calls Try.prog 40 #[u] w fun e w' => e = .returned (.int .i64 0) ∧ Below w.heap.size w w' := by
  have M := Lib.hid (made_dead w u h)
  clear h
  go_enter Try.func40, Try.ntmps40
  go_wp2_with fail
  refine M.out.mono ?_
  rintro e w1 ⟨rfl, rfl⟩
  go_wp2
  go_returns
  exact ⟨rfl, Below.refl _ _⟩
theorem nodes_dead (w : World) (u : Value) (h : Dead w u) : Calls Try.prog 34 #[u] w fun e w' => e = .returned (.slice none 0 0) ∧ Below w.heap.size w w' := by
  have M := Lib.hid (made_dead w u h)
  clear h
  go_enter Try.func34, Try.ntmps34
  go_wp2_with fail
  refine M.out.mono ?_
  rintro e w1 ⟨rfl, rfl⟩
  go_wp2
  go_returns
  exact ⟨rfl, Below.refl _ _⟩
theorem kids_dead (w : World) (u : Value) (h : Dead w u) (t r : Int) : Calls Try.prog 54 #[u, .agg #[.int .i64 t, .int .i64 r]] w fun e w' => e = .returned (.slice none 0 0) ∧ Below w.heap.size w w' := by
  have B1 := vstep w (.cells #[.int .i64 t, .int .i64 r] 24)
  have D := Lib.hid (h.step B1)
  obtain ⟨W0, hW0⟩ : ∃ y, w.alloc (.cells #[.int .i64 t, .int .i64 r] 24) = y := ⟨_, rfl⟩
  rw [hW0] at D B1
  have B := Lib.hid B1
  have HW := Lib.hid hW0
  have M := Lib.hid (made_dead W0 u D.out)
  clear B1 hW0 h
  go_enter Try.func54, Try.ntmps54
  go_upto_region 1 with (fail)
  rw [HW.out]
  go_wp2_with fail
  refine M.out.mono ?_
  rintro e w1 ⟨rfl, rfl⟩
  go_wp2
  go_returns
  exact ⟨rfl, B.out⟩
set_option maxHeartbeats 800000 in
theorem set_dead (w : World) (u : Value) (h : Dead w u) (t r pt pr : Int) (nm : ByteArray) (d : Bool) :
    Calls Try.prog 71 #[u, .agg #[.int .i64 t, .int .i64 r], .agg #[.int .i64 pt, .int .i64 pr, .string nm, .bool d]] w fun e w' => e = .returned (.int .i64 1) ∧ Below w.heap.size w w' := by
  have B1 := vstep w (.cells #[.int .i64 t, .int .i64 r] 24)
  have B2 := vstep (w.alloc (.cells #[.int .i64 t, .int .i64 r] 24)) (.cells #[.int .i64 pt, .int .i64 pr, .string nm, .bool d] 69)
  have D := Lib.hid ((h.step B1).step B2)
  have B := Lib.hid (B1.trans (B2.mono B1.size))
  obtain ⟨W0, hW0⟩ : ∃ y, (w.alloc (.cells #[.int .i64 t, .int .i64 r] 24)).alloc (.cells #[.int .i64 pt, .int .i64 pr, .string nm, .bool d] 69) = y := ⟨_, rfl⟩
  rw [hW0] at D B
  have HW := Lib.hid hW0
  have M := Lib.hid (made_dead W0 u D.out)
  clear B1 B2 hW0 h
  go_enter Try.func71, Try.ntmps71
  go_upto_region 1 with (fail)
  rw [HW.out]
  go_wp2_with fail
  refine M.out.mono ?_
  rintro e w1 ⟨rfl, rfl⟩
  go_wp2
  go_returns
  exact ⟨rfl, B.out⟩
set_option maxHeartbeats 1600000 in
theorem get_dead (w : World) (u : Value) (h : Dead w u) (t r : Int) :
    Calls Try.prog 56 #[u, .agg #[.int .i64 t, .int .i64 r]] w fun e w' => e = .returned (.tuple #[.agg #[.int .i64 0, .int .i64 0, .string ⟨#[]⟩, .bool false], .bool false]) ∧ Below w.heap.size w w' := by
  have B1 := vstep w (.cells #[.int .i64 t, .int .i64 r] 24)
  have B2 := vstep (w.alloc (.cells #[.int .i64 t, .int .i64 r] 24)) (.cells #[.int .i64 0, .int .i64 0, .string ⟨#[]⟩, .bool false] 69)
  have D := Lib.hid ((h.step B1).step B2)
  have B := Lib.hid (B1.trans (B2.mono B1.size))
  obtain ⟨W0, hW0⟩ : ∃ y, (w.alloc (.cells #[.int .i64 t, .int .i64 r] 24)).alloc (.cells #[.int .i64 0, .int .i64 0, .string ⟨#[]⟩, .bool false] 69) = y := ⟨_, rfl⟩
  rw [hW0] at D B
  have E2 := Lib.hid (show EnAt W0 (w.heap.size + 1) 0 0 ⟨#[]⟩ false from by rw [← hW0]; have := EnAt.new (w.alloc (.cells #[.int .i64 t, .int .i64 r] 24)) 0 0 ⟨#[]⟩ false; rwa [World.size_alloc] at this)
  have HW := Lib.hid hW0
  have M := Lib.hid (made_dead W0 u D.out)
  clear B1 B2 hW0 h
  go_enter Try.func56, Try.ntmps56
  go_upto_region 1 with (fail)
  rw [HW.out]
  go_wp2_with fail
  refine M.out.mono ?_
  rintro e w1 ⟨rfl, rfl⟩
  obtain ⟨e0, e1, e2, e3⟩ := E2.out.cells
  obtain ⟨f0, f1, f2, f3⟩ := E2.out.free
  go_wp2
  obtain ⟨w5, hW5⟩ : ∃ w5, sets4 W0 (w.heap.size + 1) (.int .i64 0) (.int .i64 0) (.string ⟨#[]⟩) (.bool false) = w5 := ⟨_, rfl⟩
  have hb5 := sets4_row (x' := .int .i64 0) (y' := .int .i64 0) (z' := .string ⟨#[]⟩) (v' := .bool false) E2.out
  have hw5 := sets4_below (x := .int .i64 0) (y := .int .i64 0) (z := .string ⟨#[]⟩) (v := .bool false) B.out (show w.heap.size ≤ w.heap.size + 1 by omega)
  rw [hW5] at hb5 hw5
  unfold sets4 at hW5
  rw [hW5]
  clear hW5 e0 e1 e2 e3 f0 f1 f2 f3
  obtain ⟨d0, d1, d2, d3⟩ := EnAt.cells (show EnAt w5 (w.heap.size + 1) 0 0 ⟨#[]⟩ false from hb5)
  refine bodyPost_ret (by simp [results, Try.results56, go_sem, d0, d1, d2, d3]; try rfl) rfl ?_
  exact ⟨rfl, hw5⟩
set_option maxHeartbeats 800000 in
theorem drop_dead (w : World) (u : Value) (h : Dead w u) (t r : Int) : Calls Try.prog 89 #[u, .agg #[.int .i64 t, .int .i64 r]] w fun e w' => e = .returned (.bool false) ∧ Below w.heap.size w w' := by
  have B1 := vstep w (.cells #[.int .i64 t, .int .i64 r] 24)
  have D := Lib.hid (h.step B1)
  have S1 := Lib.hid (StAt.new w t r)
  obtain ⟨W0, hW0⟩ : ∃ y, w.alloc (.cells #[.int .i64 t, .int .i64 r] 24) = y := ⟨_, rfl⟩
  rw [hW0] at D B1 S1
  have B := Lib.hid B1
  have HW := Lib.hid hW0
  have G := Lib.hid (get_dead W0 u D.out t r)
  clear B1 hW0 h
  go_enter Try.func89, Try.ntmps89
  go_upto_region 1 with (fail)
  rw [HW.out]
  obtain ⟨c1, c2⟩ := S1.out.cells
  go_wp2_with fail
  refine G.out.mono ?_
  rintro e w1 ⟨rfl, hb⟩
  have B2 := Lib.hid (B.out.trans (hb.mono B.out.size))
  clear hb c1 c2
  go_wp2
  go_returns
  exact ⟨rfl, B2.out.trans ((vstep w1 _).mono B2.out.size)⟩
set_option maxHeartbeats 800000 in
theorem above_dead (w : World) (u : Value) (h : Dead w u) (a b t r : Int) : Calls Try.prog 35 #[u, .agg #[.int .i64 a, .int .i64 b], .agg #[.int .i64 t, .int .i64 r]] w fun e w' => e = .returned (.bool false) ∧ Below w.heap.size w w' := by
  have B1 := vstep w (.cells #[.int .i64 a, .int .i64 b] 24)
  have B2 := vstep (w.alloc (.cells #[.int .i64 a, .int .i64 b] 24)) (.cells #[.int .i64 t, .int .i64 r] 24)
  have D := Lib.hid ((h.step B1).step B2)
  have B := Lib.hid (B1.trans (B2.mono B1.size))
  obtain ⟨W0, hW0⟩ : ∃ y, (w.alloc (.cells #[.int .i64 a, .int .i64 b] 24)).alloc (.cells #[.int .i64 t, .int .i64 r] 24) = y := ⟨_, rfl⟩
  rw [hW0] at D B
  have HW := Lib.hid hW0
  have M := Lib.hid (len_dead W0 u D.out)
  clear B1 B2 hW0 h
  go_enter Try.func35, Try.ntmps35
  go_upto_region 1 with (fail)
  rw [HW.out]
  go_wp2_with fail
  refine M.out.mono ?_
  rintro e w1 ⟨rfl, hb⟩
  have B3 := Lib.hid (B.out.trans (hb.mono B.out.size))
  clear hb
  go_wp2
  go_loopw [11] (fun kv wr => kv = .int .i64 0 ∧ wr = w1) (fun kv _ => 0)
  case atStart => exact ⟨rfl, rfl⟩
  case round =>
    obtain ⟨rfl, rfl⟩ := hrel
    go_wp2
    go_returns
    exact ⟨rfl, B3.out⟩
set_option maxHeartbeats 800000 in
theorem clone_dead (w : World) (u : Value) (h : Dead w u) : Calls Try.prog 57 #[u] w fun e w' => ∃ p b, e = .returned (.pointer (some ⟨p, 0, none⟩)) ∧ TabI w' p b [] ∧ w.heap.size ≤ p ∧ w.heap.size ≤ b ∧ Below w.heap.size w w' := by
  have N := Lib.hid (new_any w)
  have D := Lib.hid h
  clear h
  go_enter Try.func57, Try.ntmps57
  go_wp2_with fail
  refine N.out.mono ?_
  rintro e w1 ⟨p, b, rfl, h1, h2, h3, h4⟩
  have M := Lib.hid (made_dead w1 u (D.out.step h4))
  have K := Lib.hid (And.intro h1 (And.intro h2 (And.intro h3 h4)))
  clear h1 h2 h3 h4
  go_wp2_with fail
  refine M.out.mono ?_
  rintro e w2 ⟨rfl, rfl⟩
  go_wp2
  go_returns
  exact ⟨p, b, rfl, K.out.1, K.out.2.1, K.out.2.2.1, K.out.2.2.2⟩
end Go.Proofs.Ytkmeceoilighiaa.Tb


set_option linter.unusedVariables false
set_option maxRecDepth 100000
namespace Go.Proofs.Ytkmeceoilighiaa.Tb
open Go.RowKit Go.WideMaps Go.Maps

structure Nob (w W : World) (t r pt pr : Int) (nm : ByteArray) (d : Bool) : Prop where
  bel : Below w.heap.size w W
  st : StAt W w.heap.size t r
  en : EnB 93 W (w.heap.size + 1) pt pr nm d
  z : W.heap[w.heap.size + 2]? = some (.cells #[.map none] 106 (0, 0))
  sl : W.heap[w.heap.size + 3]? = some (.cells #[.pointer none, .pointer (some ⟨w.heap.size + 2, 0, none⟩)] 60 (0, 0))
theorem Nob.step {w W W' : World} {t r pt pr : Int} {nm : ByteArray} {d : Bool} (h : Nob w W t r pt pr nm d) (hb : Below W.heap.size W W') : Nob w W' t r pt pr nm d :=
  ⟨h.bel.trans (hb.mono h.bel.size), h.st.step hb, h.en.step hb, (hb.block _ (lt_of_block h.z)).trans h.z, (hb.block _ (lt_of_block h.sl)).trans h.sl⟩
theorem Nob.new (w : World) (t r pt pr : Int) (nm : ByteArray) (d : Bool) : Nob w ((((w.alloc (.cells #[.int .i64 t, .int .i64 r] 24)).alloc (.cells #[.int .i64 pt, .int .i64 pr, .string nm, .bool d] 93)).alloc (.cells #[.map none] 106)).alloc (.cells #[.pointer none, .pointer (some ⟨w.heap.size + 2, 0, none⟩)] 60)) t r pt pr nm d := by
  have B1 := vstep w (.cells #[.int .i64 t, .int .i64 r] 24)
  have B2 := vstep (w.alloc (.cells #[.int .i64 t, .int .i64 r] 24)) (.cells #[.int .i64 pt, .int .i64 pr, .string nm, .bool d] 93)
  have B3 := vstep ((w.alloc (.cells #[.int .i64 t, .int .i64 r] 24)).alloc (.cells #[.int .i64 pt, .int .i64 pr, .string nm, .bool d] 93)) (.cells #[.map none] 106)
  have B4 := vstep (((w.alloc (.cells #[.int .i64 t, .int .i64 r] 24)).alloc (.cells #[.int .i64 pt, .int .i64 pr, .string nm, .bool d] 93)).alloc (.cells #[.map none] 106)) (.cells #[.pointer none, .pointer (some ⟨w.heap.size + 2, 0, none⟩)] 60)
  have s1 : (w.alloc (.cells #[.int .i64 t, .int .i64 r] 24)).heap.size = w.heap.size + 1 := by simp
  have s2 : ((w.alloc (.cells #[.int .i64 t, .int .i64 r] 24)).alloc (.cells #[.int .i64 pt, .int .i64 pr, .string nm, .bool d] 93)).heap.size = w.heap.size + 2 := by simp
  have s3 : (((w.alloc (.cells #[.int .i64 t, .int .i64 r] 24)).alloc (.cells #[.int .i64 pt, .int .i64 pr, .string nm, .bool d] 93)).alloc (.cells #[.map none] 106)).heap.size = w.heap.size + 3 := by simp
  refine ⟨((B1.trans (B2.mono (by omega))).trans (B3.mono (by omega))).trans (B4.mono (by omega)), (((StAt.new w t r).step B2).step B3).step B4, ?_, ?_, ?_⟩
  · have := heap_alloc_new (w.alloc (.cells #[.int .i64 t, .int .i64 r] 24)) (.cells #[.int .i64 pt, .int .i64 pr, .string nm, .bool d] 93)
    rw [s1] at this
    exact EnB.step (EnB.step this B3) B4
  · have := heap_alloc_new ((w.alloc (.cells #[.int .i64 t, .int .i64 r] 24)).alloc (.cells #[.int .i64 pt, .int .i64 pr, .string nm, .bool d] 93)) (.cells #[.map none] 106)
    rw [s2] at this
    exact (B4.block _ (by omega)).trans this
  · have := heap_alloc_new (((w.alloc (.cells #[.int .i64 t, .int .i64 r] 24)).alloc (.cells #[.int .i64 pt, .int .i64 pr, .string nm, .bool d] 93)).alloc (.cells #[.map none] 106)) (.cells #[.pointer none, .pointer (some ⟨w.heap.size + 2, 0, none⟩)] 60)
    rw [s3] at this
    exact this
theorem Nob.at {w W : World} {t r pt pr : Int} {nm : ByteArray} {d : Bool} (h : Nob w W t r pt pr nm d) {i : Nat} (hi : i < 2) : ∃ u, W.cell? ⟨w.heap.size + 3, i, none⟩ = some u ∧ Dead W u := by
  obtain rfl | rfl : i = 0 ∨ i = 1 := by omega
  · exact ⟨.pointer none, by rw [cell_of_row _ _ _ _ _ _ h.sl]; rfl, .inl rfl⟩
  · exact ⟨.pointer (some ⟨w.heap.size + 2, 0, none⟩), by rw [cell_of_row _ _ _ _ _ _ h.sl]; rfl, .inr ⟨_, rfl, h.z⟩⟩
end Go.Proofs.Ytkmeceoilighiaa.Tb


set_option linter.unusedVariables false
set_option maxRecDepth 100000
namespace Go.Proofs.Ytkmeceoilighiaa.Tb
open Go.RowKit Go.WideMaps Go.Maps

theorem push_okG {W W' W0 : World} {E k n : Nat} {e : TypeId} {v : Value} {xs : List Value} {ob : Obj} (hB : Below W0.heap.size W0 W) (ho : W.ownsRow E e k v n xs) (hE : W0.heap.size ≤ E) (hg : (W.alloc ob).grownBy W' v.ownBlock) : Below W0.heap.size W0 W' :=
  (hB.trans ((vstep W ob).mono hB.size)).grown hg (by have := hB.size; simp; omega) (fun k e => by have := (ho.lt k e).1; omega)
theorem take_snoc {α : Type} {l : List α} {i : Nat} {x : α} (h : l[i]? = some x) : l.take (i + 1) = l.take i ++ [x] := by
  obtain ⟨hl, he⟩ := List.getElem?_eq_some_iff.1 h
  rw [List.take_succ_eq_append_getElem hl, he]
theorem kids_yes {l : List Rw} {i : Nat} {x : Rw} {pt pr : Int} (h : l[i]? = some x) (hq : x.pt = pt ∧ x.pr = pr) : kidsF (l.take (i + 1)) pt pr = kidsF (l.take i) pt pr ++ [stOf x] := by
  rw [take_snoc h]
  exact kd_yes hq
theorem kids_not {l : List Rw} {i : Nat} {x : Rw} {pt pr : Int} (h : l[i]? = some x) (hq : ¬ (x.pt = pt ∧ x.pr = pr)) : kidsF (l.take (i + 1)) pt pr = kidsF (l.take i) pt pr := by
  rw [take_snoc h]
  exact kd_no hq
theorem bneT (a b : Int) (h : (a == b) = true) : (a != b) = false := by simpa using h
theorem bneF (a b : Int) (h : (a == b) = false) : (a != b) = true := by simpa using h
theorem own_less {W : World} {E E' k n : Nat} {e : TypeId} {v : Value} {xs : List Value} (h : W.ownsRow E e k v n xs) (hE : E' ≤ E) : W.ownsRow E' e k v n xs :=
  ⟨h.1, h.2.imp id fun ⟨g, cap, cur, a1, a2, a3⟩ => ⟨g, cap, cur, a1, by omega, a3⟩⟩
set_option maxHeartbeats 6400000 in
theorem rkids_any (w : World) (v : Value) (l : List Rw) (h : LiesR w v l) (hl : l.length < 100000) (p1 p2 : Int) :
    Calls Try.prog 23 #[v, .agg #[.int .i64 p1, .int .i64 p2]] w fun e w' => ∃ r, e = .returned r ∧ w'.ownsRow w.heap.size 24 2 r (kidsF l p1 p2).length ((kidsF l p1 p2).flatMap encS) ∧ Below w.heap.size w w' := by
  obtain ⟨i0, hi9, hz0, hz1, hz2⟩ := info_parts info24
  have B1 := Lib.hid (vstep w (.cells #[.int .i64 p1, .int .i64 p2] 24))
  have L := Lib.hid (h.step B1.out)
  have S0 := Lib.hid (StAt.new w p1 p2)
  obtain ⟨ao, cap, rfl⟩ := h.shape
  obtain ⟨W0, hW0⟩ : ∃ y, w.alloc (.cells #[.int .i64 p1, .int .i64 p2] 24) = y := ⟨_, rfl⟩
  rw [hW0] at B1 L S0
  have HW := Lib.hid hW0
  have SF := Lib.hid (fun W (hb : Below W0.heap.size W0 W) => (S0.out.step hb).cells)
  clear h hW0
  go_enter Try.func23, Try.ntmps23
  go_upto_region 1 with (fail)
  rw [HW.out]
  go_wp2_with fail
  go_loopw [5, 6] (fun ov kv wr => ∃ i : Nat, kv = .int .i64 i ∧ i ≤ l.length ∧ Hid (wr.ownsRow W0.heap.size 24 2 ov (kidsF (l.take i) p1 p2).length ((kidsF (l.take i) p1 p2).flatMap encS) ∧ Below W0.heap.size W0 wr)) (fun _ kv _ => l.length - (intOf kv).toNat)
  case atStart => exact ⟨0, rfl, Nat.zero_le _, Lib.hid ⟨World.ownsRow_nil _ _ _ _, Below.refl _ _⟩⟩
  case round =>
    obtain ⟨i, rfl, hi, hK⟩ := hrel
    obtain ⟨oa, oc, rfl⟩ := own_shapeK hK.out.1
    have O0 := Lib.hid hK.out.1
    have K0 := Lib.hid hK.out.2
    have LN := Lib.hid (show (kidsF (l.take i) p1 p2).length ≤ l.length from Nat.le_trans (by unfold kidsF; rw [List.length_map]; exact List.length_filter_le _ _) (by rw [List.length_take]; omega))
    clear hK
    by_cases hlt : i < l.length
    · obtain ⟨g, o, x, rfl, hx, hg, a0, a1, a2, a3, a4, a5⟩ := L.out.row hlt
      have AF := Lib.hid (fun W (hb : Below W0.heap.size W0 W) => (show W.cell? ⟨g, o + i * 6, none⟩ = some (.int .i64 x.t) ∧ W.cell? ⟨g, o + i * 6 + 1, none⟩ = some (.int .i64 x.r) ∧ W.cell? ⟨g, o + i * 6 + 2, none⟩ = some (.int .i64 x.pt) ∧ W.cell? ⟨g, o + i * 6 + 3, none⟩ = some (.int .i64 x.pr) ∧ W.cell? ⟨g, o + i * 6 + 4, none⟩ = some (.string x.nm) ∧ W.cell? ⟨g, o + i * 6 + 5, none⟩ = some (.bool x.d) from ⟨(hb.cell (p := ⟨g, o + i * 6, none⟩) hg).trans a0, (hb.cell (p := ⟨g, o + i * 6 + 1, none⟩) hg).trans a1, (hb.cell (p := ⟨g, o + i * 6 + 2, none⟩) hg).trans a2, (hb.cell (p := ⟨g, o + i * 6 + 3, none⟩) hg).trans a3, (hb.cell (p := ⟨g, o + i * 6 + 4, none⟩) hg).trans a4, (hb.cell (p := ⟨g, o + i * 6 + 5, none⟩) hg).trans a5⟩))
      have HX := Lib.hid hx
      clear a0 a1 a2 a3 a4 a5 hg hx
      obtain ⟨a0, a1, a2, a3, a4, a5⟩ := AF.out wr K0.out
      obtain ⟨c1, c2⟩ := SF.out wr K0.out
      by_cases hq : x.pt = p1 ∧ x.pr = p2
      · have NX := Lib.hid (kids_yes HX.out hq)
        have t1 := beqb_ _ _ hq.1
        have t2 := beqb_ _ _ hq.2
        have t3 := bneT _ _ t1
        have t4 := bneT _ _ t2
        generalize kidsF (l.take i) p1 p2 = ks at *
        clear hq
        go_wp2
        go_quiet (fail)
        have B7 := Lib.hid (below_drewN wr nq)
        have O7 := Lib.hid (own_belowK O0.out B7.out)
        have K7 := Lib.hid (K0.out.trans (B7.out.mono K0.out.size))
        generalize wr.drewN nq = w7 at *
        clear a0 a1 a2 a3 a4 a5 c1 c2
        obtain ⟨a0, a1, a2, a3, a4, a5⟩ := AF.out w7 K7.out
        have O5 := Lib.hid (own_belowK O7.out (vstep w7 (.cells #[.int .i64 x.t, .int .i64 x.r] 24)))
        have H5 := Lib.hid (show (w7.alloc (.cells #[.int .i64 x.t, .int .i64 x.r] 24)).heap[w7.heap.size]? = some (.cells (encS (stOf x)).toArray 24 (0, 0)) from heap_alloc_new w7 _)
        have Q5 := Lib.hid (And.intro (show ks.length + 1 ≤ maxLen from by have := LN.out; unfold maxLen; omega) (And.intro (show (ks.length + 1) * 16 ≤ 140737488355328 from by have := LN.out; omega) (show W0.heap.size ≤ (w7.alloc (.cells #[.int .i64 x.t, .int .i64 x.r] 24)).heap.size from by have := K7.out.size; simp; omega)))
        go_wp2_with (at_builtin; refine wpList_pushK rfl (.tmp 21) (.tmp 27) 52 rfl encS_len (by decide) encS_one W0.heap.size 24 i0 (.agg #[.int .i64 0, .int .i64 0]) 16 Try.u43 hi9 hz0 hz1 hz2 rfl (.slice oa ks.length oc) ks (stOf x) w7.heap.size rfl rfl H5.out O5.out Q5.out.1 Q5.out.2.1 Q5.out.2.2 ?_; intro v6 w6 hown hgr; have O6 := Lib.hid hown; have K6 := Lib.hid (push_okG K7.out O7.out (Nat.le_refl _) hgr); clear hown hgr)
        go_roundw
        case rel => exact ⟨i + 1, by go_num, by omega, Lib.hid ⟨by rw [NX.out]; exact O6.out, K6.out⟩⟩
        case measure => simp [intOf]; omega
      · have NX := Lib.hid (kids_not HX.out hq)
        generalize kidsF (l.take i) p1 p2 = ks at *
        rcases no2 hq with t1 | ⟨t1, t2⟩
        · have t3 := bneF _ _ t1
          clear hq
          go_wp2
          go_quiet (fail)
          have B7 := Lib.hid (below_drewN wr nq)
          have O7 := Lib.hid (own_belowK O0.out B7.out)
          have K7 := Lib.hid (K0.out.trans (B7.out.mono K0.out.size))
          generalize wr.drewN nq = w7 at *
          clear a0 a1 a2 a3 a4 a5 c1 c2
          go_wp2
          go_roundw
          case rel => exact ⟨i + 1, by go_num, by omega, Lib.hid ⟨by rw [NX.out]; exact O7.out, K7.out⟩⟩
          case measure => simp [intOf]; omega
        · have t3 := bneT _ _ t1
          have t4 := bneF _ _ t2
          clear hq
          go_wp2
          go_quiet (fail)
          have B7 := Lib.hid (below_drewN wr nq)
          have O7 := Lib.hid (own_belowK O0.out B7.out)
          have K7 := Lib.hid (K0.out.trans (B7.out.mono K0.out.size))
          generalize wr.drewN nq = w7 at *
          clear a0 a1 a2 a3 a4 a5 c1 c2
          go_wp2
          go_roundw
          case rel => exact ⟨i + 1, by go_num, by omega, Lib.hid ⟨by rw [NX.out]; exact O7.out, K7.out⟩⟩
          case measure => simp [intOf]; omega
    · have FIN := Lib.hid (show wr.ownsRow w.heap.size 24 2 (.slice oa (kidsF (l.take i) p1 p2).length oc) (kidsF l p1 p2).length ((kidsF l p1 p2).flatMap encS) ∧ Below w.heap.size w wr from by
        have h := O0.out
        rw [show l.take i = l from List.take_of_length_le (by omega)] at h ⊢
        exact ⟨own_less h B1.out.size, B1.out.trans (K0.out.mono B1.out.size)⟩)
      clear O0
      go_wp2
      go_returns
      exact ⟨_, rfl, FIN.out.1, FIN.out.2⟩
end Go.Proofs.Ytkmeceoilighiaa.Tb


set_option linter.unusedVariables false
set_option maxRecDepth 100000
namespace Go.Proofs.Ytkmeceoilighiaa.Tb
open Go.RowKit Go.WideMaps Go.Maps

structure Ac where
  k : Int
  t : Int
  r : Int
  pt : Int
  pr : Int
  nm : ByteArray
  d : Bool
def Ac.ok (x : Ac) : Prop := I64 x.k ∧ I64 x.t ∧ I64 x.r ∧ I64 x.pt ∧ I64 x.pr
def AcAt (w : World) (g : Nat) (k t r pt pr : Int) (nm : ByteArray) (d : Bool) : Prop := w.heap[g]? = some (.cells #[.int .i64 k, .int .i64 t, .int .i64 r, .int .i64 pt, .int .i64 pr, .string nm, .bool d] 31 (0, 0))
theorem AcAt.step {w w' : World} {g : Nat} {k t r pt pr : Int} {nm : ByteArray} {d : Bool} (h : AcAt w g k t r pt pr nm d) (hb : Below w.heap.size w w') : AcAt w' g k t r pt pr nm d := (hb.block g (lt_of_block h)).trans h
theorem AcAt.cells {w : World} {g : Nat} {k t r pt pr : Int} {nm : ByteArray} {d : Bool} (h : AcAt w g k t r pt pr nm d) : w.cell? ⟨g, 0, none⟩ = some (.int .i64 k) ∧ w.cell? ⟨g, 1, none⟩ = some (.int .i64 t) ∧ w.cell? ⟨g, 2, none⟩ = some (.int .i64 r) ∧ w.cell? ⟨g, 3, none⟩ = some (.int .i64 pt) ∧ w.cell? ⟨g, 4, none⟩ = some (.int .i64 pr) ∧ w.cell? ⟨g, 5, none⟩ = some (.string nm) ∧ w.cell? ⟨g, 6, none⟩ = some (.bool d) := by
  refine ⟨?_, ?_, ?_, ?_, ?_, ?_, ?_⟩ <;> (rw [cell_of_row _ _ _ _ _ _ h]; rfl)
theorem lies_turn {w w' : World} {b : Nat} {m l : List Rw} {v : Value} (h : LiesR w v l) (hm : TM w b m) (hg : w.grownBy w' (some b)) : LiesR w' v l := by
  obtain ⟨ao, cap, h1, h2, h3, h4, h5⟩ := h
  refine ⟨ao, cap, h1, h2, h3, h4, fun a ha hne => ?_⟩
  obtain ⟨g, k, rfl, hgl, hc⟩ := h5 a ha hne
  refine ⟨g, k, rfl, Nat.lt_of_lt_of_le hgl hg.size, fun j p hp i u hu => hg.cell (hc j p hp i u hu) (fun e => ?_)⟩
  injection e with e
  have e : g = b := e
  subst e
  obtain ⟨es, ⟨es', c, hb', _⟩, _⟩ := hm
  have := hc j p hp i u hu
  simp [World.cell?, hb'] at this
theorem same_self (w : World) (v1 v2 : Value) (l : List Sp) (h1 : LiesK encS 2 w v1 l) (h2 : LiesK encS 2 w v2 l) : Calls Try.prog 21 #[v1, v2] w fun e w' => e = .returned (.bool true) ∧ Below w.heap.size w w' :=
  (same_any w v1 v2 l l h1 h2).mono (by rintro e w' ⟨rfl, hb⟩; exact ⟨by rw [decide_eq_true rfl], hb⟩)
/-- Between two acts. -/
structure PI (w W : World) (p b : Nat) (m : List Rw) (q1 q2 : Int) (rv : Value) (mr : List Rw) : Prop where
  tab : TabI W p b m
  st : StAt W w.heap.size q1 q2
  bel : Below w.heap.size w W
  ne : w.heap.size < b
  rows : LiesR W rv mr
theorem PI.step {w W W' : World} {p b : Nat} {m mr : List Rw} {q1 q2 : Int} {rv : Value} (h : PI w W p b m q1 q2 rv mr) (hb : Below W.heap.size W W') : PI w W' p b m q1 q2 rv mr :=
  ⟨h.tab.step hb, h.st.step hb, h.bel.trans (hb.mono h.bel.size), h.ne, h.rows.step hb⟩
end Go.Proofs.Ytkmeceoilighiaa.Tb


set_option linter.unusedVariables false
set_option linter.unusedSimpArgs false
set_option maxRecDepth 100000
namespace Go.Proofs.Ytkmeceoilighiaa.Tb
open Go.RowKit Go.WideMaps Go.Maps

theorem rise_ext {a b : List Rw} (ha : Rise a) (hb : Rise b) (h : ∀ y, y ∈ a ↔ y ∈ b) : a = b := by
  refine List.Perm.eq_of_pairwise (le := fun x y => ltR x y = true) (fun x y _ _ q1 q2 => ?_) ha hb ((List.perm_ext_iff_of_nodup (rise_nodup ha) (rise_nodup hb)).2 h)
  rcases lt_tri x y with ⟨a1, a2, a3⟩ | ⟨a1, a2, a3⟩ | ⟨a1, a2, a3⟩
  · rw [q2] at a3; cases a3
  · rw [q1] at a1; cases a1
  · rw [q1] at a1; cases a1
theorem fold_iff {L : List Rw} (hL : Rise L) : ∀ (l m : List Rw), (∀ x ∈ m, x ∈ L) → (∀ x ∈ l, x ∈ L) → ∀ y, y ∈ l.foldl setF m ↔ y ∈ m ∨ y ∈ l
  | [], m, _, _, y => by simp
  | x :: l, m, hm, hl, y => by
    have hx := hl x (List.mem_cons_self ..)
    have hsub : ∀ z ∈ setF m x, z ∈ L := fun z hz => by
      rcases mem_set.1 hz with e | e
      · rw [e]; exact hx
      · exact hm z e.1
    have ih := fold_iff hL l (setF m x) hsub (fun z hz => hl z (List.mem_cons_of_mem _ hz)) y
    rw [List.foldl_cons, ih, mem_set, List.mem_cons]
    constructor
    · rintro ((e | e) | e)
      · exact .inr (.inl e)
      · exact .inl e.1
      · exact .inr (.inr e)
    · rintro (e | e | e)
      · cases hs : sameN y x with
        | true => exact .inl (.inl (rise_one hL (hm y e) hx hs))
        | false => exact .inl (.inr ⟨e, rfl⟩)
      · exact .inl (.inl e)
      · exact .inr e
theorem made_perm {l done : List Rw} (h : Rise l) (hp : done.Perm l) : madeF done = l := by
  refine rise_ext (madeF_rise done) h (fun y => ?_)
  unfold madeF
  rw [fold_iff h done [] (fun x hx => by cases hx) (fun x hx => hp.mem_iff.1 hx) y, hp.mem_iff]
  simp
theorem made_snoc (done : List Rw) (x : Rw) : madeF (done ++ [x]) = setF (madeF done) x := by
  unfold madeF
  rw [List.foldl_append]
  rfl
theorem trg_len {w : World} {b r : Nat} {l done : List Rw} (h : TRg w b r l done) : done.length ≤ l.length := by
  obtain ⟨es, left, cnt, _, _, _, h4, _, h6, h7⟩ := h
  exact List.Nodup.length_le_of_subset h6 h7
/-- Between two rounds of a copy. -/
structure CI (w W : World) (b qb r : Nat) (l done : List Rw) : Prop where
  rg : TRg W b r l done
  dst : TM W qb (madeF done)
  grow : w.grownBy W (some qb)
  r0 : w.heap.size ≤ r
set_option maxHeartbeats 6400000 in
theorem copy_any (w : World) (b qb : Nat) (l : List Rw) (h : TM w b l) (hq : TM w qb []) (hne : b ≠ qb) (hl : l.length < 100000) :
    Calls Try.prog 77 #[.map (some qb), .map (some b)] w fun e w' => e = .returned (.tuple #[]) ∧ TM w' qb l ∧ w.grownBy w' (some qb) := by
  have T1 := Lib.hid h
  have Q1 := Lib.hid hq
  have RS := Lib.hid h.rise
  have HQ := Lib.hid hq.lt
  clear h hq
  go_enter Try.func77, Try.ntmps77
  go_wp2_with (at_range; refine wpList_trange rfl _ rfl b l rfl T1.out ?_; intro w2 hr hg hs; have R2 := Lib.hid hr; have G2 := Lib.hid hg; clear hr hg hs)
  have K0 := Lib.hid (show CI w w2 b qb w.heap.size l [] from ⟨R2.out, Q1.out.grown G2.out (by simp), ⟨G2.out.os, G2.out.tape, G2.out.output, G2.out.size, fun k hk _ => G2.out.block k hk (by simp)⟩, Nat.le_refl _⟩)
  clear R2 G2 T1 Q1
  go_frame
  go_loopw [4] (fun sv wr => ∃ done, Hid (CI w wr b qb w.heap.size l done)) (fun _ wr => wr.rangeLeft b w.heap.size)
  case atStart => exact ⟨[], K0⟩
  case round =>
    obtain ⟨done, hK⟩ := hrel
    have KH := Lib.hid hK.out
    clear hK K0
    go_wp2_with (at_next; refine wpList_tnext rfl _ rfl b w.heap.size l done rfl KH.out.rg ?_ ?_)
    · intro hall
      have FIN := Lib.hid (show TM wr qb l ∧ w.grownBy wr (some qb) from ⟨by have := KH.out.dst; rwa [made_perm RS.out (KH.out.rg.all hall)] at this, KH.out.grow⟩)
      clear hall
      go_wp2
      go_returns
      exact ⟨rfl, FIN.out.1, FIN.out.2⟩
    · intro x w3 hx hn hr hlt hg hs hen
      have XO := Lib.hid (show x.ok from by obtain ⟨es, left, cnt, _, _, h3, _⟩ := hr; exact h3 x hx)
      have R3 := Lib.hid hr
      have LT := Lib.hid hlt
      have Q3 := Lib.hid (KH.out.dst.grown hg (by have := HQ.out; intro e; injection e; omega))
      have G3 := Lib.hid (KH.out.grow.andThen hg (fun j e => .inl (by injection e; omega)))
      have ML3 := Lib.hid (show (madeF done).length < maxLen from by have := madeF_len done; have := trg_len KH.out.rg; unfold maxLen; omega)
      have ML4 := Lib.hid (show (madeF done).length < 1000000 from by have := madeF_len done; have := trg_len KH.out.rg; omega)
      clear hr hlt hg hs hx hn KH
      have B4 := Lib.hid ((vstep w3 (.cells #[.int .i64 x.t, .int .i64 x.r] 24)).trans ((vstep (w3.alloc (.cells #[.int .i64 x.t, .int .i64 x.r] 24)) (.cells #[.int .i64 x.pt, .int .i64 x.pr, .string x.nm, .bool x.d] 69)).mono (vstep w3 _).size))
      have S4 := Lib.hid ((StAt.new w3 x.t x.r).step (vstep _ (.cells #[.int .i64 x.pt, .int .i64 x.pr, .string x.nm, .bool x.d] 69)))
      have E4 := Lib.hid (show EnAt ((w3.alloc (.cells #[.int .i64 x.t, .int .i64 x.r] 24)).alloc (.cells #[.int .i64 x.pt, .int .i64 x.pr, .string x.nm, .bool x.d] 69)) (w3.heap.size + 1) x.pt x.pr x.nm x.d from by have := EnAt.new (w3.alloc (.cells #[.int .i64 x.t, .int .i64 x.r] 24)) x.pt x.pr x.nm x.d; rwa [World.size_alloc] at this)
      go_upto_region 3 with (fail)
      obtain ⟨w4, hw4⟩ : ∃ y, (w3.alloc (.cells #[.int .i64 x.t, .int .i64 x.r] 24)).alloc (.cells #[.int .i64 x.pt, .int .i64 x.pr, .string x.nm, .bool x.d] 69) = y := ⟨_, rfl⟩
      rw [hw4] at B4 S4 E4 ⊢
      clear hw4 hen
      have R4 := Lib.hid (R3.out.kept (below_grown B4.out none) (by simp) (by simp))
      have Q4 := Lib.hid (Q3.out.step B4.out)
      obtain ⟨c1, c2⟩ := S4.out.cells
      obtain ⟨d0, d1, d2, d3⟩ := E4.out.cells
      go_wp2_with (at_mapUpdate; refine wpList_tput rfl _ _ _ rfl qb (madeF done) x rfl Q4.out ML4.out XO.out rfl rfl ?_; intro w5 ht hg; have Q5 := Lib.hid ht; have G5 := Lib.hid hg; clear ht hg)
      have R5 := R4.out.1.kept G5.out (fun e => hne (by injection e)) (fun e => by injection e; have := HQ.out; omega)
      have FIN := Lib.hid (show CI w w5 b qb w.heap.size l (done ++ [x]) from ⟨R5.1, by rw [made_snoc]; exact Q5.out, (G3.out.andThen (below_grown B4.out none) (fun j e => by cases e)).andThen G5.out (fun j e => .inr e), Nat.le_refl _⟩)
      have ML := Lib.hid (show w5.rangeLeft b w.heap.size < wr.rangeLeft b w.heap.size from by rw [R5.2, R4.out.2]; exact LT.out)
      clear R5 c1 c2 d0 d1 d2 d3
      go_roundw
      case rel => exact ⟨_, _, _, _, _, _, _, _, _, _, ⟨done ++ [x], FIN⟩, rfl⟩
      case measure => exact ML.out
/-- A clone. -/
structure ClO (w w' : World) (q qb : Nat) (l : List Rw) : Prop where
  tab : TabI w' q qb l
  q0 : w.heap.size ≤ q
  b0 : w.heap.size ≤ qb
  bel : Below w.heap.size w w'
set_option maxHeartbeats 3200000 in
theorem clone_any (w : World) (p b : Nat) (l : List Rw) (h : TabI w p b l) (hl : l.length < 100000) :
    Calls Try.prog 57 #[.pointer (some ⟨p, 0, none⟩)] w fun e w' => ∃ q qb, e = .returned (.pointer (some ⟨q, 0, none⟩)) ∧ ClO w w' q qb l := by
  have N := Lib.hid (new_any w)
  have T0 := Lib.hid h
  clear h
  go_enter Try.func57, Try.ntmps57
  go_wp2_with fail
  refine N.out.mono ?_
  rintro e w1 ⟨q, qb, rfl, h1, h2, h3, h4⟩
  have T1 := Lib.hid (T0.out.step h4)
  have Q1 := Lib.hid h1
  have NE := Lib.hid (show b ≠ qb ∧ w.heap.size ≤ q ∧ w.heap.size ≤ qb ∧ p ≠ qb from ⟨by have := T0.out.blt; omega, h2, h3, by have := T0.out.plt; omega⟩)
  have B1 := Lib.hid h4
  clear h1 h2 h3 h4 N T0
  have M := Lib.hid (made_any w1 p b l T1.out)
  go_wp2_with fail
  refine M.out.mono ?_
  rintro e w2 ⟨rfl, rfl⟩
  have CP := Lib.hid (fun W (hb : Below w1.heap.size w1 W) => copy_any W b qb l (T1.out.step hb).map (Q1.out.step hb).map NE.out.1 hl)
  have CF := Lib.hid (fun W (hb : Below w1.heap.size w1 W) => (show W.cell? ⟨p, 0, none⟩ = some (.map (some b)) ∧ W.cell? ⟨q, 0, none⟩ = some (.map (some qb)) from ⟨(T1.out.step hb).cell, (Q1.out.step hb).cell⟩))
  have BX := Lib.hid (fun W W' (hb : Below w1.heap.size w1 W) (hg : W.grownBy W' (some qb)) (ht : TM W' qb l) => (show ClO w W' q qb l ∧ TabI W' p b l from ⟨⟨⟨(hg.block q (by have := (Q1.out.step hb).plt; omega) (fun e => by injection e; have := Q1.out.ne; omega)).trans (Q1.out.step hb).box, ht⟩, NE.out.2.1, NE.out.2.2.1, (B1.out.trans (hb.mono B1.out.size)).grown hg (by have := B1.out.size; have := hb.size; omega) (fun k e => by cases e; exact NE.out.2.2.1)⟩, (T1.out.step hb).grown hg (fun e => by injection e; have := NE.out.2.2.2; omega) (fun e => by injection e; have := NE.out.1; omega)⟩))
  have BB := Lib.hid ((Below.refl w1.heap.size w1).drew)
  clear M T1 Q1 B1
  go_upto_region 3 with (fail)
  go_region_held3 (fun W => W.cell? ⟨p, 0, none⟩ = some (.map (some b)) ∧ W.cell? ⟨q, 0, none⟩ = some (.map (some qb))) (exact CF.out _ BB.out)
    (first
    | (go_at_call 77; refine (CP.out _ BB.out).mono ?_; rintro e w4 ⟨rfl, ht, hg⟩; have FI := Lib.hid (BX.out _ _ BB.out hg ht); have FIN := Lib.hid FI.out.1; have CF := Lib.hid (fun W (hb : Below w4.heap.size w4 W) => (show W.cell? ⟨p, 0, none⟩ = some (.map (some b)) ∧ W.cell? ⟨q, 0, none⟩ = some (.map (some qb)) from ⟨(FI.out.2.step hb).cell, (FI.out.1.tab.step hb).cell⟩)); have BB := Lib.hid (Below.refl w4.heap.size w4); clear hg ht FI))
  all_goals
    go_wp2
    go_returns
    exact ⟨_, _, rfl, FIN.out⟩
end Go.Proofs.Ytkmeceoilighiaa.Tb


set_option linter.unusedVariables false
set_option linter.unusedSimpArgs false
set_option maxRecDepth 100000
namespace Go.Proofs.Ytkmeceoilighiaa.Tb
open Go.RowKit Go.WideMaps Go.Maps

noncomputable instance : DecidableEq Rw := fun a b => Classical.propDecidable (a = b)
theorem nm_yes {a b : ByteArray} (h : a = b) : (a.toList == b.toList) = true := by rw [h]; simp
theorem nm_no {a b : ByteArray} (h : a ≠ b) : (a.toList == b.toList) = false := by
  cases e : (a.toList == b.toList) with
  | false => rfl
  | true => exact absurd ((Go.Lib.bytes_beq_iff a b).1 e) h
theorem nm_no' {a b : ByteArray} (h : a ≠ b) : (a == b) = false := by
  cases e : (a == b) with
  | false => rfl
  | true => exact absurd ((Go.MapKept.bytes_beq a b).1 e) h
theorem d_no {a b : Bool} (h : a ≠ b) : (a == b) = false := by cases a <;> cases b <;> simp_all
theorem LiesK.spU {w : World} {ao : Option Addr} {n cap : Nat} {l : List Sp} (h : LiesK encS 2 w (.slice ao n cap) l) {i : Nat} (hi : i < n) : ∃ g o s1 s2, ao = some ⟨g, o, none⟩ ∧ l[i]? = some (s1, s2) ∧ g < w.heap.size ∧ w.cell? ⟨g, o + i * 2, none⟩ = some (.int .i64 s1) ∧ w.cell? ⟨g, o + i * 2 + 1, none⟩ = some (.int .i64 s2) := by
  obtain ⟨g, o, x, rfl, hx, hg, hc⟩ := h.at' hi
  exact ⟨g, o, x.1, x.2, rfl, hx, hg, hc 0 _ rfl, hc 1 _ rfl⟩
theorem get_in {l : List Rw} (h : Rise l) {x : Rw} (hx : x ∈ l) : getF l x.t x.r = some x := (get_some h).2 ⟨hx, rfl, rfl⟩
theorem same_sub {l m : List Rw} (hl : Rise l) (hm : Rise m) (hn : l.length = m.length) (h : ∀ x ∈ l, x ∈ m) : l = m := by
  refine rise_ext hl hm (fun y => ⟨h y, fun hy => ?_⟩)
  by_cases hyl : y ∈ l
  · exact hyl
  · exfalso
    have hnd : (y :: l).Nodup := List.nodup_cons.2 ⟨hyl, rise_nodup hl⟩
    have := List.Nodup.length_le_of_subset hnd (fun z hz => by
      rcases List.mem_cons.1 hz with e | e
      · rw [e]; exact hy
      · exact h z e)
    rw [List.length_cons] at this
    omega
set_option maxHeartbeats 12800000 in
theorem tsame_any (w : World) (p b p' b' : Nat) (l m : List Rw) (h : TabI w p b l) (h' : TabI w p' b' m) (hl : l.length < 100000) :
    Calls Try.prog 31 #[.pointer (some ⟨p, 0, none⟩), .pointer (some ⟨p', 0, none⟩)] w fun e w' => e = .returned (.bool (decide (l = m))) ∧ Below w.heap.size w w' := by
  have H1 := Lib.hid h
  have H2 := Lib.hid h'
  have LN1 := Lib.hid (len_any w p b l h)
  have LN2 := Lib.hid (len_any w p' b' m h')
  have ND := Lib.hid (nodes_any w p b l h hl)
  have RL := Lib.hid h.map.rise
  have RM := Lib.hid h'.map.rise
  have OK := Lib.hid h.map.oks
  clear h h'
  by_cases hne : l.length = m.length
  · have HN := Lib.hid hne
    have t0 : ((l.length : Int) != (m.length : Int)) = false := by simp [hne]
    clear hne
    go_enter Try.func31, Try.ntmps31
    go_wp2_with fail
    refine LN1.out.mono ?_
    rintro e w1 ⟨rfl, rfl⟩
    go_wp2_with fail
    refine LN2.out.mono ?_
    rintro e w1 ⟨rfl, rfl⟩
    go_wp2_with fail
    refine ND.out.mono ?_
    rintro e w1 ⟨u, rfl, ho, hb⟩
    have SK := Lib.hid (own_liesK encS_len ho)
    have B1 := Lib.hid hb
    obtain ⟨ua, uc, rfl⟩ := own_shapeK ho
    have NL := Lib.hid (show (nodesF l).length = l.length from by unfold nodesF; rw [List.length_map])
    clear ho hb ND t0 LN1 LN2
    rw [NL.out] at SK ⊢
    go_wp2
    go_loopw [19] (fun kv wr => ∃ i : Nat, kv = .int .i64 i ∧ i ≤ l.length ∧ Hid (∀ (j : Nat) z, j < i → l[j]? = some z → z ∈ m) ∧ Hid (Below w.heap.size w wr ∧ Below w1.heap.size w1 wr)) (fun kv _ => l.length - (intOf kv).toNat)
    case atStart => exact ⟨0, rfl, Nat.zero_le _, Lib.hid (fun j z h => absurd h (Nat.not_lt_zero _)), Lib.hid ⟨B1.out, Below.refl _ _⟩⟩
    case round =>
      obtain ⟨i, rfl, hi, hJ, hK⟩ := hrel
      by_cases hlt : i < l.length
      · obtain ⟨g, o, s1, s2, rfl, hs, hg, a0, a1⟩ := (SK.out.step hK.out.2).spU hlt
        obtain ⟨x, hx⟩ : ∃ x, l[i]? = some x := ⟨_, List.getElem?_eq_getElem hlt⟩
        have hst : (s1, s2) = stOf x := by
          unfold nodesF at hs
          rw [List.getElem?_map, hx] at hs
          injection hs with hs
          exact hs.symm
        injection hst with e1 e2
        subst e1 e2
        have HX := Lib.hid hx
        have XO := Lib.hid (OK.out x (List.mem_of_getElem? hx))
        have G1 := Lib.hid (fun W (hb : Below w.heap.size w W) => get_any W p b l (H1.out.step hb) x.t x.r XO.out.1 XO.out.2.1)
        rw [show gv l x.t x.r = .agg #[.int .i64 x.pt, .int .i64 x.pr, .string x.nm, .bool x.d] from by unfold gv; rw [get_in RL.out (List.mem_of_getElem? hx)]] at G1
        have G2 := Lib.hid (fun W (hb : Below w.heap.size w W) => get_any W p' b' m (H2.out.step hb) x.t x.r XO.out.1 XO.out.2.1)
        have BX := vstep wr (.cells #[.int .i64 x.t, .int .i64 x.r] 24)
        have B2 := Lib.hid (show Below w.heap.size w (wr.alloc (.cells #[.int .i64 x.t, .int .i64 x.r] 24)) ∧ Below w1.heap.size w1 (wr.alloc (.cells #[.int .i64 x.t, .int .i64 x.r] 24)) from ⟨hK.out.1.trans (BX.mono hK.out.1.size), hK.out.2.trans (BX.mono hK.out.2.size)⟩)
        have S2 := Lib.hid (StAt.new wr x.t x.r)
        clear hs hg hx BX
        go_upto_region 6 with (fail)
        obtain ⟨k2, hk2⟩ : ∃ k, wr.heap.size = k := ⟨_, rfl⟩
        rw [hk2] at S2 ⊢
        generalize (wr.alloc (.cells #[.int .i64 x.t, .int .i64 x.r] 24)) = w2 at *
        clear hk2 a0 a1 hK
        have G1w := Lib.hid (G1.out w2 B2.out.1)
        obtain ⟨c1, c2⟩ := S2.out.cells
        go_wp2_with fail
        refine G1w.out.mono ?_
        rintro e w3 ⟨rfl, hb⟩
        have BX := vstep w3 (.cells #[.int .i64 x.pt, .int .i64 x.pr, .string x.nm, .bool x.d] 69)
        have hbb := hb.trans (BX.mono hb.size)
        have B4 := Lib.hid (show Below w.heap.size w (w3.alloc (.cells #[.int .i64 x.pt, .int .i64 x.pr, .string x.nm, .bool x.d] 69)) ∧ Below w1.heap.size w1 (w3.alloc (.cells #[.int .i64 x.pt, .int .i64 x.pr, .string x.nm, .bool x.d] 69)) from ⟨B2.out.1.trans (hbb.mono B2.out.1.size), B2.out.2.trans (hbb.mono B2.out.2.size)⟩)
        have S4 := Lib.hid (S2.out.step hbb)
        have E4 := Lib.hid (EnAt.new w3 x.pt x.pr x.nm x.d)
        clear hb hbb BX c1 c2 G1 G1w B2 S2
        go_upto_region 7 with (fail)
        obtain ⟨k4, hk4⟩ : ∃ k, w3.heap.size = k := ⟨_, rfl⟩
        rw [hk4] at E4 ⊢
        generalize (w3.alloc (.cells #[.int .i64 x.pt, .int .i64 x.pr, .string x.nm, .bool x.d] 69)) = w4 at *
        clear hk4
        have G2w := Lib.hid (G2.out w4 B4.out.1)
        clear G2
        obtain ⟨c1, c2⟩ := S4.out.cells
        cases hg2 : getF m x.t x.r with
        | none =>
          obtain ⟨x1, x2, x3, x4, hxx⟩ := gv_form m x.t x.r
          rw [hxx, hg2] at G2w
          have HE := Lib.hid (show decide (l = m) = false from decide_eq_false (fun e => by
            have a := get_in RM.out (by rw [← e]; exact List.mem_of_getElem? HX.out)
            rw [hg2] at a
            cases a))
          clear hxx hg2 hJ
          go_wp2_with fail
          refine G2w.out.mono ?_
          rintro e w5 ⟨rfl, hb⟩
          have BX := vstep w5 (.cells #[.int .i64 x1, .int .i64 x2, .string x3, .bool x4] 69)
          have hbb := hb.trans (BX.mono hb.size)
          have B9 := Lib.hid (B4.out.1.trans (hbb.mono B4.out.1.size))
          clear hb hbb BX c1 c2
          go_wp2
          go_returns
          exact ⟨ret_b' HE.out, B9.out⟩
        | some y =>
          rw [show gv m x.t x.r = .agg #[.int .i64 y.pt, .int .i64 y.pr, .string y.nm, .bool y.d] from by unfold gv; rw [hg2], show (getF m x.t x.r).isSome = true from by rw [hg2]; rfl] at G2w
          have HG := Lib.hid hg2
          have HY := Lib.hid ((get_some RM.out).1 hg2)
          clear hg2
          go_wp2_with fail
          refine G2w.out.mono ?_
          rintro e w5 ⟨rfl, hb⟩
          have BX := vstep w5 (.cells #[.int .i64 y.pt, .int .i64 y.pr, .string y.nm, .bool y.d] 69)
          have hbb := hb.trans (BX.mono hb.size)
          have B8 := Lib.hid (show Below w.heap.size w (w5.alloc (.cells #[.int .i64 y.pt, .int .i64 y.pr, .string y.nm, .bool y.d] 69)) ∧ Below w1.heap.size w1 (w5.alloc (.cells #[.int .i64 y.pt, .int .i64 y.pr, .string y.nm, .bool y.d] 69)) from ⟨B4.out.1.trans (hbb.mono B4.out.1.size), B4.out.2.trans (hbb.mono B4.out.2.size)⟩)
          have E8 := Lib.hid (E4.out.step hbb)
          have F8 := Lib.hid (EnAt.new w5 y.pt y.pr y.nm y.d)
          clear hb hbb BX c1 c2 B4 E4 S4
          go_upto_region 8 with (fail)
          obtain ⟨k8, hk8⟩ : ∃ k, w5.heap.size = k := ⟨_, rfl⟩
          rw [hk8] at F8 ⊢
          generalize (w5.alloc (.cells #[.int .i64 y.pt, .int .i64 y.pr, .string y.nm, .bool y.d] 69)) = w8 at *
          clear hk8
          obtain ⟨d0, d1, d2, d3⟩ := E8.out.cells
          obtain ⟨f0, f1, f2, f3⟩ := F8.out.cells
          by_cases h_pt : x.pt = y.pt
          · by_cases h_pr : x.pr = y.pr
            · by_cases h_nm : x.nm = y.nm
              · by_cases h_d : x.d = y.d
                · have HJ2 := Lib.hid (show ∀ (j : Nat) z, j < i + 1 → l[j]? = some z → z ∈ m from fun j z hj hz => by
                    by_cases e : j = i
                    · subst e
                      rw [HX.out] at hz
                      injection hz with hz
                      rw [← hz, Rw.ext' HY.out.2.1.symm HY.out.2.2.symm h_pt h_pr h_nm h_d]
                      exact HY.out.1
                    · exact hJ.out j z (by omega) hz)
                  have q0 := beqb_ _ _ h_pt
                  have q1 := beqb_ _ _ h_pr
                  have q2 := (Go.MapKept.bytes_beq _ _).2 h_nm
                  have q2l := nm_yes h_nm
                  have q3 : (x.d == y.d) = true := by rw [h_d]; simp
                  clear h_pt h_pr h_nm h_d hJ
                  go_wp2
                  go_roundw
                  case rel => exact ⟨i + 1, by go_num, by omega, HJ2, Lib.hid B8.out⟩
                  case measure => simp [intOf]; omega
                · have q0 := beqb_ _ _ h_pt
                  have q1 := beqb_ _ _ h_pr
                  have q2 := (Go.MapKept.bytes_beq _ _).2 h_nm
                  have q2l := nm_yes h_nm
                  have q3 := d_no h_d
                  have HE := Lib.hid (show decide (l = m) = false from decide_eq_false (fun e => by
                    have a := get_in RM.out (by rw [← e]; exact List.mem_of_getElem? HX.out)
                    rw [HG.out] at a
                    injection a with a
                    exact h_d (by rw [a])))
                  clear h_pt h_pr h_nm h_d hJ
                  go_wp2
                  go_returns
                  exact ⟨ret_b' HE.out, B8.out.1⟩
              · have q0 := beqb_ _ _ h_pt
                have q1 := beqb_ _ _ h_pr
                have q2 := nm_no' h_nm
                have q2l := nm_no h_nm
                have HE := Lib.hid (show decide (l = m) = false from decide_eq_false (fun e => by
                  have a := get_in RM.out (by rw [← e]; exact List.mem_of_getElem? HX.out)
                  rw [HG.out] at a
                  injection a with a
                  exact h_nm (by rw [a])))
                clear h_pt h_pr h_nm hJ
                go_wp2
                go_returns
                exact ⟨ret_b' HE.out, B8.out.1⟩
            · have q0 := beqb_ _ _ h_pt
              have q1 := bneb_ _ _ h_pr
              have HE := Lib.hid (show decide (l = m) = false from decide_eq_false (fun e => by
                have a := get_in RM.out (by rw [← e]; exact List.mem_of_getElem? HX.out)
                rw [HG.out] at a
                injection a with a
                exact h_pr (by rw [a])))
              clear h_pt h_pr hJ
              go_wp2
              go_returns
              exact ⟨ret_b' HE.out, B8.out.1⟩
          · have q0 := bneb_ _ _ h_pt
            have HE := Lib.hid (show decide (l = m) = false from decide_eq_false (fun e => by
              have a := get_in RM.out (by rw [← e]; exact List.mem_of_getElem? HX.out)
              rw [HG.out] at a
              injection a with a
              exact h_pt (by rw [a])))
            clear h_pt hJ
            go_wp2
            go_returns
            exact ⟨ret_b' HE.out, B8.out.1⟩
      · have HE := Lib.hid (show decide (l = m) = true from decide_eq_true (same_sub RL.out RM.out HN.out (fun x hx => by
          obtain ⟨j, hj⟩ := List.mem_iff_getElem?.1 hx
          exact hJ.out j x (by have := (List.getElem?_eq_some_iff.1 hj).1; omega) hj)))
        clear hJ
        go_wp2
        go_returns
        exact ⟨ret_b' HE.out, hK.out.1⟩
  · have HE := Lib.hid (show decide (l = m) = false from decide_eq_false (fun e => hne (by rw [e])))
    have t0 : ((l.length : Int) != (m.length : Int)) = true := by simp; omega
    clear hne
    go_enter Try.func31, Try.ntmps31
    go_wp2_with fail
    refine LN1.out.mono ?_
    rintro e w1 ⟨rfl, rfl⟩
    go_wp2_with fail
    refine LN2.out.mono ?_
    rintro e w1 ⟨rfl, rfl⟩
    go_wp2
    go_returns
    exact ⟨ret_b' HE.out, Below.refl _ _⟩
end Go.Proofs.Ytkmeceoilighiaa.Tb

