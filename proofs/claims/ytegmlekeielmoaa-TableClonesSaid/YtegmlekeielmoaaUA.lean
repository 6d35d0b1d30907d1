/- The ways of a table that New did not make: nil, or zero. -/
import Derived.Test.YtegmlekeielmoaaTS
set_option linter.unusedVariables false
set_option maxRecDepth 100000
namespace Go.Proofs.Ytegmlekeielmoaa
open Go.RowKit Go.WideMaps Go.Maps

def Dead (w : World) (u : Value) : Prop := u = .pointer none ∨ ∃ z, u = .pointer (some ⟨z, 0, none⟩) ∧ w.heap[z]? = some (.cells #[.map none] 61 (0, 0))
theorem Dead.step {w w' : World} {u : Value} (h : Dead w u) (hb : Below w.heap.size w w') : Dead w' u := by
  rcases h with h | ⟨z, h1, h2⟩
  · exact .inl h
  · exact .inr ⟨z, h1, (hb.block z (lt_of_block h2)).trans h2⟩
theorem made_dead (w : World) (u : Value) (h : Dead w u) : Calls Try.prog 42 #[u] w fun e w' => e = .returned (.bool false) ∧ w = w' := by
  rcases h with rfl | ⟨z, rfl, h2⟩
  · exact made_nil w
  · exact made_zero w z (cell_of_one h2)
theorem len_dead (w : World) (u : Value) (h : Dead w u) : Calls Try.prog 32 #[u] w fun e w' => e = .returned (.int .i64 0) ∧ Below w.heap.size w w' := by
  have M := Lib.hid (made_dead w u h)
  clear h
  go_enter Try.func32, Try.ntmps32
  go_wp2_with fail
  refine M.out.mono ?_
  rintro e w1 ⟨rfl, rfl⟩
  go_wp2
  go_returns
  exact ⟨rfl, Below.refl _ _⟩
theorem nodes_dead (w : World) (u : Value) (h : Dead w u) : Calls Try.prog 22 #[u] w fun e w' => e = .returned (.slice none 0 0) ∧ Below w.heap.size w w' := by
  have M := Lib.hid (made_dead w u h)
  clear h
  go_enter Try.func22, Try.ntmps22
  go_wp2_with fail
  refine M.out.mono ?_
  rintro e w1 ⟨rfl, rfl⟩
  go_wp2
  go_returns
  exact ⟨rfl, Below.refl _ _⟩
theorem kids_dead (w : World) (u : Value) (h : Dead w u) (t r : Int) : Calls Try.prog 19 #[u, .agg #[.int .i64 t, .int .i64 r]] w fun e w' => e = .returned (.slice none 0 0) ∧ Below w.heap.size w w' := by
  have B1 := vstep w (.cells #[.int .i64 t, .int .i64 r] 24)
  have D := Lib.hid (h.step B1)
  obtain ⟨W0, hW0⟩ : ∃ y, w.alloc (.cells #[.int .i64 t, .int .i64 r] 24) = y := ⟨_, rfl⟩
  rw [hW0] at D B1
  have B := Lib.hid B1
  have HW := Lib.hid hW0
  have M := Lib.hid (made_dead W0 u D.out)
  clear B1 hW0 h
  go_enter Try.func19, Try.ntmps19
  go_upto_region 1 with (fail)
  rw [HW.out]
  go_wp2_with fail
  refine M.out.mono ?_
  rintro e w1 ⟨rfl, rfl⟩
  go_wp2
  go_returns
  exact ⟨rfl, B.out⟩
set_option maxHeartbeats 800000 in
theorem set_dead (w : World) (u : Value) (h : Dead w u) (t r pt pr : Int) (nm : ByteArray) (d : Bool) :
    Calls Try.prog 11 #[u, .agg #[.int .i64 t, .int .i64 r], .agg #[.int .i64 pt, .int .i64 pr, .string nm, .bool d]] w fun e w' => e = .returned (.int .i64 1) ∧ Below w.heap.size w w' := by
  have B1 := vstep w (.cells #[.int .i64 t, .int .i64 r] 24)
  have B2 := vstep (w.alloc (.cells #[.int .i64 t, .int .i64 r] 24)) (.cells #[.int .i64 pt, .int .i64 pr, .string nm, .bool d] 34)
  have D := Lib.hid ((h.step B1).step B2)
  have B := Lib.hid (B1.trans (B2.mono B1.size))
  obtain ⟨W0, hW0⟩ : ∃ y, (w.alloc (.cells #[.int .i64 t, .int .i64 r] 24)).alloc (.cells #[.int .i64 pt, .int .i64 pr, .string nm, .bool d] 34) = y := ⟨_, rfl⟩
  rw [hW0] at D B
  have HW := Lib.hid hW0
  have M := Lib.hid (made_dead W0 u D.out)
  clear B1 B2 hW0 h
  go_enter Try.func11, Try.ntmps11
  go_upto_region 1 with (fail)
  rw [HW.out]
  go_wp2_with fail
  refine M.out.mono ?_
  rintro e w1 ⟨rfl, rfl⟩
  go_wp2
  go_returns
  exact ⟨rfl, B.out⟩
set_option maxHeartbeats 1600000 in
theorem get_dead (w : World) (u : Value) (h : Dead w u) (t r : Int) :
    Calls Try.prog 21 #[u, .agg #[.int .i64 t, .int .i64 r]] w fun e w' => e = .returned (.tuple #[.agg #[.int .i64 0, .int .i64 0, .string ⟨#[]⟩, .bool false], .bool false]) ∧ Below w.heap.size w w' := by
  have B1 := vstep w (.cells #[.int .i64 t, .int .i64 r] 24)
  have B2 := vstep (w.alloc (.cells #[.int .i64 t, .int .i64 r] 24)) (.cells #[.int .i64 0, .int .i64 0, .string ⟨#[]⟩, .bool false] 34)
  have D := Lib.hid ((h.step B1).step B2)
  have B := Lib.hid (B1.trans (B2.mono B1.size))
  obtain ⟨W0, hW0⟩ : ∃ y, (w.alloc (.cells #[.int .i64 t, .int .i64 r] 24)).alloc (.cells #[.int .i64 0, .int .i64 0, .string ⟨#[]⟩, .bool false] 34) = y := ⟨_, rfl⟩
  rw [hW0] at D B
  have E2 := Lib.hid (show EnAt W0 (w.heap.size + 1) 0 0 ⟨#[]⟩ false from by rw [← hW0]; have := EnAt.new (w.alloc (.cells #[.int .i64 t, .int .i64 r] 24)) 0 0 ⟨#[]⟩ false; rwa [World.size_alloc] at this)
  have HW := Lib.hid hW0
  have M := Lib.hid (made_dead W0 u D.out)
  clear B1 B2 hW0 h
  go_enter Try.func21, Try.ntmps21
  go_upto_region 1 with (fail)
  rw [HW.out]
  go_wp2_with fail
  refine M.out.mono ?_
  rintro e w1 ⟨rfl, rfl⟩
  obtain ⟨e0, e1, e2, e3⟩ := E2.out.cells
  obtain ⟨f0, f1, f2, f3⟩ := E2.out.free
  go_wp2
  obtain ⟨w5, hW5⟩ : ∃ w5, sets4 W0 (w.heap.size + 1) (.int .i64 0) (.int .i64 0) (.string ⟨#[]⟩) (.bool false) = w5 := ⟨_, rfl⟩
  have hb5 := sets4_row (x' := .int .i64 0) (y' := .int .i64 0) (z' := .string ⟨#[]⟩) (v' := .bool false) E2.out
  have hw5 := sets4_below (x := .int .i64 0) (y := .int .i64 0) (z := .string ⟨#[]⟩) (v := .bool false) B.out (show w.heap.size ≤ w.heap.size + 1 by omega)
  rw [hW5] at hb5 hw5
  unfold sets4 at hW5
  rw [hW5]
  clear hW5 e0 e1 e2 e3 f0 f1 f2 f3
  obtain ⟨d0, d1, d2, d3⟩ := EnAt.cells (show EnAt w5 (w.heap.size + 1) 0 0 ⟨#[]⟩ false from hb5)
  refine bodyPost_ret (by simp [results, Try.results21, go_sem, d0, d1, d2, d3]; try rfl) rfl ?_
  exact ⟨rfl, hw5⟩
set_option maxHeartbeats 800000 in
theorem drop_dead (w : World) (u : Value) (h : Dead w u) (t r : Int) : Calls Try.prog 15 #[u, .agg #[.int .i64 t, .int .i64 r]] w fun e w' => e = .returned (.bool false) ∧ Below w.heap.size w w' := by
  have B1 := vstep w (.cells #[.int .i64 t, .int .i64 r] 24)
  have D := Lib.hid (h.step B1)
  have S1 := Lib.hid (StAt.new w t r)
  obtain ⟨W0, hW0⟩ : ∃ y, w.alloc (.cells #[.int .i64 t, .int .i64 r] 24) = y := ⟨_, rfl⟩
  rw [hW0] at D B1 S1
  have B := Lib.hid B1
  have HW := Lib.hid hW0
  have G := Lib.hid (get_dead W0 u D.out t r)
  clear B1 hW0 h
  go_enter Try.func15, Try.ntmps15
  go_upto_region 1 with (fail)
  rw [HW.out]
  obtain ⟨c1, c2⟩ := S1.out.cells
  go_wp2_with fail
  refine G.out.mono ?_
  rintro e w1 ⟨rfl, hb⟩
  have B2 := Lib.hid (B.out.trans (hb.mono B.out.size))
  clear hb c1 c2
  go_wp2
  go_returns
  exact ⟨rfl, B2.out.trans ((vstep w1 _).mono B2.out.size)⟩
set_option maxHeartbeats 800000 in
theorem above_dead (w : World) (u : Value) (h : Dead w u) (a b t r : Int) : Calls Try.prog 27 #[u, .agg #[.int .i64 a, .int .i64 b], .agg #[.int .i64 t, .int .i64 r]] w fun e w' => e = .returned (.bool false) ∧ Below w.heap.size w w' := by
  have B1 := vstep w (.cells #[.int .i64 a, .int .i64 b] 24)
  have B2 := vstep (w.alloc (.cells #[.int .i64 a, .int .i64 b] 24)) (.cells #[.int .i64 t, .int .i64 r] 24)
  have D := Lib.hid ((h.step B1).step B2)
  have B := Lib.hid (B1.trans (B2.mono B1.size))
  obtain ⟨W0, hW0⟩ : ∃ y, (w.alloc (.cells #[.int .i64 a, .int .i64 b] 24)).alloc (.cells #[.int .i64 t, .int .i64 r] 24) = y := ⟨_, rfl⟩
  rw [hW0] at D B
  have HW := Lib.hid hW0
  have M := Lib.hid (len_dead W0 u D.out)
  clear B1 B2 hW0 h
  go_enter Try.func27, Try.ntmps27
  go_upto_region 1 with (fail)
  rw [HW.out]
  go_wp2_with fail
  refine M.out.mono ?_
  rintro e w1 ⟨rfl, hb⟩
  have B3 := Lib.hid (B.out.trans (hb.mono B.out.size))
  clear hb
  go_wp2
  go_loopw [11] (fun kv wr => kv = .int .i64 0 ∧ wr = w1) (fun kv _ => 0)
  case atStart => exact ⟨rfl, rfl⟩
  case round =>
    obtain ⟨rfl, rfl⟩ := hrel
    go_wp2
    go_returns
    exact ⟨rfl, B3.out⟩
set_option maxHeartbeats 800000 in
theorem same_dead (w : World) (u v : Value) (h : Dead w u) (hv : Dead w v) : Calls Try.prog 29 #[u, v] w fun e w' => e = .returned (.bool true) ∧ Below w.heap.size w w' := by
  have D1 := Lib.hid h
  have D2 := Lib.hid hv
  have M := Lib.hid (len_dead w u h)
  clear h hv
  go_enter Try.func29, Try.ntmps29
  go_wp2_with fail
  refine M.out.mono ?_
  rintro e w1 ⟨rfl, hb⟩
  have B1 := Lib.hid hb
  have M := Lib.hid (len_dead w1 v (D2.out.step hb))
  clear hb
  go_wp2_with fail
  refine M.out.mono ?_
  rintro e w2 ⟨rfl, hb⟩
  have B2 := Lib.hid (B1.out.trans (hb.mono B1.out.size))
  have N := Lib.hid (nodes_dead w2 u (D1.out.step B2.out))
  clear hb
  go_wp2_with fail
  refine N.out.mono ?_
  rintro e w3 ⟨rfl, hb⟩
  have B3 := Lib.hid (B2.out.trans (hb.mono B2.out.size))
  clear hb
  go_wp2
  go_loopw [19] (fun kv wr => kv = .int .i64 0 ∧ wr = w3) (fun kv _ => 0)
  case atStart => exact ⟨rfl, rfl⟩
  case round =>
    obtain ⟨rfl, rfl⟩ := hrel
    go_wp2
    go_returns
    exact ⟨rfl, B3.out⟩
set_option maxHeartbeats 800000 in
theorem same_more (w : World) (p b : Nat) (x : Rw) (v : Value) (h : TabI w p b [x]) (hv : Dead w v) : Calls Try.prog 29 #[.pointer (some ⟨p, 0, none⟩), v] w fun e w' => e = .returned (.bool false) ∧ Below w.heap.size w w' := by
  have D2 := Lib.hid (len_dead w v hv)
  have M := Lib.hid (len_any w p b [x] h)
  rw [show (([x] : List Rw).length : Int) = 1 from rfl] at M
  clear h hv
  go_enter Try.func29, Try.ntmps29
  go_wp2_with fail
  refine M.out.mono ?_
  rintro e w1 ⟨rfl, rfl⟩
  go_wp2_with fail
  refine D2.out.mono ?_
  rintro e w2 ⟨rfl, hb⟩
  have B2 := Lib.hid hb
  clear hb
  go_wp2
  go_returns
  exact ⟨rfl, B2.out⟩
set_option maxHeartbeats 800000 in
theorem clone_dead (w : World) (u : Value) (h : Dead w u) : Calls Try.prog 31 #[u] w fun e w' => ∃ p b, e = .returned (.pointer (some ⟨p, 0, none⟩)) ∧ TabI w' p b [] ∧ w.heap.size ≤ p ∧ w.heap.size ≤ b ∧ Below w.heap.size w w' := by
  have N := Lib.hid (new_any w)
  have D := Lib.hid h
  clear h
  go_enter Try.func31, Try.ntmps31
  go_wp2_with fail
  refine N.out.mono ?_
  rintro e w1 ⟨p, b, rfl, h1, h2, h3, h4⟩
  have M := Lib.hid (made_dead w1 u (D.out.step h4))
  have K := Lib.hid (And.intro h1 (And.intro h2 (And.intro h3 h4)))
  clear h1 h2 h3 h4
  go_wp2_with fail
  refine M.out.mono ?_
  rintro e w2 ⟨rfl, rfl⟩
  go_wp2
  go_returns
  exact ⟨p, b, rfl, K.out.1, K.out.2.1, K.out.2.2.1, K.out.2.2.2⟩
end Go.Proofs.Ytegmlekeielmoaa
