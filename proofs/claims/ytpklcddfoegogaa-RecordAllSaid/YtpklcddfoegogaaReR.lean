/- RecordAll, walked. -/
import Derived.Test.YtpklcddfoegogaaReQ
import Derived.Test.YtpklcddfoegogaaReJ
import Derived.Test.YtpklcddfoegogaaReL
set_option linter.unusedVariables false
namespace Go.Proofs.Ytpklcddfoegogaa
open Go.RowKit Go.Shelf
attribute [local go_sem] Oper.semAt_some

set_option maxRecDepth 100000 in
set_option maxHeartbeats 800000 in
theorem alls_big (w : World) (ao : Option Addr) (n cap : Nat) (h : 600 < n) :
    Calls Try.prog 4 #[.slice ao n cap] w fun e w' => e = .returned (.bool true) ∧ Below w.heap.size w w' := by
  have HX := Lib.hid ((Below.refl w.heap.size w).alloc (Nat.le_refl _) (.cells #[.bool false] 4))
  have G0 := Lib.hid (heap_alloc_new w (.cells #[.bool false] 4))
  have A := Lib.hid awake_any
  go_enter Try.func4, Try.ntmps4
  go_wp2_with fail
  refine (A.out _).mono ?_
  rintro e w1 ⟨rfl, hb⟩
  have HB := Lib.hid (HX.out.trans (hb.mono HX.out.size))
  have hg := (hb.block w.heap.size (by simp)).trans G0.out
  have c0 : w1.cell? ⟨w.heap.size, 0, none⟩ = some (.bool false) := by rw [cell_of_row _ _ _ _ _ _ hg]; rfl
  have f0 : w1.frozen? ⟨w.heap.size, 0, none⟩ = false := frozen_of_row _ _ _ _ _ hg
  have c1 : (w1.setCell ⟨w.heap.size, 0, none⟩ (.bool true)).cell? ⟨w.heap.size, 0, none⟩ = some (.bool true) := World.cell?_setCell_same' _ _ _ (by rw [c0]; rfl)
  clear hb hg
  go_wp2
  refine bodyPost_ret (v := .bool true) (by simp [results, Try.results4, go_sem, c1]) rfl ?_
  exact ⟨rfl, HB.out.setCell (p := ⟨w.heap.size, 0, none⟩) (Nat.le_refl _) _⟩

theorem func_nil (b : Nat) (W : World) : (binOp .eql 39 (.func (.func 22) #[] #[.pointer (some ⟨b, 0, none⟩)]) .nilFunc).run Try.prog W = .ok (.bool false) W := by kernel_rfl
theorem KeepRow.setCell_far {lo hi : Nat} (W : World) (b j : Nat) (v : Value) (h : hi ≤ b) : KeepRow lo hi W (W.setCell ⟨b, j, none⟩ v) := fun k h1 h2 o ho _ => (Below.heap_setCell W ⟨b, j, none⟩ v k (by show k ≠ b; omega)).trans ho
theorem keeps_drewN (W : World) (n : Nat) : KeepsOthers W (W.drewN n) := ⟨Nat.le_refl _, fun _ _ h _ => h⟩
theorem row_drewN {lo hi : Nat} (W : World) (n : Nat) : KeepRow lo hi W (W.drewN n) := fun _ _ _ _ h _ => h

set_option maxRecDepth 100000 in
set_option maxHeartbeats 3200000 in
theorem alls_in (n : Nat) (hn : 4 ≤ n) (w : World) (v : Value) (bs : List Nat) (h : Lies w v bs) (hb : Byt bs) (hl : bs.length ≤ 600) :
    CallsIn Fence.wide n Try.prog 4 #[v] w fun e w' => e = .returned (.bool true) ∧ Below w.heap.size w w' := by
  have h1 : 1 ≤ n := by omega
  have hro : Fence.wide.round = none := rfl
  have H := Lib.hid h
  have hbl := Lib.hid hb
  obtain ⟨ao, cap, rfl, _⟩ := h
  obtain ⟨W0, hW0⟩ : ∃ W0, w.alloc (.cells #[.bool false] 4) = W0 := ⟨_, rfl⟩
  have B0 : Below w.heap.size w W0 := by rw [← hW0]; exact (Below.refl _ _).alloc (Nat.le_refl _) _
  have z0 : W0.heap.size = w.heap.size + 1 := by rw [← hW0]; simp
  have c0 : W0.cell? ⟨w.heap.size, 0, none⟩ = some (.bool false) ∧ W0.frozen? ⟨w.heap.size, 0, none⟩ = false := by
    rw [← hW0]; exact cn_l w (.bool false) 4
  have RA := Lib.hid (fun W (hW : Below w.heap.size w W) => callsIn_wide (n := n - 1).2 (rall_any W _ bs (H.out.later hW) hb (by omega)))
  have PA := Lib.hid (fun W (hW : Below w.heap.size w W) => callsIn_wide (n := n - 1).2 (all_any W _ bs (H.out.later hW) (by omega)))
  have WA := Lib.hid (fun W (hW : Below w.heap.size w W) => callsIn_wide (n := n - 1).2 (whole_any W _ bs (H.out.later hW) hb (by omega)))
  have AA := Lib.hid (fun W => callsIn_wide (n := n - 1).2 (awake_any W))
  have HW := Lib.hid hW0
  have HZ := Lib.hid z0
  have HC0 := Lib.hid c0
  have HB0 := Lib.hid B0
  clear hW0 z0 c0 B0
  refine callsIn_of_wp_marks Try.func4 rfl trivial ?_ hro
  simp only [Try.ntmps4, List.size_toArray, List.length_cons, List.length_nil, Nat.reduceAdd, Nat.reduceSub, Array.replicate_succ, Array.replicate_zero, List.push_toArray, List.append_toArray, List.nil_append, List.cons_append]
  gi_wp2_with fail
  rw [HW.out]
  refine ⟨trivial, ?_⟩
  refine (RA.out _ HB0.out).mono ?_
  rintro e w1 ⟨v1, v2, l, rfl, hbo, hA⟩
  have hO1 := hA.own1
  have hO2 := hA.own2
  have hE := hA.each
  have hb1 := hA.below
  rw [HZ.out] at hO1 hO2
  obtain ⟨x1, y1, rfl⟩ := own_shape hO1
  obtain ⟨x2, y2, rfl⟩ := own_shape hO2
  clear hA
  obtain ⟨W3, hW3⟩ : ∃ W3, W3 = (w1.alloc (.cells #[.slice x1 l.length y1] 34)).alloc (.cells #[.slice x2 l.length y2] 35) := ⟨_, rfl⟩
  have B3' : Below w1.heap.size w1 W3 := by rw [hW3]; exact ((Below.refl _ _).alloc (Nat.le_refl _) _).alloc (by simp) _
  have z3 : W3.heap.size = w1.heap.size + 2 := by rw [hW3]; simp
  have g3 : W3.cell? ⟨w1.heap.size, 0, none⟩ = some (.slice x1 l.length y1) := by
    rw [hW3]; exact ca_l _ (cn_l w1 _ _).1
  have g4 : W3.cell? ⟨w1.heap.size + 1, 0, none⟩ = some (.slice x2 l.length y2) := by
    rw [hW3]
    have := (cn_l (w1.alloc (.cells #[.slice x1 l.length y1] 34)) (.slice x2 l.length y2) 35).1
    simpa only [World.size_alloc] using this
  have hw3 : Below w.heap.size w W3 := HB0.out.trans ((hb1.trans (B3'.mono hb1.size)).mono HB0.out.size)
  have PA2 := PA.out W3 hw3
  have HW3 := Lib.hid hW3
  have HZ3 := Lib.hid z3
  have G3 := Lib.hid g3
  have G4 := Lib.hid g4
  have HB3 := Lib.hid B3'
  have HBw3 := Lib.hid hw3
  have HO1 := Lib.hid hO1
  have HO2 := Lib.hid hO2
  have HE := Lib.hid hE
  have HBO := Lib.hid hbo
  have HB1 := Lib.hid hb1
  have PA2 := Lib.hid PA2
  clear hW3 z3 g3 g4 B3' hw3 hO1 hO2 hE hbo hb1
  gi_wp2_with fail
  rw [← HW3.out]
  refine ⟨trivial, ?_⟩
  refine PA2.out.mono ?_
  rintro e w4 ⟨r, rfl, hc, hL, hs, hb4⟩
  rw [HZ3.out] at hc hL hs ⊢
  -- all that stands when the loop begins
  have hwb : Below w.heap.size w w4 := HBw3.out.trans (hb4.mono HBw3.out.size)
  have G3' : w4.cell? ⟨w1.heap.size, 0, none⟩ = some (.slice x1 l.length y1) := (hb4.cell (p := ⟨w1.heap.size, 0, none⟩) (by rw [HZ3.out]; show w1.heap.size < _; omega)).trans G3.out
  have G4' : w4.cell? ⟨w1.heap.size + 1, 0, none⟩ = some (.slice x2 l.length y2) := (hb4.cell (p := ⟨w1.heap.size + 1, 0, none⟩) (by rw [HZ3.out]; show w1.heap.size + 1 < _; omega)).trans G4.out
  have hb14 : Below w1.heap.size w1 w4 := HB3.out.trans (hb4.mono HB3.out.size)
  have hb04 : Below W0.heap.size W0 w4 := HB1.out.trans (hb14.mono HB1.out.size)
  have O1' := own_kept HO1.out hb14
  have O2' := own_kept HO2.out hb14
  have E' : ∀ p ∈ l, Lies w4 p.2.1 p.2.2 := fun p hp => (HE.out p hp).later hb04
  have R0 : w4.cell? ⟨w.heap.size, 0, none⟩ = some (.bool false) := (hb04.cell (p := ⟨w.heap.size, 0, none⟩) (by rw [HZ.out]; show w.heap.size < _; omega)).trans HC0.out.1
  have R0' : w4.frozen? ⟨w.heap.size, 0, none⟩ = false := (hb04.frozen (p := ⟨w.heap.size, 0, none⟩) (by rw [HZ.out]; show w.heap.size < _; omega)).trans HC0.out.2
  have hRd : Rd (w1.heap.size + 2) w4.heap.size (w1.heap.size + 2) bs w4 := ⟨Nat.le_refl _, hs, r, hc, hL⟩
  obtain ⟨W5, hW5⟩ : ∃ W5, W5 = w4.alloc (.cells #[.int .i64 0] 3) := ⟨_, rfl⟩
  have hb5 : Below w4.heap.size w4 W5 := by rw [hW5]; exact (Below.refl _ _).alloc (Nat.le_refl _) _
  have c7 : W5.cell? ⟨w4.heap.size, 0, none⟩ = some (.int .i64 0) ∧ W5.frozen? ⟨w4.heap.size, 0, none⟩ = false := by rw [hW5]; exact cn_l w4 (.int .i64 0) 3
  have z5 : W5.heap.size = w4.heap.size + 1 := by rw [hW5]; simp
  have hll : l.length = (recs bs).length := by rw [← HBO.out]; unfold both; rw [List.length_map]
  have kq := fun W => func_nil (w1.heap.size + 2) W
  have HLL := Lib.hid hll
  have HW5 := Lib.hid hW5
  clear hc hL hb4 hll hW5
  gi_wp2_with fail
  rw [← HW5.out]
  clear kq
  refine range_all (by omega) hb (by omega) rfl (hRd.later hb5) rfl
    (fun i W => (W.cell? ⟨w4.heap.size, 0, none⟩ = some (.int .i64 (i : Int)) ∧ W.frozen? ⟨w4.heap.size, 0, none⟩ = false) ∧ Below w4.heap.size w4 W)
    (OwnFrom.and (Own.from (fun s A B row hs hg hr => ⟨cell_kept hs.1 hg hr, (frozen_kept hs.1 hg hr).trans hs.2⟩) _) (ownFrom_below (Nat.le_refl _) (by omega)))
    ⟨c7, hb5⟩
    (fun k v => { tmps := #[.slice ao bs.length cap, undef, .pointer (some ⟨w.heap.size, 0, none⟩), .pointer (some ⟨w1.heap.size, 0, none⟩), .pointer (some ⟨w1.heap.size + 1, 0, none⟩), .int .i64 (takes (recs bs) : Int), .func (.func 22) #[] #[.pointer (some ⟨w1.heap.size + 2, 0, none⟩)], .pointer (some ⟨w4.heap.size, 0, none⟩), .int .i64 (k : Int), v, undef, undef, .slice ao bs.length cap, .int .i64 (bs.length : Int), .bool (decide (600 < (bs.length : Int))), undef, .tuple #[.slice x1 l.length y1, .slice x2 l.length y2, .int .i64 (takes (recs bs) : Int)], .slice ao bs.length cap, .tuple #[.slice x1 l.length y1, .slice x2 l.length y2, .int .i64 (takes (recs bs) : Int)], .slice x1 l.length y1, .slice x2 l.length y2, .int .i64 (takes (recs bs) : Int), .slice ao bs.length cap, .func (.func 22) #[] #[.pointer (some ⟨w1.heap.size + 2, 0, none⟩)], .func (.func 22) #[] #[.pointer (some ⟨w1.heap.size + 2, 0, none⟩)], .bool false, .func (.func 22) #[] #[.pointer (some ⟨w1.heap.size + 2, 0, none⟩)], .int .i64 (k : Int), v, undef, undef, undef, undef, undef, undef, undef, undef, undef, undef, undef, undef, undef, undef, undef, undef, undef, undef, undef, undef, undef, undef, undef, undef, undef, undef, undef, undef, undef, undef, undef, undef, undef, undef, undef, undef, undef, undef, undef, undef, undef, undef, undef, undef, undef], defers := [] }) ?assign ?body ?done
  case assign =>
    intro ll k v W K hK
    gi_wp2
    exact hK
  case body =>
    rintro ll i p aa c W ⟨⟨d7, d7'⟩, hbW⟩ hget hLx
    obtain ⟨q, hq⟩ : ∃ q, l[i]? = some q := by
      have : i < l.length := by rw [HLL.out]; exact (List.getElem?_eq_some_iff.1 hget).1
      exact ⟨_, List.getElem?_eq_getElem this⟩
    have hpq : p = (q.1, q.2.2) := by
      have h1 := hget
      rw [← HBO.out] at h1
      unfold both at h1
      rw [List.getElem?_map, hq] at h1
      injection h1 with h1
      exact h1.symm
    subst hpq
    have hil : (i : Int) < (l.length : Int) := by have := (List.getElem?_eq_some_iff.1 hq).1; omega
    have hil2 : i ≤ 600 := by
      have h1 := (List.getElem?_eq_some_iff.1 hget).1
      have h2 := recsAt_count 0 bs
      have h3 : recs bs = recsAt 0 bs := rfl
      rw [h3] at h1
      omega
    have e3 := (hbW.cell (p := ⟨w1.heap.size, 0, none⟩) (by show w1.heap.size < _; omega)).trans G3'
    have e4 := (hbW.cell (p := ⟨w1.heap.size + 1, 0, none⟩) (by show w1.heap.size + 1 < _; omega)).trans G4'
    have P1 := own_kept O1' hbW
    have P2 := own_kept O2' hbW
    have LQ := (E' q (List.mem_of_getElem? hq)).later hbW
    have k1 : ∃ g, x1 = some ⟨g, 0, none⟩ ∧ W.cell? ⟨g, i, none⟩ = some (.int .i64 (q.1 : Int)) := by
      rcases P1.2 with ⟨e, _⟩ | ⟨g, cp, cur, e, _⟩
      · injection e with _ e _; omega
      · injection e with e _ _
        subst e
        have := P1.cells (g := g) rfl i (.int .i64 (q.1 : Int)) (by unfold ats; rw [List.getElem?_map, hq]; rfl)
        rw [add_addr, Nat.zero_add] at this
        exact ⟨g, rfl, this⟩
    have k2 : ∃ g, x2 = some ⟨g, 0, none⟩ ∧ W.cell? ⟨g, i, none⟩ = some q.2.1 := by
      rcases P2.2 with ⟨e, _⟩ | ⟨g, cp, cur, e, _⟩
      · injection e with _ e _; omega
      · injection e with e _ _
        subst e
        have := P2.cells (g := g) rfl i q.2.1 (by unfold ins; rw [List.getElem?_map, hq]; rfl)
        rw [add_addr, Nat.zero_add] at this
        exact ⟨g, rfl, this⟩
    obtain ⟨qa, qv, qx⟩ := q
    obtain ⟨g1, rfl, k1⟩ := k1
    obtain ⟨g2, rfl, k2⟩ := k2
    dsimp only at hLx LQ k1 k2 hget ⊢
    obtain ⟨qva, qvc, e⟩ := lies_shape LQ
    subst e
    have SQ := Lib.hid (CallsIn.inRound ll (callsIn_wide (n := n - 1 - 1 - 1).2 (same_q W _ _ qx hLx LQ)))
    have hd : 1 ≤ n - 1 - 1 := by omega
    clear hget hq hLx LQ P1 P2 O1' O2' E' G3' G4' R0 R0'
    gi_wp2_with fail
    refine ⟨trivial, ?_⟩
    refine SQ.out.mono ?_
    rintro e w6 ⟨rfl, m, rfl⟩
    have hbm : Below w4.heap.size w4 (W.drewN m) := ⟨hbW.os, hbW.tape, hbW.output, hbW.size, hbW.block⟩
    have f7 : (W.drewN m).cell? ⟨w4.heap.size, 0, none⟩ = some (.int .i64 (i : Int)) := d7
    have f7' : (W.drewN m).frozen? ⟨w4.heap.size, 0, none⟩ = false := d7'
    have KO := keeps_drewN W m
    have KR := row_drewN (lo := w1.heap.size + 2) (hi := w4.heap.size) W m
    generalize W.drewN m = Wm at *
    have c8 : (Wm.setCell ⟨w4.heap.size, 0, none⟩ (.int .i64 ((i : Int) + 1))).cell? ⟨w4.heap.size, 0, none⟩ = some (.int .i64 ((i : Int) + 1)) := World.cell?_setCell_same' _ _ _ (by rw [f7]; rfl)
    have HG : Hid (goesOn (w1.heap.size + 2) w4.heap.size (fun i W => (W.cell? ⟨w4.heap.size, 0, none⟩ = some (.int .i64 (i : Int)) ∧ W.frozen? ⟨w4.heap.size, 0, none⟩ = false) ∧ Below w4.heap.size w4 W) i W .normal { tmps := #[], defers := [] } (Wm.setCell ⟨w4.heap.size, 0, none⟩ (.int .i64 ((i : Int) + 1)))) := Lib.hid ⟨KO.trans (KeepsOthers.setCell _ _ _), KR.trans (KeepRow.setCell_far _ _ _ _ (Nat.le_refl _)), ⟨by rw [c8]; rfl, by rw [World.frozen?_setCell]; exact f7'⟩, hbm.setCell (p := ⟨w4.heap.size, 0, none⟩) (Nat.le_refl _) _⟩
    clear c8
    gi_wp2
    exact HG.out
  case done =>
    rintro D W hD ⟨⟨d7, d7'⟩, hbW⟩ hK
    have hwW := hwb.trans (hbW.mono hwb.size)
    have WW := Lib.hid (WA.out W hwW)
    have e3 := (hbW.cell (p := ⟨w1.heap.size, 0, none⟩) (by show w1.heap.size < _; omega)).trans G3'
    have hw14 := hb04.size
    have hz0 := HZ.out
    have r0 := (hbW.cell (p := ⟨w.heap.size, 0, none⟩) (by show w.heap.size < _; omega)).trans R0
    have r0' := (hbW.frozen (p := ⟨w.heap.size, 0, none⟩) (by show w.heap.size < _; omega)).trans R0'
    have hDW := (Array.getElem?_eq_some_iff.1 hK).1
    have hz5 := HZ.out
    have hsz4 := hbW.size
    have h7 := World.block_lt_of_cell? W _ d7
    have h3 := World.block_lt_of_cell? W _ e3
    have h0 := World.block_lt_of_cell? W _ r0
    rw [← HLL.out] at d7
    clear G3' G4' O1' O2' E' R0 R0'
    gi_wp2_with fail
    refine ⟨trivial, ?_⟩
    refine WW.out.mono ?_
    rintro e w6 ⟨rfl, hb6⟩
    have i7 := (hb6.cell (p := ⟨w4.heap.size, 0, none⟩) h7).trans d7
    have i3 := (hb6.cell (p := ⟨w1.heap.size, 0, none⟩) h3).trans e3
    have s0 := (hb6.cell (p := ⟨w.heap.size, 0, none⟩) h0).trans r0
    have s0' := (hb6.frozen (p := ⟨w.heap.size, 0, none⟩) h0).trans r0'
    have hK6 := (hb6.block D hDW).trans hK
    have hw6 := hwW.trans (hb6.mono hwW.size)
    have HL2 := HLL.out
    rw [← HL2]
    have AW := Lib.hid (AA.out w6)
    have hD6 := (Array.getElem?_eq_some_iff.1 hK6).1
    have h06 := World.block_lt_of_cell? w6 _ s0
    clear d7 e3 r0 r0' hK hb6
    gi_wp2_with fail
    refine ⟨trivial, ?_⟩
    refine AW.out.mono ?_
    rintro e w7 ⟨rfl, hb7⟩
    have u0 := (hb7.cell (p := ⟨w.heap.size, 0, none⟩) h06).trans s0
    have u0' := (hb7.frozen (p := ⟨w.heap.size, 0, none⟩) h06).trans s0'
    have hK7 := (hb7.block D hD6).trans hK6
    have hw7 := hw6.trans (hb7.mono hw6.size)
    clear i7 i3 s0 s0' hK6 hb7
    gi_wp2
    have hK' := (KeepsOthers.setCell w7 ⟨w.heap.size, 0, none⟩ (.bool true)).same D _ hK7 rfl
    refine ⟨by simp, .inl ⟨_, _, rfl, run_takeDeferred hK', ?_⟩⟩
    have hc5 := cell_kept (World.cell?_setCell_same' w7 ⟨w.heap.size, 0, none⟩ (.bool true) (by rw [u0]; rfl)) (grownBy_putObj' _ D (.deferred none)) (fun r e => by cases e; exact ⟨_, hK', rfl⟩)
    have hDw : w.heap.size ≤ D := by have := hwb.size; omega
    refine ⟨.bool true, ?_, rfl, (hw7.setCell (p := ⟨w.heap.size, 0, none⟩) (Nat.le_refl _) _).trans (belowK_b (w := w) (Nat.le_refl _) _ D _ _ hDw hK' rfl rfl)⟩
    simp [results, Try.f4, go_sem, hc5]

theorem alls_all (w : World) (v : Value) (bs : List Nat) (h : Lies w v bs) (hb : Byt bs) :
    Calls Try.prog 4 #[v] w fun e w' => e = .returned (.bool true) ∧ Below w.heap.size w w' := by
  by_cases hl : 600 < bs.length
  · obtain ⟨ao, cap, rfl, _⟩ := h
    exact alls_big w ao _ cap hl
  · exact callsIn_wide.1 (alls_in 4 (Nat.le_refl _) w v bs h hb (by omega))
end Go.Proofs.Ytpklcddfoegogaa
