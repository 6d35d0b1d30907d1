/- FrameHurts, walked. -/
import Derived.Test.YtlhicojbpjdbaaaFrP
import Derived.Test.YtlhicojbpjdbaaaFindM
set_option linter.unusedVariables false
namespace Go.Proofs.Ytlhicojbpjdbaaa
open Go.RowKit

theorem vl_setb : ∀ (l : List Nat) (i m x : Nat), l[i]? = some x → m < 256 → (∀ y ∈ l, y < 256) → vl (l.set i (x ^^^ m)) = vl l ^^^ (2 ^ (8 * i) * m)
  | [], i, m, x, h, _, _ => by simp at h
  | y :: l, 0, m, x, h, hm, hl => by
    have : y = x := by simpa using h
    subst this
    have hy := hl y (List.mem_cons_self ..)
    have hx : y ^^^ m < 256 := Nat.xor_lt_two_pow (n := 8) hy hm
    show (y ^^^ m) + 256 * vl l = (y + 256 * vl l) ^^^ (2 ^ (8 * 0) * m)
    rw [add_xor _ _ hx, add_xor _ _ hy, Nat.mul_zero, Nat.pow_zero, Nat.one_mul, Nat.xor_assoc, Nat.xor_assoc, Nat.xor_comm m]
  | y :: l, i + 1, m, x, h, hm, hl => by
    have hy := hl y (List.mem_cons_self ..)
    have ih := vl_setb l i m x (by simpa using h) hm (fun z hz => hl z (List.mem_cons_of_mem _ hz))
    show y + 256 * vl (l.set i (x ^^^ m)) = (y + 256 * vl l) ^^^ (2 ^ (8 * (i + 1)) * m)
    rw [ih, add_xor _ _ hy, add_xor _ _ hy]
    have e : 256 * (vl l ^^^ (2 ^ (8 * i) * m)) = (256 * vl l) ^^^ (256 * (2 ^ (8 * i) * m)) := mul_xor _ _ 8
    have e2 : 256 * (2 ^ (8 * i) * m) = 2 ^ (8 * (i + 1)) * m := by
      rw [← Nat.mul_assoc, show 256 = 2 ^ 8 from rfl, ← Nat.pow_add, show 8 + 8 * i = 8 * (i + 1) by omega]
    rw [e, e2, Nat.xor_assoc]

/-- While bits are turned. -/
structure Fl (w wr : World) (g cap : Nat) (l : List Nat) : Prop where
  b : Below w.heap.size w wr
  ge : w.heap.size ≤ g
  blk : ∃ cur : Array Value, wr.heap[g]? = some (.cells cur 5 (0, 0)) ∧ cur.toList.take l.length = u8s l ∧ cur.size = cap
  le : l.length ≤ cap
  mx : cap ≤ maxLen
theorem Fl.start {w w1 : World} {g cap n : Nat} {l : List Nat} (h : RowOut w w1 (.slice (some ⟨g, 0, none⟩) n cap) l) : Fl w w1 g cap l ∧ n = l.length := by
  rcases h.1.2 with ⟨h2, _⟩ | ⟨g', cap', cur, e, hB, hg, hn, hm, hs, ht⟩
  · cases h2
  · injection e with e1 e2 e3
    injection e1 with e1
    injection e1 with e1
    subst e1 e2 e3
    exact ⟨⟨h.2, hB, ⟨cur, hg, by rw [Nat.mul_one] at ht; exact ht, by rw [hs, Nat.mul_one]⟩, hn, hm⟩, rfl⟩
theorem Fl.cell {w wr : World} {g cap : Nat} {l : List Nat} (h : Fl w wr g cap l) {j x : Nat} (hj : l[j]? = some x) : wr.cell? ⟨g, j, none⟩ = some (.int .u8 (x : Int)) ∧ wr.frozen? ⟨g, j, none⟩ = false := by
  obtain ⟨cur, hg, ht, _⟩ := h.blk
  refine ⟨?_, frozen_of_row _ _ _ _ _ hg⟩
  have hl := (List.getElem?_eq_some_iff.1 hj).1
  have h2 : (u8s l)[j]? = some (.int .u8 (x : Int)) := by rw [u8s_get, hj]; rfl
  rw [← ht, List.getElem?_take, if_pos hl] at h2
  rw [cell_of_row _ _ _ _ _ _ hg, ← Array.getElem?_toList]
  exact h2
theorem Fl.set {w wr : World} {g cap : Nat} {l : List Nat} (h : Fl w wr g cap l) (p y : Nat) : Fl w (wr.setCell ⟨g, p, none⟩ (.int .u8 (y : Int))) g cap (l.set p y) := by
  obtain ⟨cur, hg, ht, hc⟩ := h.blk
  refine ⟨h.b.setCell h.ge _, h.ge, ⟨_, row_setC hg, ?_, by rw [Array.size_setIfInBounds, hc]⟩, by rw [List.length_set]; exact h.le, h.mx⟩
  rw [List.length_set, Array.toList_setIfInBounds, List.take_set, ht]
  unfold u8s
  rw [List.map_set]
theorem Fl.lies {w wr : World} {g cap : Nat} {l : List Nat} (h : Fl w wr g cap l) : Lies wr (.slice (some ⟨g, 0, none⟩) l.length cap) l := by
  obtain ⟨cur, hg, ht, hc⟩ := h.blk
  refine ⟨_, cap, rfl, h.le, h.mx, (fun e => by cases e), fun b hb _ => ?_⟩
  cases hb
  exact ⟨g, 0, rfl, (Array.getElem?_eq_some_iff.1 hg).1, fun j x hj => by rw [Nat.zero_add]; exact (h.cell hj).1⟩

theorem x8 (a b : Nat) (ha : a < 256) (hb : b < 256) : bits .xor .u8 (a : Int) (b : Int) = ((a ^^^ b : Nat) : Int) := by
  have hx : a ^^^ b < 2 ^ 8 := Nat.xor_lt_two_pow (n := 8) ha hb
  show IntKind.u8.wrap ((BitVec.ofInt 8 (a : Int) ^^^ BitVec.ofInt 8 (b : Int)).toNat : Int) = _
  rw [BitVec.toNat_xor, BitVec.ofInt_natCast, BitVec.ofInt_natCast, BitVec.toNat_ofNat, BitVec.toNat_ofNat, Nat.mod_eq_of_lt (show a < 2 ^ 8 from ha), Nat.mod_eq_of_lt (show b < 2 ^ 8 from hb), IntKind.wrap_u8']
  omega


set_option maxRecDepth 100000 in
set_option maxHeartbeats 800000 in
theorem hurts_big (w : World) (k f t : Int) (ao : Option Addr) (n cap : Nat) (at_ x : Nat) (h : 500 < n) :
    Calls Try.prog 5 #[.agg #[.int .i64 k, .int .i64 f, .int .i64 t, .slice ao n cap], .int .u16 (at_ : Int), .int .u8 (x : Int)] w fun e w' => e = .returned (.bool true) ∧ Below w.heap.size w w' := by
  have HX := Lib.hid ((Below.refl w.heap.size w).alloc (Nat.le_refl _) (.cells #[.int .i64 k, .int .i64 f, .int .i64 t, .slice ao n cap] 24))
  have A := Lib.hid awake_any
  go_enter Try.func5, Try.ntmps5
  go_wp2_with fail
  refine (A.out _).mono ?_
  rintro e w1 ⟨rfl, hb⟩
  have HB := Lib.hid (HX.out.trans (hb.mono HX.out.size))
  clear hb
  go_wp2
  go_returns
  exact ⟨rfl, HB.out⟩

set_option maxRecDepth 100000 in
set_option maxHeartbeats 800000 in
theorem hurts_no (w : World) (k f t : Int) (ao : Option Addr) (n cap : Nat) (at_ x : Nat) (h : n ≤ 500) (hc : chk k f t n ≠ 0) :
    Calls Try.prog 5 #[.agg #[.int .i64 k, .int .i64 f, .int .i64 t, .slice ao n cap], .int .u16 (at_ : Int), .int .u8 (x : Int)] w fun e w' => e = .returned (.bool true) ∧ Below w.heap.size w w' := by
  have HX := Lib.hid ((Below.refl w.heap.size w).alloc (Nat.le_refl _) (.cells #[.int .i64 k, .int .i64 f, .int .i64 t, .slice ao n cap] 24))
  have A := Lib.hid awake_any
  have R := Lib.hid (fun W => rcheck_any W k f t ao n cap)
  generalize chk k f t n = c at *
  have t1 := neb_ c 0 hc
  clear hc
  go_enter Try.func5, Try.ntmps5
  go_wp2_with fail
  refine (R.out _).mono ?_
  rintro e w1 ⟨rfl, hb⟩
  have HB := Lib.hid (HX.out.trans (hb.mono HX.out.size))
  clear hb
  go_wp2_with fail
  refine (A.out _).mono ?_
  rintro e w2 ⟨rfl, hb⟩
  have HB2 := Lib.hid (HB.out.trans (hb.mono HB.out.size))
  clear hb
  go_wp2
  go_returns
  exact ⟨rfl, HB2.out⟩

set_option maxRecDepth 100000 in
set_option maxHeartbeats 800000 in
theorem hurts_zero (w : World) (k f t : Int) (ao : Option Addr) (n cap : Nat) (at_ : Nat) (h : n ≤ 500) (hc : chk k f t n = 0) :
    Calls Try.prog 5 #[.agg #[.int .i64 k, .int .i64 f, .int .i64 t, .slice ao n cap], .int .u16 (at_ : Int), .int .u8 0] w fun e w' => e = .returned (.bool true) ∧ Below w.heap.size w w' := by
  have HX := Lib.hid ((Below.refl w.heap.size w).alloc (Nat.le_refl _) (.cells #[.int .i64 k, .int .i64 f, .int .i64 t, .slice ao n cap] 24))
  have A := Lib.hid awake_any
  have R := Lib.hid (fun W => rcheck_any W k f t ao n cap)
  rw [hc] at R
  clear hc
  go_enter Try.func5, Try.ntmps5
  go_wp2_with fail
  refine (R.out _).mono ?_
  rintro e w1 ⟨rfl, hb⟩
  have HB := Lib.hid (HX.out.trans (hb.mono HX.out.size))
  clear hb
  go_wp2_with fail
  refine (A.out _).mono ?_
  rintro e w2 ⟨rfl, hb⟩
  have HB2 := Lib.hid (HB.out.trans (hb.mono HB.out.size))
  clear hb
  go_wp2
  go_returns
  exact ⟨rfl, HB2.out⟩

set_option maxRecDepth 100000 in
set_option maxHeartbeats 1600000 in
theorem hurts_ok (w : World) (k f t : Nat) (v : Value) (bs : List Nat) (at_ x : Nat) (ha : at_ < 65536) (hx : x < 256) (hx0 : x ≠ 0) (h : Lies w v bs) (hb : Byt bs) (hk : k < 256) (hf : f < 256) (ht : t < 256) (hl : bs.length ≤ 500) (hc : chk k f t bs.length = 0) :
    Calls Try.prog 5 #[.agg #[.int .i64 k, .int .i64 f, .int .i64 t, v], .int .u16 (at_ : Int), .int .u8 (x : Int)] w fun e w' => e = .returned (.bool true) ∧ Below w.heap.size w w' := by
  have hlen : (seal' (fb k f t bs)).length = bs.length + 8 := by rw [seal_length, fb_length]; omega
  have hss := seal_byt (fb_byt hb hk hf ht)
  obtain ⟨L, hL⟩ : ∃ L, L = bs.length + 8 := ⟨_, rfl⟩
  obtain ⟨j, hj⟩ : ∃ j, j = at_ % L := ⟨_, rfl⟩
  have hjL : j < L := by rw [hj]; exact Nat.mod_lt _ (by omega)
  have HNS : Hid (∀ y, (seal' (fb k f t bs))[j]? = some y → ¬ Sealed ((seal' (fb k f t bs)).set j (y ^^^ x))) := Lib.hid (fun y hy => by
    have hyb := hss y (List.mem_of_getElem? hy)
    refine turned_not_sealed (fb k f t bs) _ (8 * j) x (fb_byt hb hk hf ht) (fun z hz => ?_) (by rw [List.length_set]) (by omega) (by omega) hx0 (vl_setb _ j x y hy hx hss)
    rcases List.mem_or_eq_of_mem_set hz with hz | hz
    · exact hss z hz
    · rw [hz]; exact Nat.xor_lt_two_pow (n := 8) hyb hx)
  have A := Lib.hid awake_any
  have RP := Lib.hid (fun W (hW : Below w.heap.size w W) => rput_any W k f t v bs (h.later hW) hb hk hf ht (by omega))
  obtain ⟨ao, cap, rfl, _⟩ := h
  have R := Lib.hid (fun W => rcheck_any W k f t ao bs.length cap)
  rw [hc] at R
  have G0 := Lib.hid (heap_alloc_new w (.cells #[.int .i64 k, .int .i64 f, .int .i64 t, .slice ao bs.length cap] 24))
  have B0 := Lib.hid ((Below.refl w.heap.size w).alloc (Nat.le_refl _) (.cells #[.int .i64 k, .int .i64 f, .int .i64 t, .slice ao bs.length cap] 24))
  have en : (at_ : Int) % (L : Int) = (j : Int) := by rw [hj]; exact (Int.natCast_emod _ _).symm
  have t1 := bneb_ (x : Int) 0 (by omega)
  have hL1 : L ≤ 508 := by omega
  have hL2 : 8 ≤ L := by omega
  rw [← hL] at hlen
  generalize seal' (fb k f t bs) = ss at *
  have HLEN := Lib.hid hlen
  have HSS := Lib.hid hss
  clear hc hb hlen hss hL hj hx0
  go_enter Try.func5, Try.ntmps5
  go_wp2_with fail
  refine (R.out _).mono ?_
  rintro e w1 ⟨rfl, hb⟩
  have G1 := Lib.hid (box_step G0.out hb)
  have B1 := Lib.hid (B0.out.trans (hb.mono B0.out.size))
  obtain ⟨⟨c0, c1, c2, c3⟩, _⟩ := rbox_cells G1.out
  clear hb
  go_wp2_with fail
  refine (RP.out _ B1.out).mono ?_
  rintro e w2 ⟨r, rfl, hr⟩
  clear c0 c1 c2 c3
  have hr2 : RowOut w w2 r ss := hr.later B1.out
  obtain ⟨ra, rc, rfl⟩ := own_shape hr.1
  cases ra with
  | none =>
    have := own_lies hr.1
    obtain ⟨ao', cap', e, _, _, h0, _⟩ := this
    injection e with e1 _ _
    have := (h0 e1.symm).1
    have hh := HLEN.out
    rw [this] at hh
    simp at hh
    omega
  | some ra =>
    obtain ⟨g, rfl⟩ : ∃ g, ra = ⟨g, 0, none⟩ := by
      rcases hr.1.2 with ⟨h2, _⟩ | ⟨g', cap', cur, e, _⟩
      · cases h2
      · injection e with e1 _ _
        injection e1 with e1
        exact ⟨g', e1⟩
    obtain ⟨hF, hlen⟩ := Fl.start hr2
    obtain ⟨y, hy⟩ : ∃ y, ss[j]? = some y := ⟨_, List.getElem?_eq_getElem (by rw [HLEN.out]; exact hjL)⟩
    have hyb := HSS.out y (List.mem_of_getElem? hy)
    obtain ⟨c0, f0⟩ := hF.cell hy
    have ex := x8 y x hyb hx
    have hns := HNS.out y hy
    have hF2 := hF.set j (y ^^^ x)
    have hz : y ^^^ x < 256 := Nat.xor_lt_two_pow (n := 8) hyb hx
    have hsb : Byt (ss.set j (y ^^^ x)) := fun z hz' => by
      rcases List.mem_or_eq_of_mem_set hz' with h | h
      · exact HSS.out z h
      · rw [h]; exact hz
    generalize y ^^^ x = z at *
    have hl3 : (ss.set j z).length = L := by rw [List.length_set]; exact HLEN.out
    have hLi := hF2.lies
    have O := Lib.hid (get_sum _ _ _ hLi hsb (by rw [hl3]; omega) (by rw [hl3]; omega) hns)
    rw [hl3] at O
    have BF := Lib.hid hF2.b
    rw [HLEN.out]
    clear hr hr2 hF hlen hy hyb hns hF2 hz hsb hl3 hLi HNS
    go_wp2_with fail
    refine O.out.mono ?_
    rintro e w3 ⟨rfl, hb⟩
    have B3 := Lib.hid (BF.out.trans (hb.mono BF.out.size))
    clear hb c0 f0 ex
    go_wp2_with fail
    have hX := (Below.refl w3.heap.size w3).alloc (Nat.le_refl _) (.cells #[.int .i64 0, .int .i64 0, .int .i64 0, .slice none 0 0] 29)
    refine (are_any _ 0 0 0 0 0 0 _ _ [] [] (Lies.nil _) (Lies.nil _) true (by simp)).mono ?_
    rintro e w4 ⟨rfl, hb⟩
    have hb := hX.trans (hb.mono hX.size)
    have B4 := Lib.hid (B3.out.trans (hb.mono B3.out.size))
    clear hb hX
    go_wp2_with fail
    refine (A.out _).mono ?_
    rintro e w10 ⟨rfl, hb⟩
    have B10 := Lib.hid (B4.out.trans (hb.mono B4.out.size))
    clear hb
    go_wp2
    go_returns
    exact ⟨rfl, B10.out⟩

theorem hurts_all (w : World) (k f t : Int) (v : Value) (bs : List Nat) (at_ x : Nat) (ha : at_ < 65536) (hx : x < 256) (h : Lies w v bs) (hb : Byt bs) :
    Calls Try.prog 5 #[.agg #[.int .i64 k, .int .i64 f, .int .i64 t, v], .int .u16 (at_ : Int), .int .u8 (x : Int)] w fun e w' => e = .returned (.bool true) ∧ Below w.heap.size w w' := by
  by_cases hl : 500 < bs.length
  · obtain ⟨ao, cap, rfl, _⟩ := h
    exact hurts_big w k f t ao _ cap at_ x hl
  · by_cases hc : chk k f t bs.length = 0
    · by_cases hx0 : x = 0
      · subst hx0
        obtain ⟨ao, cap, rfl, _⟩ := h
        exact hurts_zero w k f t ao _ cap at_ (by omega) hc
      · obtain ⟨a, b, c, rfl, rfl, rfl, h1, h2, h3⟩ := chk_ok hc
        exact hurts_ok w a b c v bs at_ x ha hx hx0 h hb h1 h2 h3 (by omega) hc
    · obtain ⟨ao, cap, rfl, _⟩ := h
      exact hurts_no w k f t ao _ cap at_ x (by omega) hc
end Go.Proofs.Ytlhicojbpjdbaaa
