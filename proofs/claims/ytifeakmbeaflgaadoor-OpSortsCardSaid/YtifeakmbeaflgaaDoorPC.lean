/- The reference's reader: Flag, Stamp, Text. -/
import Derived.Test.YtifeakmbeaflgaaDoorPB
set_option linter.unusedVariables false
set_option linter.unusedSimpArgs false
set_option maxRecDepth 100000
namespace Go.Proofs.YtifeakmbeaflgaaDoor
open Go.RowKit
open Wi (Feed Kr St Byt rd bytesOf)

theorem rs_range {w : World} {M g : Nat} {v : Value} {bs : List Int} {s : St} (h : RS w M g v bs s) : 0 ≤ s.num.1 ∧ s.num.1 ≤ 9223372036854775807 ∧ (s.num.2.bad = 0 ∨ s.num.1 = 0) := by
  obtain ⟨p, hi, hd⟩ := h
  by_cases hb : s.bad = 0
  · have hby : Byt s.bs := by rw [hd hb]; exact hi.byt.drop p
    have := Wi.St.num_range s hby
    exact ⟨this.1, this.2, Wi.St.num_bad s hby⟩
  · rw [num_bad s hb]
    exact ⟨Int.le_refl 0, by show (0 : Int) ≤ _; omega, .inr rfl⟩
theorem RO.step {w w1 w2 : World} {M g : Nat} {v : Value} {bs : List Int} {s : St} (h : Kr w w1 g) (k : RO w1 w2 M g v bs s) : RO w w2 M g v bs s := ⟨k.1, h.trans k.2⟩
set_option maxHeartbeats 1600000 in
theorem rrflag_any (w : World) (M g : Nat) (v : Value) (bs : List Int) (s : St) (h : RS w M g v bs s) :
    Calls Tryd.prog 82 #[ptrR g] w fun e w' => e = .returned (.bool s.flag.1) ∧ RO w w' M g v bs s.flag.2 := by
  have C := Lib.hid (rrnum_any w M g v bs s h)
  have R := rs_range h
  have HS := Lib.hid (show s.flag = if s.num.1 > 1 then (false, s.num.2.fail 4) else (s.num.1 == 1, s.num.2) from rfl)
  clear h
  obtain ⟨⟨n, t⟩, hn⟩ : ∃ q, s.num = q := ⟨_, rfl⟩
  rw [hn] at C R HS
  simp only at C R HS
  obtain ⟨fl, hfl⟩ : ∃ q, s.flag = q := ⟨_, rfl⟩
  rw [hfl] at HS
  simp only [hfl]
  obtain ⟨R1, R2, R3⟩ := R
  clear hn hfl
  unfold ptrR at *
  go_enter Tryd.func82, Tryd.ntmps82
  go_wp2_with fail
  refine C.out.mono ?_
  rintro e w1 ⟨rfl, ⟨p, hi, hd⟩, k1⟩
  have H := Lib.hid hi
  have HD := Lib.hid hd
  have K1 := Lib.hid k1
  obtain ⟨c0, c1, c2⟩ := hi.cells
  have f2 := hi.free 2
  clear hi hd k1 C
  by_cases hb : t.bad = 0
  · have q1 := eqb0 _ _ hb
    by_cases h1 : 1 < n
    · have EQ := Lib.hid (HS.out.trans (if_pos h1))
      have ET := Lib.hid (show t.fail 4 = ⟨[], 4⟩ from by unfold St.fail; rw [if_neg (by omega)])
      have q2 := eqbF n 1 (by omega)
      clear hb R3
      go_wp2
      go_returns
      rw [EQ.out, ET.out]
      exact ⟨rfl, ⟨p, (H.out.set2 4).1, fun q => by cases q⟩, K1.out.trans (H.out.set2 4).2⟩
    · have EQ := Lib.hid (HS.out.trans (if_neg h1))
      clear hb R3
      go_wp2
      go_returns
      rw [EQ.out]
      exact ⟨rfl, ⟨p, H.out, HD.out⟩, K1.out⟩
  · have q1 := eqbF _ _ hb
    have h0 : n = 0 := R3.resolve_left hb
    subst h0
    have EQ := Lib.hid (HS.out.trans (if_neg (by omega)))
    clear hb R3
    go_wp2
    go_returns
    rw [EQ.out]
    exact ⟨rfl, ⟨p, H.out, HD.out⟩, K1.out⟩
theorem box2 (w : World) : (w.alloc (.cells #[.int .i64 0, .int .i64 0] 23)).heap[w.heap.size]? = some (.cells #[.int .i64 0, .int .i64 0] 23 (0, 0)) := heap_alloc_new w _
def sets2 (w : World) (b : Nat) (x y : Value) : World := (w.setCell ⟨b, 0, none⟩ x).setCell ⟨b, 1, none⟩ y
theorem sets2_row {w : World} {b : Nat} {x y x' y' : Value} (h : w.heap[b]? = some (.cells #[x, y] 23 (0, 0))) : (sets2 w b x' y').heap[b]? = some (.cells #[x', y'] 23 (0, 0)) := by
  unfold sets2
  exact Wi.row_setC (j := 1) (u := y') (Wi.row_setC (j := 0) (u := x') h)
theorem sets2_kr {w w1 : World} {g b : Nat} (h : Kr w w1 g) (hb : w.heap.size ≤ b) (x y : Value) : Kr w (sets2 w1 b x y) g := by
  unfold sets2
  exact (h.setNew (p := ⟨b, 0, none⟩) hb x).setNew (p := ⟨b, 1, none⟩) hb y
theorem sets2_below (w1 : World) (b g : Nat) (x y : Value) (hg : g ≠ b) : ∀ k, k ≠ b → (sets2 w1 b x y).heap[k]? = w1.heap[k]? := by
  intro k hk
  unfold sets2
  exact (Below.heap_setCell _ (⟨b, 1, none⟩ : Addr) _ _ hk).trans (Below.heap_setCell _ (⟨b, 0, none⟩ : Addr) _ _ hk)
/-- The reader, where another block turned. -/
theorem RI.other {w w' : World} {M g : Nat} {v : Value} {bs : List Int} {p : Nat} {bad : Int} (h : RI w M g v bs p bad) {b : Nat} (hb : g ≠ b) (hM : M ≤ b) (hs : w.heap.size ≤ w'.heap.size) (hk : ∀ k, k ≠ b → w'.heap[k]? = w.heap[k]?) : RI w' M g v bs p bad := by
  obtain ⟨ao, cap, e, h1, h2, h3⟩ := h.feed
  refine ⟨(hk g hb).trans h.box, ⟨ao, cap, e, h1, h2, fun hne => ?_⟩, h.byt, h.len, Nat.le_trans h.top hs, h.le⟩
  obtain ⟨b', off, e2, ⟨n1, n2⟩, hc⟩ := h3 hne
  refine ⟨b', off, e2, ⟨n1, n2⟩, fun j x hj => ?_⟩
  have := hc j x hj
  unfold World.cell? at this ⊢
  simp only at this ⊢
  rw [hk b' (by omega)]
  exact this
theorem RS.other {w w' : World} {M g : Nat} {v : Value} {bs : List Int} {s : St} (h : RS w M g v bs s) {b : Nat} (hb : g ≠ b) (hM : M ≤ b) (hs : w.heap.size ≤ w'.heap.size) (hk : ∀ k, k ≠ b → w'.heap[k]? = w.heap[k]?) : RS w' M g v bs s := by
  obtain ⟨p, h1, h2⟩ := h
  exact ⟨p, h1.other hb hM hs hk, h2⟩
theorem RS.lt {w : World} {M g : Nat} {v : Value} {bs : List Int} {s : St} (h : RS w M g v bs s) : g < w.heap.size ∧ M ≤ w.heap.size := by
  obtain ⟨p, h1, h2⟩ := h
  exact ⟨lt_of_block h1.box, h1.top⟩
set_option maxHeartbeats 3200000 in
theorem rrstamp_any (w : World) (M g : Nat) (v : Value) (bs : List Int) (s : St) (h : RS w M g v bs s) :
    Calls Tryd.prog 80 #[ptrR g] w fun e w' => e = .returned (.agg #[.int .i64 s.stamp.1.1, .int .i64 s.stamp.1.2]) ∧ RO w w' M g v bs s.stamp.2 := by
  have HS := Lib.hid (show s.stamp = if s.num.2.num.2.bad ≠ 0 then ((0, 0), s.num.2.num.2) else ((s.num.1, s.num.2.num.1), s.num.2.num.2) from rfl)
  have V := vstep w (.cells #[.int .i64 0, .int .i64 0] 23)
  have h0 := h.below V
  have LT := Lib.hid h.lt
  have BX := Lib.hid (box2 w)
  have HV := Lib.hid V
  obtain ⟨W0, hW0⟩ : ∃ z, w.alloc (.cells #[.int .i64 0, .int .i64 0] 23) = z := ⟨_, rfl⟩
  rw [hW0] at h0 BX HV
  have HW := Lib.hid hW0
  have C1 := Lib.hid (rrnum_any W0 M g v bs s h0)
  have C2 := Lib.hid (fun W (h : RS W M g v bs s.num.2) => rrnum_any W M g v bs s.num.2 h)
  clear h V hW0 h0
  obtain ⟨⟨n, t⟩, hn⟩ : ∃ q, s.num = q := ⟨_, rfl⟩
  rw [hn] at C1 C2 HS
  simp only at C1 C2 HS
  obtain ⟨⟨n2, t2⟩, hn2⟩ : ∃ q, t.num = q := ⟨_, rfl⟩
  rw [hn2] at C2 HS
  simp only at C2 HS
  obtain ⟨st, hst⟩ : ∃ q, s.stamp = q := ⟨_, rfl⟩
  rw [hst] at HS
  simp only [hst]
  clear hn hn2 hst
  unfold ptrR at *
  go_enter Tryd.func80, Tryd.ntmps80
  go_upto_region 1 with (fail)
  rw [HW.out]
  go_wp2_with fail
  refine C1.out.mono ?_
  rintro e w1 ⟨rfl, h1, k1⟩
  have D2 := Lib.hid (C2.out w1 h1)
  have K1 := Lib.hid k1
  clear h1 k1 C1 C2
  go_wp2_with fail
  refine D2.out.mono ?_
  rintro e w2 ⟨rfl, ⟨p, hi, hd⟩, k2⟩
  have H := Lib.hid hi
  have HD := Lib.hid hd
  have K2 := Lib.hid (K1.out.trans k2)
  obtain ⟨c0, c1, c2⟩ := hi.cells
  have B2 := Lib.hid (show w2.heap[w.heap.size]? = some (.cells #[.int .i64 0, .int .i64 0] 23 (0, 0)) from (K2.out.block w.heap.size (lt_of_block BX.out) (by have := LT.out.1; omega)).trans BX.out)
  obtain ⟨d0, d1, f0, f1⟩ := Wi.two_cells B2.out
  have KW := Lib.hid (show Kr w w2 g from (Kr.ofBelow g HV.out).trans K2.out)
  clear hi hd k2 D2 K1
  have fin : ∀ (x y : Int), RS (sets2 w2 w.heap.size (.int .i64 x) (.int .i64 y)) M g v bs t2 ∧ Kr w (sets2 w2 w.heap.size (.int .i64 x) (.int .i64 y)) g := fun x y =>
    ⟨(show RS w2 M g v bs t2 from ⟨p, H.out, HD.out⟩).other (b := w.heap.size) (by have := LT.out.1; omega) LT.out.2 (by unfold sets2; simp [World.setCell]) (sets2_below w2 w.heap.size g _ _ (by have := LT.out.1; omega)), sets2_kr KW.out (Nat.le_refl _) _ _⟩
  have FN := Lib.hid fin
  clear fin
  by_cases hb : t2.bad = 0
  · have q1 := nebF _ _ hb
    have EQ := Lib.hid (HS.out.trans (if_neg (by omega)))
    clear hb
    go_wp2
    clear d0 d1 f0 f1 c0 c1 c2
    have r5 := sets2_row (x' := .int .i64 n) (y' := .int .i64 n2) B2.out
    have f5 := Lib.hid (FN.out n n2)
    obtain ⟨w5, hw5⟩ : ∃ z, sets2 w2 w.heap.size (.int .i64 n) (.int .i64 n2) = z := ⟨_, rfl⟩
    rw [hw5] at r5 f5
    unfold sets2 at hw5
    rw [hw5]
    clear hw5
    obtain ⟨d0, d1, _, _⟩ := Wi.two_cells r5
    refine bodyPost_ret (by simp [results, Tryd.results80, go_sem, d0, d1]; try rfl) rfl ?_
    rw [EQ.out]
    exact ⟨rfl, f5.out.1, f5.out.2⟩
  · have q1 := nebT _ _ hb
    have EQ := Lib.hid (HS.out.trans (if_pos hb))
    clear hb
    go_wp2
    clear d0 d1 f0 f1 c0 c1 c2
    have r5 := sets2_row (x' := .int .i64 0) (y' := .int .i64 0) B2.out
    have f5 := Lib.hid (FN.out 0 0)
    obtain ⟨w5, hw5⟩ : ∃ z, sets2 w2 w.heap.size (.int .i64 0) (.int .i64 0) = z := ⟨_, rfl⟩
    rw [hw5] at r5 f5
    unfold sets2 at hw5
    rw [hw5]
    clear hw5
    obtain ⟨d0, d1, _, _⟩ := Wi.two_cells r5
    refine bodyPost_ret (by simp [results, Tryd.results80, go_sem, d0, d1]; try rfl) rfl ?_
    rw [EQ.out]
    exact ⟨rfl, f5.out.1, f5.out.2⟩
/-- A piece of the bytes, as a text. -/
theorem cutR {w : World} {M g : Nat} {ao : Option Addr} {L cap : Nat} {bs : List Int} {p : Nat} {bad : Int} (h : RI w M g (.slice ao L cap) bs p bad) (q N : Nat) (hN : q + N ≤ bs.length) :
    ∃ A, (∀ W, (Instr.slice 36 (.slice ao L cap) (some (.int .i64 (q : Int))) (some (.int .i64 ((q + N : Nat) : Int))) none).run Tryd.prog W = .ok (.slice A N (cap - q)) W) ∧
      (∀ z : Later w, (convert 36 9 (.slice A N (cap - q))).run Tryd.prog z.w = .ok (.string (bytesOf ((bs.drop q).take N))) z.w) := by
  obtain ⟨ao', cap', e, h1, h2, h3⟩ := h.feed
  injection e with e1 e2 e3
  subst e1 e2 e3
  refine ⟨if cap = q then ao else ao.map (·.add (q * 1)), fun W => ?_, fun z => ?_⟩
  · rw [run_slice_lh (P := Tryd.prog) (ht := Tryd.underlying36) (h0 := by omega) (h1 := by omega) (h2 := by omega)]
    show _ = Result.ok (Value.slice (if cap = q then ao else ao.map (·.add (q * 1))) N (cap - q)) W
    have e : N = (q + N) - q := by omega
    conv => rhs; rw [e]
    rfl
  · by_cases hN0 : N = 0
    · subst hN0
      rw [List.take_zero]
      exact Wi.conv_none _ _ _
    · obtain ⟨b, off, rfl, ⟨n1, n2⟩, hc⟩ := h3 (by rintro rfl; simp at hN; omega)
      rw [if_neg (by omega)]
      have ea : (some (⟨b, off, none⟩ : Addr)).map (·.add (q * 1)) = some ⟨b, off + q, none⟩ := by simp [Addr.add]
      rw [ea]
      exact Wi.conv_some (bs := bs.drop q) (fun j x hj => by
        rw [List.getElem?_drop] at hj
        have := hc _ x hj
        rw [show off + q + j = off + (q + j) by omega]
        exact (z.below.cell (p := ⟨b, off + (q + j), none⟩) (by show b < w.heap.size; have := h.top; omega)).trans this) N (cap - q) (by rw [List.length_drop]; omega)
end Go.Proofs.YtifeakmbeaflgaaDoor
