/- FramePuts, walked. -/
import Derived.Test.YtlhicojbpjdbaaaFrL
import Derived.Test.YtlhicojbpjdbaaaFrE
import Derived.Test.YtlhicojbpjdbaaaFrI
set_option linter.unusedVariables false
namespace Go.Proofs.Ytlhicojbpjdbaaa
open Go.RowKit

theorem box_step {w w' : World} {b : Nat} {c : Array Value} {T : TypeId} (g : w.heap[b]? = some (.cells c T (0, 0))) (hb : Below w.heap.size w w') : w'.heap[b]? = some (.cells c T (0, 0)) :=
  (hb.block b (Array.getElem?_eq_some_iff.1 g).1).trans g
theorem seal_front (k f t : Nat) (bs : List Nat) : (seal' (fb k f t bs)).take ((seal' (fb k f t bs)).length - 4) = 1 :: k :: f :: t :: bs := by
  rw [seal_length]
  unfold seal'
  rw [show (fb k f t bs).length + 4 - 4 = (fb k f t bs).length by omega, List.take_left']
  · rfl
  · rfl

set_option maxRecDepth 100000 in
set_option maxHeartbeats 800000 in
theorem puts_big (w : World) (k f t : Int) (ao : Option Addr) (n cap : Nat) (h : 500 < n) :
    Calls Try.prog 3 #[.agg #[.int .i64 k, .int .i64 f, .int .i64 t, .slice ao n cap]] w fun e w' => e = .returned (.bool true) ∧ Below w.heap.size w w' := by
  have HX := Lib.hid ((Below.refl w.heap.size w).alloc (Nat.le_refl _) (.cells #[.int .i64 k, .int .i64 f, .int .i64 t, .slice ao n cap] 24))
  have A := Lib.hid awake_any
  go_enter Try.func3, Try.ntmps3
  go_wp2_with fail
  refine (A.out _).mono ?_
  rintro e w1 ⟨rfl, hb⟩
  have HB := Lib.hid (HX.out.trans (hb.mono HX.out.size))
  clear hb
  go_wp2
  go_returns
  exact ⟨rfl, HB.out⟩

set_option maxRecDepth 100000 in
set_option maxHeartbeats 1600000 in
theorem puts_err (w : World) (k f t : Int) (ao : Option Addr) (n cap : Nat) (hn : n ≤ 500) (hc : chk k f t n ≠ 0) :
    Calls Try.prog 3 #[.agg #[.int .i64 k, .int .i64 f, .int .i64 t, .slice ao n cap]] w fun e w' => e = .returned (.bool true) ∧ Below w.heap.size w w' := by
  have A := Lib.hid awake_any
  have P := Lib.hid (fun W => put_err W k f t ao n cap hc)
  have R := Lib.hid (fun W => rcheck_any W k f t ao n cap)
  have C := Lib.hid (fun W => check_any W k f t ao n cap)
  have T := Lib.hid (fun W => to_any W k f t ao n cap)
  have G0 := Lib.hid (heap_alloc_new w (.cells #[.int .i64 k, .int .i64 f, .int .i64 t, .slice ao n cap] 24))
  have B0 := Lib.hid ((Below.refl w.heap.size w).alloc (Nat.le_refl _) (.cells #[.int .i64 k, .int .i64 f, .int .i64 t, .slice ao n cap] 24))
  generalize chk k f t n = c at *
  have t1 := neb_ c 0 hc
  clear hc
  go_enter Try.func3, Try.ntmps3
  go_wp2_with fail
  refine (T.out _).mono ?_
  rintro e w1 ⟨rfl, hb⟩
  have G1 := Lib.hid (box_step G0.out hb)
  have B1 := Lib.hid (B0.out.trans (hb.mono B0.out.size))
  clear hb
  go_wp2_with fail
  refine (P.out _).mono ?_
  rintro e w2 ⟨rfl, hb⟩
  have G2 := Lib.hid (box_step G1.out hb)
  have B2 := Lib.hid (B1.out.trans (hb.mono B1.out.size))
  obtain ⟨⟨c0, c1, c2, c3⟩, _⟩ := rbox_cells G2.out
  clear hb
  go_wp2_with fail
  refine (R.out _).mono ?_
  rintro e w3 ⟨rfl, hb⟩
  have G3 := Lib.hid (box_step G2.out hb)
  have B3 := Lib.hid (B2.out.trans (hb.mono B2.out.size))
  clear hb c0 c1 c2 c3
  obtain ⟨⟨c0, c1, c2, c3⟩, _⟩ := rbox_cells G3.out
  go_wp2_with fail
  refine (T.out _).mono ?_
  rintro e w4 ⟨rfl, hb⟩
  have B4 := Lib.hid (B3.out.trans (hb.mono B3.out.size))
  clear hb c0 c1 c2 c3
  go_wp2_with fail
  refine (C.out _).mono ?_
  rintro e w5 ⟨rfl, hb⟩
  have B5 := Lib.hid (B4.out.trans (hb.mono B4.out.size))
  clear hb
  go_wp2_with fail
  refine (A.out _).mono ?_
  rintro e w6 ⟨rfl, hb⟩
  have B6 := Lib.hid (B5.out.trans (hb.mono B5.out.size))
  clear hb
  go_wp2
  go_returns
  exact ⟨rfl, B6.out⟩

set_option maxRecDepth 100000 in
set_option maxHeartbeats 1600000 in
theorem puts_ok (w : World) (k f t : Nat) (v : Value) (bs : List Nat) (h : Lies w v bs) (hb : Byt bs) (hk : k < 256) (hf : f < 256) (ht : t < 256) (hl : bs.length ≤ 500) (hc : chk k f t bs.length = 0) :
    Calls Try.prog 3 #[.agg #[.int .i64 k, .int .i64 f, .int .i64 t, v]] w fun e w' => e = .returned (.bool true) ∧ Below w.heap.size w w' := by
  have hlen : (seal' (fb k f t bs)).length = bs.length + 8 := by rw [seal_length, fb_length]; omega
  have hfr := seal_front k f t bs
  have A := Lib.hid awake_any
  have P := Lib.hid (fun W (hW : Below w.heap.size w W) => put_any W k f t v bs (h.later hW) hb hk hf ht (by omega) hc)
  have RP := Lib.hid (fun W (hW : Below w.heap.size w W) => rput_any W k f t v bs (h.later hW) hb hk hf ht (by omega))
  have GT := Lib.hid (fun W u (hu : Lies W u (seal' (fb k f t bs))) => get_ok W u _ hu (seal_byt (fb_byt hb hk hf ht)) (by omega) (by omega) (sealed_seal _) hfr rfl hc)
  have SM := Lib.hid (fun W v1 v2 h1 h2 => same_any W v1 v2 (seal' (fb k f t bs)) h1 h2)
  have AR := Lib.hid (fun W u (hu : Lies W u bs) (hW : Below w.heap.size w W) => are_any W k f t k f t u v bs bs hu (h.later hW) true (by simp))
  obtain ⟨ao, cap, rfl, _⟩ := h
  have R := Lib.hid (fun W => rcheck_any W k f t ao bs.length cap)
  have C := Lib.hid (fun W => check_any W k f t ao bs.length cap)
  rw [hc] at R C
  have T := Lib.hid (fun W => to_any W k f t ao bs.length cap)
  have G0 := Lib.hid (heap_alloc_new w (.cells #[.int .i64 k, .int .i64 f, .int .i64 t, .slice ao bs.length cap] 24))
  have B0 := Lib.hid ((Below.refl w.heap.size w).alloc (Nat.le_refl _) (.cells #[.int .i64 k, .int .i64 f, .int .i64 t, .slice ao bs.length cap] 24))
  generalize seal' (fb k f t bs) = ss at *
  have HLEN := Lib.hid hlen
  clear hc hb hlen hfr
  go_enter Try.func3, Try.ntmps3
  go_wp2_with fail
  refine (T.out _).mono ?_
  rintro e w1 ⟨rfl, hb⟩
  have G1 := Lib.hid (box_step G0.out hb)
  have B1 := Lib.hid (B0.out.trans (hb.mono B0.out.size))
  clear hb
  go_wp2_with fail
  refine (P.out _ B1.out).mono ?_
  rintro e w2 ⟨r, rfl, hr⟩
  have G2 := Lib.hid (box_step G1.out hr.2)
  have B2 := Lib.hid (B1.out.trans (hr.2.mono B1.out.size))
  have L2 := Lib.hid (own_lies hr.1)
  obtain ⟨ra, rc, rfl⟩ := own_shape hr.1
  obtain ⟨⟨c0, c1, c2, c3⟩, _⟩ := rbox_cells G2.out
  rw [HLEN.out] at L2 ⊢
  clear hr
  go_wp2_with fail
  refine (R.out _).mono ?_
  rintro e w3 ⟨rfl, hb⟩
  have G3 := Lib.hid (box_step G2.out hb)
  have B3 := Lib.hid (B2.out.trans (hb.mono B2.out.size))
  have L3 := Lib.hid (L2.out.later hb)
  clear hb c0 c1 c2 c3
  obtain ⟨⟨c0, c1, c2, c3⟩, _⟩ := rbox_cells G3.out
  go_wp2_with fail
  refine (T.out _).mono ?_
  rintro e w4 ⟨rfl, hb⟩
  have G4 := Lib.hid (box_step G3.out hb)
  have B4 := Lib.hid (B3.out.trans (hb.mono B3.out.size))
  have L4 := Lib.hid (L3.out.later hb)
  clear hb c0 c1 c2 c3
  go_wp2_with fail
  refine (C.out _).mono ?_
  rintro e w5 ⟨rfl, hb⟩
  have G5 := Lib.hid (box_step G4.out hb)
  have B5 := Lib.hid (B4.out.trans (hb.mono B4.out.size))
  have L5 := Lib.hid (L4.out.later hb)
  clear hb
  go_wp2_with fail
  refine (GT.out _ _ L5.out).mono ?_
  rintro e w6 ⟨r2, rfl, hr2, hb⟩
  have hX := (Below.refl w6.heap.size w6).alloc (Nat.le_refl _) (.cells #[.int .i64 k, .int .i64 f, .int .i64 t, r2] 29)
  have hb6 := hb.trans (hX.mono hb.size)
  have G6 := Lib.hid (box_step G5.out hb6)
  have B6 := Lib.hid (B5.out.trans (hb6.mono B5.out.size))
  have L6 := Lib.hid (L5.out.later hb6)
  have F6 := Lib.hid (heap_alloc_new w6 (.cells #[.int .i64 k, .int .i64 f, .int .i64 t, r2] 29))
  have M6 := Lib.hid (hr2.later hX)
  obtain ⟨a2, d2, rfl, _⟩ := hr2
  obtain ⟨⟨c0, c1, c2, c3⟩, _⟩ := rbox_cells G6.out
  clear hb hb6 hX
  go_wp2_with fail
  refine (RP.out _ B6.out).mono ?_
  rintro e w7 ⟨r3, rfl, hr⟩
  have G7 := Lib.hid (box_step G6.out hr.2)
  have F7 := Lib.hid (box_step F6.out hr.2)
  have B7 := Lib.hid (B6.out.trans (hr.2.mono B6.out.size))
  have L7 := Lib.hid (L6.out.later hr.2)
  have M7 := Lib.hid (M6.out.later hr.2)
  have N7 := Lib.hid (own_lies hr.1)
  obtain ⟨r3a, r3c, rfl⟩ := own_shape hr.1
  rw [HLEN.out] at N7 ⊢
  clear hr c0 c1 c2 c3
  go_wp2_with fail
  refine (SM.out _ _ _ L7.out N7.out).mono ?_
  rintro e w8 ⟨rfl, hb⟩
  have G8 := Lib.hid (box_step G7.out hb)
  have F8 := Lib.hid (box_step F7.out hb)
  have B8 := Lib.hid (B7.out.trans (hb.mono B7.out.size))
  have M8 := Lib.hid (M7.out.later hb)
  obtain ⟨⟨c0, c1, c2, c3⟩, _⟩ := rbox_cells G8.out
  obtain ⟨⟨e0, e1, e2, e3⟩, _⟩ := box_cells F8.out
  clear hb
  go_wp2_with fail
  refine (AR.out _ _ M8.out B8.out).mono ?_
  rintro e w9 ⟨rfl, hb⟩
  have B9 := Lib.hid (B8.out.trans (hb.mono B8.out.size))
  clear hb c0 c1 c2 c3 e0 e1 e2 e3
  go_wp2_with fail
  refine (A.out _).mono ?_
  rintro e w10 ⟨rfl, hb⟩
  have B10 := Lib.hid (B9.out.trans (hb.mono B9.out.size))
  clear hb
  go_wp2
  go_returns
  exact ⟨rfl, B10.out⟩

theorem chk_ok {k f t : Int} {n : Nat} (h : chk k f t n = 0) : ∃ a b c : Nat, k = (a : Int) ∧ f = (b : Int) ∧ t = (c : Int) ∧ a < 256 ∧ b < 256 ∧ c < 256 := by
  unfold chk at h
  split at h
  · omega
  · rename_i hno
    have h1 : isRepB f = true := by cases hh : isRepB f with | true => rfl | false => exact absurd (.inr (.inr (.inl hh))) hno
    have h2 : isRepB t = true := by cases hh : isRepB t with | true => rfl | false => exact absurd (.inr (.inr (.inr (.inl hh)))) hno
    have h3 : ¬ (k < 1) := fun h => hno (.inl h)
    have h4 : ¬ (3 < k) := fun h => hno (.inr (.inl h))
    unfold isRepB at h1 h2
    have h1 := of_decide_eq_true h1
    have h2 := of_decide_eq_true h2
    exact ⟨k.toNat, f.toNat, t.toNat, by omega, by omega, by omega, by omega, by omega, by omega⟩

theorem puts_all (w : World) (k f t : Int) (v : Value) (bs : List Nat) (h : Lies w v bs) (hb : Byt bs) :
    Calls Try.prog 3 #[.agg #[.int .i64 k, .int .i64 f, .int .i64 t, v]] w fun e w' => e = .returned (.bool true) ∧ Below w.heap.size w w' := by
  by_cases hl : 500 < bs.length
  · obtain ⟨ao, cap, rfl, _⟩ := h
    exact puts_big w k f t ao _ cap hl
  · by_cases hc : chk k f t bs.length = 0
    · obtain ⟨a, b, c, rfl, rfl, rfl, h1, h2, h3⟩ := chk_ok hc
      exact puts_ok w a b c v bs h hb h1 h2 h3 (by omega) hc
    · obtain ⟨ao, cap, rfl, _⟩ := h
      exact puts_err w k f t ao _ cap (by omega) hc
end Go.Proofs.Ytlhicojbpjdbaaa
