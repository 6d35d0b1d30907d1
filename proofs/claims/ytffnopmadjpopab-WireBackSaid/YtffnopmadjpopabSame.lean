/- 'writes' on no writer; the reference's 'Same' on two slices that hold the same bytes. -/
import Derived.Test.YtffnopmadjpopabWrites
set_option linter.unusedVariables false
namespace Go.Proofs.Ytffnopmadjpopab
open Go.RowKit

set_option maxRecDepth 100000 in
set_option maxHeartbeats 1000000 in
theorem writes_nil (w : World) (k n : Int) (s : ByteArray) (x y : Int) (hn : n ≤ 9223372036854775807) (hx : x ≤ 9223372036854775807) (hy : y ≤ 9223372036854775807) (hs : s.size ≤ 1000) :
    Calls Try.prog 8 #[.pointer none, part k n s x y] w fun e w' => ∃ r, e = .returned r ∧ Below w.heap.size w w' := by
  unfold part
  have hX := (Below.refl w.heap.size w).alloc (Nat.le_refl _) (.cells #[.int .i64 k, .int .i64 n, .string s, .int .i64 x, .int .i64 y] 30)
  have hbox := heap_alloc_new w (.cells #[.int .i64 k, .int .i64 n, .string s, .int .i64 x, .int .i64 y] 30)
  have HX := Lib.hid hX
  have HB := Lib.hid hbox
  clear hX hbox
  by_cases k0 : k = 0
  · subst k0
    go_enter Try.func8, Try.ntmps8
    go_wp2_with fail
    refine (wnum_nil _ n).mono ?_
    rintro e w1 ⟨rfl, rfl⟩
    go_wp2_with fail
    refine (rnum_any _ n hn).mono ?_
    rintro e w2 ⟨r, rfl, ho⟩
    have HO := Lib.hid ho
    clear ho
    go_wp2
    go_returns
    exact ⟨r, rfl, HX.out.trans (HO.out.2.mono HX.out.size)⟩
  · by_cases k1 : k = 1
    · subst k1
      clear k0
      generalize hbb : (n == 1) = bb
      have HBB := Lib.hid hbb
      clear hbb
      go_enter Try.func8, Try.ntmps8
      go_wp2_with fail
      rw [HBB.out]
      refine (wflag_nil _ bb).mono ?_
      rintro e w1 ⟨rfl, rfl⟩
      go_wp2_with fail
      rw [HBB.out]
      refine (rflag_any _ bb).mono ?_
      rintro e w2 ⟨r, rfl, ho⟩
      have HO := Lib.hid ho
      clear ho
      go_wp2
      go_returns
      exact ⟨r, rfl, HX.out.trans (HO.out.2.mono HX.out.size)⟩
    · by_cases k2 : k = 2
      · subst k2
        clear k0 k1
        go_enter Try.func8, Try.ntmps8
        go_wp2_with fail
        refine (wtext_nil _ s).mono ?_
        rintro e w1 ⟨rfl, rfl⟩
        go_wp2_with fail
        refine (rtext_any _ s (by omega)).mono ?_
        rintro e w2 ⟨r, rfl, ho⟩
        have HO := Lib.hid ho
        clear ho
        go_wp2
        go_returns
        exact ⟨r, rfl, HX.out.trans (HO.out.2.mono HX.out.size)⟩
      · by_cases k3 : k = 3
        · subst k3
          clear k0 k1 k2
          go_enter Try.func8, Try.ntmps8
          go_wp2_with fail
          refine (wstamp_nil _ x y).mono ?_
          rintro e w1 ⟨rfl, hb⟩
          have hb1 := (hb.block w.heap.size (by simp)).trans HB.out
          obtain ⟨c0, c1, c2, c3, c4⟩ := five_cells hb1
          have K := Lib.hid hb
          clear hb hb1
          go_wp2_with fail
          refine (rstamp_any w1 x y hx hy).mono ?_
          rintro e w2 ⟨r, rfl, ho⟩
          have HO := Lib.hid ho
          clear ho
          go_wp2
          go_returns
          have B1 := HX.out.trans (K.out.mono HX.out.size)
          exact ⟨r, rfl, B1.trans (HO.out.2.mono B1.size)⟩
        · have t0 := bneb_ k 0 k0
          have t1 := bneb_ k 1 k1
          have t2 := bneb_ k 2 k2
          have t3 := bneb_ k 3 k3
          clear k0 k1 k2 k3
          go_enter Try.func8, Try.ntmps8
          go_wp2
          go_returns
          exact ⟨_, rfl, HX.out⟩

theorem below_drewN (w : World) : ∀ n, Below w.heap.size w (w.drewN n) := fun n => ⟨rfl, rfl, rfl, Nat.le_refl _, fun _ _ => rfl⟩

set_option maxRecDepth 100000 in
set_option maxHeartbeats 1000000 in
theorem same_any (w : World) (v1 v2 : Value) (l : List Int) (h1 : Lies w v1 l) (h2 : Lies w v2 l) (hl : l.length ≤ 10000000) :
    Calls Try.prog 9 #[v1, v2] w fun e w' => e = .returned (.bool true) ∧ Below w.heap.size w w' := by
  obtain ⟨a1, p1, rfl, hp1, n1, hc1⟩ := h1
  obtain ⟨a2, p2, rfl, hp2, n2, hc2⟩ := h2
  go_enter Try.func9, Try.ntmps9
  go_wp2
  go_loopw [5] (fun kv wr => ∃ k : Nat, kv = .int .i64 k ∧ k ≤ l.length ∧ ∃ n, wr = w.drewN n) (fun kv _ => l.length - (intOf kv).toNat)
  case atStart => exact ⟨0, rfl, Nat.zero_le _, 0, rfl⟩
  case round =>
    obtain ⟨k, rfl, hk, n, rfl⟩ := hrel
    by_cases hlt : k < l.length
    · obtain ⟨x, hx⟩ : ∃ x, l[k]? = some x := ⟨_, List.getElem?_eq_getElem hlt⟩
      have hx' : (u8s l)[k]? = some (.int .u8 x) := by simp [u8s, hx]
      cases a1 with
      | none => have := (n1 rfl).1; rw [this] at hlt; simp at hlt
      | some b1 =>
        cases a2 with
        | none => have := (n2 rfl).1; rw [this] at hlt; simp at hlt
        | some b2 =>
          have d1 := hc1 b1 rfl k _ hx'
          have d2 := hc2 b2 rfl k _ hx'
          clear hc1 hc2 n1 n2 hx hx'
          go_wp2
          go_quiet (fail)
          go_wp2
          go_roundw
          case rel => exact ⟨k + 1, by go_num, by omega, _, rfl⟩
          case measure => simp [intOf]; omega
    · clear hc1 hc2 n1 n2
      go_wp2
      go_returns
      exact ⟨rfl, below_drewN w n⟩
end Go.Proofs.Ytffnopmadjpopab
