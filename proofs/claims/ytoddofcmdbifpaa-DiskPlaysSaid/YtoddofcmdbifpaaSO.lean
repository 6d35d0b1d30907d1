/- DiskPlays: the law. -/
import Derived.Test.YtoddofcmdbifpaaSLa
import Derived.Test.YtoddofcmdbifpaaSLb
import Derived.Test.YtoddofcmdbifpaaSL4
import Derived.Test.YtoddofcmdbifpaaSL5
import Derived.Test.YtoddofcmdbifpaaSL6
import Derived.Test.YtoddofcmdbifpaaSMs
import Derived.Test.YtoddofcmdbifpaaSN
set_option linter.unusedVariables false
set_option linter.unusedSimpArgs false
set_option maxRecDepth 100000
namespace Go.Proofs.Ytoddofcmdbifpaa
open Go.RowKit Go.WideMaps Go.Maps

theorem does_any (w W : World) (d rb : Nat) (s : DS) (v : Value) (l : List Fl) (lasts : Int) (dn : Bool) (h : PI w W d rb s v l lasts dn) (x : Ac) (hx : AcOk2 w x) (hl : l.length < 79000) (hb : x.b.length ≤ 100) :
    Calls Try.prog 9 #[pv d, .pointer (some ⟨rb, 0, none⟩), .agg #[.int .i64 x.k, .int .u8 x.na, .int .u8 x.t2, .int .i64 x.n, .slice x.ba x.b.length x.bc, .slice x.ka x.kp.length x.kc]] W fun e W' => e = .returned (.bool true) ∧ DONE w d rb s l W' := by
  by_cases k0 : x.k = 0
  · exact does_0 w W d rb s v l lasts dn h x hx hl hb k0
  by_cases k1 : x.k = 1
  · exact does_1 w W d rb s v l lasts dn h x hx hl hb k1
  by_cases k2 : x.k = 2
  · exact does_2 w W d rb s v l lasts dn h x hx hl hb k2
  by_cases k3 : x.k = 3
  · exact does_3 w W d rb s v l lasts dn h x hx hl hb k3
  by_cases k4 : x.k = 4
  · exact does_4 w W d rb s v l lasts dn h x hx hl hb k4
  by_cases k5 : x.k = 5
  · exact does_5 w W d rb s v l lasts dn h x hx hl hb k5
  by_cases k6 : x.k = 6
  · exact does_6 w W d rb s v l lasts dn h x hx hl hb k6
  by_cases k7 : x.k = 7
  · exact does_7 w W d rb s v l lasts dn h x hx hl k7
  by_cases k8 : x.k = 8
  · exact does_8 w W d rb s v l lasts dn h x hx hl k8
  exact does_no w W d rb s v l lasts dn h x hx hl (by omega)
set_option maxHeartbeats 6400000 in
theorem plays_bad (w : World) (v0 : Value) (room : Int) (hr : ¬ (0 ≤ room ∧ room ≤ 16777216)) : Calls Try.prog 3 #[.int .i64 room, v0] w fun e w' => e = .returned (.bool true) ∧ Below w.heap.size w w' := by
  have NW := Lib.hid (new_bad w room hr)
  have RN := Lib.hid (rnew_bad w room hr)
  clear hr
  go_enter Try.func3, Try.ntmps3
  go_wp2_with fail
  refine NW.out.mono ?_
  rintro e w1 ⟨rfl, rfl⟩
  go_wp2_with fail
  refine RN.out.mono ?_
  rintro e w2 ⟨rfl, hb⟩
  have V := vstep w2 (.cells #[.slice none 0 0, .int .i64 0, .int .i64 0, .bool false] 29)
  have B3 := Lib.hid (hb.trans (V.mono hb.size))
  have AW := Lib.hid (awake_any (w2.alloc (.cells #[.slice none 0 0, .int .i64 0, .int .i64 0, .bool false] 29)))
  go_upto_region 3 with (fail)
  obtain ⟨w3, hw3⟩ : ∃ z, w2.alloc (.cells #[.slice none 0 0, .int .i64 0, .int .i64 0, .bool false] 29) = z := ⟨_, rfl⟩
  rw [hw3] at B3 AW ⊢
  clear hw3 V hb
  go_wp2_with fail
  refine AW.out.mono ?_
  rintro e w4 ⟨rfl, hb⟩
  have B4 := Lib.hid (B3.out.trans (hb.mono B3.out.size))
  clear hb
  go_wp2
  go_returns
  exact ⟨rfl, B4.out⟩
set_option maxHeartbeats 12800000 in
theorem plays_good (w : World) (v0 : Value) (room : Int) (l : List Ac) (hl : LiesK enc6 6 w v0 l) (hx : ∀ x ∈ l, AcOk2 w x) (hr : 0 ≤ room ∧ room ≤ 16777216) : Calls Try.prog 3 #[.int .i64 room, v0] w fun e w' => e = .returned (.bool true) ∧ Below w.heap.size w w' := by
  have NW := Lib.hid (new_any w room hr)
  have RNW := Lib.hid (fun W => rnew_any W room hr)
  have LL := Lib.hid hl
  have HX := Lib.hid hx
  have AW := Lib.hid (fun (W : World) (hb : Below w.heap.size w W) => (awake_any W).mono (fun e w' hh => (show e = .returned (.bool true) ∧ Below w.heap.size w w' from ⟨hh.1, hb.trans (hh.2.mono hb.size)⟩)))
  obtain ⟨la, lc, rfl⟩ := hl.shape
  have hlm := hl.len
  clear hl hx hr
  go_enter Try.func3, Try.ntmps3
  go_wp2_with fail
  refine NW.out.mono ?_
  rintro e w1 ⟨rfl, hdk, hb⟩
  have R2 := Lib.hid (RNW.out w1)
  go_wp2_with fail
  refine R2.out.mono ?_
  rintro e w2 ⟨rfl, hb2⟩
  have V := vstep w2 (.cells #[.slice none 0 0, .int .i64 room, .int .i64 (-1), .bool false] 29)
  have K0 := Lib.hid (show PI w (w2.alloc (.cells #[.slice none 0 0, .int .i64 room, .int .i64 (-1), .bool false] 29)) w.heap.size w2.heap.size ⟨none, room, [], false, 0, false⟩ (.slice none 0 0) [] (-1) false from
    ⟨(hdk.step hb2).step V, RB.new w2 (.slice none 0 0) room (-1) false, Nat.le_trans hb.size hb2.size, (fun q => by have := ((hdk.step hb2).base _ q).2; omega), ⟨LiesK.nil _, fun x hx => by cases hx⟩, (fun q => absurd rfl q), (fun x hx => by cases hx), ⟨rfl, rfl, fun _ => rfl⟩, hb.trans ((hb2.trans (V.mono hb2.size)).mono hb.size)⟩)
  go_upto_region 3 with (fail)
  obtain ⟨w3, hw3⟩ : ∃ z, w2.alloc (.cells #[.slice none 0 0, .int .i64 room, .int .i64 (-1), .bool false] 29) = z := ⟨_, rfl⟩
  rw [hw3] at K0 ⊢
  obtain ⟨d, hd⟩ : ∃ d, w.heap.size = d := ⟨_, rfl⟩
  obtain ⟨rb, hrb⟩ : ∃ rb, w2.heap.size = rb := ⟨_, rfl⟩
  have K1 := Lib.hid (show PI w w3 d rb ⟨none, room, [], false, 0, false⟩ (.slice none 0 0) [] (-1) false from by rw [← hd, ← hrb]; exact K0.out)
  rw [hd, hrb]
  clear hw3 V hb hb2 hdk hd hrb K0 NW RNW R2
  go_wp2_with fail
  go_loopw [9] (fun sv wr => ∃ (i : Nat) (s : DS) (v : Value) (m : List Fl) (lasts : Int) (dn : Bool), sv = .int .i64 i ∧ i ≤ l.length ∧ Hid (PI w wr d rb s v m lasts dn ∧ m.length ≤ i ∧ i ≤ 60)) (fun sv _ => l.length - (intOf sv).toNat)
  case atStart => exact ⟨0, _, _, [], _, _, rfl, Nat.zero_le _, Lib.hid ⟨K1.out, Nat.le_refl _, Nat.zero_le _⟩⟩
  case round =>
    obtain ⟨i, s, v, m, lasts, dn, rfl, hi, hK⟩ := hrel
    have K := Lib.hid hK.out.1
    have ML := Lib.hid hK.out.2
    clear hK K1
    by_cases h1 : i < l.length
    · by_cases h2 : i < 60
      · obtain ⟨g, o, a, rfl, ha, hg, a0, a1, a2, a3, a4, a5⟩ := act_at (LL.out.keep K.out.bel (Nat.le_refl _)) h1
        have AO := Lib.hid (HX.out a (List.mem_of_getElem? ha))
        clear ha hg
        by_cases hB : (100 : Int) < (a.b.length : Int)
        · have A2 := Lib.hid (AW.out wr K.out.bel)
          go_wp2_with fail
          refine A2.out.mono ?_
          rintro e w9 ⟨rfl, hb9⟩
          have B9 := Lib.hid hb9
          clear hb9
          go_wp2
          go_returns
          exact ⟨rfl, B9.out⟩
        · have DO := Lib.hid (does_any w wr d rb s v m lasts dn K.out a AO.out (by have := ML.out.1; omega) (by omega))
          have NX := Lib.hid (And.intro h1 h2)
          go_wp2_with fail
          refine DO.out.mono ?_
          rintro e w4 ⟨rfl, t, v4, m4, la4, dn4, hp4, hr4, hm4⟩
          have K4 := Lib.hid hp4
          have ML4 := Lib.hid hm4
          have SA := Lib.hid (same_any w w4 d rb t v4 m4 la4 dn4 hp4 (by have := ML.out.1; omega))
          obtain ⟨va, vc, rfl⟩ := hp4.rd.1.shape
          clear hp4 hr4 hm4 DO a0 a1 a2 a3 a4 a5 K
          obtain ⟨c0, c1, c2, c3⟩ := K4.out.bx.cells
          go_wp2_with fail
          refine SA.out.mono ?_
          rintro e w5 ⟨rfl, hb5⟩
          have K5 := Lib.hid (K4.out.step hb5)
          clear hb5 c0 c1 c2 c3 SA K4
          go_wp2
          go_roundw
          case rel => exact ⟨i + 1, t, _, m4, la4, dn4, by go_num, by have := NX.out.1; omega, Lib.hid ⟨K5.out, by have := ML.out.1; have := ML4.out; omega, by have := NX.out.2; omega⟩⟩
          case measure => have := NX.out.1; simp [intOf]; omega
      · have hn2 : ¬ ((i : Int) < 60) := by omega
        have A2 := Lib.hid (AW.out wr K.out.bel)
        go_wp2_with fail
        refine A2.out.mono ?_
        rintro e w9 ⟨rfl, hb9⟩
        have B9 := Lib.hid hb9
        clear hb9
        go_wp2
        go_returns
        exact ⟨rfl, B9.out⟩
    · have hge : ¬ ((i : Int) < (l.length : Int)) := by omega
      have A2 := Lib.hid (AW.out wr K.out.bel)
      go_wp2_with fail
      refine A2.out.mono ?_
      rintro e w9 ⟨rfl, hb9⟩
      have B9 := Lib.hid hb9
      clear hb9
      go_wp2
      go_returns
      exact ⟨rfl, B9.out⟩
theorem plays_law (w : World) (room : Int) (v0 : Value) (l : List Ac) (hl : LiesK enc6 6 w v0 l) (hx : ∀ x ∈ l, AcOk2 w x) : Calls Try.prog 3 #[.int .i64 room, v0] w fun e w' => e = .returned (.bool true) ∧ Below w.heap.size w w' := by
  by_cases hr : 0 ≤ room ∧ room ≤ 16777216
  · exact plays_good w v0 room l hl hx hr
  · exact plays_bad w v0 room hr
end Go.Proofs.Ytoddofcmdbifpaa
