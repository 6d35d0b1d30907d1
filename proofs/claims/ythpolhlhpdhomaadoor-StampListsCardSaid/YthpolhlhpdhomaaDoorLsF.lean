/- Grow, Concat of stamps. -/
import Derived.Test.YthpolhlhpdhomaaDoorLsD
import Derived.Lib.AppendZerosOnto
set_option linter.unusedVariables false
namespace Go.Proofs.YthpolhlhpdhomaaDoor
open Go.RowKit

set_option maxRecDepth 100000 in
set_option maxHeartbeats 800000 in
theorem grow_any (w : World) (n : Nat) (hn : n ≤ 100000) :
    Calls Tryd.prog 51 #[.slice none 0 0, .int .i64 n] w fun e w' => ∃ r, e = .returned r ∧ RowS w w' r [] := by
  obtain ⟨i0, hi, hz0, hz1, hz2⟩ := info_parts Tryd.info23
  by_cases h0 : n = 0
  · subst h0
    go_enter Tryd.func51, Tryd.ntmps51
    go_wp2
    go_returns
    exact ⟨_, rfl, World.ownsRow_nil _ _ _ _, Below.refl _ _⟩
  · have hold : (Builtin.firstCells i0.size 0 (.slice none 0 0)).run Tryd.prog w.drew = .ok ([] : List Value).toArray w.drew := run_firstCells_none w.drew i0.size 0 0 0
    have hcap : Builtin.nextslicecap (0 + n) 0 = n := by rw [nextslicecap_zero (by omega)]; omega
    have hr := fun ty => Lib.run_append_grow_zeros (P := Tryd.prog) w 35 3 ty 23 i0 (.agg #[.int .i64 0, .int .i64 0]) .i64 .i64 Tryd.u35 Tryd.underlying3 hi hz0 none 0 0 [] hold n (by omega) (by omega) (by omega) (by omega) (by rw [hz2]; omega) (by rw [hcap, hz2]; omega)
    have hge := grownCap_ge w (0 + n) 0 23
    have hmx := grownCap_le_maxLen w (0 + n) 0 23 (by unfold maxLen; omega)
    generalize grownCap w (0 + n) 0 23 = G at *
    have hmx2 : G ≤ 9223372036854775807 := by unfold maxLen at hmx; omega
    have h1 : (0 : Int) < (n : Int) := by omega
    have HX : Hid (∀ C : Array Value, C.size = G * 2 → RowS w (w.drew.alloc (.cells C 23)) (.slice (some ⟨w.heap.size, 0, none⟩) 0 G) []) := Lib.hid (fun C hC => by
      refine ⟨⟨rfl, .inr ⟨w.heap.size, G, C, rfl, Nat.le_refl _, heap_alloc_new w.drew _, Nat.zero_le _, hmx, by rw [hC], rfl⟩⟩, ?_⟩
      exact (⟨rfl, rfl, rfl, Nat.le_refl _, fun _ _ => rfl⟩ : Below w.heap.size w w.drew).alloc (Nat.le_refl _) _)
    have HS : Hid ((Builtin.zeroCells #[Value.int .i64 0, Value.int .i64 0] n ++ Builtin.zeroCells #[Value.int .i64 0, Value.int .i64 0] (G - n)).size = G * 2) := Lib.hid (by
      simp only [Array.size_append, size_zeroCells]
      have : (#[Value.int IntKind.i64 0, Value.int IntKind.i64 0] : Array Value).size = 2 := rfl
      rw [this]; omega)
    clear hold hcap h0
    go_enter Tryd.func51, Tryd.ntmps51
    go_wp2_with (at_builtin; refine Lib.wpList_append_run _ rfl (.tmp 20) (.tmp 21) 35 3 rfl _ _ rfl rfl _ _ (hr _) ?_)
    go_returns
    exact ⟨_, rfl, HX.out _ HS.out⟩

/-- A slice of slices of stamps. -/
def Rows2 (w : World) (v : Value) (Ls : List (Value × List St)) : Prop := ∃ ao cap, v = .slice ao Ls.length cap ∧ (ao = none → Ls = []) ∧
  (∀ b, ao = some b → ∃ k o, b = ⟨k, o, none⟩ ∧ k < w.heap.size ∧ ∀ (j : Nat) p, Ls[j]? = some p → w.cell? ⟨k, o + j, none⟩ = some p.1) ∧ ∀ p ∈ Ls, LiesS w p.1 p.2
def cats (Ls : List (Value × List St)) : List St := Ls.flatMap (·.2)
theorem cats_snoc (Ls : List (Value × List St)) (p : Value × List St) : cats (Ls ++ [p]) = cats Ls ++ p.2 := by unfold cats; rw [List.flatMap_append]; simp
theorem cats_le (Ls : List (Value × List St)) (i : Nat) : (cats (Ls.take i)).length ≤ (cats Ls).length := by
  conv => rhs; rw [← List.take_append_drop i Ls]
  unfold cats
  rw [List.flatMap_append, List.length_append]; omega

set_option maxRecDepth 100000 in
set_option maxHeartbeats 1600000 in
theorem concat_any (w : World) (v : Value) (Ls : List (Value × List St)) (h : Rows2 w v Ls) (hn : Ls.length ≤ 1000) (hl : (cats Ls).length ≤ 100000) :
    Calls Tryd.prog 45 #[v] w fun e w' => ∃ r, e = .returned r ∧ RowS w w' r (cats Ls) := by
  obtain ⟨i0, hi, hz0, hz1, hz2⟩ := info_parts Tryd.info23
  obtain ⟨ao, cap, rfl, hno, hcells, hlies⟩ := h
  have HC := Lib.hid hcells
  have HL := Lib.hid hlies
  have HN := Lib.hid hno
  clear hcells hlies hno
  go_enter Tryd.func45, Tryd.ntmps45
  go_wp2
  go_loop [3, 5, 11] (fun sv _ iv => ∃ i s : Nat, iv = .int .i64 i ∧ i ≤ Ls.length ∧ sv = .int .i64 s ∧ s ≤ 100000 ∧ Hid (s = (cats (Ls.take i)).length)) (fun _ _ iv => Ls.length - (intOf iv).toNat)
  case atStart => exact ⟨0, 0, rfl, by omega, rfl, by omega, Lib.hid rfl⟩
  case round =>
    obtain ⟨i, s, rfl, hil, rfl, hs, hS⟩ := hrel
    by_cases hlt : i < Ls.length
    · obtain ⟨p, hp⟩ : ∃ p, Ls[i]? = some p := ⟨_, List.getElem?_eq_getElem hlt⟩
      have htk := take_snoc' Ls i p hp
      have hcl := cats_le Ls (i + 1)
      rw [htk, cats_snoc, List.length_append, ← hS.out] at hcl
      have HN2 : Hid (s + p.2.length = (cats (Ls.take (i + 1))).length) := Lib.hid (by rw [htk, cats_snoc, List.length_append, ← hS.out])
      have hpl := HL.out p (List.mem_of_getElem? hp)
      obtain ⟨pa, pc, hpe, _⟩ := hpl
      cases ao with
      | none => have := HN.out rfl; rw [this] at hlt; simp at hlt
      | some b =>
        obtain ⟨k, o, rfl, _, hc⟩ := HC.out b rfl
        have d := hc i p hp
        rw [hpe] at d
        generalize p.2.length = n at *
        have hs2 : s + n ≤ 100000 := by omega
        clear hc htk hcl hp hS hpe
        go_wp2
        go_round
        case rel => exact ⟨i + 1, s + n, by go_num, by omega, by go_num, by omega, HN2⟩
        case measure => simp [intOf]; omega
    · go_wp2_with fail
      refine (grow_any w s (by omega)).mono ?_
      rintro e w1 ⟨r, rfl, ho⟩
      have HO := Lib.hid ho
      obtain ⟨ra, rc, rfl⟩ := own_shape ho.1
      clear ho
      go_wp2
      go_loopw [6, 8, 27] (fun bv _ iv wr => ∃ (i : Nat) (cs : List St), iv = .int .i64 i ∧ i ≤ Ls.length ∧ cs.length ≤ 100000 ∧ Hid (cs = cats (Ls.take i)) ∧ wr.ownsRow w.heap.size 23 2 bv cs.length (cs2 cs) ∧ Below w.heap.size w wr) (fun _ _ iv _ => Ls.length - (intOf iv).toNat)
      case atStart => exact ⟨0, [], rfl, by omega, by simp, Lib.hid rfl, HO.out.1, HO.out.2⟩
      case round =>
        obtain ⟨i, cs, rfl, hil, hcs, hS, hW, hE⟩ := hrel
        have HW := Lib.hid hW
        have HE := Lib.hid hE
        have hB2 := hE.size
        obtain ⟨ba, bc, rfl⟩ := own_shape hW
        clear hW hE
        by_cases hlt : i < Ls.length
        · obtain ⟨p, hp⟩ : ∃ p, Ls[i]? = some p := ⟨_, List.getElem?_eq_getElem hlt⟩
          have htk := take_snoc' Ls i p hp
          have hcl := cats_le Ls (i + 1)
          rw [htk, cats_snoc, List.length_append, ← hS.out] at hcl
          have hcl2 : (cs ++ p.2).length ≤ 100000 := by rw [List.length_append]; omega
          have hcl3 : cs.length + p.2.length ≤ 100000 := by omega
          have HN2 : Hid (cs ++ p.2 = cats (Ls.take (i + 1))) := Lib.hid (by rw [htk, cats_snoc, ← hS.out])
          have hpl := HL.out p (List.mem_of_getElem? hp)
          have HSrc := Lib.hid ((hpl.later HE.out).src)
          obtain ⟨pa, pc, hpe, _⟩ := hpl
          cases ao with
          | none => have := HN.out rfl; rw [this] at hlt; simp at hlt
          | some b =>
            obtain ⟨k, o, rfl, hkw, hc⟩ := HC.out b rfl
            have d := (HE.out.cell (p := ⟨k, o + i, none⟩) hkw).trans (hc i p hp)
            rw [hpe] at d HSrc
            clear hc htk hcl hp hS hpe
            go_wp2_with (at_builtin; refine wpList_append_src_own rfl (.tmp 31) (.tmp 32) 35 35 rfl w.heap.size 23 i0 (.agg #[.int .i64 0, .int .i64 0]) 2 16 Tryd.u35 hi hz0 hz1 hz2 rfl (by decide) _ _ _ rfl HW.out _ p.2.length (cs2 p.2) rfl HSrc.out (by unfold maxLen; omega) (by omega) (by omega) ?_; intro v3 w3 hown hgr hspr; have K := Lib.hid (And.intro hown (HE.out.grown hgr hB2 (fun k hk => (HW.out.lt k hk).1))); clear hown hgr hspr)
            go_roundw
            case rel => exact ⟨i + 1, cs ++ p.2, by go_num, by omega, hcl2, HN2, by rw [cs2_append, List.length_append]; exact K.out.1, K.out.2⟩
            case measure => simp [intOf]; omega
        · have hie : i = Ls.length := by omega
          have HZ : Hid (cs = cats Ls) := Lib.hid (by rw [hS.out, hie, List.take_length])
          clear hS hie
          go_wp2
          go_returns
          exact ⟨_, rfl, by rw [← HZ.out]; exact ⟨HW.out, HE.out⟩⟩
end Go.Proofs.YthpolhlhpdhomaaDoor
