/- slices.Grow, Concat of ops; All; Time. -/
import Derived.Test.YtgnnpfainoppeaaDoorHH
import Derived.Lib.AppendZerosOnto
set_option linter.unusedVariables false
set_option linter.unusedSimpArgs false
set_option maxRecDepth 100000
namespace Go.Proofs.YtgnnpfainoppeaaDoor
open Go.RowKit
open Ve

theorem cs9_append : ∀ l m : List O, cs9 (l ++ m) = cs9 l ++ cs9 m
  | [], m => rfl
  | p :: r, m => by show oc p ++ cs9 (r ++ m) = (oc p ++ cs9 r) ++ cs9 m; rw [cs9_append r m, List.append_assoc]
/-- A row of ops of one's own. -/
def RowO (w w' : World) (v : Value) (l : List O) : Prop := w'.ownsRow w.heap.size 40 9 v l.length (cs9 l) ∧ Below w.heap.size w w'
set_option maxRecDepth 100000 in
set_option maxHeartbeats 800000 in
theorem grow_any (w : World) (n : Nat) (hn : n ≤ 100000) :
    Calls Tryd.prog 55 #[.slice none 0 0, .int .i64 n] w fun e w' => ∃ r, e = .returned r ∧ RowO w w' r [] := by
  obtain ⟨i0, hi, hz0, hz1, hz2⟩ := Ve.info_parts info25
  by_cases h0 : n = 0
  · subst h0
    go_enter Tryd.func55, Tryd.ntmps55
    go_wp2
    go_returns
    exact ⟨_, rfl, World.ownsRow_nil _ _ _ _, Below.refl _ _⟩
  · have hold : (Builtin.firstCells i0.size 0 (.slice none 0 0)).run Tryd.prog w.drew = .ok ([] : List Value).toArray w.drew := run_firstCells_none w.drew i0.size 0 0 0
    have hcap : Builtin.nextslicecap (0 + n) 0 = n := by rw [nextslicecap_zero (by omega)]; omega
    have hr := fun ty => Lib.run_append_grow_zeros (P := Tryd.prog) w 34 3 ty 40 i0 (.agg (oCells O0)) .i64 .i64 Tryd.u27 Tryd.underlying3 hi hz0 none 0 0 [] hold n (by omega) (by omega) (by omega) (by omega) (by rw [hz2]; omega) (by rw [hcap, hz2]; omega)
    have hge := grownCap_ge w (0 + n) 0 40
    have hmx := grownCap_le_maxLen w (0 + n) 0 40 (by unfold maxLen; omega)
    generalize grownCap w (0 + n) 0 40 = G at *
    have hmx2 : G ≤ 9223372036854775807 := by unfold maxLen at hmx; omega
    have h1 : (0 : Int) < (n : Int) := by omega
    have HX : Hid (∀ C : Array Value, C.size = G * 9 → RowO w (w.drew.alloc (.cells C 40)) (.slice (some ⟨w.heap.size, 0, none⟩) 0 G) []) := Lib.hid (fun C hC => by
      refine ⟨⟨rfl, .inr ⟨w.heap.size, G, C, rfl, Nat.le_refl _, heap_alloc_new w.drew _, Nat.zero_le _, hmx, by rw [hC], rfl⟩⟩, ?_⟩
      exact (⟨rfl, rfl, rfl, Nat.le_refl _, fun _ _ => rfl⟩ : Below w.heap.size w w.drew).alloc (Nat.le_refl _) _)
    have HS : Hid ((Builtin.zeroCells (oCells O0) n ++ Builtin.zeroCells (oCells O0) (G - n)).size = G * 9) := Lib.hid (by
      simp only [Array.size_append, size_zeroCells]
      have : (oCells O0).size = 9 := rfl
      rw [this]; omega)
    clear hold hcap h0
    go_enter Tryd.func55, Tryd.ntmps55
    go_wp2_with (at_builtin; refine Lib.wpList_append_run _ rfl (.tmp 20) (.tmp 21) 34 3 rfl _ _ rfl rfl _ _ (hr _) ?_)
    go_returns
    exact ⟨_, rfl, HX.out _ HS.out⟩

/-- A slice of slices of stamps. -/
def Rows2 (w : World) (v : Value) (Ls : List (Value × List O)) : Prop := ∃ ao cap, v = .slice ao Ls.length cap ∧ (ao = none → Ls = []) ∧
  (∀ b, ao = some b → ∃ k o, b = ⟨k, o, none⟩ ∧ k < w.heap.size ∧ ∀ (j : Nat) p, Ls[j]? = some p → w.cell? ⟨k, o + j, none⟩ = some p.1) ∧ ∀ p ∈ Ls, OLies w p.1 p.2
def cats (Ls : List (Value × List O)) : List O := Ls.flatMap (·.2)
theorem cats_snoc (Ls : List (Value × List O)) (p : Value × List O) : cats (Ls ++ [p]) = cats Ls ++ p.2 := by unfold cats; rw [List.flatMap_append]; simp
theorem cats_le (Ls : List (Value × List O)) (i : Nat) : (cats (Ls.take i)).length ≤ (cats Ls).length := by
  conv => rhs; rw [← List.take_append_drop i Ls]
  unfold cats
  rw [List.flatMap_append, List.length_append]; omega

set_option maxRecDepth 100000 in
set_option maxHeartbeats 1600000 in
theorem concat_any (w : World) (v : Value) (Ls : List (Value × List O)) (h : Rows2 w v Ls) (hn : Ls.length ≤ 1000) (hl : (cats Ls).length ≤ 100000) :
    Calls Tryd.prog 43 #[v] w fun e w' => ∃ r, e = .returned r ∧ RowO w w' r (cats Ls) := by
  obtain ⟨i0, hi, hz0, hz1, hz2⟩ := Ve.info_parts info25
  obtain ⟨ao, cap, rfl, hno, hcells, hlies⟩ := h
  have HC := Lib.hid hcells
  have HL := Lib.hid hlies
  have HN := Lib.hid hno
  clear hcells hlies hno
  go_enter Tryd.func43, Tryd.ntmps43
  go_wp2
  go_loop [3, 5, 11] (fun sv _ iv => ∃ i s : Nat, iv = .int .i64 i ∧ i ≤ Ls.length ∧ sv = .int .i64 s ∧ s ≤ 100000 ∧ Hid (s = (cats (Ls.take i)).length)) (fun _ _ iv => Ls.length - (intOf iv).toNat)
  case atStart => exact ⟨0, 0, rfl, by omega, rfl, by omega, Lib.hid rfl⟩
  case round =>
    obtain ⟨i, s, rfl, hil, rfl, hs, hS⟩ := hrel
    by_cases hlt : i < Ls.length
    · obtain ⟨p, hp⟩ : ∃ p, Ls[i]? = some p := ⟨_, List.getElem?_eq_getElem hlt⟩
      have htk := Ve.take_snoc' Ls i p hp
      have hcl := cats_le Ls (i + 1)
      rw [htk, cats_snoc, List.length_append, ← hS.out] at hcl
      have HN2 : Hid (s + p.2.length = (cats (Ls.take (i + 1))).length) := Lib.hid (by rw [htk, cats_snoc, List.length_append, ← hS.out])
      have hpl := HL.out p (List.mem_of_getElem? hp)
      obtain ⟨pa, pc, hpe, _⟩ := hpl
      cases ao with
      | none => have := HN.out rfl; rw [this] at hlt; simp at hlt
      | some b =>
        obtain ⟨k, o, rfl, _, hc⟩ := HC.out b rfl
        have d := hc i p hp
        rw [hpe] at d
        generalize p.2.length = n at *
        have hs2 : s + n ≤ 100000 := by omega
        clear hc htk hcl hp hS hpe
        go_wp2
        go_round
        case rel => exact ⟨i + 1, s + n, by go_num, by omega, by go_num, by omega, HN2⟩
        case measure => simp [intOf]; omega
    · go_wp2_with fail
      refine (grow_any w s (by omega)).mono ?_
      rintro e w1 ⟨r, rfl, ho⟩
      have HO := Lib.hid ho
      obtain ⟨ra, rc, rfl⟩ := Ve.own_shape ho.1
      clear ho
      go_wp2
      go_loopw [6, 8, 27] (fun bv _ iv wr => ∃ (i : Nat) (cs : List O), iv = .int .i64 i ∧ i ≤ Ls.length ∧ cs.length ≤ 100000 ∧ Hid (cs = cats (Ls.take i)) ∧ wr.ownsRow w.heap.size 40 9 bv cs.length (cs9 cs) ∧ Below w.heap.size w wr) (fun _ _ iv _ => Ls.length - (intOf iv).toNat)
      case atStart => exact ⟨0, [], rfl, by omega, by simp, Lib.hid rfl, HO.out.1, HO.out.2⟩
      case round =>
        obtain ⟨i, cs, rfl, hil, hcs, hS, hW, hE⟩ := hrel
        have HW := Lib.hid hW
        have HE := Lib.hid hE
        have hB2 := hE.size
        obtain ⟨ba, bc, rfl⟩ := Ve.own_shape hW
        clear hW hE
        by_cases hlt : i < Ls.length
        · obtain ⟨p, hp⟩ : ∃ p, Ls[i]? = some p := ⟨_, List.getElem?_eq_getElem hlt⟩
          have htk := Ve.take_snoc' Ls i p hp
          have hcl := cats_le Ls (i + 1)
          rw [htk, cats_snoc, List.length_append, ← hS.out] at hcl
          have hcl2 : (cs ++ p.2).length ≤ 100000 := by rw [List.length_append]; omega
          have hcl3 : cs.length + p.2.length ≤ 100000 := by omega
          have HN2 : Hid (cs ++ p.2 = cats (Ls.take (i + 1))) := Lib.hid (by rw [htk, cats_snoc, ← hS.out])
          have hpl := HL.out p (List.mem_of_getElem? hp)
          have HSrc := Lib.hid ((hpl.step HE.out).src)
          obtain ⟨pa, pc, hpe, _⟩ := hpl
          cases ao with
          | none => have := HN.out rfl; rw [this] at hlt; simp at hlt
          | some b =>
            obtain ⟨k, o, rfl, hkw, hc⟩ := HC.out b rfl
            have d := (HE.out.cell (p := ⟨k, o + i, none⟩) hkw).trans (hc i p hp)
            rw [hpe] at d HSrc
            clear hc htk hcl hp hS hpe
            go_wp2_with (at_builtin; refine Wi.wpList_append_src_own rfl (.tmp 31) (.tmp 32) 34 34 rfl w.heap.size 40 i0 (oV O0) 9 80 Tryd.u27 hi hz0 hz1 hz2 rfl (by decide) _ _ _ rfl HW.out _ p.2.length (cs9 p.2) rfl HSrc.out (by unfold maxLen; omega) (by omega) (by omega) ?_; intro v3 w3 hown hgr hspr; have K := Lib.hid (And.intro hown (HE.out.grown hgr hB2 (fun k hk => (HW.out.lt k hk).1))); clear hown hgr hspr)
            go_roundw
            case rel => exact ⟨i + 1, cs ++ p.2, by go_num, by omega, hcl2, HN2, by rw [cs9_append, List.length_append]; exact K.out.1, K.out.2⟩
            case measure => simp [intOf]; omega
        · have hie : i = Ls.length := by omega
          have HZ : Hid (cs = cats Ls) := Lib.hid (by rw [hS.out, hie, List.take_length])
          clear hS hie
          go_wp2
          go_returns
          exact ⟨_, rfl, by rw [← HZ.out]; exact ⟨HW.out, HE.out⟩⟩

theorem all_rows {w : World} {B b : Nat} {s : HS} (h : HK w B b s) : Rows2 w (.slice (some ⟨b, 65, none⟩) 64 64) ((List.range 64).map fun i => (s.S i, s.L i)) := by
  refine ⟨some ⟨b, 65, none⟩, 64, by simp, (fun e => by cases e), fun q hq => ?_, fun p hp => ?_⟩
  · injection hq with hq
    subst hq
    refine ⟨b, 65, rfl, h.blt, fun j p hj => ?_⟩
    have hlt : j < 64 := by have := (List.getElem?_eq_some_iff.1 hj).1; simpa using this
    rw [List.getElem?_map, List.getElem?_range hlt] at hj
    injection hj with hj
    subst hj
    exact h.cs j hlt
  · obtain ⟨i, hi, rfl⟩ := List.mem_map.1 hp
    exact h.olies i (List.mem_range.1 hi)
theorem cats_all (s : HS) : cats ((List.range 64).map fun i => (s.S i, s.L i)) = flat s.L := by
  unfold cats flat
  rw [List.flatMap_map]
theorem flat_le {bs : List Int} {L : Nat → List O} {m : Nat} (g : Gd bs L m) : (flat L).length ≤ 64 * m := by
  unfold flat
  have : ∀ n, n ≤ 64 → ((List.range n).flatMap L).length ≤ n * m := by
    intro n
    induction n with
    | zero => intro _; simp
    | succ n ih =>
      intro hn
      have h1 := ih (by omega)
      have h2 := g.cnt n (by omega)
      rw [List.range_succ, List.flatMap_append, List.length_append, List.flatMap_cons, List.flatMap_nil, List.append_nil, Nat.add_mul]
      omega
  exact this 64 (Nat.le_refl _)
set_option maxHeartbeats 1600000 in
theorem all_any (w : World) (B b : Nat) (s : HS) (m : Nat) (h : HK w B b s) (g : Gd s.bs s.L m) (hm : m ≤ 1000) : Calls Tryd.prog 25 #[pv b] w fun e w' => ∃ r, e = .returned r ∧ RowO w w' r (flat s.L) := by
  have C := Lib.hid (concat_any w _ _ (all_rows h) (by simp) (by rw [cats_all]; have := flat_le g; omega))
  rw [cats_all] at C
  clear h g
  go_enter Tryd.func25, Tryd.ntmps25
  go_wp2_with fail
  refine C.out.mono ?_
  rintro e w1 ⟨r, rfl, h1⟩
  have H1 := Lib.hid h1
  clear h1
  go_wp2
  go_returns
  exact ⟨_, rfl, H1.out⟩
def timeI (L : Nat → List O) (i : Nat) : Int := (List.range i).foldl (fun t k => lastT (L k) t) 0
theorem timeI_succ (L : Nat → List O) (i : Nat) : timeI L (i + 1) = lastT (L i) (timeI L i) := by unfold timeI; rw [List.range_succ, List.foldl_append]; rfl
set_option maxHeartbeats 1600000 in
theorem time_any (w : World) (B b : Nat) (s : HS) (m : Nat) (h : HK w B b s) (g : Gd s.bs s.L m) (hm : m ≤ 1000) : Calls Tryd.prog 28 #[pv b] w fun e w' => e = .returned (.int .i64 (timeF s.L)) ∧ w = w' := by
  have LS := Lib.hid h.loadS
  have OS := Lib.hid h.shape
  have IXX := Lib.hid h.ix
  have OL := Lib.hid h.olies
  have G := Lib.hid g
  generalize hT : (sv s.S).toArray = T at *
  clear hT h g
  go_enter Tryd.func28, Tryd.ntmps28
  go_wp2_with (first | refine wpList_load_arr rfl (.tmp 11) 64 rfl _ _ rfl LS.out ?_)
  clear LS
  go_loop [3, 13] (fun tv iv => ∃ (i : Nat) (t : Int), iv = .int .i64 i ∧ i ≤ 64 ∧ tv = .int .i64 t ∧ Hid (t = timeI s.L i)) (fun _ iv => 64 - (intOf iv).toNat)
  case atStart => exact ⟨0, 0, rfl, Nat.zero_le _, rfl, Lib.hid rfl⟩
  case round =>
    obtain ⟨i, t, rfl, hi, rfl, hT⟩ := hrel
    by_cases hlt : i < 64
    · obtain ⟨ao, cap, e⟩ := OS.out i hlt
      have IX := fun W => IXX.out i hlt W
      have V := OL.out i hlt
      have hc := G.out.cnt i hlt
      rw [e] at IX V
      have TS := Lib.hid (show lastT (s.L i) t = timeI s.L (i + 1) by rw [timeI_succ, ← hT.out])
      generalize s.L i = l at *
      clear e hT
      rcases Nat.eq_zero_or_pos l.length with h0 | h0
      · have HL := Lib.hid (List.eq_nil_of_length_eq_zero h0)
        rw [h0] at IX
        clear V hc h0
        go_wp2
        go_round
        case rel => exact ⟨i + 1, t, by go_num, by omega, rfl, Lib.hid (by rw [← TS.out, HL.out]; rfl)⟩
        case measure => simp [intOf]; omega
      · obtain ⟨k, off, o, rfl, ho, hk, e0, _⟩ := V.at' (i := l.length - 1) (by omega)
        have HO := Lib.hid (show lastT l t = max t o.t by unfold lastT; rw [List.getLast?_eq_getElem?, ho])
        obtain ⟨n, hn⟩ : ∃ n, l.length = n := ⟨_, rfl⟩
        obtain ⟨q, hq⟩ : ∃ q, n - 1 = q := ⟨_, rfl⟩
        rw [hn, hq] at e0
        rw [hn] at IX h0 hc
        have hp : (0 : Int) < (n : Int) := by omega
        have hw : wrap64 ((n : Int) - 1) = (q : Int) := by unfold wrap64; omega
        have hq0 : (0 : Int) ≤ (q : Int) := by omega
        have hq1 : (q : Int) < (n : Int) := by omega
        clear ho hk V hn hq hc h0
        go_wp2
        go_round
        case rel => exact ⟨i + 1, max t o.t, by go_num, by omega, rfl, Lib.hid (by rw [← TS.out, HO.out])⟩
        case measure => simp [intOf]; omega
    · have h64 : i = 64 := by omega
      subst h64
      have HE := Lib.hid (show t = timeF s.L from hT.out)
      clear hT
      go_wp2
      go_returns
      exact ⟨by rw [← HE.out]; rfl, rfl⟩
end Go.Proofs.YtgnnpfainoppeaaDoor
