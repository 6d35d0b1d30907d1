/- path.Within and the reference's; path.Up; what was told is parsed. -/
import Derived.Test.YtgiiddcjepjgcaaDoorPL
import Derived.Deep.RegionHeld3
set_option linter.unusedVariables false
namespace Go.Proofs.YtgiiddcjepjgcaaDoor
open Go.RowKit

theorem below_drewN (w : World) : ∀ n, Below w.heap.size w (w.drewN n) := fun n => ⟨rfl, rfl, rfl, Nat.le_refl _, fun _ _ => rfl⟩
theorem slice_pre (ra : Option Addr) (n rc k : Nat) (hk : k ≤ rc) : ∀ W, (Instr.sliceAt 22 (.slice ra n rc) none (some (.int .i64 (k : Int))) none).run Tryd.prog W = .ok (.slice ra k rc) W := fun W => by
  have h0 : (0 : Int) ≤ (k : Int) := by omega
  have h1 : (k : Int) ≤ (rc : Int) := by omega
  go_simp
noncomputable def wiB (l m : List ByteArray) : Bool := @decide (l.length < m.length ∧ l = m.take l.length) (Classical.propDecidable _)
theorem wiB_iff (l m : List ByteArray) : wiB l m = true ↔ l.length < m.length ∧ l = m.take l.length := by unfold wiB; exact @decide_eq_true_iff _ (Classical.propDecidable _)
theorem wiB_no {l m : List ByteArray} (h : ¬ l.length < m.length) : wiB l m = false := by
  cases hb : wiB l m with
  | false => rfl
  | true => exact absurd ((wiB_iff l m).1 hb).1 h
theorem wiB_eq {l m : List ByteArray} (h : l.length < m.length) : wiB l m = eqB l (m.take l.length) := by
  cases hb : eqB l (m.take l.length) with
  | true => exact (wiB_iff l m).2 ⟨h, (eqB_iff _ _).1 hb⟩
  | false =>
    cases hw : wiB l m with
    | false => rfl
    | true => exact absurd ((eqB_iff _ _).2 ((wiB_iff l m).1 hw).2) (by rw [hb]; decide)
set_option maxRecDepth 100000 in
set_option maxHeartbeats 1600000 in
theorem within_any (w : World) (v1 v2 : Value) (l m : List ByteArray) (h1 : SLies w v1 l) (h2 : SLies w v2 m) :
    Calls Tryd.prog 9 #[v1, v2] w fun e w' => e = .returned (.bool (wiB l m)) ∧ Below w.heap.size w w' := by
  have hl := h1.len
  have hl2 := h2.len
  have H1 := Lib.hid h1
  have H2 := Lib.hid h2
  obtain ⟨a1, c1, rfl, -⟩ := h1
  obtain ⟨a2, c2, rfl, hc2, -⟩ := h2
  by_cases hlt : l.length < m.length
  · have SA := Lib.hid (same_any w _ _ l (m.take l.length) H1.out (by
      have := H2.out.take l.length (by omega)
      exact this))
    have E := Lib.hid (wiB_eq hlt)
    have sl := slice_pre a2 m.length c2 l.length (by omega)
    have h0 : (l.length : Int) < (m.length : Int) := by omega
    rw [E.out]
    clear hlt
    generalize eqB l (m.take l.length) = bb at *
    go_enter Tryd.func9, Tryd.ntmps9
    go_wp2_with fail
    refine SA.out.mono ?_
    rintro e w1 ⟨rfl, hb⟩
    have HB := Lib.hid hb
    clear hb
    go_wp2
    go_returns
    exact ⟨rfl, HB.out⟩
  · have E := Lib.hid (wiB_no hlt)
    rw [E.out]
    have h0 : ¬ (l.length : Int) < (m.length : Int) := by omega
    clear hlt
    go_enter Tryd.func9, Tryd.ntmps9
    go_wp2
    go_returns
    exact ⟨rfl, Below.refl _ _⟩
set_option maxRecDepth 100000 in
set_option maxHeartbeats 1600000 in
theorem rwithin_any (w : World) (v1 v2 : Value) (l m : List ByteArray) (h1 : SLies w v1 l) (h2 : SLies w v2 m) :
    Calls Tryd.prog 10 #[v1, v2] w fun e w' => e = .returned (.bool (wiB l m)) ∧ Below w.heap.size w w' := by
  have hl := h1.len
  have hl2 := h2.len
  have H1 := Lib.hid h1
  have H2 := Lib.hid h2
  obtain ⟨a1, c1, rfl, -⟩ := h1
  obtain ⟨a2, c2, rfl, hc2, -⟩ := h2
  by_cases hlt : l.length < m.length
  · have h0 : ¬ (m.length : Int) ≤ (l.length : Int) := by omega
    have HLT := Lib.hid hlt
    clear hlt
    go_enter Tryd.func10, Tryd.ntmps10
    go_wp2
    clear h0
    go_loopw [5] (fun kv wr => ∃ k : Nat, kv = .int .i64 k ∧ k ≤ l.length ∧ Hid (∀ j, j < k → l[j]? = m[j]?) ∧ ∃ n, wr = w.drewN n) (fun kv _ => l.length - (intOf kv).toNat)
    case atStart => exact ⟨0, rfl, Nat.zero_le _, Lib.hid (fun j hj => by omega), 0, rfl⟩
    case round =>
      obtain ⟨k, rfl, hk, hJ, n, rfl⟩ := hrel
      by_cases hlt : k < l.length
      · obtain ⟨g1, o1, x, rfl, hx, _, c1⟩ := H1.out.at' hlt
        obtain ⟨g2, o2, y, rfl, hy, _, c2⟩ := H2.out.at' (show k < m.length by have := HLT.out; omega)
        have hi2 : (k : Int) < (m.length : Int) := by have := HLT.out; omega
        by_cases e : x = y
        · have t1 := tl_eq e
          have HN := Lib.hid (show ∀ j, j < k + 1 → l[j]? = m[j]? from fun j hj => by
            by_cases q : j = k
            · rw [q, hx, hy, e]
            · exact hJ.out j (by omega))
          clear hx hy e hJ
          go_wp2
          go_quiet (fail)
          go_wp2
          go_roundw
          case rel => exact ⟨k + 1, by go_num, by omega, HN, _, rfl⟩
          case measure => simp [intOf]; omega
        · have t1 := tl_ne e
          have HF := Lib.hid (show wiB l m = false from by
            cases hb : wiB l m with
            | false => rfl
            | true => exact absurd (by
                have q := ((wiB_iff l m).1 hb).2
                have q2 := congrArg (fun l : List ByteArray => l[k]?) q
                simp only [List.getElem?_take] at q2
                rw [if_pos hlt, hx, hy] at q2
                exact Option.some.inj q2) e)
          clear hx hy e hJ
          go_wp2
          go_quiet (fail)
          go_wp2
          go_returns
          exact ⟨ret_b HF.out.symm, ⟨rfl, rfl, rfl, Nat.le_refl _, fun _ _ => rfl⟩⟩
      · have HT := Lib.hid (show wiB l m = true from (wiB_iff l m).2 ⟨HLT.out, List.ext_getElem? fun j => by
          rw [List.getElem?_take]
          by_cases q : j < k
          · rw [if_pos (by omega)]; exact hJ.out j q
          · rw [List.getElem?_eq_none (by omega), if_neg (by omega)]⟩)
        clear hJ
        go_wp2
        go_returns
        exact ⟨ret_b HT.out.symm, ⟨rfl, rfl, rfl, Nat.le_refl _, fun _ _ => rfl⟩⟩
  · have E := Lib.hid (wiB_no hlt)
    rw [E.out]
    have h0 : (m.length : Int) ≤ (l.length : Int) := by omega
    clear hlt
    go_enter Tryd.func10, Tryd.ntmps10
    go_wp2
    go_returns
    exact ⟨rfl, Below.refl _ _⟩
theorem clone_any (w : World) (v : Value) (l : List ByteArray) (h : SLies w v l) (hl : l.length ≤ 1000) :
    Calls Tryd.prog 19 #[v] w fun e w' => ∃ v', e = .returned v' ∧ SLies w' v' l ∧ Below w.heap.size w w' := by
  obtain ⟨ao, cap, rfl, -⟩ := id h
  by_cases h0 : l.length = 0
  · have e : l = [] := List.eq_nil_of_length_eq_zero h0
    subst e
    cases ao with
    | none => exact (Tryd.slices_Clone_string_nil 0 cap w).mono fun e w' hh => ⟨_, hh.1, slies_nil _, by rw [hh.2]; exact Below.refl _ _⟩
    | some a =>
      refine (Tryd.slices_Clone_string_zero a cap w).mono ?_
      rintro e w' ⟨v', rfl, ho, _, hb⟩
      exact ⟨v', rfl, own_slies (l := []) ho, hb⟩
  · obtain ⟨g, o, rfl, hg, hc⟩ := h.row (by omega)
    refine (Tryd.slices_Clone_string g o l.length cap l w (Nat.le_refl _) (by omega) (fun j hj => hc j _ (by rw [List.getD_eq_getElem?_getD, List.getElem?_eq_getElem hj]; rfl))).mono ?_
    rintro e w' ⟨v', rfl, ho, _, hb⟩
    rw [List.take_length] at ho
    exact ⟨v', rfl, own_slies ho, hb⟩
set_option maxRecDepth 100000 in
set_option maxHeartbeats 1600000 in
theorem up_none (w : World) (v : Value) (h : SLies w v []) :
    Calls Tryd.prog 13 #[v] w fun e w' => e = .returned (.tuple #[.slice none 0 0, .string ⟨#[]⟩]) ∧ w = w' := by
  obtain ⟨ao, cap, rfl, -⟩ := id h
  clear h
  go_enter Tryd.func13, Tryd.ntmps13
  go_wp2
  go_returns
  exact ⟨rfl, rfl⟩
set_option maxRecDepth 100000 in
set_option maxHeartbeats 3200000 in
theorem up_any (w : World) (v : Value) (l : List ByteArray) (h : SLies w v l) (hl : l.length ≤ 1000) (k : Nat) (hk : l.length = k + 1) (x : ByteArray) (hx : l[k]? = some x) :
    Calls Tryd.prog 13 #[v] w fun e w' => ∃ v', e = .returned (.tuple #[v', .string x]) ∧ SLies w' v' (l.take k) ∧ Below w.heap.size w w' := by
  obtain ⟨ao, cap, rfl, hc1, -⟩ := id h
  obtain ⟨g, o, rfl, hg, hc⟩ := h.row (by omega)
  have CL := Lib.hid (fun W (hb : Below w.heap.size w W) => clone_any W _ (l.take k) ((h.take k (by omega)).step hb) (by rw [List.length_take]; omega))
  have BX := Lib.hid (fun W (hb : Below w.heap.size w W) => show W.cell? ⟨g, o + k, none⟩ = some (.string x) from (hb.cell (p := ⟨g, o + k, none⟩) hg).trans (hc k x hx))
  have sl := slice_pre (some ⟨g, o, none⟩) l.length cap k (by omega)
  have e2 : IntKind.i64.wrap ((l.length : Int) - 1) = (k : Int) := by rw [IntKind.wrap_i64]; omega
  have e3 : wrap64 ((l.length : Int) - 1) = (k : Int) := by unfold wrap64; omega
  have h0 : (0 : Int) ≤ (k : Int) := by omega
  have h1 : (k : Int) < (l.length : Int) := by omega
  have h2 : (k : Int) ≤ (cap : Int) := by omega
  have t0 := bneb_ (l.length : Int) 0 (by omega)
  have HK := Lib.hid hk
  clear h hc hx hk hc1
  go_enter Tryd.func13, Tryd.ntmps13
  go_upto_region 4 with (fail)
  have BB := Lib.hid (below_drewN w 1)
  go_region_held3 (fun w' => w'.cell? ⟨g, o + k, none⟩ = some (.string x)) (exact BX.out _ BB.out)
    (first
    | (go_at_call 19; refine (CL.out _ BB.out).mono ?_; rintro e w2 ⟨r2, rfl, ho, hb⟩; have HP := Lib.hid ho; have BB := Lib.hid (BB.out.trans (hb.mono BB.out.size)); clear ho hb))
  all_goals
    go_wp2_with fail
    go_returns
    exact ⟨_, rfl, HP.out, BB.out⟩
end Go.Proofs.YtgiiddcjepjgcaaDoor
