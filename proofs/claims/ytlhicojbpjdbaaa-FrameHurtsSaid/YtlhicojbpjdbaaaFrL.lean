/- The reference's Get. -/
import Derived.Test.YtlhicojbpjdbaaaFrK
import Derived.Test.YtlhicojbpjdbaaaSumF
set_option linter.unusedVariables false
namespace Go.Proofs.Ytlhicojbpjdbaaa
open Go.RowKit

theorem lies_shape {w : World} {v : Value} {bs : List Nat} (h : Lies w v bs) : ∃ ao cap, v = .slice ao bs.length cap := by
  obtain ⟨ao, cap, e, _⟩ := h
  exact ⟨ao, cap, e⟩
theorem rsets_row {w : World} {b : Nat} {x y z v x' y' z' v' : Value} (h : w.heap[b]? = some (.cells #[x, y, z, v] 24 (0, 0))) : (sets w b x' y' z' v').heap[b]? = some (.cells #[x', y', z', v'] 24 (0, 0)) := by
  unfold sets
  have k := row_setC (j := 3) (u := v') (row_setC (j := 2) (u := z') (row_setC (j := 1) (u := y') (row_setC (j := 0) (u := x') h)))
  exact k
theorem rbox_cells {w : World} {b : Nat} {x y z v : Value} (h : w.heap[b]? = some (.cells #[x, y, z, v] 24 (0, 0))) :
    (w.cell? ⟨b, 0, none⟩ = some x ∧ w.cell? ⟨b, 1, none⟩ = some y ∧ w.cell? ⟨b, 2, none⟩ = some z ∧ w.cell? ⟨b, 3, none⟩ = some v) ∧
    (w.frozen? ⟨b, 0, none⟩ = false ∧ w.frozen? ⟨b, 1, none⟩ = false ∧ w.frozen? ⟨b, 2, none⟩ = false ∧ w.frozen? ⟨b, 3, none⟩ = false) := by
  refine ⟨⟨?_, ?_, ?_, ?_⟩, frozen_of_row _ _ _ _ _ h, frozen_of_row _ _ _ _ _ h, frozen_of_row _ _ _ _ _ h, frozen_of_row _ _ _ _ _ h⟩ <;> (rw [cell_of_row _ _ _ _ _ _ h]; rfl)

/-- Where a slice that is not empty lies in old memory. -/
def Far (w : World) (r : Value) (bs : List Nat) : Prop := ∀ ad n c, r = .slice (some ad) n c → bs ≠ [] → ad.block < w.heap.size
theorem Far.nil (w : World) (bs : List Nat) : Far w (.slice none 0 0) bs := fun ad n c e => by injection e with e _ _; cases e

set_option maxRecDepth 100000 in
set_option maxHeartbeats 1600000 in
theorem ropen_far (w00 w : World) (hX : Below w00.heap.size w00 w) (v : Value) (bs : List Nat) (hh : Lies w00 v bs) (hb : Byt bs) (hl2 : bs.length ≤ 200000) (ok : Bool) (hok : ok = true ↔ Sealed bs) :
    Calls Try.prog 22 #[v] w fun e w' => ∃ r, e = .returned (.tuple #[r, .bool ok]) ∧ (Lies w' r (if ok then bs.take (bs.length - 4) else []) ∧ Far w00 r (if ok then bs.take (bs.length - 4) else [])) ∧ Below w.heap.size w w' := by
  have h := hh.later hX
  by_cases hl : bs.length < 4
  · have e : ok = false := by
      cases ok with
      | false => rfl
      | true => exact absurd (hok.1 rfl).1 (by omega)
    subst e
    obtain ⟨ao, cap, rfl, _⟩ := h
    clear hok
    go_enter Try.func22, Try.ntmps22
    go_wp2
    go_returns
    exact ⟨_, rfl, ⟨Lies.nil _, Far.nil _ _⟩, Below.refl _ _⟩
  · have H := Lib.hid h
    obtain ⟨ao, cap, rfl, hcap, hmx, h0, hc⟩ := h
    cases ao with
    | none => have := (h0 rfl).1; rw [this] at hl; simp at hl
    | some b =>
      obtain ⟨k, o, rfl, hk, hcc⟩ := hc b rfl (ne_of_lt (i := 0) (by omega))
      obtain ⟨n, hn⟩ : ∃ n, n = bs.length - 4 := ⟨_, rfl⟩
      have HF0 : Hid (Far w00 (.slice (some ⟨k, o, none⟩) n cap) (bs.take n)) := Lib.hid (fun ad n' c' e hne => by
        injection e with e1 _ _
        injection e1 with e1
        subst e1
        obtain ⟨ao', cap', e', _, _, _, hc'⟩ := hh
        injection e' with e1 _ _
        obtain ⟨k', o', e2, hk', _⟩ := hc' ⟨k, o, none⟩ e1.symm (fun e => hne (by rw [e]; simp))
        injection e2 with e3 _ _
        subst e3
        exact hk')
      have hlen : bs.length = n + 4 := by omega
      have e1 : (bs.length : Int) - 4 = (n : Int) := by omega
      have hn2 : n ≤ 199996 := by omega
      have ew : wrap64 (n : Int) = (n : Int) := by unfold wrap64; omega
      have hncap : n < cap := by omega
      have L1 := Lib.hid (H.out.take n (by omega))
      have R := Lib.hid (rseal_any w _ _ L1.out (hb.take n) (by rw [List.length_take]; omega))
      have HS : Hid (ok = true ↔ seal' (bs.take n) = bs) := Lib.hid (by
        rw [hok]; unfold Sealed; rw [← hn]
        exact ⟨fun h => h.2, fun h => ⟨by omega, h⟩⟩)
      have hsl : (seal' (bs.take n)).length = n + 4 := by rw [seal_length, List.length_take]; omega
      generalize seal' (bs.take n) = ss at *
      have HC := Lib.hid hcc
      rw [← hn]
      have HLN := Lib.hid hlen
      rw [hlen] at e1 ⊢
      clear hok h0 hc hcc hn hb hlen hl hl2 hcap
      go_enter Try.func22, Try.ntmps22
      go_wp2_with fail
      refine R.out.mono ?_
      rintro e w1 ⟨r, rfl, ho⟩
      have hLs := own_lies ho.1
      obtain ⟨ra, rc, rfl⟩ := own_shape ho.1
      rw [hsl] at hLs
      obtain ⟨ra', rc', re, _, _, hz, hcs⟩ := hLs
      injection re with re1 re2 re3
      clear re2
      subst re1 re3
      have HB := Lib.hid ho.2
      cases ra with
      | none => have := (hz rfl).1; rw [this] at hsl; simp at hsl
      | some rb =>
        obtain ⟨k2, o2, rfl, hk2, hcs⟩ := hcs rb rfl (ne_of_lt (i := 0) (by omega))
        have HC2 := Lib.hid hcs
        have HSL := Lib.hid hsl
        clear ho hz hcs
        rw [hsl]
        go_wp2
        go_loopw [6] (fun iv wr => ∃ i : Nat, iv = .int .i64 i ∧ i ≤ n + 4 ∧ Hid (∀ j, j < i → ss[j]? = bs[j]?) ∧ ∃ q, wr = w1.drewN q) (fun iv _ => n + 4 - (intOf iv).toNat)
        case atStart => exact ⟨0, rfl, by omega, Lib.hid (fun j hj => absurd hj (Nat.not_lt_zero _)), 0, rfl⟩
        case round =>
          obtain ⟨i, rfl, hi, hS, q, rfl⟩ := hrel
          have HBq := Lib.hid (HB.out.trans ((below_drewN w1 q).mono HB.out.size))
          by_cases hlt : i < n + 4
          · obtain ⟨x, hx⟩ : ∃ x, bs[i]? = some x := ⟨_, List.getElem?_eq_getElem (by rw [HLN.out]; exact hlt)⟩
            obtain ⟨y, hy⟩ : ∃ y, ss[i]? = some y := ⟨_, List.getElem?_eq_getElem (by rw [HSL.out]; exact hlt)⟩
            have d1 := (HB.out.cell (p := ⟨k, o + i, none⟩) hk).trans (HC.out i x hx)
            have d2 := HC2.out i y hy
            by_cases hxy : x = y
            · subst hxy
              have HN : Hid (∀ j, j < i + 1 → ss[j]? = bs[j]?) := Lib.hid (fun j hj => by
                by_cases e : j = i
                · rw [e, hx, hy]
                · exact hS.out j (by omega))
              clear hx hy hS
              go_wp2
              go_quiet (fail)
              go_wp2
              go_roundw
              case rel => exact ⟨i + 1, by go_num, by omega, HN, _, rfl⟩
              case measure => simp [intOf]; omega
            · have e : ok = false := by
                cases ok with
                | false => rfl
                | true =>
                  have := HS.out.1 rfl
                  rw [this, hx] at hy
                  injection hy with hy
                  exact absurd hy hxy
              have t1 := neb_ (y : Int) (x : Int) (by omega)
              subst e
              clear hx hy hS hxy
              go_wp2
              go_quiet (fail)
              go_wp2
              go_returns
              exact ⟨_, rfl, ⟨Lies.nil _, Far.nil _ _⟩, HBq.out.trans ⟨rfl, rfl, rfl, Nat.le_refl _, fun _ _ => rfl⟩⟩
          · have e : ok = true := by
              rw [HS.out]
              apply List.ext_getElem?
              intro j
              by_cases hj : j < n + 4
              · exact hS.out j (by omega)
              · rw [List.getElem?_eq_none (by rw [HSL.out]; omega), List.getElem?_eq_none (by rw [HLN.out]; omega)]
            subst e
            have HL := Lib.hid (L1.out.later HBq.out)
            clear hS
            go_wp2
            go_returns
            exact ⟨_, rfl, ⟨HL.out, HF0.out⟩, HBq.out⟩

set_option maxRecDepth 100000 in
set_option maxHeartbeats 800000 in
theorem rget_short (w : World) (v : Value) (bs : List Nat) (h : Lies w v bs) (hl : bs.length < 8) :
    Calls Try.prog 16 #[v] w fun e w' => e = .returned (.tuple #[.agg #[.int .i64 0, .int .i64 0, .int .i64 0, .slice none 0 0], .int .i64 3]) ∧ Below w.heap.size w w' := by
  obtain ⟨ao, cap, rfl, _⟩ := h
  go_enter Try.func16, Try.ntmps16
  go_wp2
  go_returns
  exact ⟨rfl, (Below.refl _ _).alloc (Nat.le_refl _) _⟩

set_option maxRecDepth 100000 in
set_option maxHeartbeats 800000 in
theorem rget_sum (w : World) (v : Value) (bs : List Nat) (h : Lies w v bs) (hb : Byt bs) (hl : 8 ≤ bs.length) (hl2 : bs.length ≤ 200000) (hs : ¬ Sealed bs) :
    Calls Try.prog 16 #[v] w fun e w' => e = .returned (.tuple #[.agg #[.int .i64 0, .int .i64 0, .int .i64 0, .slice none 0 0], .int .i64 5]) ∧ Below w.heap.size w w' := by
  have HX := (Below.refl w.heap.size w).alloc (Nat.le_refl _) (.cells #[.int .i64 0, .int .i64 0, .int .i64 0, .slice none 0 0] 24)
  have hbox := heap_alloc_new w (.cells #[.int .i64 0, .int .i64 0, .int .i64 0, .slice none 0 0] 24)
  have R := Lib.hid (ropen_far w _ HX v bs h hb hl2 false ⟨fun h => (by cases h), fun h => absurd h hs⟩)
  have HX := Lib.hid HX
  have HB := Lib.hid hbox
  have hsz : (w.alloc (.cells #[.int .i64 0, .int .i64 0, .int .i64 0, .slice none 0 0] 24)).heap.size = w.heap.size + 1 := by simp
  obtain ⟨ao, cap, rfl, _⟩ := h
  clear hbox hl2 hb
  go_enter Try.func16, Try.ntmps16
  go_wp2_with fail
  refine R.out.mono ?_
  rintro e w1 ⟨r, rfl, hr⟩
  have B1 := Lib.hid (HX.out.trans (hr.2.mono HX.out.size))
  have hb2 := (hr.2.block w.heap.size (by simp)).trans HB.out
  obtain ⟨⟨c0, c1, c2, c3⟩, f0, f1, f2, f3⟩ := rbox_cells hb2
  obtain ⟨ra, rc, rfl⟩ := lies_shape hr.1.1
  have HB2 := Lib.hid hb2
  clear hr hb2
  go_wp2
  obtain ⟨W5, hW5⟩ : ∃ W5, sets w1 w.heap.size (.int .i64 0) (.int .i64 0) (.int .i64 0) (.slice none 0 0) = W5 := ⟨_, rfl⟩
  have hb5 := rsets_row (x' := .int .i64 0) (y' := .int .i64 0) (z' := .int .i64 0) (v' := .slice none 0 0) HB2.out
  have hw5 := sets_below (x := .int .i64 0) (y := .int .i64 0) (z := .int .i64 0) (v := .slice none 0 0) B1.out (Nat.le_refl _)
  rw [hW5] at hb5 hw5
  unfold sets at hW5
  rw [hW5]
  clear hW5 c0 c1 c2 c3 f0 f1 f2 f3
  obtain ⟨⟨d0, d1, d2, d3⟩, _⟩ := rbox_cells hb5
  refine bodyPost_ret (by simp [results, Try.results16, go_sem, d0, d1, d2, d3]; try rfl) rfl ?_
  exact ⟨rfl, hw5⟩
end Go.Proofs.Ytlhicojbpjdbaaa
