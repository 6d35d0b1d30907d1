/- The law's far, same. -/
import Derived.Test.YtgnnpfainoppeaaGL
set_option linter.unusedVariables false
set_option linter.unusedSimpArgs false
set_option maxRecDepth 100000
namespace Go.Proofs.Ytgnnpfainoppeaa
open Go.RowKit Go.WideMaps Go.Maps
open Ve (zs zs_len vw va RightP cs3 cs3_append)

def farF (l : List O) (ks : List Int) : Bool := l.any fun o => decide (600 < o.q - knw ks o.r)
theorem any_take {l : List O} {f : O → Bool} {i : Nat} {x : O} (h : l[i]? = some x) : (l.take (i + 1)).any f = ((l.take i).any f || f x) := by
  rw [Ve.take_snoc' l i x h, List.any_append]
  simp
set_option maxHeartbeats 1600000 in
theorem far_any (w : World) (v : Value) (l : List O) (hv : OLies w v l) (hr : OkO l) (ks : List Int) (hk : ks.length = 64) (hp : RightP ks) :
    Calls Try.prog 10 #[v, vw ks] w fun e w' => e = .returned (.bool (farF l ks)) ∧ Below w.heap.size w w' := by
  have B1 := vstep w (.cells (va ks) 28)
  have N1 := heap_alloc_new w (.cells (va ks) 28)
  obtain ⟨w0, hw0⟩ : ∃ z, w.alloc (.cells (va ks) 28) = z := ⟨_, rfl⟩
  rw [hw0] at N1 B1
  have V := Lib.hid (hv.step B1)
  have N0 := Lib.hid N1
  have B0 := Lib.hid B1
  have HR := Lib.hid hr
  have HK := Lib.hid hk
  have HP := Lib.hid hp
  have hl := hv.len
  obtain ⟨ao, cap, rfl⟩ := hv.shape
  have HVW := Lib.hid (show vw ks = .agg (va ks) from rfl)
  rw [HVW.out]
  obtain ⟨VA, hVA⟩ : ∃ z, va ks = z := ⟨_, rfl⟩
  rw [hVA] at hw0 ⊢
  clear hVA N1 B1 hr hk hp hv
  go_enter Try.func10, Try.ntmps10
  go_wp2
  clear hw0
  go_loopw [5] (fun iv wr => ∃ i : Nat, iv = .int .i64 i ∧ i ≤ l.length ∧ Hid ((l.take i).any (fun o => decide (600 < o.q - knw ks o.r)) = false) ∧ Hid (Below w0.heap.size w0 wr)) (fun iv _ => l.length - (intOf iv).toNat)
  case atStart => exact ⟨0, rfl, Nat.zero_le _, Lib.hid rfl, Lib.hid (Below.refl _ _)⟩
  case round =>
    obtain ⟨i, rfl, hi, hF, hB⟩ := hrel
    by_cases hlt : i < l.length
    · obtain ⟨k, off, o, rfl, ho, hk, hcx⟩ := (V.out.step hB.out).atK hlt
      have c1 := hcx 1 _ rfl
      have c2 := hcx 2 _ rfl
      have hxm := HR.out o (List.mem_of_getElem? ho)
      obtain ⟨j, hj, hj64, hkx⟩ := knw_at HK.out hxm.1
      have hks := knw_small HK.out HP.out hxm.1
      have c3 := Ve.cell_va ((hB.out.block _ (lt_of_block N0.out)).trans N0.out) hkx
      have HN := Lib.hid (any_take (f := fun o => decide (600 < o.q - knw ks o.r)) ho)
      have HM := Lib.hid (List.mem_of_getElem? ho)
      obtain ⟨kl, hkl⟩ : ∃ z, knw ks o.r = z := ⟨_, rfl⟩
      have HKL := Lib.hid hkl
      rw [hkl] at hks c3
      obtain ⟨xr, hxr⟩ : ∃ z, o.r = z := ⟨_, rfl⟩
      obtain ⟨xq, hxq⟩ : ∃ z, o.q = z := ⟨_, rfl⟩
      have HXQ := Lib.hid hxq
      rw [hxr, hxq] at hxm
      rw [hxr] at c1 hj
      rw [hxq] at c2
      rw [hj] at c1
      have hi0 : (0 : Int) ≤ (i : Int) := by omega
      have hi1 : (i : Int) < (l.length : Int) := by omega
      have hj0 : (0 : Int) ≤ (j : Int) := by omega
      have hj1 : (j : Int) < 64 := by omega
      have hw1 : wrap64 (xq - kl) = xq - kl := by unfold wrap64; omega
      clear ho hk hcx hxm hkx hks hkl hxr hxq hj
      go_wp2
      go_quiet (fail)
      have hB2 := Lib.hid (hB.out.trans ((below_drewN wr nq).mono hB.out.size))
      by_cases hq : 600 < xq - kl
      · have E := Lib.hid (show farF l ks = true by
          unfold farF
          rw [List.any_eq_true]
          exact ⟨o, HM.out, by rw [HXQ.out, HKL.out]; exact decide_eq_true hq⟩)
        clear c1 c2 c3
        go_wp2
        go_returns
        exact ⟨by rw [E.out]; rfl, B0.out.trans (hB2.out.mono B0.out.size)⟩
      · have HF2 := Lib.hid (show (l.take (i + 1)).any (fun o => decide (600 < o.q - knw ks o.r)) = false by rw [HN.out, hF.out, HXQ.out, HKL.out, decide_eq_false hq]; rfl)
        clear c1 c2 c3
        go_wp2
        go_roundw
        case rel => exact ⟨i + 1, by go_num, by omega, HF2, hB2⟩
        case measure => simp [intOf]; omega
    · have E := Lib.hid (show farF l ks = false by
        have := hF.out
        rwa [List.take_of_length_le (Nat.le_of_not_lt hlt)] at this)
      go_wp2
      go_returns
      exact ⟨by rw [E.out]; rfl, B0.out.trans (hB.out.mono B0.out.size)⟩
/-- Ranges side by side. -/
def RLies (w : World) (v : Value) (l : List Rg) : Prop := ∃ ao cap, v = .slice ao l.length cap ∧ l.length ≤ 9223372036854775807 ∧ (ao = none → l = []) ∧
  ∀ b, ao = some b → l ≠ [] → ∃ g k, b = ⟨g, k, none⟩ ∧ g < w.heap.size ∧ ∀ (j : Nat) p, l[j]? = some p → w.cell? ⟨g, k + j * 3, none⟩ = some (.int .i64 p.1) ∧ w.cell? ⟨g, k + j * 3 + 1, none⟩ = some (.int .i64 p.2.1) ∧ w.cell? ⟨g, k + j * 3 + 2, none⟩ = some (.int .i64 p.2.2)
theorem RLies.step {w w' : World} {v : Value} {l : List Rg} (h : RLies w v l) (hb : Below w.heap.size w w') : RLies w' v l := by
  obtain ⟨ao, cap, e, h1, h2, h3⟩ := h
  refine ⟨ao, cap, e, h1, h2, fun b hb1 hne => ?_⟩
  obtain ⟨g, k, e1, hg, hc⟩ := h3 b hb1 hne
  refine ⟨g, k, e1, Nat.lt_of_lt_of_le hg hb.size, fun j p hp => ?_⟩
  obtain ⟨c0, c1, c2⟩ := hc j p hp
  exact ⟨(hb.cell (p := ⟨g, k + j * 3, none⟩) hg).trans c0, (hb.cell (p := ⟨g, k + j * 3 + 1, none⟩) hg).trans c1, (hb.cell (p := ⟨g, k + j * 3 + 2, none⟩) hg).trans c2⟩
theorem RLies.at {w : World} {ao : Option Addr} {n cap : Nat} {l : List Rg} (h : RLies w (.slice ao n cap) l) {i : Nat} {p : Rg} (hp : l[i]? = some p) :
    ∃ g k, ao = some ⟨g, k, none⟩ ∧ w.cell? ⟨g, k + i * 3, none⟩ = some (.int .i64 p.1) ∧ w.cell? ⟨g, k + i * 3 + 1, none⟩ = some (.int .i64 p.2.1) ∧ w.cell? ⟨g, k + i * 3 + 2, none⟩ = some (.int .i64 p.2.2) := by
  obtain ⟨ao', cap', e, _, h1, h2⟩ := h
  injection e with e1 e2 e3
  subst e1
  cases ao with
  | none => rw [h1 rfl] at hp; cases hp
  | some b =>
    obtain ⟨g, k, rfl, _, hc⟩ := h2 b rfl (by rintro rfl; cases hp)
    exact ⟨g, k, rfl, hc i p hp⟩
theorem cs3_get : ∀ (l : List Rg) (j : Nat) p, l[j]? = some p → (cs3 l)[j * 3]? = some (.int .i64 p.1) ∧ (cs3 l)[j * 3 + 1]? = some (.int .i64 p.2.1) ∧ (cs3 l)[j * 3 + 2]? = some (.int .i64 p.2.2) := by
  intro l
  induction l with
  | nil => intro j p h; cases h
  | cons a l ih =>
    intro j p h
    cases j with
    | zero => injection h with h; subst h; exact ⟨rfl, rfl, rfl⟩
    | succ j =>
      obtain ⟨h1, h2, h3⟩ := ih j p (by simpa using h)
      refine ⟨?_, ?_, ?_⟩
      · rw [show (j + 1) * 3 = j * 3 + 1 + 1 + 1 by omega]; exact h1
      · rw [show (j + 1) * 3 + 1 = (j * 3 + 1) + 1 + 1 + 1 by omega]; exact h2
      · rw [show (j + 1) * 3 + 2 = (j * 3 + 2) + 1 + 1 + 1 by omega]; exact h3
theorem own_rlies {w : World} {B e : Nat} {v : Value} {l : List Rg} (h : w.ownsRow B e 3 v l.length (cs3 l)) : RLies w v l := by
  rcases h.2 with ⟨rfl, hn⟩ | ⟨g, cap, cur, rfl, hB, hg, hn, hm, hs, ht⟩
  · have : l = [] := List.eq_nil_of_length_eq_zero hn
    subst this
    exact ⟨none, 0, rfl, Nat.zero_le _, fun _ => rfl, fun b hb => by cases hb⟩
  · refine ⟨_, cap, rfl, by unfold maxLen at hm; omega, (fun e => by cases e), fun b hb _ => ?_⟩
    injection hb with hb
    subst hb
    refine ⟨g, 0, rfl, lt_of_block hg, fun j p hp => ?_⟩
    obtain ⟨c0, c1, c2⟩ := cs3_get l j p hp
    have f := fun i u (hu : (cs3 l)[i]? = some u) => (show w.cell? ⟨g, i, none⟩ = some u from by
      have := h.cells (g := g) rfl i u hu
      rwa [Ve.add_addr, Nat.zero_add] at this)
    rw [Nat.zero_add]
    exact ⟨f _ _ c0, f _ _ c1, f _ _ c2⟩
set_option maxHeartbeats 3200000 in
theorem same_any (w : World) (v1 v2 : Value) (l : List Rg) (h1 : RLies w v1 l) (h2 : RLies w v2 l) :
    Calls Try.prog 18 #[v1, v2] w fun e w' => e = .returned (.bool true) ∧ Below w.heap.size w w' := by
  have hl : l.length ≤ 9223372036854775807 := by obtain ⟨_, _, _, h, _⟩ := h1; exact h
  have H1 := Lib.hid h1
  have H2 := Lib.hid h2
  obtain ⟨a1, c1, rfl⟩ : ∃ a c, v1 = .slice a l.length c := by obtain ⟨a, c, e, _⟩ := h1; exact ⟨a, c, e⟩
  obtain ⟨a2, c2, rfl⟩ : ∃ a c, v2 = .slice a l.length c := by obtain ⟨a, c, e, _⟩ := h2; exact ⟨a, c, e⟩
  clear h1 h2
  go_enter Try.func18, Try.ntmps18
  go_wp2
  go_loopw [5] (fun iv wr => ∃ i : Nat, iv = .int .i64 i ∧ i ≤ l.length ∧ Hid (Below w.heap.size w wr)) (fun iv _ => l.length - (intOf iv).toNat)
  case atStart => exact ⟨0, rfl, Nat.zero_le _, Lib.hid (Below.refl _ _)⟩
  case round =>
    obtain ⟨i, rfl, hi, hB⟩ := hrel
    by_cases hlt : i < l.length
    · have hp := List.getElem?_eq_getElem hlt
      obtain ⟨g, k, rfl, e0, e1, e2⟩ := (H1.out.step hB.out).at hp
      obtain ⟨g2, k2, rfl, f0, f1, f2⟩ := (H2.out.step hB.out).at hp
      have hi0 : (0 : Int) ≤ (i : Int) := by omega
      have hi1 : (i : Int) < (l.length : Int) := by omega
      obtain ⟨p, hpe⟩ : ∃ p, l[i] = p := ⟨_, rfl⟩
      rw [hpe] at e0 e1 e2 f0 f1 f2
      obtain ⟨p1, p2, p3⟩ := p
      dsimp only at e0 e1 e2 f0 f1 f2
      clear hp hpe
      go_wp2
      go_quiet (fail)
      have hB2 := Lib.hid (hB.out.trans ((below_drewN wr nq).mono hB.out.size))
      clear e0 e1 e2 f0 f1 f2
      go_wp2
      go_roundw
      case rel => exact ⟨i + 1, by go_num, by omega, hB2⟩
      case measure => simp [intOf]; omega
    · go_wp2
      go_returns
      exact ⟨rfl, hB.out⟩
end Go.Proofs.Ytgnnpfainoppeaa
