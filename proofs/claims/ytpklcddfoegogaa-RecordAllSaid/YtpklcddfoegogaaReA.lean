/- The reference's Open, with where what it hands back lies; its Same on any two. -/
import Derived.Test.YtpklcddfoegogaaSumF
set_option linter.unusedVariables false
namespace Go.Proofs.Ytpklcddfoegogaa
open Go.RowKit

theorem lies_shape {w : World} {v : Value} {bs : List Nat} (h : Lies w v bs) : ∃ ao cap, v = .slice ao bs.length cap := by
  obtain ⟨ao, cap, e, _⟩ := h
  exact ⟨ao, cap, e⟩
/-- Where a slice that is not empty lies in old memory. -/
def Far (w : World) (r : Value) (bs : List Nat) : Prop := ∀ ad n c, r = .slice (some ad) n c → bs ≠ [] → ad.block < w.heap.size
theorem Far.nil (w : World) (bs : List Nat) : Far w (.slice none 0 0) bs := fun ad n c e => by injection e with e _ _; cases e

set_option maxRecDepth 100000 in
set_option maxHeartbeats 1600000 in
theorem ropen_far (w00 w : World) (hX : Below w00.heap.size w00 w) (v : Value) (bs : List Nat) (hh : Lies w00 v bs) (hb : Byt bs) (hl2 : bs.length ≤ 200000) (ok : Bool) (hok : ok = true ↔ Sealed bs) :
    Calls Try.prog 19 #[v] w fun e w' => ∃ r, e = .returned (.tuple #[r, .bool ok]) ∧ (Lies w' r (if ok then bs.take (bs.length - 4) else []) ∧ Far w00 r (if ok then bs.take (bs.length - 4) else [])) ∧ Below w.heap.size w w' := by
  have h := hh.later hX
  by_cases hl : bs.length < 4
  · have e : ok = false := by
      cases ok with
      | false => rfl
      | true => exact absurd (hok.1 rfl).1 (by omega)
    subst e
    obtain ⟨ao, cap, rfl, _⟩ := h
    clear hok
    go_enter Try.func19, Try.ntmps19
    go_wp2
    go_returns
    exact ⟨_, rfl, ⟨Lies.nil _, Far.nil _ _⟩, Below.refl _ _⟩
  · have H := Lib.hid h
    obtain ⟨ao, cap, rfl, hcap, hmx, h0, hc⟩ := h
    cases ao with
    | none => have := (h0 rfl).1; rw [this] at hl; simp at hl
    | some b =>
      obtain ⟨k, o, rfl, hk, hcc⟩ := hc b rfl (ne_of_lt (i := 0) (by omega))
      obtain ⟨n, hn⟩ : ∃ n, n = bs.length - 4 := ⟨_, rfl⟩
      have HF0 : Hid (Far w00 (.slice (some ⟨k, o, none⟩) n cap) (bs.take n)) := Lib.hid (fun ad n' c' e hne => by
        injection e with e1 _ _
        injection e1 with e1
        subst e1
        obtain ⟨ao', cap', e', _, _, _, hc'⟩ := hh
        injection e' with e1 _ _
        obtain ⟨k', o', e2, hk', _⟩ := hc' ⟨k, o, none⟩ e1.symm (fun e => hne (by rw [e]; simp))
        injection e2 with e3 _ _
        subst e3
        exact hk')
      have hlen : bs.length = n + 4 := by omega
      have e1 : (bs.length : Int) - 4 = (n : Int) := by omega
      have hn2 : n ≤ 199996 := by omega
      have ew : wrap64 (n : Int) = (n : Int) := by unfold wrap64; omega
      have hncap : n < cap := by omega
      have L1 := Lib.hid (H.out.take n (by omega))
      have R := Lib.hid (rseal_any w _ _ L1.out (hb.take n) (by rw [List.length_take]; omega))
      have HS : Hid (ok = true ↔ seal' (bs.take n) = bs) := Lib.hid (by
        rw [hok]; unfold Sealed; rw [← hn]
        exact ⟨fun h => h.2, fun h => ⟨by omega, h⟩⟩)
      have hsl : (seal' (bs.take n)).length = n + 4 := by rw [seal_length, List.length_take]; omega
      generalize seal' (bs.take n) = ss at *
      have HC := Lib.hid hcc
      rw [← hn]
      have HLN := Lib.hid hlen
      rw [hlen] at e1 ⊢
      clear hok h0 hc hcc hn hb hlen hl hl2 hcap
      go_enter Try.func19, Try.ntmps19
      go_wp2_with fail
      refine R.out.mono ?_
      rintro e w1 ⟨r, rfl, ho⟩
      have hLs := own_lies ho.1
      obtain ⟨ra, rc, rfl⟩ := own_shape ho.1
      rw [hsl] at hLs
      obtain ⟨ra', rc', re, _, _, hz, hcs⟩ := hLs
      injection re with re1 re2 re3
      clear re2
      subst re1 re3
      have HB := Lib.hid ho.2
      cases ra with
      | none => have := (hz rfl).1; rw [this] at hsl; simp at hsl
      | some rb =>
        obtain ⟨k2, o2, rfl, hk2, hcs⟩ := hcs rb rfl (ne_of_lt (i := 0) (by omega))
        have HC2 := Lib.hid hcs
        have HSL := Lib.hid hsl
        clear ho hz hcs
        rw [hsl]
        go_wp2
        go_loopw [6] (fun iv wr => ∃ i : Nat, iv = .int .i64 i ∧ i ≤ n + 4 ∧ Hid (∀ j, j < i → ss[j]? = bs[j]?) ∧ ∃ q, wr = w1.drewN q) (fun iv _ => n + 4 - (intOf iv).toNat)
        case atStart => exact ⟨0, rfl, by omega, Lib.hid (fun j hj => absurd hj (Nat.not_lt_zero _)), 0, rfl⟩
        case round =>
          obtain ⟨i, rfl, hi, hS, q, rfl⟩ := hrel
          have HBq := Lib.hid (HB.out.trans ((below_drewN w1 q).mono HB.out.size))
          by_cases hlt : i < n + 4
          · obtain ⟨x, hx⟩ : ∃ x, bs[i]? = some x := ⟨_, List.getElem?_eq_getElem (by rw [HLN.out]; exact hlt)⟩
            obtain ⟨y, hy⟩ : ∃ y, ss[i]? = some y := ⟨_, List.getElem?_eq_getElem (by rw [HSL.out]; exact hlt)⟩
            have d1 := (HB.out.cell (p := ⟨k, o + i, none⟩) hk).trans (HC.out i x hx)
            have d2 := HC2.out i y hy
            by_cases hxy : x = y
            · subst hxy
              have HN : Hid (∀ j, j < i + 1 → ss[j]? = bs[j]?) := Lib.hid (fun j hj => by
                by_cases e : j = i
                · rw [e, hx, hy]
                · exact hS.out j (by omega))
              clear hx hy hS
              go_wp2
              go_quiet (fail)
              go_wp2
              go_roundw
              case rel => exact ⟨i + 1, by go_num, by omega, HN, _, rfl⟩
              case measure => simp [intOf]; omega
            · have e : ok = false := by
                cases ok with
                | false => rfl
                | true =>
                  have := HS.out.1 rfl
                  rw [this, hx] at hy
                  injection hy with hy
                  exact absurd hy hxy
              have t1 := neb_ (y : Int) (x : Int) (by omega)
              subst e
              clear hx hy hS hxy
              go_wp2
              go_quiet (fail)
              go_wp2
              go_returns
              exact ⟨_, rfl, ⟨Lies.nil _, Far.nil _ _⟩, HBq.out.trans ⟨rfl, rfl, rfl, Nat.le_refl _, fun _ _ => rfl⟩⟩
          · have e : ok = true := by
              rw [HS.out]
              apply List.ext_getElem?
              intro j
              by_cases hj : j < n + 4
              · exact hS.out j (by omega)
              · rw [List.getElem?_eq_none (by rw [HSL.out]; omega), List.getElem?_eq_none (by rw [HLN.out]; omega)]
            subst e
            have HL := Lib.hid (L1.out.later HBq.out)
            clear hS
            go_wp2
            go_returns
            exact ⟨_, rfl, ⟨HL.out, HF0.out⟩, HBq.out⟩

set_option maxRecDepth 100000 in
set_option maxHeartbeats 1000000 in
theorem rsame_all (w : World) (v1 v2 : Value) (l m : List Nat) (h1 : Lies w v1 l) (h2 : Lies w v2 m) (b : Bool) (hb : b = true ↔ l = m) :
    Calls Try.prog 10 #[v1, v2] w fun e w' => e = .returned (.bool b) ∧ Below w.heap.size w w' := by
  by_cases he : l = m
  · rw [hb.2 he]; subst he; exact same_any w v1 v2 l h1 h2
  · have hbf : b = false := by
      cases b with
      | false => rfl
      | true => exact absurd (hb.1 rfl) he
    subst hbf
    clear hb
    have hlm : l.length ≤ maxLen := by obtain ⟨_, _, _, g1, g2, _⟩ := h1; omega
    unfold maxLen at hlm
    obtain ⟨a1, p1, rfl, _, _, n1, hc1⟩ := h1
    obtain ⟨a2, p2, rfl, _, _, n2, hc2⟩ := h2
    by_cases hn : l.length = m.length
    · obtain ⟨N, hN⟩ : ∃ N, N = l.length := ⟨_, rfl⟩
      rw [← hn, ← hN]
      rw [← hN] at hlm
      go_enter Try.func10, Try.ntmps10
      go_wp2
      go_loopw [5] (fun kv wr => ∃ k : Nat, kv = .int .i64 k ∧ k ≤ N ∧ (∀ j : Nat, j < k → l[j]? = m[j]?) ∧ ∃ n, wr = w.drewN n) (fun kv _ => N - (intOf kv).toNat)
      case atStart => exact ⟨0, rfl, Nat.zero_le _, fun j h => absurd h (Nat.not_lt_zero _), 0, rfl⟩
      case round =>
        obtain ⟨k, rfl, hk, hj, n, rfl⟩ := hrel
        by_cases hlt : k < N
        · obtain ⟨x, hx⟩ : ∃ x, l[k]? = some x := ⟨_, List.getElem?_eq_getElem (by omega)⟩
          obtain ⟨y, hy⟩ : ∃ y, m[k]? = some y := ⟨_, List.getElem?_eq_getElem (by omega)⟩
          cases a1 with
          | none => have := (n1 rfl).1; rw [this] at hN; simp at hN; omega
          | some b1 =>
            cases a2 with
            | none => have := (n2 rfl).1; rw [this] at hn; simp at hn; rw [hn] at hN; simp at hN; omega
            | some b2 =>
              obtain ⟨k1, o1, rfl, _, hc1⟩ := hc1 b1 rfl (ne_of_lt (i := k) (by omega))
              obtain ⟨k2, o2, rfl, _, hc2⟩ := hc2 b2 rfl (ne_of_lt (i := k) (by omega))
              have d1 := hc1 k x hx
              have d2 := hc2 k y hy
              have HJ := Lib.hid hj
              have HXY := Lib.hid (And.intro hx hy)
              clear hc1 hc2 n1 n2 hx hy hj he hn hN
              by_cases hxy : (x : Int) = (y : Int)
              · rw [← hxy] at d2
                go_wp2
                go_quiet (fail)
                go_wp2
                go_roundw
                case rel =>
                  refine ⟨k + 1, by go_num, by omega, fun j hj => ?_, _, rfl⟩
                  by_cases e : j = k
                  · subst e; rw [HXY.out.1, HXY.out.2]; congr 1; omega
                  · exact HJ.out j (by omega)
                case measure => simp [intOf]; omega
              · go_wp2
                go_quiet (fail)
                go_wp2
                go_returns
                exact ⟨rfl, (below_drewN w n).trans ((below_drewN _ _).mono (below_drewN w n).size)⟩
        · exfalso
          refine he (List.ext_getElem? fun j => ?_)
          by_cases e : j < k
          · exact hj j e
          · rw [List.getElem?_eq_none (by omega), List.getElem?_eq_none (by omega)]
    · have hn2 : ¬ ((l.length : Int) = (m.length : Int)) := by omega
      clear hc1 hc2 n1 n2
      go_enter Try.func10, Try.ntmps10
      go_wp2
      go_returns
      exact ⟨rfl, Below.refl _ _⟩

end Go.Proofs.Ytpklcddfoegogaa
