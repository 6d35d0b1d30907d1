/- May changes be done upon a table? Made by genhl38.py. -/
import Derived.Test.YthbmbpnpigpgpaaHK
import Derived.Test.YthbmbpnpigpgpaaUF
import Derived.Test.YthbmbpnpigpgpaaFD
set_option linter.unusedVariables false
set_option linter.unusedSimpArgs false
set_option maxRecDepth 100000
namespace Go.Proofs.Ythbmbpnpigpgpaa
open Go.RowKit

def COk (x : Ch) : Prop := x.nm.size ≤ 300 ∧ (x.nw = false → rightB x.t x.r = true)
structure MayO (l : List Rw) (cl : List Ch) (made : List Sp) : Prop where
  len : l.length ≤ 24 ∧ cl.length ≤ 24 ∧ made.length ≤ 24
  may : mayB l = true
  ch : ∀ x ∈ cl, COk x
  st : ∀ m ∈ made, rightB m.1 m.2 = true
  nm : ∀ x ∈ l, x.nm.size ≤ 300
theorem all_below {α : Type} {P : α → Prop} {l : List α} {i : Nat} (h : ∀ (j : Nat) x, j < i → l[j]? = some x → P x) (hi : l.length ≤ i) : ∀ x ∈ l, P x := fun x hx => by
  obtain ⟨j, hj⟩ := List.mem_iff_getElem?.1 hx
  exact h j x (by have := (List.getElem?_eq_some_iff.1 hj).1; omega) hj
theorem one_more {α : Type} {P : α → Prop} {l : List α} {i : Nat} {x : α} (h : ∀ (j : Nat) x, j < i → l[j]? = some x → P x) (hx : l[i]? = some x) (hp : P x) : ∀ (j : Nat) y, j < i + 1 → l[j]? = some y → P y := fun j y hj hy => by
  by_cases e : j = i
  · subst e; rw [hx] at hy; injection hy with hy; subst hy; exact hp
  · exact h j y (by omega) hy
set_option maxHeartbeats 6400000 in
theorem may5_any (w : World) (v c m : Value) (l : List Rw) (cl : List Ch) (made : List Sp) (h : LiesR w v l) (hc : LiesK encH 7 w c cl) (hm : LiesK encS 2 w m made) :
    Calls Try.prog 5 #[v, c, m] w fun e w' => ∃ b, e = .returned (.bool b) ∧ Below w.heap.size w w' ∧ (b = true → MayO l cl made) := by
  have L := Lib.hid h
  have C := Lib.hid hc
  have M := Lib.hid hm
  have ll := h.len
  have lc := hc.len
  have lm := hm.len
  obtain ⟨ao, cap, rfl⟩ := h.shape
  obtain ⟨co, ccap, rfl⟩ := hc.shape
  obtain ⟨mo, mcap, rfl⟩ := hm.shape
  clear h hc hm
  go_enter Try.func5, Try.ntmps5
  go_wp2_with fail
  go_loopw [7] (fun kv wr => ∃ i : Nat, kv = .int .i64 i ∧ i ≤ cl.length ∧ Hid (Below w.heap.size w wr ∧ ∀ (j : Nat) x, j < i → cl[j]? = some x → COk x)) (fun kv _ => cl.length - (intOf kv).toNat)
  case atStart => exact ⟨0, rfl, Nat.zero_le _, Lib.hid ⟨Below.refl _ _, fun j x h => absurd h (Nat.not_lt_zero _)⟩⟩
  case round =>
    obtain ⟨i, rfl, hi, hK⟩ := hrel
    have K0 := Lib.hid hK.out.1
    have J0 := Lib.hid hK.out.2
    clear hK
    by_cases hgo : i < cl.length ∧ i < 40
    · obtain ⟨hlt, h40⟩ := hgo
      obtain ⟨g, o, x, rfl, hx, hg, d⟩ := (C.out.step K0.out).at' hlt
      have HX := Lib.hid hx
      have R := Lib.hid (right_any wr x.t x.r)
      have d0 := d 0 _ rfl
      rw [Nat.add_zero] at d0
      have d1 := d 1 _ rfl
      have d2 := d 2 _ rfl
      have d5 := d 5 _ rfl
      clear hx hg d
      by_cases hn : x.nm.size ≤ 300
      · have tn : decide ((300 : Int) < (x.nm.size : Int)) = false := decide_eq_false (by omega)
        cases hw : x.nw with
        | true =>
          have HQ := Lib.hid (one_more (P := COk) J0.out HX.out ⟨hn, fun e => by rw [hw] at e; cases e⟩)
          rw [hw] at d0
          clear R d1 d2 J0 HX
          go_wp2
          go_roundw
          case rel => exact ⟨i + 1, by go_num, by omega, Lib.hid ⟨K0.out, HQ.out⟩⟩
          case measure => simp [intOf]; omega
        | false =>
          rw [hw] at d0
          go_wp2_with fail
          refine R.out.mono ?_
          rintro e w2 ⟨rfl, hb⟩
          have K2 := Lib.hid (K0.out.trans (hb.mono K0.out.size))
          obtain ⟨bb, hq⟩ : ∃ y, rightB x.t x.r = y := ⟨_, rfl⟩
          rw [hq]
          have HW := Lib.hid hw
          cases bb
          · clear hq hb d0 d1 d2 d5 hw
            go_wp2
            go_returns
            exact ⟨false, rfl, K2.out, fun e => by cases e⟩
          · have HQ := Lib.hid (one_more (P := COk) J0.out HX.out ⟨hn, fun _ => hq⟩)
            clear hq hb d0 d1 d2 d5 hw
            go_wp2
            go_roundw
            case rel => exact ⟨i + 1, by go_num, by omega, Lib.hid ⟨K2.out, HQ.out⟩⟩
            case measure => simp [intOf]; omega
      · have tn : decide ((300 : Int) < (x.nm.size : Int)) = true := decide_eq_true (by omega)
        clear R d0 d1 d2 J0 HX
        go_wp2
        go_returns
        exact ⟨false, rfl, K0.out, fun e => by cases e⟩
    · have FC := Lib.hid (show cl.length ≤ 24 → ∀ x ∈ cl, COk x from fun h24 => all_below J0.out (by omega))
      have TT := Lib.hid hgo
      clear J0
      have zz : (i < cl.length ∧ ¬ i < 40) ∨ ¬ i < cl.length := by have := TT.out; omega
      rcases zz with ⟨y1, y2⟩ | y1
      all_goals
        go_wp2_with fail
        go_loopw [8] (fun kv wq => ∃ k : Nat, kv = .int .i64 k ∧ k ≤ made.length ∧ Hid (Below w.heap.size w wq ∧ ∀ (j : Nat) x, j < k → made[j]? = some x → rightB x.1 x.2 = true)) (fun kv _ => made.length - (intOf kv).toNat)
        case atStart => exact ⟨0, rfl, Nat.zero_le _, Lib.hid ⟨K0.out, fun j x h => absurd h (Nat.not_lt_zero _)⟩⟩
        case round =>
          obtain ⟨k, rfl, hk, hK⟩ := hrel
          have K1 := Lib.hid hK.out.1
          have J1 := Lib.hid hK.out.2
          clear hK
          by_cases hgo : k < made.length ∧ k < 40
          · obtain ⟨hlt, h40⟩ := hgo
            obtain ⟨g, o, s1, s2, rfl, hx, hg, d0, d1⟩ := (M.out.step K1.out).spU hlt
            have HX := Lib.hid hx
            have R := Lib.hid (fun W => right_any W s1 s2)
            clear hx hg
            go_wp2_with fail
            refine (R.out _).mono ?_
            rintro e w2 ⟨rfl, hb⟩
            have K2 := Lib.hid (K1.out.trans (hb.mono K1.out.size))
            obtain ⟨bb, hq⟩ : ∃ y, rightB s1 s2 = y := ⟨_, rfl⟩
            rw [hq]
            cases bb
            · clear hq hb d0 d1
              go_wp2
              go_returns
              exact ⟨false, rfl, K2.out, fun e => by cases e⟩
            · have HQ := Lib.hid (one_more (P := fun s : Sp => rightB s.1 s.2 = true) J1.out HX.out hq)
              clear hq hb d0 d1
              go_wp2
              go_roundw
              case rel => exact ⟨k + 1, by go_num, by omega, Lib.hid ⟨K2.out, HQ.out⟩⟩
              case measure => simp [intOf]; omega
          · have FM := Lib.hid (show made.length ≤ 24 → ∀ x ∈ made, rightB x.1 x.2 = true from fun h24 => all_below J1.out (by omega))
            have TT2 := Lib.hid hgo
            clear J1
            have zz : (k < made.length ∧ ¬ k < 40) ∨ ¬ k < made.length := by have := TT2.out; omega
            rcases zz with ⟨z1, z2⟩ | z1
            all_goals
              go_wp2_with fail
              go_loopw [9] (fun kv wq => ∃ p : Nat, kv = .int .i64 p ∧ p ≤ l.length ∧ Hid (Below w.heap.size w wq ∧ ∀ (j : Nat) x, j < p → l[j]? = some x → x.nm.size ≤ 300)) (fun kv _ => l.length - (intOf kv).toNat)
              case atStart => exact ⟨0, rfl, Nat.zero_le _, Lib.hid ⟨K1.out, fun j x h => absurd h (Nat.not_lt_zero _)⟩⟩
              case round =>
                obtain ⟨p, rfl, hp, hK⟩ := hrel
                have K3 := Lib.hid hK.out.1
                have J3 := Lib.hid hK.out.2
                clear hK
                by_cases hgo : p < l.length ∧ p < 40
                · obtain ⟨hlt, h40⟩ := hgo
                  obtain ⟨g, o, x, rfl, hx, hg, a0, a1, a2, a3, a4, a5⟩ := (L.out.step K3.out).row hlt
                  have HX := Lib.hid hx
                  clear hx hg a0 a1 a2 a3 a5
                  by_cases hn : x.nm.size ≤ 300
                  · have tn : decide ((300 : Int) < (x.nm.size : Int)) = false := decide_eq_false (by omega)
                    have HQ := Lib.hid (one_more (P := fun x : Rw => x.nm.size ≤ 300) J3.out HX.out hn)
                    clear J3 HX
                    go_wp2
                    go_roundw
                    case rel => exact ⟨p + 1, by go_num, by omega, Lib.hid ⟨K3.out, HQ.out⟩⟩
                    case measure => simp [intOf]; omega
                  · have tn : decide ((300 : Int) < (x.nm.size : Int)) = true := decide_eq_true (by omega)
                    clear J3 HX
                    go_wp2
                    go_returns
                    exact ⟨false, rfl, K3.out, fun e => by cases e⟩
                · have FL := Lib.hid (show l.length ≤ 24 → ∀ x ∈ l, x.nm.size ≤ 300 from fun h24 => all_below J3.out (by omega))
                  have TT3 := Lib.hid hgo
                  clear J3
                  have zz : (p < l.length ∧ ¬ p < 40) ∨ ¬ p < l.length := by have := TT3.out; omega
                  rcases zz with ⟨x1, x2⟩ | x1
                  all_goals
                    by_cases u1 : l.length ≤ 24
                    · have t1 : decide ((l.length : Int) ≤ 24) = true := decide_eq_true (by omega)
                      by_cases u2 : cl.length ≤ 24
                      · have t2 : decide ((cl.length : Int) ≤ 24) = true := decide_eq_true (by omega)
                        by_cases u3 : made.length ≤ 24
                        · have t3 : decide ((made.length : Int) ≤ 24) = true := decide_eq_true (by omega)
                          have MY := Lib.hid (fun W (hb : Below w.heap.size w W) => may_any W _ l (L.out.step hb))
                          have FIN := Lib.hid (show mayB l = true → MayO l cl made from fun hm => ⟨⟨u1, u2, u3⟩, hm, FC.out u2, FM.out u3, FL.out u1⟩)
                          go_wp2_with fail
                          all_goals
                            refine (MY.out _ K3.out).mono ?_
                            rintro e w9 ⟨rfl, hb⟩
                            have K9 := Lib.hid (K3.out.trans (hb.mono K3.out.size))
                            clear hb
                            go_wp2
                            go_returns
                            exact ⟨_, rfl, K9.out, FIN.out⟩
                        · have t3 : decide ((made.length : Int) ≤ 24) = false := decide_eq_false (by omega)
                          go_wp2
                          all_goals
                            go_returns
                            exact ⟨false, rfl, K3.out, fun e => by cases e⟩
                      · have t2 : decide ((cl.length : Int) ≤ 24) = false := decide_eq_false (by omega)
                        go_wp2
                        all_goals
                          go_returns
                          exact ⟨false, rfl, K3.out, fun e => by cases e⟩
                    · have t1 : decide ((l.length : Int) ≤ 24) = false := decide_eq_false (by omega)
                      go_wp2
                      all_goals
                        go_returns
                        exact ⟨false, rfl, K3.out, fun e => by cases e⟩
end Go.Proofs.Ythbmbpnpigpgpaa
