/- The reference's Code, Sorted, Same; the law's long. -/
import Derived.Test.YtkmeceoilighiaaOG
import Derived.Test.YtkmeceoilighiaaWSame
set_option linter.unusedVariables false
namespace Go.Proofs.Ytkmeceoilighiaa
open Go.RowKit

noncomputable def sameO (l m : List O) : Bool := @decide (l = m) (Classical.propDecidable _)
theorem sameO_self (l : List O) : sameO l l = true := by unfold sameO; simp
theorem sameO_ne {l m : List O} (h : l ≠ m) : sameO l m = false := by unfold sameO; simp [h]
theorem O.ext' {p q : O} (h1 : p.t = q.t) (h2 : p.r = q.r) (h3 : p.q = q.q) (h4 : p.nt = q.nt) (h5 : p.nr = q.nr) (h6 : p.pt = q.pt) (h7 : p.pr = q.pr) (h8 : p.nm = q.nm) (h9 : p.d = q.d) : p = q := by
  cases p; cases q; simp_all
theorem list_ext_get {l m : List O} (hl : l.length = m.length) (h : ∀ j : Nat, j < l.length → l[j]? = m[j]?) : l = m := by
  apply List.ext_getElem? 
  intro j
  by_cases hj : j < l.length
  · exact h j hj
  · rw [List.getElem?_eq_none (by omega), List.getElem?_eq_none (by omega)]
set_option maxRecDepth 100000 in
set_option maxHeartbeats 6400000 in
theorem rsameO_any (w : World) (v1 v2 : Value) (l m : List O) (h1 : OLies w v1 l) (h2 : OLies w v2 m) :
    Calls Try.prog 26 #[v1, v2] w fun e w' => e = .returned (.bool (sameO l m)) ∧ Below w.heap.size w w' := by
  have hl1 := h1.len
  have hl2 := h2.len
  have H1 := Lib.hid h1
  have H2 := Lib.hid h2
  obtain ⟨a1, c1, rfl⟩ := h1.shape
  obtain ⟨a2, c2, rfl⟩ := h2.shape
  clear h1 h2
  by_cases hne : l.length = m.length
  · have HN := Lib.hid hne
    have t0 : ((l.length : Int) != (m.length : Int)) = false := by simp [hne]
    go_enter Try.func26, Try.ntmps26
    clear hne
    go_wp2
    clear t0
    go_loopw [5] (fun kv wr => ∃ i : Nat, kv = .int .i64 i ∧ i ≤ l.length ∧ Hid (∀ j : Nat, j < i → l[j]? = m[j]?) ∧ ∃ n, wr = w.drewN n) (fun kv _ => l.length - (intOf kv).toNat)
    case atStart => exact ⟨0, rfl, Nat.zero_le _, Lib.hid (fun j h => absurd h (Nat.not_lt_zero _)), 0, rfl⟩
    case round =>
      obtain ⟨i, rfl, hi, hJ, n, rfl⟩ := hrel
      by_cases hlt : i < l.length
      · obtain ⟨k, o, p, rfl, hp, hg, d0, d1, d2, d3, d4, d5, d6, d7, d8⟩ := H1.out.at' hlt
        obtain ⟨k', o', p', rfl, hp', hg', e0, e1, e2, e3, e4, e5, e6, e7, e8⟩ := H2.out.at' (show i < m.length from by have := HN.out; omega)
        have hmlt : i < m.length := by have := HN.out; omega
        clear hg hg'
        by_cases hpp : p = p'
        · subst hpp
          have HJ2 := Lib.hid (show ∀ j : Nat, j < i + 1 → l[j]? = m[j]? from fun j hj => by
            by_cases e : j = i
            · subst e; rw [hp, hp']
            · exact hJ.out j (by omega))
          clear hp hp' hJ
          go_wp2
          go_quiet (fail)
          go_wp2
          go_roundw
          case rel => exact ⟨i + 1, by go_num, by omega, HJ2, _, rfl⟩
          case measure => simp [intOf]; omega
        · have HE := Lib.hid (show sameO l m = false from sameO_ne (fun e => hpp (by subst e; rw [hp] at hp'; injection hp')))
          clear hp hp' hJ
          have hd : (p.t == p'.t) = false ∨ ((p.t == p'.t) = true ∧ ((p.r == p'.r) = false ∨ ((p.r == p'.r) = true ∧ ((p.q == p'.q) = false ∨ ((p.q == p'.q) = true ∧ ((p.nt == p'.nt) = false ∨ ((p.nt == p'.nt) = true ∧ ((p.nr == p'.nr) = false ∨ ((p.nr == p'.nr) = true ∧ ((p.pt == p'.pt) = false ∨ ((p.pt == p'.pt) = true ∧ ((p.pr == p'.pr) = false ∨ ((p.pr == p'.pr) = true ∧ ((p.nm.toList == p'.nm.toList) = false ∨ ((p.nm.toList == p'.nm.toList) = true ∧ (p.d == p'.d) = false))))))))))))))) := by
            have key : ¬ (p.t = p'.t ∧ p.r = p'.r ∧ p.q = p'.q ∧ p.nt = p'.nt ∧ p.nr = p'.nr ∧ p.pt = p'.pt ∧ p.pr = p'.pr ∧ p.nm = p'.nm ∧ p.d = p'.d) := fun ⟨a1, a2, a3, a4, a5, a6, a7, a8, a9⟩ => hpp (O.ext' a1 a2 a3 a4 a5 a6 a7 a8 a9)
            by_cases x1 : p.t = p'.t
            · refine .inr ⟨beqb_ _ _ x1, ?_⟩
              by_cases x2 : p.r = p'.r
              · refine .inr ⟨beqb_ _ _ x2, ?_⟩
                by_cases x3 : p.q = p'.q
                · refine .inr ⟨beqb_ _ _ x3, ?_⟩
                  by_cases x4 : p.nt = p'.nt
                  · refine .inr ⟨beqb_ _ _ x4, ?_⟩
                    by_cases x5 : p.nr = p'.nr
                    · refine .inr ⟨beqb_ _ _ x5, ?_⟩
                      by_cases x6 : p.pt = p'.pt
                      · refine .inr ⟨beqb_ _ _ x6, ?_⟩
                        by_cases x7 : p.pr = p'.pr
                        · refine .inr ⟨beqb_ _ _ x7, ?_⟩
                          by_cases x8 : p.nm = p'.nm
                          · refine .inr ⟨tl_eq x8, ?_⟩
                            exact Bool.eq_false_iff.2 (fun e => key ⟨x1, x2, x3, x4, x5, x6, x7, x8, by simpa using e⟩)
                          · exact .inl (tl_ne x8)
                        · exact .inl (bneb_ _ _ x7)
                      · exact .inl (bneb_ _ _ x6)
                    · exact .inl (bneb_ _ _ x5)
                  · exact .inl (bneb_ _ _ x4)
                · exact .inl (bneb_ _ _ x3)
              · exact .inl (bneb_ _ _ x2)
            · exact .inl (bneb_ _ _ x1)
          clear hpp
          rcases hd with x0 | ⟨x0, x1 | ⟨x1, x2 | ⟨x2, x3 | ⟨x3, x4 | ⟨x4, x5 | ⟨x5, x6 | ⟨x6, x7 | ⟨x7, x8⟩⟩⟩⟩⟩⟩⟩⟩
          all_goals
            go_wp2
            go_quiet (fail)
            go_wp2
            go_returns
            exact ⟨ret_b' HE.out, by first | exact Wi.below_drewN _ _ | exact (Wi.below_drewN w n).trans ((Wi.below_drewN _ _).mono (Wi.below_drewN w n).size)⟩
      · have HE := Lib.hid (show sameO l m = true from by
          have : l = m := list_ext_get HN.out (fun j hj => hJ.out j (by omega))
          rw [this]; exact sameO_self m)
        clear hJ
        go_wp2
        go_returns
        exact ⟨ret_b' HE.out, by first | exact Wi.below_drewN _ _ | exact (Wi.below_drewN w n).trans ((Wi.below_drewN _ _).mono (Wi.below_drewN w n).size)⟩
  · have HE := Lib.hid (show sameO l m = false from sameO_ne (fun e => hne (by rw [e])))
    have t0 : ((l.length : Int) != (m.length : Int)) = true := by simp; omega
    clear hne
    go_enter Try.func26, Try.ntmps26
    go_wp2
    go_returns
    exact ⟨ret_b' HE.out, Below.refl _ _⟩
end Go.Proofs.Ytkmeceoilighiaa



