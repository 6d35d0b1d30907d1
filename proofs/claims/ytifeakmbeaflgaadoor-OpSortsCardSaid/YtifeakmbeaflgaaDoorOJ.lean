/- The reference's Code, Sorted, Same; the law's long. -/
import Derived.Test.YtifeakmbeaflgaaDoorOI
set_option linter.unusedVariables false
namespace Go.Proofs.YtifeakmbeaflgaaDoor
open Go.RowKit
open Wi (RowOut nb)

set_option maxRecDepth 100000 in
set_option maxHeartbeats 6400000 in
theorem rcode_any (w : World) (v : Value) (l : List O) (h : OLies w v l) (hl : l.length ≤ 100) (hf : ∀ o ∈ l, Fit o ∧ o.nm.size ≤ 300) :
    Calls Tryd.prog 30 #[v] w fun e w' => ∃ r, e = .returned r ∧ RowOut w w' r (codeB l) := by
  obtain ⟨i0, hi, hz0, hz1, hz2⟩ := info_parts Wi.Tryd.info5
  have NN := Lib.hid (show Calls Tryd.prog 54 #[.int .i64 (l.length : Int)] w fun e w' => ∃ r, e = .returned r ∧ RowOut w w' r (nb l.length) from by
    have := Wi.rnum_any w (l.length : Int) (by omega)
    rwa [Int.toNat_natCast] at this)
  have H := Lib.hid h
  have HF := Lib.hid hf
  have BL := Lib.hid (fun k => show (nb l.length ++ bodyB (l.take k)).length ≤ 40000 from by
    have := bodyB_len (l.take k) (fun o ho => hf o (List.mem_of_mem_take ho))
    have hnl := Wi.nb_len9 l.length (by omega)
    rw [List.length_append]
    rw [List.length_take] at this
    omega)
  have EB := Lib.hid (show codeB l = nb l.length ++ bodyB l from rfl)
  obtain ⟨ao, cap, rfl⟩ := h.shape
  clear h hf
  go_enter Tryd.func30, Tryd.ntmps30
  go_wp2_with fail
  refine NN.out.mono ?_
  rintro e w1 ⟨r, rfl, ho⟩
  have R1 := Lib.hid ho
  obtain ⟨ra, rc, rfl⟩ := Wi.own_shape ho.1
  clear ho NN
  go_wp2_with fail
  go_loopw [3, 4] (fun rv kv wr => ∃ k : Nat, kv = .int .i64 k ∧ k ≤ l.length ∧ Hid (wr.ownsRow w.heap.size 5 1 rv (nb l.length ++ bodyB (l.take k)).length (Wi.u8s (nb l.length ++ bodyB (l.take k))) ∧ Below w.heap.size w wr)) (fun _ kv _ => l.length - (intOf kv).toNat)
  case atStart => exact ⟨0, rfl, Nat.zero_le _, Lib.hid (by rw [List.take_zero, show bodyB [] = [] from rfl, List.append_nil]; exact R1.out)⟩
  case round =>
    obtain ⟨k, rfl, hk, hI⟩ := hrel
    obtain ⟨na, nc, rfl⟩ := Wi.own_shape hI.out.1
    by_cases hlt : k < l.length
    · obtain ⟨g, o, p, rfl, hp, hg, hc⟩ := (H.out.step hI.out.2).at' hlt
      obtain ⟨c0, c1, c2, c3, c4, c5, c6, c7, c8⟩ := hc
      obtain ⟨hf1, hf2⟩ := HF.out p (List.mem_of_getElem? hp)
      have SN := Lib.hid (bodyB_snoc l k p hp)
      have PU := Lib.hid (show Calls Tryd.prog 22 #[.agg #[.int .i64 p.t, .int .i64 p.r, .int .i64 p.q, .int .i64 p.nt, .int .i64 p.nr, .int .i64 p.pt, .int .i64 p.pr, .string p.nm, .bool p.d]] wr fun e w' => ∃ v, e = .returned v ∧ RowOut wr w' v (oB p) from rput_any wr p.t p.r p.q p.nt p.nr p.pt p.pr p.nm p.d hf1.t hf1.r hf1.q hf1.nt hf1.nr hf1.pt hf1.pr (by omega))
      have PL := Lib.hid (show (oB p).length ≤ 373 from by have := oB_len p hf1 (by omega); omega)
      have BK := Lib.hid (BL.out k)
      have HB := Lib.hid hI.out.2
      have HO := Lib.hid hI.out.1
      clear hp hg hI hf1 hf2
      obtain ⟨cs, hcs⟩ : ∃ x, nb l.length ++ bodyB (l.take k) = x := ⟨_, rfl⟩
      rw [hcs] at HO BK ⊢
      have HCS := Lib.hid hcs
      clear hcs
      generalize oB p = ds at *
      go_wp2_with fail
      refine PU.out.mono ?_
      rintro e w2 ⟨u, rfl, hw⟩
      have O2 := Lib.hid (own_below HO.out hw.2)
      have SR := Lib.hid (Wi.own_lies hw.1).src
      have B2 := Lib.hid (HB.out.trans (hw.2.mono HB.out.size))
      obtain ⟨ua, uc, rfl⟩ := Wi.own_shape hw.1
      clear hw c0 c1 c2 c3 c4 c5 c6 c7 c8
      go_wp2_with (at_builtin; refine Wi.wpList_append_src_own rfl (.tmp 20) (.tmp 21) 36 36 rfl w.heap.size 5 i0 (.int .u8 0) 1 1 Tryd.underlying36 hi hz0 hz1 hz2 rfl (by decide) _ _ _ rfl O2.out _ _ _ rfl SR.out (by have := BK.out; have := PL.out; unfold maxLen; omega) (by have := BK.out; have := PL.out; omega) B2.out.size ?_; intro v4 w4 hown hgr hsp; have FIN := Lib.hid (show w4.ownsRow w.heap.size 5 1 v4 (cs ++ ds).length (Wi.u8s (cs ++ ds)) ∧ Below w.heap.size w w4 from ⟨by rw [Wi.u8s_append, List.length_append]; exact hown, B2.out.grown hgr B2.out.size (fun k hk => (O2.out.lt k hk).1)⟩); clear hown hgr hsp)
      go_roundw
      case rel => exact ⟨k + 1, by go_num, by omega, Lib.hid (by rw [SN.out, ← List.append_assoc, HCS.out]; exact FIN.out)⟩
      case measure => simp [intOf]; omega
    · have RO := Lib.hid (show wr.ownsRow w.heap.size 5 1 (.slice na (nb l.length ++ bodyB (l.take k)).length nc) (codeB l).length (Wi.u8s (codeB l)) ∧ Below w.heap.size w wr from by
        have h := hI.out
        rw [show l.take k = l from List.take_of_length_le (by omega), ← EB.out] at h ⊢
        exact h)
      clear hI
      go_wp2
      go_returns
      exact ⟨_, rfl, RO.out⟩

noncomputable def sameO (l m : List O) : Bool := @decide (l = m) (Classical.propDecidable _)
theorem sameO_self (l : List O) : sameO l l = true := by unfold sameO; simp
theorem sameO_ne {l m : List O} (h : l ≠ m) : sameO l m = false := by unfold sameO; simp [h]
theorem O.ext' {p q : O} (h1 : p.t = q.t) (h2 : p.r = q.r) (h3 : p.q = q.q) (h4 : p.nt = q.nt) (h5 : p.nr = q.nr) (h6 : p.pt = q.pt) (h7 : p.pr = q.pr) (h8 : p.nm = q.nm) (h9 : p.d = q.d) : p = q := by
  cases p; cases q; simp_all
theorem list_ext_get {l m : List O} (hl : l.length = m.length) (h : ∀ j : Nat, j < l.length → l[j]? = m[j]?) : l = m := by
  apply List.ext_getElem? 
  intro j
  by_cases hj : j < l.length
  · exact h j hj
  · rw [List.getElem?_eq_none (by omega), List.getElem?_eq_none (by omega)]
set_option maxRecDepth 100000 in
set_option maxHeartbeats 6400000 in
theorem rsameO_any (w : World) (v1 v2 : Value) (l m : List O) (h1 : OLies w v1 l) (h2 : OLies w v2 m) :
    Calls Tryd.prog 10 #[v1, v2] w fun e w' => e = .returned (.bool (sameO l m)) ∧ Below w.heap.size w w' := by
  have hl1 := h1.len
  have hl2 := h2.len
  have H1 := Lib.hid h1
  have H2 := Lib.hid h2
  obtain ⟨a1, c1, rfl⟩ := h1.shape
  obtain ⟨a2, c2, rfl⟩ := h2.shape
  clear h1 h2
  by_cases hne : l.length = m.length
  · have HN := Lib.hid hne
    have t0 : ((l.length : Int) != (m.length : Int)) = false := by simp [hne]
    go_enter Tryd.func10, Tryd.ntmps10
    clear hne
    go_wp2
    clear t0
    go_loopw [5] (fun kv wr => ∃ i : Nat, kv = .int .i64 i ∧ i ≤ l.length ∧ Hid (∀ j : Nat, j < i → l[j]? = m[j]?) ∧ ∃ n, wr = w.drewN n) (fun kv _ => l.length - (intOf kv).toNat)
    case atStart => exact ⟨0, rfl, Nat.zero_le _, Lib.hid (fun j h => absurd h (Nat.not_lt_zero _)), 0, rfl⟩
    case round =>
      obtain ⟨i, rfl, hi, hJ, n, rfl⟩ := hrel
      by_cases hlt : i < l.length
      · obtain ⟨k, o, p, rfl, hp, hg, d0, d1, d2, d3, d4, d5, d6, d7, d8⟩ := H1.out.at' hlt
        obtain ⟨k', o', p', rfl, hp', hg', e0, e1, e2, e3, e4, e5, e6, e7, e8⟩ := H2.out.at' (show i < m.length from by have := HN.out; omega)
        have hmlt : i < m.length := by have := HN.out; omega
        clear hg hg'
        by_cases hpp : p = p'
        · subst hpp
          have HJ2 := Lib.hid (show ∀ j : Nat, j < i + 1 → l[j]? = m[j]? from fun j hj => by
            by_cases e : j = i
            · subst e; rw [hp, hp']
            · exact hJ.out j (by omega))
          clear hp hp' hJ
          go_wp2
          go_quiet (fail)
          go_wp2
          go_roundw
          case rel => exact ⟨i + 1, by go_num, by omega, HJ2, _, rfl⟩
          case measure => simp [intOf]; omega
        · have HE := Lib.hid (show sameO l m = false from sameO_ne (fun e => hpp (by subst e; rw [hp] at hp'; injection hp')))
          clear hp hp' hJ
          have hd : (p.t == p'.t) = false ∨ ((p.t == p'.t) = true ∧ ((p.r == p'.r) = false ∨ ((p.r == p'.r) = true ∧ ((p.q == p'.q) = false ∨ ((p.q == p'.q) = true ∧ ((p.nt == p'.nt) = false ∨ ((p.nt == p'.nt) = true ∧ ((p.nr == p'.nr) = false ∨ ((p.nr == p'.nr) = true ∧ ((p.pt == p'.pt) = false ∨ ((p.pt == p'.pt) = true ∧ ((p.pr == p'.pr) = false ∨ ((p.pr == p'.pr) = true ∧ ((p.nm.toList == p'.nm.toList) = false ∨ ((p.nm.toList == p'.nm.toList) = true ∧ (p.d == p'.d) = false))))))))))))))) := by
            have key : ¬ (p.t = p'.t ∧ p.r = p'.r ∧ p.q = p'.q ∧ p.nt = p'.nt ∧ p.nr = p'.nr ∧ p.pt = p'.pt ∧ p.pr = p'.pr ∧ p.nm = p'.nm ∧ p.d = p'.d) := fun ⟨a1, a2, a3, a4, a5, a6, a7, a8, a9⟩ => hpp (O.ext' a1 a2 a3 a4 a5 a6 a7 a8 a9)
            by_cases x1 : p.t = p'.t
            · refine .inr ⟨beqb_ _ _ x1, ?_⟩
              by_cases x2 : p.r = p'.r
              · refine .inr ⟨beqb_ _ _ x2, ?_⟩
                by_cases x3 : p.q = p'.q
                · refine .inr ⟨beqb_ _ _ x3, ?_⟩
                  by_cases x4 : p.nt = p'.nt
                  · refine .inr ⟨beqb_ _ _ x4, ?_⟩
                    by_cases x5 : p.nr = p'.nr
                    · refine .inr ⟨beqb_ _ _ x5, ?_⟩
                      by_cases x6 : p.pt = p'.pt
                      · refine .inr ⟨beqb_ _ _ x6, ?_⟩
                        by_cases x7 : p.pr = p'.pr
                        · refine .inr ⟨beqb_ _ _ x7, ?_⟩
                          by_cases x8 : p.nm = p'.nm
                          · refine .inr ⟨tl_eq x8, ?_⟩
                            exact Bool.eq_false_iff.2 (fun e => key ⟨x1, x2, x3, x4, x5, x6, x7, x8, by simpa using e⟩)
                          · exact .inl (tl_ne x8)
                        · exact .inl (bneb_ _ _ x7)
                      · exact .inl (bneb_ _ _ x6)
                    · exact .inl (bneb_ _ _ x5)
                  · exact .inl (bneb_ _ _ x4)
                · exact .inl (bneb_ _ _ x3)
              · exact .inl (bneb_ _ _ x2)
            · exact .inl (bneb_ _ _ x1)
          clear hpp
          rcases hd with x0 | ⟨x0, x1 | ⟨x1, x2 | ⟨x2, x3 | ⟨x3, x4 | ⟨x4, x5 | ⟨x5, x6 | ⟨x6, x7 | ⟨x7, x8⟩⟩⟩⟩⟩⟩⟩⟩
          all_goals
            go_wp2
            go_quiet (fail)
            go_wp2
            go_returns
            exact ⟨ret_b' HE.out, by first | exact Wi.below_drewN _ _ | exact (Wi.below_drewN w n).trans ((Wi.below_drewN _ _).mono (Wi.below_drewN w n).size)⟩
      · have HE := Lib.hid (show sameO l m = true from by
          have : l = m := list_ext_get HN.out (fun j hj => hJ.out j (by omega))
          rw [this]; exact sameO_self m)
        clear hJ
        go_wp2
        go_returns
        exact ⟨ret_b' HE.out, by first | exact Wi.below_drewN _ _ | exact (Wi.below_drewN w n).trans ((Wi.below_drewN _ _).mono (Wi.below_drewN w n).size)⟩
  · have HE := Lib.hid (show sameO l m = false from sameO_ne (fun e => hne (by rw [e])))
    have t0 : ((l.length : Int) != (m.length : Int)) = true := by simp; omega
    clear hne
    go_enter Tryd.func10, Tryd.ntmps10
    go_wp2
    go_returns
    exact ⟨ret_b' HE.out, Below.refl _ _⟩
end Go.Proofs.YtifeakmbeaflgaaDoor
