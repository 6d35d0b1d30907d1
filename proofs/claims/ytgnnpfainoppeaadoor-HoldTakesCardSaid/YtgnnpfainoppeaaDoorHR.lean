/- hold.Take. -/
import Derived.Test.YtgnnpfainoppeaaDoorHQ
set_option linter.unusedVariables false
set_option linter.unusedSimpArgs false
set_option maxRecDepth 100000
namespace Go.Proofs.YtgnnpfainoppeaaDoor
open Go.RowKit
open Ve (Rg LiesR)

theorem OLies.pre {w : World} {ao : Option Addr} {cap n : Nat} {l : List O} (h : OLies w (.slice ao n cap) l) (k : Nat) (hk : k ≤ n) : OLies w (.slice ao k cap) (l.take k) := by
  obtain ⟨ao', cap', e, hn, hm, h0, hcs⟩ := h
  injection e with e1 e2 e3
  subst e1 e2 e3
  have hlen : (l.take k).length = k := by rw [List.length_take]; omega
  refine ⟨ao, cap, by rw [hlen], by omega, hm, fun e => ?_, fun b hb hne => ?_⟩
  · obtain ⟨h1, h2⟩ := h0 e
    exact ⟨by rw [h1]; simp, h2⟩
  · obtain ⟨g, o, e, hg, hc⟩ := hcs b hb (by rintro rfl; simp at hne)
    refine ⟨g, o, e, hg, fun j p hj i u hu => ?_⟩
    rw [List.getElem?_take] at hj
    by_cases hlt : j < k
    · rw [if_pos hlt] at hj; exact hc j p hj i u hu
    · rw [if_neg hlt] at hj; cases hj
theorem slice_pre (ra : Option Addr) (n rc k : Nat) (hk : k ≤ rc) : ∀ W, (Instr.sliceAt 34 (.slice ra n rc) none (some (.int .i64 (k : Int))) none).run Tryd.prog W = .ok (.slice ra k rc) W := fun W => by
  have h0 : (0 : Int) ≤ (k : Int) := by omega
  have h1 : (k : Int) ≤ (rc : Int) := by omega
  go_simp
/-- The ops of ranges. -/
def partsO (L : Nat → List O) (rs : List Rg) : List O := rs.flatMap fun r => partF L r.1 r.2.1 r.2.2
theorem parts_snoc (L : Nat → List O) (rs : List Rg) (r : Rg) : partsO L (rs ++ [r]) = partsO L rs ++ partF L r.1 r.2.1 r.2.2 := by unfold partsO; rw [List.flatMap_append]; simp
theorem parts_pre (L : Nat → List O) (rs : List Rg) (i : Nat) : ∃ t, partsO L rs = partsO L (rs.take i) ++ t := by
  refine ⟨partsO L (rs.drop i), ?_⟩
  conv => lhs; rw [← List.take_append_drop i rs]
  unfold partsO
  rw [List.flatMap_append]
theorem part_len {bs : List Int} {L : Nat → List O} {m : Nat} (g : Gd bs L m) (r f t : Int) : (partF L r f t).length ≤ m := by
  by_cases hr : 0 ≤ r ∧ r < 64
  · obtain ⟨i, rfl⟩ : ∃ i : Nat, r = (i : Int) := ⟨r.toNat, by omega⟩
    unfold partF inR
    rw [flat_filter L g.rep i (by omega)]
    exact Nat.le_trans (List.length_filter_le _ _) (g.cnt i (by omega))
  · rw [part_none g r f t hr]; exact Nat.zero_le _
def takeF (L : Nat → List O) (rs : List Rg) (most : Int) : List O := (partsO L rs).take most.toNat
set_option maxHeartbeats 6400000 in
theorem take_any (w : World) (B b : Nat) (s : HS) (m : Nat) (h : HK w B b s) (g : Gd s.bs s.L m) (hm : m ≤ 1000) (v : Value) (rs : List Rg) (hv : LiesR w v rs) (most : Int) (hmost : most ≤ 9223372036854775807) :
    Calls Tryd.prog 20 #[pv b, v, .int .i64 most] w fun e w' => ∃ r, e = .returned r ∧ RowO w w' r (takeF s.L rs most) := by
  obtain ⟨i0, hi0, hz0, hz1, hz2⟩ := Ve.info_parts info25
  have H0 := Lib.hid h
  have G := Lib.hid g
  have HV := Lib.hid hv
  have PT := Lib.hid (fun W h r f t => part_any W B b s m h g hm r f t)
  have PL := Lib.hid (part_len g)
  obtain ⟨va, vc, rfl, hrl, _, _⟩ := hv
  obtain ⟨M, hM⟩ : ∃ M : Nat, max most 0 = (M : Int) := ⟨(max most 0).toNat, by omega⟩
  have HM := Lib.hid (show most.toNat = M by omega)
  have hM2 : M ≤ 9223372036854775807 := by omega
  clear h g
  go_enter Tryd.func20, Tryd.ntmps20
  go_wp2
  go_loopw [7, 14] (fun bv iv wr => ∃ (i : Nat) (cs : List O), iv = .int .i64 i ∧ i ≤ rs.length ∧ bv = bv ∧ cs.length ≤ i * 1000 ∧ Hid (cs.length ≤ M) ∧ Hid (cs = partsO s.L (rs.take i) ∧ RowO w wr bv cs)) (fun _ iv _ => rs.length - (intOf iv).toNat)
  case atStart => exact ⟨0, [], rfl, Nat.zero_le _, rfl, Nat.zero_le _, Lib.hid (Nat.zero_le _), Lib.hid ⟨rfl, World.ownsRow_nil _ _ _ _, Below.refl _ _⟩⟩
  case round =>
    obtain ⟨i, cs, rfl, hi, _, hcl, HCM, hI⟩ := hrel
    obtain ⟨ba, bc, rfl⟩ := Ve.own_shape hI.out.2.1
    by_cases hlt : i < rs.length
    · obtain ⟨p, hp⟩ : ∃ p, rs[i]? = some p := ⟨_, List.getElem?_eq_getElem hlt⟩
      have htk := Ve.take_snoc' rs i p hp
      obtain ⟨k, off, rfl, d0, d1, d2⟩ := HV.out.at hI.out.2.2 hp
      have hpl := PL.out p.1 p.2.1 p.2.2
      have HN := Lib.hid (show cs ++ partF s.L p.1 p.2.1 p.2.2 = partsO s.L (rs.take (i + 1)) by rw [htk, parts_snoc, ← hI.out.1])
      obtain ⟨p1, p2, p3⟩ := p
      dsimp only at d0 d1 d2 hpl HN
      have BW := Lib.hid (vstep wr (.cells #[.int .i64 p1, .int .i64 p2, .int .i64 p3] 70))
      have X1 := Lib.hid (hI.out.2.2.trans (BW.out.mono hI.out.2.2.size))
      have P := Lib.hid (PT.out _ (H0.out.step X1.out) p1 p2 p3)
      obtain ⟨l, hl⟩ : ∃ l, partF s.L p1 p2 p3 = l := ⟨_, rfl⟩
      rw [hl] at P HN hpl
      have RW := Lib.hid (show (wr.alloc (.cells #[.int .i64 p1, .int .i64 p2, .int .i64 p3] 70)).ownsRow w.heap.size 40 9 (.slice ba cs.length bc) cs.length (cs9 cs) from (Far.of_below (P := fun _ => False) BW.out).row hI.out.2.1 (fun _ _ q => q))
      have HI := Lib.hid hI.out.1
      have hi1000 : i ≤ 1000 := by omega
      clear hp htk hl hI
      go_wp2_with fail
      refine P.out.mono ?_
      rintro e w1 ⟨pv1, rfl, hpv, hb⟩
      have X2 := Lib.hid (X1.out.trans (hb.mono X1.out.size))
      have R2 := Lib.hid ((Far.of_below (P := fun _ => False) hb).row RW.out (fun _ _ q => q))
      have PV := Lib.hid hpv
      obtain ⟨pa, pc, rfl⟩ := hpv.shape
      have hpc : l.length ≤ pc := by obtain ⟨_, _, e, h1, _⟩ := PV.out; injection e with _ _ e; subst e; exact h1
      obtain ⟨k1, hk1⟩ : ∃ k1 : Nat, M - cs.length = k1 := ⟨_, rfl⟩
      have hw1 : wrap64 ((M : Int) - (cs.length : Int)) = (k1 : Int) := by have := HCM.out; unfold wrap64; omega
      have hw2 : (M : Int) - (cs.length : Int) = (k1 : Int) := by have := HCM.out; omega
      have KC := Lib.hid (show k1 + cs.length = M from by have := HCM.out; omega)
      clear hb hpv RW BW P d0 d1 d2
      by_cases hge : k1 ≤ l.length
      · have SL := slice_pre pa l.length pc k1 (by omega)
        have SRC := Lib.hid (PV.out.pre k1 hge).src
        have hlen : (l.take k1).length = k1 := by rw [List.length_take]; omega
        rw [hlen] at SRC
        have hge' : (k1 : Int) ≤ (l.length : Int) := by omega
        have FIN := Lib.hid (show cs ++ l.take k1 = takeF s.L rs most by
          unfold takeF
          obtain ⟨t, ht⟩ := parts_pre s.L rs (i + 1)
          rw [HM.out, ht, ← HN.out, List.append_assoc, List.take_append, List.take_append, List.take_of_length_le HCM.out, hk1, show k1 - l.length = 0 by omega, List.take_zero, List.append_nil])
        generalize l.length = n at *
        have hlen2 : (cs ++ l.take k1).length = cs.length + k1 := by rw [List.length_append, hlen]
        clear hge hk1 hlen KC
        go_wp2_with (at_builtin; refine Wi.wpList_append_src_own rfl (.tmp 30) (.tmp 33) 34 34 rfl w.heap.size 40 i0 (oV O0) 9 80 Tryd.u27 hi0 hz0 hz1 hz2 rfl (by decide) _ _ _ rfl R2.out _ k1 (cs9 (l.take k1)) rfl SRC.out (by unfold maxLen; omega) (by omega) (X2.out.size) ?_; intro v3 w3 hown hgr hspr; have K := Lib.hid (And.intro hown (X2.out.grown hgr X2.out.size (fun k hk => (R2.out.lt k hk).1))))
        go_returns
        refine ⟨_, rfl, ?_⟩
        rw [← FIN.out]
        exact ⟨by rw [cs9_append, hlen2]; exact K.out.1, K.out.2⟩
      · have SRC := Lib.hid PV.out.src
        have hge' : ¬ ((k1 : Int) ≤ (l.length : Int)) := by omega
        have hlen2 : (cs ++ l).length = cs.length + l.length := List.length_append
        have hcl2 : (cs ++ l).length ≤ (i + 1) * 1000 := by rw [hlen2]; omega
        have hcM2 := Lib.hid (show (cs ++ l).length ≤ M by rw [hlen2]; have := KC.out; omega)
        obtain ⟨n, hn⟩ : ∃ n, l.length = n := ⟨_, rfl⟩
        rw [hn] at hpc hge hge' SRC hlen2 hpl
        rw [hn]
        clear hge hk1 hn KC
        go_wp2_with (at_builtin; refine Wi.wpList_append_src_own rfl (.tmp 35) (.tmp 36) 34 34 rfl w.heap.size 40 i0 (oV O0) 9 80 Tryd.u27 hi0 hz0 hz1 hz2 rfl (by decide) _ _ _ rfl R2.out _ n (cs9 l) rfl SRC.out (by unfold maxLen; omega) (by omega) (X2.out.size) ?_; intro v3 w3 hown hgr hspr; have K := Lib.hid (And.intro hown (X2.out.grown hgr X2.out.size (fun k hk => (R2.out.lt k hk).1))))
        go_roundw
        case rel => exact ⟨i + 1, cs ++ l, by go_num, by omega, trivial, hcl2, hcM2, Lib.hid ⟨HN.out, by rw [cs9_append, hlen2]; exact K.out.1, K.out.2⟩⟩
        case measure => simp [intOf]; omega
    · have FIN := Lib.hid (show cs = takeF s.L rs most by
        unfold takeF
        rw [HM.out, ← List.take_of_length_le (Nat.le_of_not_lt hlt), ← hI.out.1, List.take_of_length_le HCM.out])
      go_wp2
      go_returns
      exact ⟨_, rfl, by rw [← FIN.out]; exact hI.out.2⟩
end Go.Proofs.YtgnnpfainoppeaaDoor
