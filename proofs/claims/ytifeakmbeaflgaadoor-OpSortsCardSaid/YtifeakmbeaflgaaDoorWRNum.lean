/- Reader.Num reads the number that stands first. -/
import Derived.Test.YtifeakmbeaflgaaDoorWRBase
set_option linter.unusedVariables false
namespace Go.Proofs.YtifeakmbeaflgaaDoor.Wi
open Go.RowKit

theorem rd_step (i : Nat) (acc : Int) (bs : List Int) (c : Int) (h : bs[i]? = some c) : bs.drop i = c :: bs.drop (i + 1) := by
  obtain ⟨hl, he⟩ := List.getElem?_eq_some_iff.1 h
  rw [List.drop_eq_getElem_cons hl, he]

/-- Behind k bytes more: the reader's slice begins later. -/
theorem RdI.adv {w : World} {B M r : Nat} {s : St} (h : RdI w B M r s) {gg off cap : Nat} (hb : w.heap[r]? = some (.cells #[.slice (some ⟨gg, off, none⟩) s.bs.length cap, .int .i64 s.bad] 77 (0, 0)))
    (hf : Feed w M r (.slice (some ⟨gg, off, none⟩) s.bs.length cap) s.bs) (k : Nat) (hk : k ≤ s.bs.length) (ao : Option Addr) (n' cc : Nat) (hn : n' = s.bs.length - k) (hc : cc = cap - k) (ha : k < cap → ao = some ⟨gg, off + k, none⟩) :
    RdOut w (w.setCell ⟨r, 0, none⟩ (.slice ao n' cc)) B M r ⟨s.bs.drop k, s.bad⟩ := by
  subst hn
  subst hc
  obtain ⟨ao', cap', hv, hcap, hmax, hcells⟩ := hf
  injection hv with hv1 hv2 hv3
  subst hv3
  refine ⟨⟨h.ge, ⟨_, row_setC hb, ao, cap - k, by rw [List.length_drop], by rw [List.length_drop]; omega, by omega, fun hne => ?_⟩, h.byt.drop k, by rw [List.length_drop]; have := h.len; omega, by have := h.top; simpa [World.setCell] using this⟩, Kr.set 0 _⟩
  have hlt : k < s.bs.length := by
    rcases Nat.lt_or_ge k s.bs.length with h' | h'
    · exact h'
    · exact absurd (List.drop_eq_nil_of_le h') hne
  obtain ⟨g2, off2, hg2, hgr, hcl⟩ := hcells (by intro e; rw [e] at hlt; simp at hlt)
  rw [← hv1] at hg2
  simp only [Option.some.injEq, Addr.mk.injEq, and_true] at hg2
  obtain ⟨rfl, rfl⟩ := hg2
  refine ⟨gg, off + k, ha (by omega), hgr, fun j x hj => ?_⟩
  rw [List.getElem?_drop] at hj
  have := hcl (k + j) x hj
  rw [World.cell?_setCell_other]
  · rw [Nat.add_assoc]; exact this
  · intro e; injection e with e1 e2; exact hgr.1 e1.symm

theorem two_seven (i : Nat) : (2 : Int) ^ (7 * i) = 128 ^ i := by rw [Int.pow_mul]; rfl
theorem wrap_rd (i : Nat) (acc c : Int) (hi : i < 9) (hc0 : 0 ≤ c) (h0 : 0 ≤ acc) (h1 : acc < 128 ^ i) : wrap64 (acc + wrap64 (c % 128 * 2 ^ (7 * i))) = acc + c % 128 * 128 ^ i := by
  rw [two_seven]
  have hp := pow_bound i hi
  have hm : 0 ≤ c % 128 * 128 ^ i := Int.mul_nonneg (by omega) (by omega)
  have hm2 : c % 128 * 128 ^ i ≤ 127 * 128 ^ i := Int.mul_le_mul_of_nonneg_right (by omega) (by omega)
  generalize (128 : Int) ^ i = p at *
  generalize c % 128 * p = m at *
  rw [IntWalk.wrap64_in m (by omega), IntWalk.wrap64_in _ (by omega)]

theorem AB (i : Nat) (acc c A : Int) (hi : i < 9) (hc0 : 0 ≤ c) (hc1 : c < 256) (h0 : 0 ≤ acc) (h1 : acc < 128 ^ i) (hA : acc + c % 128 * 128 ^ i = A) : 0 ≤ A ∧ Hid (A < 128 ^ (i + 1)) := by
  have hp := pow_bound i hi
  have hs : (128 : Int) ^ (i + 1) = 128 * 128 ^ i := by rw [Int.pow_succ]; omega
  have hm : 0 ≤ c % 128 * 128 ^ i := Int.mul_nonneg (by omega) (by omega)
  have hm2 : c % 128 * 128 ^ i ≤ 127 * 128 ^ i := Int.mul_le_mul_of_nonneg_right (by omega) (by omega)
  refine ⟨by omega, ?_⟩
  show A < _
  omega

set_option maxRecDepth 100000 in
set_option maxHeartbeats 1000000 in
theorem num_any (w : World) (B M r : Nat) (s : St) (h : RdI w B M r s) (hB : B ≤ w.heap.size) :
    Calls Tryd.prog 58 #[.pointer (some ⟨r, 0, none⟩)] w fun e w' => e = .returned (.int .i64 s.num.1) ∧ RdOut w w' B M r s.num.2 := by
  obtain ⟨ao, cap, hb, hf⟩ := h.open
  obtain ⟨c0, c1, f0, f1⟩ := two_cells hb
  have HB := Lib.hid hb
  have HF := Lib.hid hf
  have C := Lib.hid (fun w (h : RdI w B M r s) => bad_any w B M r s h)
  have H := Lib.hid h
  clear hf hb h
  by_cases g : s.bad ≠ 0
  · have t1 := neb_ s.bad 0 g
    have E : s.num = (0, s) := by unfold St.num; rw [if_pos g]
    have EH := Lib.hid E
    clear E g
    go_enter Tryd.func58, Tryd.ntmps58
    go_wp2_with fail
    refine (C.out _ H.out).mono ?_
    rintro e' w' ⟨rfl, rfl⟩
    go_wp2
    go_returns
    exact ⟨by rw [EH.out]; rfl, by rw [EH.out]; exact ⟨H.out, Kr.refl _ _⟩⟩
  · have g' : s.bad = 0 := by omega
    have t1 := eqb_ s.bad 0 g'
    have hl := H.out.len
    have G := Lib.hid g'
    clear g g'
    go_enter Tryd.func58, Tryd.ntmps58
    go_wp2_with fail
    refine (C.out _ H.out).mono ?_
    rintro e' w' ⟨rfl, rfl⟩
    go_wp2
    go_loop [3, 15] (fun nv kv => ∃ (i : Nat) (acc : Int), kv = .int .i64 i ∧ nv = .int .i64 acc ∧ i < 9 ∧ i ≤ s.bs.length ∧ 0 ≤ acc ∧ Hid (acc < 128 ^ i) ∧ Hid (rd 0 0 s.bs = rd i acc (s.bs.drop i))) (fun _ kv => s.bs.length - (intOf kv).toNat)
    case atStart => exact ⟨0, 0, rfl, rfl, by omega, by omega, by omega, by show (0 : Int) < 128 ^ 0; decide, rfl⟩
    case round =>
      obtain ⟨i, acc, rfl, rfl, hi, hil, ha0, ha1, hrd⟩ := hrel
      by_cases hlt : i < s.bs.length
      · obtain ⟨c, hc⟩ : ∃ c, s.bs[i]? = some c := ⟨_, List.getElem?_eq_getElem hlt⟩
        have hcb := H.out.byt c (List.mem_of_getElem? hc)
        have hstep := rd_step i acc s.bs c hc
        obtain ⟨ao', cap', hv, hcap, hmax, hcells⟩ := HF.out
        injection hv with hv1 hv2 hv3
        subst hv1; subst hv3
        obtain ⟨gg, off, rfl, hgr, hcl⟩ := hcells (by intro e; rw [e] at hlt; simp at hlt)
        have hcell := hcl i c hc
        have RS := Lib.hid hstep
        clear hcl hstep hc hgr
        unfold maxLen at hmax
        clear hcells
        have hw := wrap_rd i acc c hi hcb.1 ha0 ha1.out
        obtain ⟨A, hA⟩ : ∃ A, acc + c % 128 * 128 ^ i = A := ⟨_, rfl⟩
        rw [hA] at hw
        have HA := Lib.hid hA
        clear hA
        by_cases hform : (c = 0 ∧ 0 < i) ∨ (128 ≤ c ∧ i + 1 = 9)
        · have hr : rd i acc (s.bs.drop i) = (4, 0, 0) := by rw [RS.out]; unfold rd; rw [if_pos hform]
          have E : s.num = (0, ⟨[], 4⟩) := by unfold St.num; rw [if_neg (by have := G.out; omega), hrd.out, hr]; rfl
          have EF : s.fail 4 = ⟨[], 4⟩ := by unfold St.fail; rw [if_neg (by have := G.out; omega)]
          have EH := Lib.hid E
          have EFH := Lib.hid EF
          have FC := Lib.hid (fun w (h : RdI w B M r s) => fail_any w B M r s 4 h)
          clear E EF hr
          rcases hform with ⟨rfl, hi0⟩ | ⟨h128, hi9⟩
          · go_wp2_with fail
            refine (FC.out _ H.out).mono ?_
            rintro e' w' ⟨rfl, ho⟩
            have HO := Lib.hid ho
            clear ho
            go_wp2
            go_returns
            exact ⟨by rw [EH.out]; rfl, by rw [EH.out, ← EFH.out]; exact HO.out⟩
          · obtain rfl : i = 8 := by omega
            have tz := bneb_ c 0 (by omega)
            go_wp2_with fail
            refine (FC.out _ H.out).mono ?_
            rintro e' w' ⟨rfl, ho⟩
            have HO := Lib.hid ho
            clear ho
            go_wp2
            go_returns
            exact ⟨by rw [EH.out]; rfl, by rw [EH.out, ← EFH.out]; exact HO.out⟩
        · by_cases hc1 : c < 128
          · have hr : rd i acc (s.bs.drop i) = (0, i + 1, A) := by rw [RS.out]; unfold rd; rw [if_neg hform, if_pos hc1, HA.out]
            have E : s.num = (A, ⟨s.bs.drop (i + 1), 0⟩) := by unfold St.num; rw [if_neg (by have := G.out; omega), hrd.out, hr]; rfl
            have EH := Lib.hid E
            clear E hr
            by_cases hz : c = 0
            · obtain rfl : i = 0 := by omega
              subst hz
              have e0 : acc = 0 := by
                have h1 : acc < (128 : Int) ^ 0 := ha1.out
                have h2 : (128 : Int) ^ 0 = 1 := rfl
                omega
              subst e0
              have eA : A = 0 := HA.out.symm
              subst eA
              clear hw hform
              simp only [Nat.add_zero] at hcell
              go_wp2
              all_goals
                go_returns
                refine ⟨by rw [EH.out]; try rfl, ?_⟩
                rw [EH.out, ← G.out]
                exact H.out.adv HB.out HF.out _ hlt _ _ _ (by omega) (by omega) (by first | (intro _; rfl) | (intro _; omega))
            · have tz := bneb_ c 0 hz
              clear hform
              go_wp2
              all_goals
                go_returns
                refine ⟨by rw [EH.out]; try rfl, ?_⟩
                rw [EH.out, ← G.out]
                exact H.out.adv HB.out HF.out _ hlt _ _ _ (by omega) (by omega) (by first | (intro _; rfl) | (intro _; omega))
          · have tz := bneb_ c 0 (by omega)
            have hi9 : i + 1 < 9 := by omega
            have hr : rd i acc (s.bs.drop i) = rd (i + 1) A (s.bs.drop (i + 1)) := by
              rw [RS.out]
              show (if _ then _ else _) = _
              rw [if_neg hform, if_neg hc1, HA.out]
            have RH := Lib.hid (hrd.out.trans hr)
            clear hform hr
            go_wp2
            go_round
            case rel => exact ⟨i + 1, A, by go_num, rfl, hi9, by omega, (AB i acc c A hi hcb.1 hcb.2 ha0 ha1.out HA.out).1, (AB i acc c A hi hcb.1 hcb.2 ha0 ha1.out HA.out).2, RH.out⟩
            case measure => simp [intOf]; omega
      · obtain rfl : i = s.bs.length := by omega
        have hr : rd s.bs.length acc (s.bs.drop s.bs.length) = (3, 0, 0) := by rw [List.drop_length]; rfl
        have E : s.num = (0, ⟨[], 3⟩) := by unfold St.num; rw [if_neg (by have := G.out; omega), hrd.out, hr]; rfl
        have EF : s.fail 3 = ⟨[], 3⟩ := by unfold St.fail; rw [if_neg (by have := G.out; omega)]
        have EH := Lib.hid E
        have EFH := Lib.hid EF
        have FC := Lib.hid (fun w (h : RdI w B M r s) => fail_any w B M r s 3 h)
        clear E EF hr
        go_wp2_with fail
        refine (FC.out _ H.out).mono ?_
        rintro e' w' ⟨rfl, ho⟩
        have HO := Lib.hid ho
        clear ho
        go_wp2
        go_returns
        exact ⟨by rw [EH.out]; rfl, by rw [EH.out, ← EFH.out]; exact HO.out⟩
end Go.Proofs.YtifeakmbeaflgaaDoor.Wi
