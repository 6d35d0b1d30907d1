/- path.onward; path.Match. Made by genpe.py. -/
import Derived.Test.YtgiiddcjepjgcaaDoorPD
import Derived.Test.YtgiiddcjepjgcaaDoorShelf
set_option linter.unusedVariables false
namespace Go.Proofs.YtgiiddcjepjgcaaDoor
open Go.RowKit

def onB (f : Nat → Bool) : Nat → Bool
  | 0 => f 0
  | a + 1 => f (a + 1) || onB f a
def mixB (f : Nat → Bool) (k : Nat) : Nat → Bool := fun i => if i ≤ k then onB f i else f i
theorem mix_zero (f : Nat → Bool) (m : Nat) : rowB m (mixB f 0) = rowB m f := rowB_congr fun i _ => by
  unfold mixB
  cases i with
  | zero => rfl
  | succ i => rw [if_neg (by omega)]
theorem mix_step (f : Nat → Bool) (k m : Nat) (b : Bool) (hb : (f (k + 1) || onB f k) = b) : rowB m (updB (mixB f k) (k + 1) b) = rowB m (mixB f (k + 1)) := rowB_congr fun i _ => by
  unfold updB mixB
  by_cases e : i = k + 1
  · subst e
    rw [if_pos rfl, if_pos (Nat.le_refl _), ← hb]
    rfl
  · rw [if_neg e]
    by_cases h : i ≤ k
    · rw [if_pos h, if_pos (by omega)]
    · rw [if_neg h, if_neg (by omega)]
theorem mix_all (f : Nat → Bool) (k m : Nat) (h : m ≤ k + 1) : rowB m (mixB f k) = rowB m (onB f) := rowB_congr fun i hi => by
  unfold mixB
  rw [if_pos (by omega)]
set_option maxRecDepth 100000 in
set_option maxHeartbeats 3200000 in
theorem onward_any (w : World) (B q : Nat) (hq : q ≤ 9000) (ev : Value) (f : Nat → Bool) (h : w.ownsRow B 4 1 ev (q + 1) (rowB (q + 1) f)) :
    Calls Tryd.prog 25 #[ev] w fun e w' => ∃ r, e = .returned r ∧ w'.ownsRow w.heap.size 4 1 r (q + 1) (rowB (q + 1) (onB f)) ∧ Below w.heap.size w w' := by
  obtain ⟨i0, hi, hz0, hz1, hz2⟩ := info_parts info4
  obtain ⟨m, hm⟩ : ∃ m, q + 1 = m := ⟨_, rfl⟩
  rw [hm] at h ⊢
  obtain ⟨ge, ce, rfl, hBe, hge, hce⟩ := own_bool h (by omega)
  have CL := Lib.hid (Tryd.slices_Clone_f34 i0 (.bool false) 1 1 hi hz0 hz1 hz2 rfl (by decide) (fun w => by kernel_rfl) ge 0 m ce (rowB m f) w (by rw [rowB_len, Nat.mul_one]) (by unfold maxLen; omega) (by omega) (fun j u hj => by
    have hjm : j < m := by
      have := (List.getElem?_eq_some_iff.1 hj).1
      rwa [rowB_len] at this
    rw [rowB_get m f j hjm] at hj
    injection hj with hj
    rw [Nat.zero_add, ← hj]
    exact (hce j hjm).1) (fun u hu => by
    obtain ⟨i, _, rfl⟩ := List.mem_map.1 hu
    rfl))
  have HM := Lib.hid hm
  have e1 : (m : Int) - 1 = (q : Int) := by omega
  have e2 : IntKind.i64.wrap ((m : Int) - 1) = (q : Int) := by rw [IntKind.wrap_i64]; omega
  have e3 : wrap64 ((m : Int) - 1) = (q : Int) := by unfold wrap64; omega
  clear hm hce h hBe hge
  go_enter Tryd.func25, Tryd.ntmps25
  go_wp2_with fail
  refine CL.out.mono ?_
  rintro e w1 ⟨v', rfl, ho, _, hb⟩
  obtain ⟨gv, cv, hv, _, _, _⟩ := own_bool ho (by have := HM.out; omega)
  rw [hv] at ho ⊢
  have O1 := Lib.hid (show w1.ownsRow w.heap.size 4 1 (.slice (some ⟨gv, 0, none⟩) m cv) m (rowB m (mixB f 0)) from by rw [mix_zero]; exact ho)
  have B1 := Lib.hid hb
  clear ho hb hv CL
  go_wp2_with fail
  go_loopw [10] (fun kv wr => ∃ k : Nat, kv = .int .i64 k ∧ k ≤ q ∧ Hid (wr.ownsRow w.heap.size 4 1 (.slice (some ⟨gv, 0, none⟩) m cv) m (rowB m (mixB f k)) ∧ Below w.heap.size w wr)) (fun kv _ => q - (intOf kv).toNat)
  case atStart => exact ⟨0, rfl, Nat.zero_le _, Lib.hid ⟨O1.out, B1.out⟩⟩
  case round =>
    obtain ⟨k, rfl, hk, hI⟩ := hrel
    clear e1 e2 e3
    by_cases hlt : k < q
    · have hmk2 : k + 1 < m := by have := HM.out; omega
      obtain ⟨g2, c2, hv, hB2, hg2, hc2⟩ := own_bool hI.out.1 (by omega)
      injection hv with hv1 _ hv3
      injection hv1 with hv1
      injection hv1 with hv1
      subst hv1 hv3
      obtain ⟨c0, f0, st⟩ := hc2 (k + 1) hmk2
      obtain ⟨ck, _, _⟩ := hc2 k (by omega)
      have q1 : mixB f k (k + 1) = f (k + 1) := by unfold mixB; rw [if_neg (by omega)]
      have q2 : mixB f k k = onB f k := by unfold mixB; rw [if_pos (Nat.le_refl _)]
      rw [q1] at c0
      rw [q2] at ck
      have h0 : (0 : Int) ≤ (k : Int) := by omega
      have h1 : (k : Int) < (m : Int) := by omega
      have h2 : (k : Int) + 1 < (m : Int) := by omega
      have BEL := Lib.hid hI.out.2
      have ST := Lib.hid st
      have HB2 := Lib.hid hB2
      have FINB := Lib.hid (fun (b : Bool) (hb : (f (k + 1) || onB f k) = b) => show (wr.setCell ⟨gv, k + 1, none⟩ (.bool b)).ownsRow w.heap.size 4 1 (.slice (some ⟨gv, 0, none⟩) m cv) m (rowB m (mixB f (k + 1))) ∧ Below w.heap.size w (wr.setCell ⟨gv, k + 1, none⟩ (.bool b)) from
        ⟨by rw [← mix_step f k m b hb]; exact ST.out b, BEL.out.setCell (p := ⟨gv, k + 1, none⟩) HB2.out _⟩)
      clear hc2 st hI hg2 q1 q2 hB2
      cases hf : f (k + 1) with
      | true =>
        rw [hf] at c0
        have FIN := Lib.hid (FINB.out true (by rw [hf]; rfl))
        clear hf ck
        go_wp2
        go_roundw
        case rel => exact ⟨k + 1, by go_num, by omega, FIN⟩
        case measure => simp [intOf]; omega
      | false =>
        rw [hf] at c0
        obtain ⟨b, hb⟩ : ∃ b, onB f k = b := ⟨_, rfl⟩
        rw [hb] at ck
        have FIN := Lib.hid (FINB.out b (by rw [hf, hb]; rfl))
        clear hf hb
        go_wp2
        go_roundw
        case rel => exact ⟨k + 1, by go_num, by omega, FIN⟩
        case measure => simp [intOf]; omega
    · have FIN := Lib.hid (show wr.ownsRow w.heap.size 4 1 (.slice (some ⟨gv, 0, none⟩) m cv) m (rowB m (onB f)) from by
        have := hI.out.1
        rwa [mix_all _ _ _ (by have := HM.out; omega)] at this)
      have BEL := Lib.hid hI.out.2
      clear hI
      go_wp2
      go_returns
      exact ⟨_, rfl, FIN.out, BEL.out⟩
def mnB (q : ByteArray) : Bool := q.toList == [42, 42]
def mnAt (p : List ByteArray) (i : Nat) : Bool := match p[i]? with | some q => mnB q | none => false
theorem mnAt_at {p : List ByteArray} {i : Nat} {q : ByteArray} (h : p[i]? = some q) : mnAt p i = mnB q := by unfold mnAt; rw [h]
def mf (L : Nat → Nat → Bool) (mn : Nat → Bool) : Nat → (Nat → Bool)
  | 0 => fun a => a == 0
  | i + 1 => if mn i then onB (mf L mn i) else stepB (mf L mn i) (fun a => L a i)
set_option maxRecDepth 100000 in
set_option maxHeartbeats 6400000 in
theorem match_any (w : World) (v t : Value) (l p : List ByteArray) (h : SLies w v l) (hp : SLies w t p) (hl : l.length ≤ 9000) (hpl : p.length ≤ 9000) (L : Nat → Nat → Bool)
    (hlike : ∀ (W : World), Below w.heap.size w W → ∀ (a i : Nat) s q, l[a]? = some s → p[i]? = some q → mnB q = false → Calls Tryd.prog 26 #[.string s, .string q] W fun e w' => e = .returned (.bool (L a i)) ∧ Below W.heap.size W w') :
    Calls Tryd.prog 16 #[v, t] w fun e w' => e = .returned (.bool (mf L (mnAt p) p.length l.length)) ∧ Below w.heap.size w w' := by
  obtain ⟨m, hm⟩ : ∃ m, l.length + 1 = m := ⟨_, rfl⟩
  have ST := Lib.hid (start_any w l.length (by omega))
  rw [hm] at ST
  have HM := Lib.hid hm
  have H := Lib.hid h
  have HP := Lib.hid hp
  have HL := Lib.hid hlike
  obtain ⟨ao, cap, rfl, -⟩ := h
  obtain ⟨pa, pc, rfl, -⟩ := hp
  have hmk := fun W => run_make_row' (P := Tryd.prog) 40 4 (.bool false) 1 Tryd.underlying40 info4 rfl .i64 .i64 m (by omega) (by omega) W
  have HMK := Lib.hid hmk
  clear hm hlike hmk
  go_enter Tryd.func16, Tryd.ntmps16
  go_wp2_with fail
  refine ST.out.mono ?_
  rintro e w1 ⟨r, rfl, ho, hb⟩
  have O1 := Lib.hid ho
  have B1 := Lib.hid hb
  clear ho hb ST
  go_wp2_with fail
  go_loopw [5, 16] (fun ev kv wr => ∃ i : Nat, kv = .int .i64 i ∧ i ≤ p.length ∧ Hid (wr.ownsRow w.heap.size 4 1 ev m (rowB m (mf L (mnAt p) i)) ∧ Below w.heap.size w wr)) (fun _ kv _ => p.length - (intOf kv).toNat)
  case atStart => exact ⟨0, rfl, Nat.zero_le _, Lib.hid ⟨O1.out, B1.out⟩⟩
  case round =>
    obtain ⟨i, rfl, hi, hI⟩ := hrel
    by_cases hlt : i < p.length
    · obtain ⟨gp, op, q, rfl, hq, hgp, hcp⟩ := HP.out.at' hlt
      have hc1 := (hI.out.2.cell (p := ⟨gp, op + i, none⟩) hgp).trans hcp
      have HQ := Lib.hid hq
      have HMN := Lib.hid (mnAt_at hq)
      clear hq hcp hgp
      cases hmn : mnB q with
      | true =>
        have t1 : (q.toList == [42, 42]) = true := hmn
        have NX := Lib.hid (show mf L (mnAt p) (i + 1) = onB (mf L (mnAt p) i) from by
          show (if mnAt p i then _ else _) = _
          rw [HMN.out, hmn, if_pos rfl])
        have ON := Lib.hid (onward_any wr w.heap.size l.length (by omega) _ (mf L (mnAt p) i) (by rw [HM.out]; exact hI.out.1))
        rw [HM.out] at ON
        clear hmn
        go_wp2_with fail
        refine ON.out.mono ?_
        rintro e w2 ⟨r2, rfl, ho, hb⟩
        have FIN := Lib.hid (show w2.ownsRow w.heap.size 4 1 r2 m (rowB m (mf L (mnAt p) (i + 1))) ∧ Below w.heap.size w w2 from ⟨own_mono hI.out.2.size (by rw [NX.out]; exact ho), hI.out.2.trans (hb.mono hI.out.2.size)⟩)
        clear ho hb t1 hc1 hI
        go_wp2_with fail
        go_roundw
        case rel => exact ⟨i + 1, by go_num, by omega, FIN⟩
        case measure => simp [intOf]; omega
      | false =>
        have t1 : (q.toList == [42, 42]) = false := hmn
        have NX := Lib.hid (show mf L (mnAt p) (i + 1) = stepB (mf L (mnAt p) i) (fun a => L a i) from by
          show (if mnAt p i then _ else _) = _
          rw [HMN.out, hmn, if_neg (by decide)])
        have HMNF := Lib.hid hmn
        obtain ⟨ge, ce, hev, _, hge, hce⟩ := own_bool hI.out.1 (by have := HM.out; omega)
        rw [hev]
        have HCE := Lib.hid (And.intro hge hce)
        have BEL := Lib.hid hI.out.2
        obtain ⟨f, hf⟩ : ∃ f, mf L (mnAt p) i = f := ⟨_, rfl⟩
        rw [hf] at HCE NX
        have MO := Lib.hid (made_own wr m (by have := HM.out; omega))
        have BA := Lib.hid (show Below wr.heap.size wr (wr.alloc (.cells (madeCells #[.bool false] m) 4)) from vstep wr _)
        obtain ⟨W1, hW1⟩ : ∃ y, wr.alloc (.cells (madeCells #[.bool false] m) 4) = y := ⟨_, rfl⟩
        rw [hW1] at MO BA
        have HW1 := Lib.hid hW1
        have O0 := Lib.hid (show W1.ownsRow wr.heap.size 4 1 (.slice (some ⟨wr.heap.size, 0, none⟩) m m) m (rowB m (upto (stepB f (fun a => L a i)) 0)) from by rw [upto_zero]; exact MO.out)
        have hmk := HMK.out
        clear hmn hev hge hce hI hf hW1
        generalize wr = wo at *
        go_upto_region 8 with (fail)
        rw [HW1.out]
        clear hmk t1 hc1
        go_wp2_with fail
        go_loopw [29] (fun kv wr => ∃ k : Nat, kv = .int .i64 k ∧ k ≤ l.length ∧ Hid (wr.ownsRow wo.heap.size 4 1 (.slice (some ⟨wo.heap.size, 0, none⟩) m m) m (rowB m (upto (stepB f (fun a => L a i)) k)) ∧ Below wo.heap.size wo wr)) (fun kv _ => l.length - (intOf kv).toNat)
        case atStart => exact ⟨0, rfl, Nat.zero_le _, Lib.hid ⟨O0.out, BA.out⟩⟩
        case round =>
          obtain ⟨k, rfl, hk, hJ⟩ := hrel
          by_cases hkl : k < l.length
          · obtain ⟨g, o, x, rfl, hx, hg, hc⟩ := H.out.at' hkl
            have BW := Lib.hid (BEL.out.trans (hJ.out.2.mono BEL.out.size))
            have hc1 := (BW.out.cell (p := ⟨g, o + k, none⟩) hg).trans hc
            have hmk2 : k + 1 < m := by have := HM.out; omega
            have cek := (hJ.out.2.cell (p := ⟨ge, k, none⟩) HCE.out.1).trans (HCE.out.2 k (by omega)).1
            have LK := Lib.hid (HL.out wr BW.out k i x q hx HQ.out HMNF.out)
            have h0 : (0 : Int) ≤ (k : Int) := by omega
            have h1 : (k : Int) < (m : Int) := by omega
            have h2 : (k : Int) + 1 < (m : Int) := by omega
            have STO := Lib.hid (fun (W : World) (b : Bool) (hb : Below wr.heap.size wr W) (he : (f k && L k i) = b) => show W.cell? ⟨wo.heap.size, k + 1, none⟩ = some (.bool (upto (stepB f (fun a => L a i)) k (k + 1))) ∧ W.frozen? ⟨wo.heap.size, k + 1, none⟩ = false ∧
                (W.setCell ⟨wo.heap.size, k + 1, none⟩ (.bool b)).ownsRow wo.heap.size 4 1 (.slice (some ⟨wo.heap.size, 0, none⟩) m m) m (rowB m (upto (stepB f (fun a => L a i)) (k + 1))) ∧ Below wo.heap.size wo (W.setCell ⟨wo.heap.size, k + 1, none⟩ (.bool b)) from by
              obtain ⟨g2, c2, hv, _, _, hc2⟩ := own_bool (own_kept hJ.out.1 hb) (by omega)
              injection hv with hv1 _ hv3
              injection hv1 with hv1
              injection hv1 with hv1
              subst hv1 hv3
              obtain ⟨c0, f0, st⟩ := hc2 (k + 1) hmk2
              exact ⟨c0, f0, by rw [← upto_step f (fun a => L a i) k m b he]; exact st b, (hJ.out.2.trans (hb.mono hJ.out.2.size)).setCell (p := ⟨wo.heap.size, k + 1, none⟩) (Nat.le_refl _) _⟩)
            clear hx hc hg hJ
            cases hf : f k with
            | false =>
              rw [hf] at cek
              obtain ⟨c0, f0, s1, s2⟩ := STO.out wr false (Below.refl _ _) (by rw [hf]; rfl)
              have FIN := Lib.hid (And.intro s1 s2)
              clear hf s1 s2 STO
              go_wp2_with fail
              go_roundw
              case rel => exact ⟨k + 1, by go_num, by omega, FIN⟩
              case measure => simp [intOf]; omega
            | true =>
              rw [hf] at cek
              have HF := Lib.hid hf
              clear hf
              obtain ⟨lb, hlb⟩ : ∃ b, L k i = b := ⟨_, rfl⟩
              have HLB := Lib.hid hlb
              rw [hlb] at LK
              clear hlb
              go_wp2_with fail
              refine LK.out.mono ?_
              rintro e w5 ⟨rfl, hb5⟩
              obtain ⟨c0, f0, s1, s2⟩ := STO.out w5 lb hb5 (by rw [HF.out, HLB.out]; rfl)
              have FIN := Lib.hid (And.intro s1 s2)
              clear s1 s2 STO hb5 cek hc1
              go_wp2_with fail
              go_roundw
              case rel => exact ⟨k + 1, by go_num, by omega, FIN⟩
              case measure => simp [intOf]; omega
          · have FIN := Lib.hid (show wr.ownsRow w.heap.size 4 1 (.slice (some ⟨wo.heap.size, 0, none⟩) m m) m (rowB m (mf L (mnAt p) (i + 1))) ∧ Below w.heap.size w wr from ⟨own_mono BEL.out.size (by
              have := hJ.out.1
              rw [upto_all _ _ _ (by have := HM.out; omega)] at this
              rw [NX.out]
              exact this), BEL.out.trans (hJ.out.2.mono BEL.out.size)⟩)
            clear hJ
            go_wp2_with fail
            go_roundw
            case rel => exact ⟨i + 1, by go_num, by omega, FIN⟩
            case measure => simp [intOf]; omega
    · have he : i = p.length := by omega
      obtain ⟨g, cp, hv, _, _, hc⟩ := own_bool hI.out.1 (by have := HM.out; omega)
      have hcl := (hc l.length (by have := HM.out; omega)).1
      have BEL := Lib.hid hI.out.2
      rw [he] at hcl
      rw [hv]
      obtain ⟨b, hb⟩ : ∃ b, mf L (mnAt p) p.length l.length = b := ⟨_, rfl⟩
      rw [hb] at hcl
      have HBB := Lib.hid hb
      have h0 : (0 : Int) ≤ (l.length : Int) := by omega
      have h1 : (l.length : Int) < (m : Int) := by have := HM.out; omega
      clear hI hc hv hb
      go_wp2
      go_returns
      exact ⟨ret_b HBB.out.symm, BEL.out⟩
end Go.Proofs.YtgiiddcjepjgcaaDoor
