/- path.oneByte; path.like where no sign stands for others. -/
import Derived.Test.YtgiiddcjepjgcaaDoorPB
set_option linter.unusedVariables false
namespace Go.Proofs.YtgiiddcjepjgcaaDoor
open Go.RowKit

def stepB (f L : Nat → Bool) : Nat → Bool
  | 0 => false
  | a + 1 => f a && L a
def upto (g : Nat → Bool) (k : Nat) : Nat → Bool := fun i => decide (i ≤ k) && g i
theorem upto_zero (f L : Nat → Bool) (m : Nat) : rowB m (upto (stepB f L) 0) = rowB m (fun _ => false) := rowB_congr fun i _ => by
  unfold upto
  cases i with
  | zero => rfl
  | succ i => rw [decide_eq_false (by omega)]; rfl
theorem upto_step (f L : Nat → Bool) (k m : Nat) (b : Bool) (hb : (f k && L k) = b) : rowB m (updB (upto (stepB f L) k) (k + 1) b) = rowB m (upto (stepB f L) (k + 1)) := rowB_congr fun i _ => by
  unfold updB upto
  by_cases e : i = k + 1
  · subst e
    rw [if_pos rfl, decide_eq_true (Nat.le_refl _), ← hb]
    rfl
  · rw [if_neg e]
    by_cases h : i ≤ k
    · rw [decide_eq_true h, decide_eq_true (by omega)]
    · rw [decide_eq_false h, decide_eq_false (by omega)]
theorem upto_all (g : Nat → Bool) (k m : Nat) (h : m ≤ k + 1) : rowB m (upto g k) = rowB m g := rowB_congr fun i hi => by
  unfold upto
  rw [decide_eq_true (by omega)]
  rfl
def byteE (s : ByteArray) (x : Nat) : Nat → Bool := fun a => decide (∃ h : a < s.size, (s[a]'h).toNat = x)
theorem byteE_at (s : ByteArray) (x a : Nat) (h : a < s.size) : byteE s x a = (((s[a]'h).toNat : Int) == (x : Int)) := by
  unfold byteE
  by_cases e : (s[a]'h).toNat = x
  · rw [decide_eq_true ⟨h, e⟩, beqb_ _ _ (by omega)]
  · rw [decide_eq_false (fun ⟨_, q⟩ => e q), bneb_ _ _ (by omega)]
set_option maxRecDepth 100000 in
set_option maxHeartbeats 3200000 in
theorem onebyte_any (w : World) (B : Nat) (part : ByteArray) (hp : part.size ≤ 9000) (x : Nat) (ev : Value) (f : Nat → Bool) (h : w.ownsRow B 4 1 ev (part.size + 1) (rowB (part.size + 1) f)) :
    Calls Tryd.prog 36 #[.string part, .int .u8 (x : Int), ev] w fun e w' => ∃ r, e = .returned r ∧ w'.ownsRow w.heap.size 4 1 r (part.size + 1) (rowB (part.size + 1) (stepB f (byteE part x))) ∧ Below w.heap.size w w' := by
  obtain ⟨m, hm⟩ : ∃ m, part.size + 1 = m := ⟨_, rfl⟩
  rw [hm] at h ⊢
  obtain ⟨ge, ce, rfl, hBe, hge, hce⟩ := own_bool h (by omega)
  have HCE := Lib.hid hce
  have hmk := fun W => run_make_row' (P := Tryd.prog) 40 4 (.bool false) 1 Tryd.underlying40 info4 rfl .i64 .i64 m (by omega) (by omega) W
  have MO := Lib.hid (made_own w m (by omega))
  have BA := Lib.hid (show Below w.heap.size w (w.alloc (.cells (madeCells #[.bool false] m) 4)) from vstep w _)
  obtain ⟨W1, hW1⟩ : ∃ y, w.alloc (.cells (madeCells #[.bool false] m) 4) = y := ⟨_, rfl⟩
  rw [hW1] at MO BA
  have HW1 := Lib.hid hW1
  have HM := Lib.hid hm
  have O0 := Lib.hid (show W1.ownsRow w.heap.size 4 1 (.slice (some ⟨w.heap.size, 0, none⟩) m m) m (rowB m (upto (stepB f (byteE part x)) 0)) from by rw [upto_zero]; exact MO.out)
  have HGE := Lib.hid hge
  clear hm hW1 hce h hBe hge
  go_enter Tryd.func36, Tryd.ntmps36
  go_upto_region 2 with (fail)
  rw [HW1.out]
  clear hmk
  go_wp2
  go_loopw [14] (fun kv wr => ∃ k : Nat, kv = .int .i64 k ∧ k ≤ part.size ∧ Hid (wr.ownsRow w.heap.size 4 1 (.slice (some ⟨w.heap.size, 0, none⟩) m m) m (rowB m (upto (stepB f (byteE part x)) k)) ∧ Below w.heap.size w wr)) (fun kv _ => part.size - (intOf kv).toNat)
  case atStart => exact ⟨0, rfl, Nat.zero_le _, Lib.hid ⟨O0.out, BA.out⟩⟩
  case round =>
    obtain ⟨k, rfl, hk, hI⟩ := hrel
    by_cases hlt : k < part.size
    · have hmk2 : k + 1 < m := by have := HM.out; omega
      obtain ⟨g2, c2, hv, _, hg2, hc2⟩ := own_bool hI.out.1 (by omega)
      injection hv with hv1 _ hv3
      injection hv1 with hv1
      injection hv1 with hv1
      subst hv1 hv3
      obtain ⟨c0, f0, st⟩ := hc2 (k + 1) hmk2
      have ce := (hI.out.2.cell (p := ⟨ge, k, none⟩) HGE.out).trans (HCE.out k (by omega)).1
      have h0 : (0 : Int) ≤ (k : Int) := by omega
      have h1 : (k : Int) < (m : Int) := by omega
      have h2 : (k : Int) + 1 < (m : Int) := by omega
      have BEL := Lib.hid hI.out.2
      have ST := Lib.hid st
      have BT := byteE_at part x k hlt
      clear hc2 st hI hg2
      cases hf : f k with
      | false =>
        rw [hf] at ce
        have FIN := Lib.hid (show Below w.heap.size w (wr.setCell ⟨w.heap.size, k + 1, none⟩ (.bool false)) ∧ (wr.setCell ⟨w.heap.size, k + 1, none⟩ (.bool false)).ownsRow w.heap.size 4 1 (.slice (some ⟨w.heap.size, 0, none⟩) m m) m (rowB m (upto (stepB f (byteE part x)) (k + 1))) from
          ⟨BEL.out.setCell (p := ⟨w.heap.size, k + 1, none⟩) (Nat.le_refl _) _, by rw [← upto_step f (byteE part x) k m false (by rw [hf]; rfl)]; exact ST.out false⟩)
        clear hf BT ST
        go_wp2
        go_roundw
        case rel => exact ⟨k + 1, by go_num, by omega, Lib.hid ⟨FIN.out.2, FIN.out.1⟩⟩
        case measure => simp [intOf]; omega
      | true =>
        rw [hf] at ce
        cases hb : byteE part x k with
        | false =>
          have t1 := BT.symm.trans hb
          have FIN := Lib.hid (show Below w.heap.size w (wr.setCell ⟨w.heap.size, k + 1, none⟩ (.bool false)) ∧ (wr.setCell ⟨w.heap.size, k + 1, none⟩ (.bool false)).ownsRow w.heap.size 4 1 (.slice (some ⟨w.heap.size, 0, none⟩) m m) m (rowB m (upto (stepB f (byteE part x)) (k + 1))) from
            ⟨BEL.out.setCell (p := ⟨w.heap.size, k + 1, none⟩) (Nat.le_refl _) _, by rw [← upto_step f (byteE part x) k m false (by rw [hf, hb]; rfl)]; exact ST.out false⟩)
          clear hf BT ST hb
          go_wp2
          go_roundw
          case rel => exact ⟨k + 1, by go_num, by omega, Lib.hid ⟨FIN.out.2, FIN.out.1⟩⟩
          case measure => simp [intOf]; omega
        | true =>
          have t1 := BT.symm.trans hb
          have FIN := Lib.hid (show Below w.heap.size w (wr.setCell ⟨w.heap.size, k + 1, none⟩ (.bool true)) ∧ (wr.setCell ⟨w.heap.size, k + 1, none⟩ (.bool true)).ownsRow w.heap.size 4 1 (.slice (some ⟨w.heap.size, 0, none⟩) m m) m (rowB m (upto (stepB f (byteE part x)) (k + 1))) from
            ⟨BEL.out.setCell (p := ⟨w.heap.size, k + 1, none⟩) (Nat.le_refl _) _, by rw [← upto_step f (byteE part x) k m true (by rw [hf, hb]; rfl)]; exact ST.out true⟩)
          clear hf BT ST hb
          go_wp2
          go_roundw
          case rel => exact ⟨k + 1, by go_num, by omega, Lib.hid ⟨FIN.out.2, FIN.out.1⟩⟩
          case measure => simp [intOf]; omega
    · have FIN := Lib.hid (show wr.ownsRow w.heap.size 4 1 (.slice (some ⟨w.heap.size, 0, none⟩) m m) m (rowB m (stepB f (byteE part x))) from by
        have := hI.out.1
        rwa [upto_all _ _ _ (by have := HM.out; omega)] at this)
      have BEL := Lib.hid hI.out.2
      clear hI
      go_wp2
      go_returns
      exact ⟨_, rfl, FIN.out, BEL.out⟩
end Go.Proofs.YtgiiddcjepjgcaaDoor
