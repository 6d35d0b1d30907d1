/- path.like where no sign stands for others. -/
import Derived.Test.YtgiiddcjepjgcaaDoorPC
set_option linter.unusedVariables false
namespace Go.Proofs.YtgiiddcjepjgcaaDoor
open Go.RowKit

theorem own_mono {w : World} {B B' e size n : Nat} {v : Value} {xs : List Value} (hb : B ≤ B') (h : w.ownsRow B' e size v n xs) : w.ownsRow B e size v n xs :=
  ⟨h.1, h.2.imp id fun ⟨g, cap, cur, h1, h2, h3⟩ => ⟨g, cap, cur, h1, Nat.le_trans hb h2, h3⟩⟩
def tb (s : ByteArray) (i : Nat) : Nat := if h : i < s.size then (s[i]'h).toNat else 0
theorem tb_at (s : ByteArray) (i : Nat) (h : i < s.size) : tb s i = (s[i]'h).toNat := by unfold tb; rw [dif_pos h]
def lf (part text : ByteArray) : Nat → (Nat → Bool)
  | 0 => fun a => a == 0
  | i + 1 => stepB (lf part text i) (byteE part (tb text i))
theorem lf_spec (part text : ByteArray) : ∀ i a, lf part text i a = true ↔ a = i ∧ ∀ j, j < i → ∃ h : j < part.size, (part[j]'h).toNat = tb text j
  | 0, a => by
    show (a == 0) = true ↔ _
    rw [beq_iff_eq]
    exact ⟨fun e => ⟨e, fun j hj => by omega⟩, fun h => h.1⟩
  | i + 1, 0 => by
    show false = true ↔ _
    exact ⟨(fun h => by cases h), (fun h => by have := h.1; omega)⟩
  | i + 1, a + 1 => by
    show (lf part text i a && byteE part (tb text i) a) = true ↔ _
    rw [Bool.and_eq_true, lf_spec part text i a]
    unfold byteE
    rw [decide_eq_true_iff]
    constructor
    · rintro ⟨⟨rfl, h⟩, hb⟩
      refine ⟨rfl, fun j hj => ?_⟩
      by_cases e : j = a
      · subst e; exact hb
      · exact h j (by omega)
    · rintro ⟨e, h⟩
      have e' : a = i := by omega
      subst e'
      exact ⟨⟨rfl, fun j hj => h j (by omega)⟩, h a (by omega)⟩
theorem ba_eq {a b : ByteArray} (hs : a.size = b.size) (h : ∀ j (h1 : j < a.size) (h2 : j < b.size), a[j] = b[j]) : a = b := by
  refine ba_ext (List.ext_getElem (by rw [Array.length_toList, Array.length_toList]; exact hs) fun j h1 h2 => ?_)
  rw [Array.getElem_toList, Array.getElem_toList]
  exact h j (by simpa using h1) (by simpa using h2)
theorem lf_eq (part text : ByteArray) : lf part text text.size part.size = true ↔ part = text := by
  rw [lf_spec]
  constructor
  · rintro ⟨hs, h⟩
    refine ba_eq hs fun j h1 h2 => ?_
    obtain ⟨_, q⟩ := h j h2
    rw [tb_at text j h2] at q
    exact UInt8.toNat_inj.1 q
  · rintro rfl
    exact ⟨rfl, fun j hj => ⟨hj, (tb_at part j hj).symm⟩⟩
set_option maxRecDepth 100000 in
set_option maxHeartbeats 3200000 in
theorem like_plain (w : World) (part text : ByteArray) (hp : part.size ≤ 9000) (ht : text.size ≤ 9000) (hns : ∀ i, i < text.size → tb text i ≠ 42 ∧ tb text i ≠ 63) :
    Calls Tryd.prog 26 #[.string part, .string text] w fun e w' => e = .returned (.bool (lf part text text.size part.size)) ∧ Below w.heap.size w w' := by
  obtain ⟨m, hm⟩ : ∃ m, part.size + 1 = m := ⟨_, rfl⟩
  have ST := Lib.hid (start_any w part.size (by omega))
  rw [hm] at ST
  have HM := Lib.hid hm
  have HN := Lib.hid hns
  clear hm hns
  go_enter Tryd.func26, Tryd.ntmps26
  go_wp2_with fail
  refine ST.out.mono ?_
  rintro e w1 ⟨r, rfl, ho, hb⟩
  have O1 := Lib.hid ho
  have B1 := Lib.hid hb
  clear ho hb
  go_wp2_with fail
  go_loopw [5, 12] (fun ev kv wr => ∃ k : Nat, kv = .int .i64 k ∧ k ≤ text.size ∧ Hid (wr.ownsRow w.heap.size 4 1 ev m (rowB m (lf part text k)) ∧ Below w.heap.size w wr)) (fun _ kv _ => text.size - (intOf kv).toNat)
  case atStart => exact ⟨0, rfl, Nat.zero_le _, Lib.hid ⟨O1.out, B1.out⟩⟩
  case round =>
    obtain ⟨k, rfl, hk, hI⟩ := hrel
    by_cases hlt : k < text.size
    · have h1 := (HN.out k hlt).1
      have h2 := (HN.out k hlt).2
      rw [tb_at text k hlt] at h1 h2
      have t1 := bneb_ (((text[k]'hlt).toNat : Nat) : Int) 42 (by omega)
      have t2 := bneb_ (((text[k]'hlt).toNat : Nat) : Int) 63 (by omega)
      have OB := Lib.hid (onebyte_any wr w.heap.size part hp (text[k]'hlt).toNat _ (lf part text k) (by rw [HM.out]; exact hI.out.1))
      rw [HM.out] at OB
      have HTB := Lib.hid (tb_at text k hlt)
      clear h1 h2
      go_wp2_with fail
      refine OB.out.mono ?_
      rintro e w2 ⟨r2, rfl, ho, hb⟩
      have FIN := Lib.hid (show w2.ownsRow w.heap.size 4 1 r2 m (rowB m (lf part text (k + 1))) ∧ Below w.heap.size w w2 from ⟨own_mono hI.out.2.size (by
        show w2.ownsRow wr.heap.size 4 1 r2 m (rowB m (stepB (lf part text k) (byteE part (tb text k))))
        rw [HTB.out]; exact ho), hI.out.2.trans (hb.mono hI.out.2.size)⟩)
      clear ho hb t1 t2 hI
      go_wp2_with fail
      go_roundw
      case rel => exact ⟨k + 1, by go_num, by omega, FIN⟩
      case measure => simp [intOf]; omega
    · have he : k = text.size := by omega
      obtain ⟨g, cap, hv, _, _, hc⟩ := own_bool hI.out.1 (by have := HM.out; omega)
      have hcl := (hc part.size (by have := HM.out; omega)).1
      have BEL := Lib.hid hI.out.2
      rw [he] at hcl
      rw [hv]
      obtain ⟨b, hb⟩ : ∃ b, lf part text text.size part.size = b := ⟨_, rfl⟩
      rw [hb] at hcl
      have HBB := Lib.hid hb
      clear hb
      have h0 : (0 : Int) ≤ (part.size : Int) := by omega
      have h1 : (part.size : Int) < (m : Int) := by have := HM.out; omega
      clear hI hc hv
      go_wp2
      go_returns
      exact ⟨ret_b HBB.out.symm, BEL.out⟩
end Go.Proofs.YtgiiddcjepjgcaaDoor
