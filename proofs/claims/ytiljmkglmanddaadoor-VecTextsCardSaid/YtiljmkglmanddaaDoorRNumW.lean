/- The reference's number of digits: the same as the program's. -/
import Derived.Test.YtiljmkglmanddaaDoorDigW
set_option linter.unusedVariables false
namespace Go.Proofs.YtiljmkglmanddaaDoor
open Go.RowKit

theorem dd_of_val : ∀ (l : List UInt8), l.all isD = true → l ≠ [] → (l.length ≤ 1 ∨ l.head? ≠ some 48) → Lib.decDigits (val l) = l := by
  intro l
  induction hn : l.length generalizing l with
  | zero => intro _ h; exact absurd (List.eq_nil_of_length_eq_zero hn) h
  | succ n ih =>
    intro h hne hh
    have e := (List.dropLast_concat_getLast hne).symm
    have hl : l.dropLast.length = n := by rw [List.length_dropLast]; omega
    have hall : l.dropLast.all isD = true := by
      rw [List.all_eq_true] at h ⊢
      exact fun x hx => h x (List.dropLast_subset _ hx)
    have hlast : isD (l.getLast hne) = true := by
      rw [List.all_eq_true] at h
      exact h _ (List.getLast_mem hne)
    generalize l.getLast hne = c at *
    unfold isD at hlast
    simp at hlast
    have hc : UInt8.ofNat (48 + (c.toNat - 48)) = c := by
      apply UInt8.toNat_inj.1
      rw [dig_nat _ (by omega)]; omega
    by_cases hd : l.dropLast = []
    · rw [hd] at e
      rw [e]
      show Lib.decDigits (10 * 0 + (c.toNat - 48)) = [c]
      rw [dd_small (by omega), Nat.mul_zero, Nat.zero_add, hc]
    · have hlen : 1 ≤ l.dropLast.length := by
        rcases Nat.eq_zero_or_pos l.dropLast.length with h0 | h0
        · exact absurd (List.eq_nil_of_length_eq_zero h0) hd
        · exact h0
      have hhead : l.dropLast.head? ≠ some 48 := by
        rcases hh with hh | hh
        · omega
        · rw [e] at hh
          cases hdl : l.dropLast with
          | nil => exact absurd hdl hd
          | cons a t => rw [hdl] at hh; simpa using hh
      have hv0 : val l.dropLast ≠ 0 := fun h0 => hhead (val_zero _ hall hd h0)
      have hI := ih l.dropLast hl hall hd (.inr hhead)
      have hv : val l = 10 * val l.dropLast + (c.toNat - 48) := by
        conv => lhs; rw [e]
        rw [val_snoc]
      rw [hv, dd_big (by omega), show (10 * val l.dropLast + (c.toNat - 48)) / 10 = val l.dropLast by omega, show (10 * val l.dropLast + (c.toNat - 48)) % 10 = c.toNat - 48 by omega, hI, hc]
      exact e.symm

/-- What holds of the bytes that the reference has gone by. -/
structure NumJ (s : ByteArray) (k : Nat) (V : Nat) : Prop where
  le : k ≤ s.size
  dig : (s.data.toList.take k).all isD = true
  v : V = val (s.data.toList.take k)
theorem NumJ.lt {s : ByteArray} {k V : Nat} (h : NumJ s k V) (hk : k ≤ 18) : V ≤ 999999999999999999 := by
  have h1 := val_lt _ h.dig
  have h2 : (s.data.toList.take k).length ≤ 18 := by rw [List.length_take]; omega
  have h3 : 10 ^ (s.data.toList.take k).length ≤ 10 ^ 18 := Nat.pow_le_pow_right (by omega) h2
  have e : (10 : Nat) ^ 18 = 1000000000000000000 := by decide
  have := h.v
  omega
theorem NumJ.lt17 {s : ByteArray} {k V : Nat} (h : NumJ s k V) (hk : k ≤ 17) : V ≤ 99999999999999999 := by
  have h1 := val_lt _ h.dig
  have h2 : (s.data.toList.take k).length ≤ 17 := by rw [List.length_take]; omega
  have h3 : 10 ^ (s.data.toList.take k).length ≤ 10 ^ 17 := Nat.pow_le_pow_right (by omega) h2
  have e : (10 : Nat) ^ 17 = 100000000000000000 := by decide
  have := h.v
  omega
theorem NumJ.step {s : ByteArray} {k V : Nat} (h : NumJ s k V) (hk : k < s.size) (hd : 48 ≤ (s.get! k).toNat ∧ (s.get! k).toNat ≤ 57) : NumJ s (k + 1) (10 * V + ((s.get! k).toNat - 48)) := by
  refine ⟨hk, ?_, ?_⟩
  · rw [take_snoc s k hk, List.all_append, h.dig]
    simp [isD, hd.1, hd.2]
  · rw [take_snoc s k hk, val_snoc, ← h.v]
theorem NumJ.done {s : ByteArray} {k V : Nat} (h : NumJ s k V) (hk : k = s.size) (h1 : 1 ≤ s.size) (h18 : s.size ≤ 18) :
    (decS V = s ∧ numV s.data.toList = .tuple #[.int .i64 (V : Int), .bool true]) ∨ (decS V ≠ s ∧ numV s.data.toList = .tuple #[.int .i64 0, .bool false]) := by
  have hlen : s.data.toList.length = s.size := by rw [Array.length_toList]; rfl
  have ht : s.data.toList.take k = s.data.toList := List.take_of_length_le (by omega)
  have hd := h.dig
  have hv := h.v
  rw [ht] at hd hv
  have hne : s.data.toList ≠ [] := by intro e; rw [e] at hlen; simp at hlen; omega
  have hdl : (decS V).data.toList = Lib.decDigits V := by unfold decS; simp
  by_cases hh : 1 < s.size ∧ s.data.toList.head? = some 48
  · right
    refine ⟨fun e => ?_, numV_none (.inr (.inr (.inr hh)))⟩
    rw [e] at hdl
    rcases Nat.eq_zero_or_pos V with h0 | h0
    · rw [h0, dd_small (by omega)] at hdl
      rw [hdl] at hlen
      simp at hlen; omega
    · rw [hdl] at hh
      exact dd_head V h0 hh.2
  · left
    have hdv := dd_of_val s.data.toList hd hne (by
      by_cases h2 : s.data.toList.length ≤ 1
      · exact .inl h2
      · exact .inr fun c => hh ⟨by omega, c⟩)
    rw [← hv] at hdv
    refine ⟨ba_ext (by rw [hdl, hdv]), ?_⟩
    unfold numV numOf
    rw [if_neg ?_, hv]
    rintro (c | c | c | ⟨c, c2⟩)
    · omega
    · omega
    · exact c hd
    · exact hh ⟨by omega, c2⟩

theorem tl_eq {a b : ByteArray} (h : a = b) : (a.toList == b.toList) = true := by rw [h]; simp
theorem tl_ne {a b : ByteArray} (h : a ≠ b) : (a.toList == b.toList) = false := by
  rw [beq_eq_false_iff_ne, ByteArray.toList_eq, ByteArray.toList_eq]
  exact fun e => h (ba_ext e)
theorem tln_eq {a b : ByteArray} (h : a = b) : (a.toList != b.toList) = false := by unfold bne; rw [tl_eq h]; rfl
theorem tln_ne {a b : ByteArray} (h : a ≠ b) : (a.toList != b.toList) = true := by unfold bne; rw [tl_ne h]; rfl

set_option maxRecDepth 100000 in
set_option maxHeartbeats 1600000 in
theorem rnumber_any (w : World) (s : ByteArray) (hs : s.size ≤ 9223372036854775807) :
    Calls Tryd.prog 35 #[.string s] w fun e w' => e = .returned (numV s.data.toList) ∧ Below w.heap.size w w' := by
  by_cases h0 : s.size < 1
  · have E := Lib.hid (numV_none (s := s) (.inl h0))
    go_enter Tryd.func35, Tryd.ntmps35
    go_wp2
    go_returns
    exact ⟨ret_v E.out.symm, Below.refl _ _⟩
  · by_cases h18 : 18 < s.size
    · have E := Lib.hid (numV_none (s := s) (.inr (.inl h18)))
      go_enter Tryd.func35, Tryd.ntmps35
      go_wp2
      go_returns
      exact ⟨ret_v E.out.symm, Below.refl _ _⟩
    · go_enter Tryd.func35, Tryd.ntmps35
      go_wp2
      go_loop [4, 5] (fun nv kv => ∃ k V : Nat, kv = .int .i64 k ∧ nv = .int .i64 V ∧ Hid (NumJ s k V) ∧ k ≤ s.size) (fun _ kv => s.size - (intOf kv).toNat)
      case atStart => exact ⟨0, 0, rfl, rfl, ⟨by omega, rfl, rfl⟩, by omega⟩
      case round =>
        obtain ⟨k, V, rfl, rfl, hI, hk⟩ := hrel
        by_cases hlt : k < s.size
        · have hV := hI.out.lt17 (by omega)
          have hg : s.get! k = s[k]'hlt := get_at s k hlt
          have hu : (s[k]'hlt).toNat < 256 := UInt8.toNat_lt _
          by_cases hd1 : 48 ≤ (s[k]'hlt).toNat
          · by_cases hd2 : (s[k]'hlt).toNat ≤ 57
            · have HS := hI.out.step hlt (by rw [hg]; exact ⟨hd1, hd2⟩)
              rw [hg] at HS
              have HS := Lib.hid HS
              clear hg
              go_wp2
              go_round
              case rel => exact ⟨k + 1, _, by go_num, by go_num, HS.out, by omega⟩
              case measure => simp [intOf]; omega
            · have E := Lib.hid (numV_none (s := s) (.inr (.inr (.inl ⟨k, hlt, by rw [hg]; omega⟩))))
              go_wp2
              go_returns
              exact ⟨ret_v E.out.symm, Below.refl _ _⟩
          · have E := Lib.hid (numV_none (s := s) (.inr (.inr (.inl ⟨k, hlt, by rw [hg]; omega⟩))))
            go_wp2
            go_returns
            exact ⟨ret_v E.out.symm, Below.refl _ _⟩
        · have hke : k = s.size := by omega
          have hV := hI.out.lt (by omega)
          have D := hI.out.done hke (by omega) (by omega)
          have C := Lib.hid (rdig_nat V (by omega) w)
          clear hke
          rcases D with ⟨D1, D2⟩ | ⟨D1, D2⟩
          · have t1 := tl_eq D1
            have t2 := tln_eq D1
            have E := Lib.hid D2
            clear D1 D2
            go_wp2_with fail
            refine C.out.mono ?_
            rintro e w1 ⟨rfl, hb1⟩
            have B := Lib.hid hb1
            clear hb1
            go_wp2
            go_returns
            exact ⟨ret_v E.out.symm, B.out⟩
          · have t1 := tl_ne D1
            have t2 := tln_ne D1
            have E := Lib.hid D2
            clear D1 D2
            go_wp2_with fail
            refine C.out.mono ?_
            rintro e w1 ⟨rfl, hb1⟩
            have B := Lib.hid hb1
            clear hb1
            go_wp2
            go_returns
            exact ⟨ret_v E.out.symm, B.out⟩

set_option maxRecDepth 100000 in
set_option maxHeartbeats 400000 in
theorem rdig_any (w : World) (n : Int) (h1 : n ≤ 9223372036854775807) : Calls Tryd.prog 34 #[.int .i64 n] w fun e w' => e = .returned (.string (decS n)) ∧ Below w.heap.size w w' := by
  by_cases h : n < 0
  · have E := Lib.hid (show decS n = ⟨#[48]⟩ by unfold decS; rw [Int.toNat_of_nonpos (by omega), dd_small (by omega)]; rfl)
    go_enter Tryd.func34, Tryd.ntmps34
    go_wp2
    go_returns
    exact ⟨by rw [E.out]; rfl, Below.refl _ _⟩
  · obtain ⟨u, rfl⟩ : ∃ u : Nat, n = u := ⟨n.toNat, by omega⟩
    exact rdig_nat u (by omega) w

end Go.Proofs.YtiljmkglmanddaaDoor
