/- name.Number at every text: its number, or none. -/
import Derived.Test.YtiljmkglmanddaaDoorVE
import Derived.Test.YtiljmkglmanddaaDoorRows
import Derived.ChangeAlike
import Derived.Laws.RangeAny
import Derived.Lib.OthersKept
import Derived.Lib.DecodeN
set_option linter.unusedVariables false
namespace Go.Proofs.YtiljmkglmanddaaDoor
open Go.RowKit

/-- A byte as a digit's worth. -/
def isD (c : UInt8) : Bool := 48 ≤ c.toNat && c.toNat ≤ 57
def val (l : List UInt8) : Nat := l.foldl (fun n c => 10 * n + (c.toNat - 48)) 0
/-- The number of digits: none where it is none's. -/
def numOf (l : List UInt8) : Option Nat := if l.length < 1 ∨ 18 < l.length ∨ ¬ l.all isD ∨ (1 < l.length ∧ l.head? = some 48) then none else some (val l)
def numV (l : List UInt8) : Value := match numOf l with | some n => .tuple #[.int .i64 (n : Int), .bool true] | none => .tuple #[.int .i64 0, .bool false]

theorem val_snoc (l : List UInt8) (c : UInt8) : val (l ++ [c]) = 10 * val l + (c.toNat - 48) := by unfold val; rw [List.foldl_append]; rfl
theorem val_lt : ∀ (l : List UInt8), l.all isD = true → val l < 10 ^ l.length := by
  intro l
  induction hn : l.length generalizing l with
  | zero => intro _; rw [List.eq_nil_of_length_eq_zero hn]; decide
  | succ n ih =>
    intro h
    have hne : l ≠ [] := by intro e; rw [e] at hn; simp at hn
    have e := (List.dropLast_concat_getLast hne).symm
    have hl : l.dropLast.length = n := by rw [List.length_dropLast]; omega
    have hall : l.dropLast.all isD = true := by
      rw [List.all_eq_true] at h ⊢
      exact fun x hx => h x (List.dropLast_subset _ hx)
    have hlast : isD (l.getLast hne) = true := by
      rw [List.all_eq_true] at h
      exact h _ (List.getLast_mem hne)
    have := ih l.dropLast hl hall
    rw [e, val_snoc, Nat.pow_succ]
    unfold isD at hlast
    simp at hlast
    omega

/-- The rune that begins at a byte: the byte itself, one byte wide, or 128 and more. -/
theorem rune_at (s : ByteArray) (p : Nat) : ((s.get! p).toNat < 128 ∧ Utf8.decode s p = ((s.get! p).toNat, 1)) ∨ (128 ≤ (s.get! p).toNat ∧ 128 ≤ (Utf8.decode s p).1 ∧ (Utf8.decode s p).1 ≤ 1114111) := by
  have hd : Utf8.decode s p = Lib.decodeN (s.size - p) (s.get! p).toNat (s.get! (p + 1)).toNat (s.get! (p + 2)).toNat (s.get! (p + 3)).toNat := Lib.decode_at s p
  by_cases h : (s.get! p).toNat < 128
  · left
    refine ⟨h, ?_⟩
    rw [hd]
    unfold Lib.decodeN
    rw [if_pos h]
  · right
    refine ⟨by omega, ?_⟩
    have hb : (s.get! p).toNat < 256 := UInt8.toNat_lt _
    rw [hd]
    unfold Lib.decodeN
    rw [if_neg h]
    repeat' split
    all_goals (simp only; omega)

theorem take_snoc (s : ByteArray) (k : Nat) (h : k < s.size) : s.data.toList.take (k + 1) = s.data.toList.take k ++ [s.get! k] := by
  rw [List.take_succ_eq_append_getElem (by simpa using h)]
  congr 2
  exact (get_at s k h).symm

theorem neb_ (a b : Int) (h : a ≠ b) : (a != b) = true := by simpa using h
theorem eqb_ (a b : Int) (h : a = b) : (a != b) = false := by simpa using h
theorem beqb_ (a b : Int) (h : a = b) : (a == b) = true := by simpa using h
theorem bneb_ (a b : Int) (h : a ≠ b) : (a == b) = false := by simpa using h

theorem ret_v {a b : Value} (h : a = b) : Ending.returned a = .returned b := by rw [h]

theorem val_zero : ∀ (l : List UInt8), l.all isD = true → l ≠ [] → val l = 0 → l.head? = some 48 := by
  intro l
  induction hn : l.length generalizing l with
  | zero => intro _ h; exact absurd (List.eq_nil_of_length_eq_zero hn) h
  | succ n ih =>
    intro h hne hv
    have e := (List.dropLast_concat_getLast hne).symm
    have hl : l.dropLast.length = n := by rw [List.length_dropLast]; omega
    have hall : l.dropLast.all isD = true := by
      rw [List.all_eq_true] at h ⊢
      exact fun x hx => h x (List.dropLast_subset _ hx)
    have hlast : isD (l.getLast hne) = true := by
      rw [List.all_eq_true] at h
      exact h _ (List.getLast_mem hne)
    rw [e, val_snoc] at hv
    by_cases hd : l.dropLast = []
    · rw [e, hd]
      unfold isD at hlast
      simp at hlast
      have : (l.getLast hne).toNat = 48 := by omega
      have h48 : l.getLast hne = 48 := UInt8.toNat_inj.1 this
      rw [h48]; rfl
    · have := ih l.dropLast hl hall hd (by omega)
      rw [e]
      cases hdl : l.dropLast with
      | nil => exact absurd hdl hd
      | cons a t => rw [hdl] at this; simpa using this

/-- What holds of the bytes that were gone by. -/
structure NumI (s : ByteArray) (k : Nat) (V : Nat) : Prop where
  le : k ≤ s.size
  dig : (s.data.toList.take k).all isD = true
  can : 1 < k → s.data.toList.head? ≠ some 48
  v : V = val (s.data.toList.take k)
theorem NumI.lt {s : ByteArray} {k V : Nat} (h : NumI s k V) (hk : k ≤ 17) : V ≤ 99999999999999999 := by
  have h1 := val_lt _ h.dig
  have h2 : (s.data.toList.take k).length ≤ 17 := by rw [List.length_take]; omega
  have h3 : 10 ^ (s.data.toList.take k).length ≤ 10 ^ 17 := Nat.pow_le_pow_right (by omega) h2
  have e : (10 : Nat) ^ 17 = 100000000000000000 := by decide
  have := h.v
  omega
theorem head_take (l : List UInt8) (k : Nat) (hk : 0 < k) : (l.take k).head? = l.head? := by
  cases k with
  | zero => omega
  | succ k => cases l <;> rfl
theorem NumI.step {s : ByteArray} {k V : Nat} (h : NumI s k V) (hk : k < s.size) (hd : 48 ≤ (s.get! k).toNat ∧ (s.get! k).toNat ≤ 57) (hn : ¬ (0 < k ∧ V = 0)) : NumI s (k + 1) (10 * V + ((s.get! k).toNat - 48)) := by
  refine ⟨hk, ?_, ?_, ?_⟩
  · rw [take_snoc s k hk, List.all_append, h.dig]
    simp [isD, hd.1, hd.2]
  · intro h1 hc
    by_cases hk1 : 1 < k
    · exact h.can hk1 hc
    · obtain rfl : k = 1 := by omega
      refine hn ⟨by omega, ?_⟩
      rw [h.v]
      have hl : s.data.toList.take 1 = [48] := by
        cases hsl : s.data.toList with
        | nil => rw [hsl] at hc; simp at hc
        | cons a t => rw [hsl] at hc; simp at hc; rw [hc]; rfl
      rw [hl]; rfl
  · rw [take_snoc s k hk, val_snoc, ← h.v]
theorem NumI.done {s : ByteArray} {k V : Nat} (h : NumI s k V) (hk : k = s.size) (h1 : 1 ≤ s.size) (h18 : s.size ≤ 18) : numV s.data.toList = .tuple #[.int .i64 (V : Int), .bool true] := by
  have hlen : s.data.toList.length = s.size := by rw [Array.length_toList]; rfl
  have ht : s.data.toList.take k = s.data.toList := List.take_of_length_le (by omega)
  have hd := h.dig
  have hv := h.v
  rw [ht] at hd hv
  unfold numV numOf
  rw [if_neg ?_, hv]
  rintro (c | c | c | ⟨c, c2⟩)
  · omega
  · omega
  · exact c hd
  · exact h.can (by omega) c2
theorem numV_none {s : ByteArray} (h : s.size < 1 ∨ 18 < s.size ∨ (∃ k, k < s.size ∧ ¬ (48 ≤ (s.get! k).toNat ∧ (s.get! k).toNat ≤ 57)) ∨ (1 < s.size ∧ s.data.toList.head? = some 48)) :
    numV s.data.toList = .tuple #[.int .i64 0, .bool false] := by
  have hlen : s.data.toList.length = s.size := by rw [Array.length_toList]; rfl
  unfold numV numOf
  rw [if_pos]
  rcases h with h | h | ⟨k, hk, h⟩ | h
  · exact .inl (by omega)
  · exact .inr (.inl (by omega))
  · refine .inr (.inr (.inl fun c => h ?_))
    have hm : s.get! k ∈ s.data.toList := by
      have h2 : s.get! k ∈ s.data.toList.take (k + 1) := by rw [take_snoc s k hk]; simp
      exact List.mem_of_mem_take h2
    have := List.all_eq_true.1 c _ hm
    simpa [isD] using this
  · exact .inr (.inr (.inr ⟨by omega, h.2⟩))
theorem NumI.needless {s : ByteArray} {k V : Nat} (h : NumI s k V) (hk : k < s.size) (hn : 0 < k ∧ V = 0) : numV s.data.toList = .tuple #[.int .i64 0, .bool false] := by
  refine numV_none (.inr (.inr (.inr ⟨by omega, ?_⟩)))
  have hlen : s.data.toList.length = s.size := by rw [Array.length_toList]; rfl
  rw [← head_take _ k hn.1]
  refine val_zero _ h.dig ?_ (by rw [← h.v]; exact hn.2)
  intro e
  have := congrArg List.length e
  rw [List.length_take] at this
  simp only [List.length_nil] at this
  omega

set_option maxRecDepth 100000 in
set_option maxHeartbeats 1000000 in
theorem number_any (w : World) (s : ByteArray) (hs : s.size ≤ 9223372036854775807) :
    Calls Tryd.prog 40 #[.string s] w fun e w' => e = .returned (numV s.data.toList) ∧ Below w.heap.size w w' := by
  have hlen : s.data.toList.length = s.size := by rw [Array.length_toList]; rfl
  by_cases h0 : s.size = 0
  · have e : s = ⟨#[]⟩ := by
      cases s with | mk d => exact congrArg ByteArray.mk (Array.eq_empty_of_size_eq_zero h0)
    subst e
    go_enter Tryd.func40, Tryd.ntmps40
    go_wp2
    go_returns
    exact ⟨rfl, Below.refl _ _⟩
  · have hne : s.toList.isEmpty = false := by
      rw [ByteArray.toList_eq]
      cases hd : s.data.toList with
      | nil => rw [hd] at hlen; simp at hlen; omega
      | cons a t => rfl
    by_cases h18 : 18 < s.size
    · have E := Lib.hid (numV_none (s := s) (.inr (.inl h18)))
      go_enter Tryd.func40, Tryd.ntmps40
      go_wp2
      go_returns
      exact ⟨ret_v E.out.symm, Below.refl _ _⟩
    · go_enter Tryd.func40, Tryd.ntmps40
      go_wp2
      go_loopw [4] (fun nv wr => ∃ k V : Nat, nv = .int .i64 V ∧ Hid (NumI s k V) ∧ k ≤ s.size ∧ wr = World.iter w s k) (fun _ wr => s.size - wr.iterPos w.heap.size)
      case atStart => exact ⟨0, 0, rfl, ⟨by omega, rfl, by omega, rfl⟩, by omega, rfl⟩
      case round =>
        obtain ⟨k, V, rfl, hI, hk, rfl⟩ := hrel
        by_cases hlt : k < s.size
        · have hV := hI.out.lt (by omega)
          have hnx := fun ty => run_next_any (P := Tryd.prog) w s k ty hlt
          rcases rune_at s k with ⟨h128, hd⟩ | ⟨h128, hr1, hr2⟩
          · rw [hd] at hnx
            simp only at hnx
            generalize hb : (s.get! k).toNat = b at *
            have HB := Lib.hid hb
            clear hb hd
            by_cases hd1 : 48 ≤ b
            · by_cases hd2 : b ≤ 57
              · by_cases hn : 0 < k ∧ V = 0
                · have E := Lib.hid (hI.out.needless hlt hn)
                  obtain ⟨hk0, rfl⟩ := hn
                  go_wp2
                  go_returns
                  exact ⟨ret_v E.out.symm, (Below.refl _ _).alloc (Nat.le_refl _) _⟩
                · have hS := hI.out.step hlt (by rw [HB.out]; exact ⟨hd1, hd2⟩) hn
                  rw [HB.out] at hS
                  have HS := Lib.hid hS
                  have hn2 : k = 0 ∨ ¬ V = 0 := by omega
                  clear hS hn
                  rcases hn2 with rfl | hv
                  · go_wp2
                    go_roundw
                    case rel => exact ⟨0 + 1, _, by go_num, HS.out, by omega, rfl⟩
                    case measure => simp; omega
                  · have tv := bneb_ (V : Int) 0 (by omega)
                    clear hv
                    rcases Nat.eq_zero_or_pos k with rfl | hkp
                    · go_wp2
                      go_roundw
                      case rel => exact ⟨0 + 1, _, by go_num, HS.out, by omega, rfl⟩
                      case measure => simp; omega
                    · go_wp2
                      go_roundw
                      case rel => exact ⟨k + 1, _, by go_num, HS.out, by omega, rfl⟩
                      case measure => simp; omega
              · have E := Lib.hid (numV_none (s := s) (.inr (.inr (.inl ⟨k, hlt, by rw [HB.out]; omega⟩))))
                go_wp2
                all_goals
                  go_returns
                  exact ⟨ret_v E.out.symm, (Below.refl _ _).alloc (Nat.le_refl _) _⟩
            · have E := Lib.hid (numV_none (s := s) (.inr (.inr (.inl ⟨k, hlt, by rw [HB.out]; omega⟩))))
              go_wp2
              all_goals
                go_returns
                exact ⟨ret_v E.out.symm, (Below.refl _ _).alloc (Nat.le_refl _) _⟩
          · have E := Lib.hid (numV_none (s := s) (.inr (.inr (.inl ⟨k, hlt, by omega⟩))))
            generalize (Utf8.decode s k).1 = rr at *
            generalize (Utf8.decode s k).2 = ww at *
            go_wp2
            all_goals
              go_returns
              exact ⟨ret_v E.out.symm, (Below.refl _ _).alloc (Nat.le_refl _) _⟩
        · have hke : k = s.size := by omega
          have E := Lib.hid (hI.out.done hke (by omega) (by omega))
          have hp : ¬ k < s.size := hlt
          have hnx := fun ty => run_next_end (P := Tryd.prog) w s k ty hp
          clear hke
          go_wp2
          go_returns
          exact ⟨ret_v E.out.symm, (Below.refl _ _).alloc (Nat.le_refl _) _⟩
end Go.Proofs.YtiljmkglmanddaaDoor
