/- What the walks of sum's seat import; bytes that a slice holds; what a call leaves that hands back bytes of its own. -/
import Derived.Test.YtgbihpfpiaacfaaGreatDoorRows
import Derived.Test.YtgbihpfpiaacfaaGreatDoorCOwn
import Derived.Test.YtgbihpfpiaacfaaGreatDoorCSumM
import Derived.WalkKit
import Derived.WalkSpells
import Derived.Lib.Hide
import Derived.Lib.Walk
import Derived.OneCell
import Derived.LoopTactic
import Derived.Deep.Cut
import Derived.Outline
import Derived.Handy
import Derived.RegionTactic
import Derived.ChangeAlike
import Derived.BigQuiet
import Derived.Deep.QuietTactic
import Derived.Lib.AppendZerosOnto
import Derived.Laws.Rows
set_option linter.unusedVariables false
namespace Go.Proofs.YtgbihpfpiaacfaaGreatDoor.Rc
open Go.RowKit

theorem neb_ (a b : Int) (h : a ≠ b) : (a != b) = true := by simpa using h
theorem Tryz.info5 : (Tryz.prog.info? 5).map (fun i => (i.zero, i.size, i.bytes)) = some (some (.int .u8 0), 1, 1) := by kernel_rfl
/-- Bytes as cells; as numbers. -/
def u8s (l : List Nat) : List Value := l.map fun n : Nat => Value.int .u8 (n : Int)
theorem u8s_length (l : List Nat) : (u8s l).length = l.length := List.length_map _
theorem u8s_append (l m : List Nat) : u8s (l ++ m) = u8s l ++ u8s m := List.map_append
theorem u8s_get (l : List Nat) (j : Nat) : (u8s l)[j]? = (l[j]?).map fun n : Nat => Value.int .u8 (n : Int) := List.getElem?_map
theorem u8s_one (l : List Nat) : ∀ u ∈ u8s l, u.oneCell' = true := by
  intro u hu
  obtain ⟨x, _, rfl⟩ := List.mem_map.1 hu
  rfl
def Byt (l : List Nat) : Prop := ∀ x ∈ l, x < 256
theorem Byt.take {l : List Nat} (h : Byt l) (n : Nat) : Byt (l.take n) := fun x hx => h x (List.mem_of_mem_take hx)
theorem Byt.drop {l : List Nat} (h : Byt l) (n : Nat) : Byt (l.drop n) := fun x hx => h x (List.mem_of_mem_drop hx)
theorem Byt.append {l m : List Nat} (h : Byt l) (k : Byt m) : Byt (l ++ m) := fun x hx => (List.mem_append.1 hx).elim (h x) (k x)
theorem Byt.at {l : List Nat} (h : Byt l) {i x : Nat} (hx : l[i]? = some x) : x < 256 := h x (List.mem_of_getElem? hx)

theorem own_shape {w : World} {B e size n : Nat} {v : Value} {xs : List Value} (h : w.ownsRow B e size v n xs) : ∃ ao cap, v = .slice ao n cap := by
  rcases h.2 with ⟨rfl, rfl⟩ | ⟨g, cap, cur, rfl, _⟩
  · exact ⟨_, _, rfl⟩
  · exact ⟨_, _, rfl⟩
/-- A slice that holds these bytes, wherever. -/
def Lies (w : World) (v : Value) (bs : List Nat) : Prop := ∃ ao cap, v = .slice ao bs.length cap ∧ bs.length ≤ cap ∧ cap ≤ maxLen ∧ (ao = none → bs = [] ∧ cap = 0) ∧
  ∀ b, ao = some b → bs ≠ [] → ∃ k o, b = ⟨k, o, none⟩ ∧ k < w.heap.size ∧ ∀ (j x : Nat), bs[j]? = some x → w.cell? ⟨k, o + j, none⟩ = some (.int .u8 (x : Int))
theorem ne_of_lt {bs : List Nat} {i : Nat} (h : i < bs.length) : bs ≠ [] := by rintro rfl; simp at h
theorem Lies.nil (w : World) : Lies w (.slice none 0 0) [] := ⟨none, 0, rfl, Nat.le_refl _, Nat.zero_le _, fun _ => ⟨rfl, rfl⟩, fun b hb => by cases hb⟩
theorem add_addr (k o j : Nat) : (⟨k, o, none⟩ : Addr).add j = ⟨k, o + j, none⟩ := by
  unfold Addr.add; split <;> simp_all
theorem own_lies {w : World} {B : Nat} {v : Value} {bs : List Nat} (h : w.ownsRow B 5 1 v bs.length (u8s bs)) : Lies w v bs := by
  rcases h.2 with ⟨rfl, hn⟩ | ⟨g, cap, cur, rfl, hB, hg, hn, hm, hs, ht⟩
  · have : bs = [] := List.eq_nil_of_length_eq_zero hn
    subst this
    exact Lies.nil w
  · refine ⟨_, cap, rfl, hn, hm, (fun h => by cases h), fun b hb _ => ?_⟩
    cases hb
    refine ⟨g, 0, rfl, (Array.getElem?_eq_some_iff.1 hg).1, fun j x hj => ?_⟩
    have := h.cells (g := g) rfl j (.int .u8 (x : Int)) (by rw [u8s_get, hj]; rfl)
    rw [add_addr] at this
    exact this
theorem Lies.src {w : World} {v : Value} {bs : List Nat} (h : Lies w v bs) : Src Tryz.prog 1 39 v bs.length (u8s bs) w := by
  obtain ⟨ao, cap, rfl, hn, _, h0, hc⟩ := h
  cases ao with
  | none =>
    obtain ⟨rfl, rfl⟩ := h0 rfl
    exact Src.ofNil _ Tryz.underlying39 0
  | some b =>
    refine Src.ofSlice _ Tryz.underlying39 _ _ _ _ (by rw [u8s_length, Nat.mul_one]) (fun j u hj => ?_) (u8s_one _)
    rw [u8s_get] at hj
    cases hx : bs[j]? with
    | none => rw [hx] at hj; simp at hj
    | some x =>
      obtain ⟨k, o, rfl, _, hc⟩ := hc b rfl (ne_of_lt (List.getElem?_eq_some_iff.1 hx).1)
      rw [hx] at hj
      injection hj with hj
      rw [add_addr, hc j x hx, ← hj]
theorem Lies.later {w w' : World} {v : Value} {bs : List Nat} (h : Lies w v bs) (hb : Below w.heap.size w w') : Lies w' v bs := by
  obtain ⟨ao, cap, rfl, hn, hm, h0, hc⟩ := h
  refine ⟨ao, cap, rfl, hn, hm, h0, fun b hbb hne => ?_⟩
  obtain ⟨k, o, rfl, hk, hc⟩ := hc b hbb hne
  exact ⟨k, o, rfl, Nat.lt_of_lt_of_le hk hb.size, fun j x hj => (hb.cell (p := ⟨k, o + j, none⟩) hk).trans (hc j x hj)⟩
/-- A part of it. -/
theorem Lies.take {w : World} {ao : Option Addr} {n cap : Nat} {bs : List Nat} (h : Lies w (.slice ao n cap) bs) (k : Nat) (hk : k ≤ n) : Lies w (.slice ao k cap) (bs.take k) := by
  obtain ⟨ao', cap', e, hn, hm, h0, hc⟩ := h
  injection e with e1 e2 e3
  subst e1 e2 e3
  have hl : (bs.take k).length = k := by rw [List.length_take]; omega
  refine ⟨ao, cap, by rw [hl], by rw [hl]; omega, hm, fun e => ?_, fun b hb hne => ?_⟩
  · obtain ⟨rfl, h2⟩ := h0 e
    exact ⟨by simp, h2⟩
  · obtain ⟨k', o, rfl, hk', hc⟩ := hc b hb (fun e => hne (by rw [e]; simp))
    refine ⟨k', o, rfl, hk', fun j x hj => hc j x ?_⟩
    rw [List.getElem?_take] at hj
    split at hj
    · exact hj
    · cases hj

/-- What a call leaves that hands back a row of its own: these bytes, in a new block, or nil. -/
def RowOut (w w' : World) (r : Value) (bs : List Nat) : Prop := w'.ownsRow w.heap.size 5 1 r bs.length (u8s bs) ∧ Below w.heap.size w w'
theorem own_empty (w : World) (base e : Nat) (size : Nat) (hb : base ≤ w.heap.size) : (w.alloc (.cells #[] e)).ownsRow base e size (.slice (some ⟨w.heap.size, 0, none⟩) 0 0) 0 [] := by
  have := World.ownsRow_made (e := e) (size := size) w #[] 0 hb (by unfold maxLen; omega) (by simp)
  exact this
theorem below_drewN (w : World) : ∀ n, Below w.heap.size w (w.drewN n) := fun n => ⟨rfl, rfl, rfl, Nat.le_refl _, fun _ _ => rfl⟩
theorem take_snoc' {α : Type} (l : List α) (i : Nat) (p : α) (h : l[i]? = some p) : l.take (i + 1) = l.take i ++ [p] := by
  obtain ⟨hl, he⟩ := List.getElem?_eq_some_iff.1 h
  rw [List.take_succ_eq_append_getElem hl, he]

/-! ### numbers of 32 bits, in the walk's spelling -/
theorem x32 (a b : Nat) (ha : a < 4294967296) (hb : b < 4294967296) : bits .xor .u32 (a : Int) (b : Int) = ((a ^^^ b : Nat) : Int) := by
  have hx := xor_lt a b ha hb
  show IntKind.u32.wrap ((BitVec.ofInt 32 (a : Int) ^^^ BitVec.ofInt 32 (b : Int)).toNat : Int) = _
  rw [BitVec.toNat_xor, BitVec.ofInt_natCast, BitVec.ofInt_natCast, BitVec.toNat_ofNat, BitVec.toNat_ofNat, Nat.mod_eq_of_lt (show a < 2 ^ 32 from ha), Nat.mod_eq_of_lt (show b < 2 ^ 32 from hb), IntKind.wrap_u32']
  omega
theorem and1 (a : Nat) (ha : a < 4294967296) : bits .and .u32 (a : Int) 1 = ((a % 2 : Nat) : Int) := by
  show IntKind.u32.wrap ((BitVec.ofInt 32 (a : Int) &&& BitVec.ofInt 32 1).toNat : Int) = _
  have e : (BitVec.ofInt 32 1).toNat = 1 := rfl
  rw [BitVec.toNat_and, BitVec.ofInt_natCast, BitVec.toNat_ofNat, Nat.mod_eq_of_lt (show a < 2 ^ 32 from ha), e, Nat.and_one_is_mod, IntKind.wrap_u32']
  omega
theorem and15 (a : Nat) (ha : a < 4294967296) : bits .and .u32 (a : Int) 15 = ((a % 16 : Nat) : Int) := by
  show IntKind.u32.wrap ((BitVec.ofInt 32 (a : Int) &&& BitVec.ofInt 32 15).toNat : Int) = _
  have e : (BitVec.ofInt 32 15).toNat = 2 ^ 4 - 1 := rfl
  rw [BitVec.toNat_and, BitVec.ofInt_natCast, BitVec.toNat_ofNat, Nat.mod_eq_of_lt (show a < 2 ^ 32 from ha), e, Nat.and_two_pow_sub_one_eq_mod, IntKind.wrap_u32']
  omega
end Go.Proofs.YtgbihpfpiaacfaaGreatDoor.Rc

