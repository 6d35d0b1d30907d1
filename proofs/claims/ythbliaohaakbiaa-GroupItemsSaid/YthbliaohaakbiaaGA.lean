/- Items, stamps, groups: their cells; small facts of worlds. -/
import Derived.Test.YthbliaohaakbiaaRk
import Derived.Test.YthbliaohaakbiaaGM
import Derived.Test.YthbliaohaakbiaaLater
import Derived.Handy
import Derived.Carry
import Derived.ProofKit
import Derived.Lib.Walk
import Derived.Lib.Hide
import Derived.RegionTactic
import Derived.LoopTactic
import Derived.WalkSpells
import Derived.Deep.RegionHeld3
import Derived.Deep.Cut
import Derived.Deep.CutRange
import Derived.Deep.CutBlock
import Derived.Deep.QuietTactic
import Derived.StillTailTactics
set_option linter.unusedVariables false
set_option maxRecDepth 100000
namespace Go.Proofs.Ythbliaohaakbiaa
open Go.RowKit

def I64 (x : Int) : Prop := -9223372036854775808 ≤ x ∧ x ≤ 9223372036854775807
theorem lt_of_block {w : World} {b : Nat} {o : Obj} (h : w.heap[b]? = some o) : b < w.heap.size := (Array.getElem?_eq_some_iff.1 h).1
theorem vstep (W : World) (o : Obj) : Below W.heap.size W (W.alloc o) := (Below.refl _ _).alloc (Nat.le_refl _) _
theorem below_grown {w w' : World} (h : Below w.heap.size w w') (row : Option Nat) : w.grownBy w' row := ⟨h.os, h.tape, h.output, h.size, fun k hk _ => h.block k hk⟩
theorem beqb_ (a b : Int) (h : a = b) : (a == b) = true := by simpa using h
theorem bneb_ (a b : Int) (h : a ≠ b) : (a == b) = false := by simpa using h
theorem bneT (a b : Int) (h : (a == b) = true) : (a != b) = false := by simpa using h
theorem bneF (a b : Int) (h : (a == b) = false) : (a != b) = true := by simpa using h
theorem ret_b' {a b : Bool} (h : b = a) : (Ending.returned (.bool a)) = .returned (.bool b) := by rw [h]
theorem tl_eq {s t : ByteArray} (h : s = t) : (s.toList == t.toList) = true := by subst h; simp
theorem tl_ne {s t : ByteArray} (h : s ≠ t) : (s.toList == t.toList) = false := by
  cases h2 : (s.toList == t.toList) with
  | false => rfl
  | true => exact absurd (ba_toList (by simpa using h2)) h
theorem take_snoc {α : Type} {l : List α} {i : Nat} {x : α} (h : l[i]? = some x) : l.take (i + 1) = l.take i ++ [x] := by
  obtain ⟨hl, he⟩ := List.getElem?_eq_some_iff.1 h
  rw [List.take_succ_eq_append_getElem hl, he]
theorem push_okG {W W' W0 : World} {E k n : Nat} {e : TypeId} {v : Value} {xs : List Value} {ob : Obj} (hB : Below W0.heap.size W0 W) (ho : W.ownsRow E e k v n xs) (hE : W0.heap.size ≤ E) (hg : (W.alloc ob).grownBy W' v.ownBlock) : Below W0.heap.size W0 W' :=
  (hB.trans ((vstep W ob).mono hB.size)).grown hg (by have := hB.size; simp; omega) (fun k e => by have := (ho.lt k e).1; omega)
theorem own_less {W : World} {E E' k n : Nat} {e : TypeId} {v : Value} {xs : List Value} (h : W.ownsRow E e k v n xs) (hE : E' ≤ E) : W.ownsRow E' e k v n xs :=
  ⟨h.1, h.2.imp id fun ⟨g, cap, cur, h1, h2, h3⟩ => ⟨g, cap, cur, h1, by omega, h3⟩⟩
theorem info_parts {P : Program} {t : TypeId} {z : Value} {n b : Nat} (h : (P.info? t).map (fun i => (i.zero, i.size, i.bytes)) = some (some z, n, b)) : ∃ i, P.info? t = some i ∧ i.zero = some z ∧ i.size = n ∧ i.bytes = b := by
  cases hi : P.info? t with
  | none => rw [hi] at h; cases h
  | some i =>
    rw [hi] at h
    injection h with h
    injection h with h1 h
    injection h with h2 h3
    exact ⟨i, rfl, h1, h2, h3⟩
/-! ### stamps -/
abbrev Sp := Int × Int
def encS (x : Sp) : List Value := [.int .i64 x.1, .int .i64 x.2]
theorem encS_len (x : Sp) : (encS x).length = 2 := rfl
theorem encS_one (x : Sp) : ∀ v ∈ encS x, v.oneCell' = true := by
  intro v hv
  simp [encS] at hv
  rcases hv with rfl | rfl <;> rfl
theorem info39 : (Try.prog.info? 39).map (fun i => (i.zero, i.size, i.bytes)) = some (some (.agg #[.int .i64 0, .int .i64 0]), 2, 16) := by kernel_rfl
theorem Try.u30 : Try.prog.underlying 30 = some (.slice 39) := by kernel_rfl
/-! ### items -/
structure It where
  t : Int
  r : Int
  n : ByteArray
  d : Bool
  deriving DecidableEq
def It.ok (x : It) : Prop := I64 x.t ∧ I64 x.r
def encI (x : It) : List Value := [.int .i64 x.t, .int .i64 x.r, .string x.n, .bool x.d]
theorem encI_len (x : It) : (encI x).length = 4 := rfl
theorem encI_one (x : It) : ∀ v ∈ encI x, v.oneCell' = true := by
  intro v hv
  simp [encI] at hv
  rcases hv with rfl | rfl | rfl | rfl <;> rfl
theorem info41 : (Try.prog.info? 41).map (fun i => (i.zero, i.size, i.bytes)) = some (some (.agg #[.int .i64 0, .int .i64 0, .string ⟨#[]⟩, .bool false]), 4, 40) := by kernel_rfl
theorem info42 : (Try.prog.info? 42).map (fun i => (i.zero, i.size, i.bytes)) = some (some (.agg #[.int .i64 0, .int .i64 0, .string ⟨#[]⟩, .bool false]), 4, 40) := by kernel_rfl
theorem Try.u27 : Try.prog.underlying 27 = some (.slice 41) := by kernel_rfl
theorem Try.u22 : Try.prog.underlying 22 = some (.slice 42) := by kernel_rfl
abbrev ivl (x : It) : Value := .agg #[.int .i64 x.t, .int .i64 x.r, .string x.n, .bool x.d]
theorem LiesK.it {w : World} {ao : Option Addr} {n cap : Nat} {l : List It} (h : LiesK encI 4 w (.slice ao n cap) l) {i : Nat} (hi : i < n) : ∃ g o x, ao = some ⟨g, o, none⟩ ∧ l[i]? = some x ∧ g < w.heap.size ∧ w.cell? ⟨g, o + i * 4, none⟩ = some (.int .i64 x.t) ∧ w.cell? ⟨g, o + i * 4 + 1, none⟩ = some (.int .i64 x.r) ∧ w.cell? ⟨g, o + i * 4 + 2, none⟩ = some (.string x.n) ∧ w.cell? ⟨g, o + i * 4 + 3, none⟩ = some (.bool x.d) := by
  obtain ⟨g, o, x, rfl, hx, hg, hc⟩ := h.at' hi
  exact ⟨g, o, x, rfl, hx, hg, hc 0 _ rfl, hc 1 _ rfl, hc 2 _ rfl, hc 3 _ rfl⟩
theorem LiesK.st {w : World} {ao : Option Addr} {n cap : Nat} {l : List Sp} (h : LiesK encS 2 w (.slice ao n cap) l) {i : Nat} (hi : i < n) : ∃ g o x, ao = some ⟨g, o, none⟩ ∧ l[i]? = some x ∧ g < w.heap.size ∧ w.cell? ⟨g, o + i * 2, none⟩ = some (.int .i64 x.1) ∧ w.cell? ⟨g, o + i * 2 + 1, none⟩ = some (.int .i64 x.2) := by
  obtain ⟨g, o, x, rfl, hx, hg, hc⟩ := h.at' hi
  exact ⟨g, o, x, rfl, hx, hg, hc 0 _ rfl, hc 1 _ rfl⟩
/-! ### groups, their nodes as slices -/
structure Gv where
  n : ByteArray
  d : Bool
  v : Value
instance : Inhabited Gv := ⟨⟨⟨#[]⟩, false, .slice none 0 0⟩⟩
def encG (x : Gv) : List Value := [.string x.n, .bool x.d, x.v]
theorem encG_len (x : Gv) : (encG x).length = 3 := rfl
theorem info32 : (Try.prog.info? 32).map (fun i => (i.zero, i.size, i.bytes)) = some (some (.agg #[.string ⟨#[]⟩, .bool false, .slice none 0 0]), 3, 48) := by kernel_rfl
theorem info58 : (Try.prog.info? 58).map (fun i => (i.zero, i.size, i.bytes)) = some (some (.agg #[.string ⟨#[]⟩, .bool false, .slice none 0 0]), 3, 48) := by kernel_rfl
theorem Try.u25 : Try.prog.underlying 25 = some (.slice 32) := by kernel_rfl
theorem Try.u34 : Try.prog.underlying 34 = some (.slice 58) := by kernel_rfl
theorem LiesK.gr {w : World} {ao : Option Addr} {n cap : Nat} {l : List Gv} (h : LiesK encG 3 w (.slice ao n cap) l) {i : Nat} (hi : i < n) : ∃ g o x, ao = some ⟨g, o, none⟩ ∧ l[i]? = some x ∧ g < w.heap.size ∧ w.cell? ⟨g, o + i * 3, none⟩ = some (.string x.n) ∧ w.cell? ⟨g, o + i * 3 + 1, none⟩ = some (.bool x.d) ∧ w.cell? ⟨g, o + i * 3 + 2, none⟩ = some x.v := by
  obtain ⟨g, o, x, rfl, hx, hg, hc⟩ := h.at' hi
  exact ⟨g, o, x, rfl, hx, hg, hc 0 _ rfl, hc 1 _ rfl, hc 2 _ rfl⟩
end Go.Proofs.Ythbliaohaakbiaa
