/- Merged by tools/merge.py: NBase, NNum, NLater, NCut, NDecMath, NDigW, NRNumW, NAwA, NOwn, NBytes, NQuoteA, NCheckA, NCheckB, NApartM, NQuoteM, NQuoteW. -/
import Derived.Test.YtifeakmbeaflgaaDoorRows
import Derived.Test.YtifeakmbeaflgaaDoorShelf
import Derived.WalkKit
import Derived.WalkSpells
import Derived.Lib.Hide
import Derived.Lib.Walk
import Derived.OneCell
import Derived.LoopTactic
import Derived.Deep.Cut
import Derived.Outline
import Derived.Handy
import Derived.RegionTactic
import Derived.ChangeAlike
import Derived.Laws.RangeAny
import Derived.Lib.OthersKept
import Derived.Lib.DecodeN
import Derived.Below
import Derived.Deep.Quiet
import Derived.BigQuiet
import Derived.Lib.AppendIntMem
import Derived.Lib.IndexLaws
import Derived.Lib.LaidTab
import Derived.Lib.ItoaLen
import Derived.Deep.QuietTactic
import Derived.Deep.AppendSrc
import Derived.OwnWalk
import Derived.Laws.OwnMore
import Derived.Deep.RegionLaw
import Derived.Lib.RuneCountTail
import Derived.WalkSmall
import Derived.Deep.DeepMust
import Derived.Lib.ConvBytes

set_option linter.unusedVariables false
namespace Go.Proofs.YtifeakmbeaflgaaDoor
open Go.RowKit
theorem ret_b {a b : Bool} (h : a = b) : Ending.returned (.bool a) = .returned (.bool b) := by rw [h]
end Go.Proofs.YtifeakmbeaflgaaDoor

set_option linter.unusedVariables false
namespace Go.Proofs.YtifeakmbeaflgaaDoor
open Go.RowKit

theorem neb_ (a b : Int) (h : a ≠ b) : (a != b) = true := by simpa using h
theorem eqb_ (a b : Int) (h : a = b) : (a != b) = false := by simpa using h
theorem beqb_ (a b : Int) (h : a = b) : (a == b) = true := by simpa using h
theorem bneb_ (a b : Int) (h : a ≠ b) : (a == b) = false := by simpa using h

end Go.Proofs.YtifeakmbeaflgaaDoor

set_option linter.unusedVariables false
namespace Go.Proofs.YtifeakmbeaflgaaDoor
open Go.RowKit

/-- A world in which all that stands in w stands as it did. -/
def Later (w : World) : Type := { w' : World // Below w.heap.size w w' }
def Later.w {w : World} (x : Later w) : World := x.val
theorem Later.below {w : World} (x : Later w) : Below w.heap.size w x.w := x.property
instance (w : World) : Nonempty (Later w) := ⟨⟨w, Below.refl _ _⟩⟩

theorem wp_region_later {P : Program} {id : Nat} {Q : Exit → Act → World → Prop} {a : Act} {w : World} {l : List Oper} (hm : P.follows .mixedOrders = true) (hB : Region.lexB .any l.toArray = true)
    (h : wpQuiet P l.toArray (fun w' => ∃ x : Later w, w' = x.w) (fun a' => ∀ w', (∃ x : Later w, w' = x.w) → Q .normal a' w') l a) : (Code.region id l.toArray true).wp P Q a w :=
  wp_region_quiet (C := fun w' => ∃ x : Later w, w' = x.w) hm hB ⟨⟨_, (Below.refl _ _).drew⟩, rfl⟩ (by simpa using h)

/-- A callee's contract there. -/
theorem later_call {P : Program} {f : FuncId} {args : Array Value} {w : World} {x : Later w} {v : Value}
    (h : Calls P f args x.w fun e w' => e = .returned v ∧ Below x.w.heap.size x.w w') : Calls P f args x.w fun e w'' => e = .returned v ∧ ∃ y : Later w, w'' = y.w :=
  h.mono fun _ w' ⟨he, hb⟩ => ⟨he, ⟨⟨w', x.below.trans (hb.mono x.below.size)⟩, rfl⟩⟩
end Go.Proofs.YtifeakmbeaflgaaDoor

set_option linter.unusedVariables false
namespace Go.Proofs.YtifeakmbeaflgaaDoor
open Go.RowKit

theorem tab_later {P : Program} {w w' : World} {name : String} {k : IntKind} {zs : List Int} (h : Lib.TabIs P w name k zs) (hb : Below w.heap.size w w') : Lib.TabIs P w' name k zs := by
  unfold Lib.TabIs World.var? at *
  cases hg : P.globalNamed name with
  | none => rw [hg] at h; simp at h
  | some g =>
    rw [hg] at h
    simp only [Option.bind_some] at h ⊢
    have hlt : g < w.heap.size := by
      rcases Nat.lt_or_ge g w.heap.size with h' | h'
      · exact h'
      · rw [Array.getElem?_eq_none h'] at h; simp at h
    rw [hb.block g hlt]
    exact h

/-- A number's digits. -/
def decS (n : Int) : ByteArray := ⟨(Lib.decDigits n.toNat).toArray⟩

set_option maxRecDepth 100000 in
set_option maxHeartbeats 400000 in
theorem digits_small (w : World) (n : Int) (h0 : 0 ≤ n) (h1 : n < 100) : Calls Tryd.prog 42 #[.int .i64 n] w fun e w' => e = .returned (.string (decS n)) ∧ Below w.heap.size w w' := by
  obtain ⟨i, rfl⟩ := Int.eq_ofNat_of_zero_le h0
  have hm : max (i : Int) 0 = i := by omega
  have C := Lib.hid (Tryd.strconv_Itoa_small i (by omega) w)
  go_enter Tryd.func42, Tryd.ntmps42
  go_wp2_with fail
  refine C.out.mono ?_
  rintro e w1 ⟨rfl, rfl⟩
  go_wp2
  go_returns
  exact ⟨rfl, Below.refl _ _⟩

def Tab (w : World) : Prop := Lib.TabIs Tryd.prog w "internal/strconv.uint64pow10" .u64 Lib.pow10Tab
set_option maxRecDepth 100000 in
set_option maxHeartbeats 400000 in
theorem digits_any (w : World) (n : Int) (h1 : n ≤ 9223372036854775807) (ht : Tab w) : Calls Tryd.prog 42 #[.int .i64 n] w fun e w' => e = .returned (.string (decS n)) ∧ Below w.heap.size w w' := by
  have hm : max n 0 = (n.toNat : Int) := (Int.toNat_eq_max _).symm
  have C := Lib.hid (Tryd.strconv_Itoa (n.toNat : Int) (by omega) (by omega) w ht)
  have hd : (⟨(Lib.itoa (n.toNat : Int)).toArray⟩ : ByteArray) = decS n := by rw [Lib.itoa_nonneg]; rfl
  rw [hd] at C
  have HM := Lib.hid hm
  clear hm hd ht
  go_enter Tryd.func42, Tryd.ntmps42
  go_wp2_with fail
  rw [HM.out]
  refine C.out.mono ?_
  rintro e w1 ⟨rfl, k, os, hw⟩
  have hb : Below w.heap.size w w1 := by rw [hw]; exact Lib.below_grow _ w (Nat.le_refl _) k os
  have HB := Lib.hid hb
  clear hw hb
  go_wp2
  go_returns
  exact ⟨rfl, HB.out⟩

theorem decS_size (n : Int) (h1 : n ≤ 9223372036854775807) : (decS n).size ≤ 21 := by
  have := Lib.itoa_length_le (n.toNat : Int) (by omega) (by omega)
  rw [Lib.itoa_nonneg] at this
  unfold decS
  simpa [ByteArray.size] using this

end Go.Proofs.YtifeakmbeaflgaaDoor

set_option linter.unusedVariables false
namespace Go.Proofs.YtifeakmbeaflgaaDoor
open Go.RowKit

theorem dd_small {u : Nat} (h : u < 10) : Lib.decDigits u = [UInt8.ofNat (48 + u)] := Lib.decDigits_one h
theorem dd_big {u : Nat} (h : ¬ u < 10) : Lib.decDigits u = Lib.decDigits (u / 10) ++ [UInt8.ofNat (48 + u % 10)] := by
  conv => lhs; rw [Lib.decDigits, dif_neg h]
theorem ba_ext {a b : ByteArray} (h : a.data.toList = b.data.toList) : a = b := by
  cases a with | mk x => cases b with | mk y => exact congrArg ByteArray.mk (Array.ext' h)

end Go.Proofs.YtifeakmbeaflgaaDoor

set_option linter.unusedVariables false
namespace Go.Proofs.YtifeakmbeaflgaaDoor
open Go.RowKit

theorem dig_str (k : Nat) (h : k < 10) : (ByteArray.mk #[48, 49, 50, 51, 52, 53, 54, 55, 56, 57]).extract k (k + 1) = ⟨#[UInt8.ofNat (48 + k)]⟩ := by
  have : ∀ k : Fin 10, (ByteArray.mk #[48, 49, 50, 51, 52, 53, 54, 55, 56, 57]).extract k.1 (k.1 + 1) = ⟨#[UInt8.ofNat (48 + k.1)]⟩ := by decide +kernel
  exact this ⟨k, h⟩
theorem decS_small (u : Nat) (h : u < 10) : decS (u : Int) = (ByteArray.mk #[48, 49, 50, 51, 52, 53, 54, 55, 56, 57]).extract u (u + 1) := by
  rw [dig_str u h]
  unfold decS
  rw [Int.toNat_natCast, dd_small h]
theorem decS_big (u : Nat) (h : ¬ u < 10) : decS (u : Int) = decS ((u / 10 : Nat) : Int) ++ (ByteArray.mk #[48, 49, 50, 51, 52, 53, 54, 55, 56, 57]).extract (u % 10) (u % 10 + 1) := by
  rw [dig_str (u % 10) (by omega)]
  refine ba_ext ?_
  unfold decS
  simp only [Int.toNat_natCast]
  rw [dd_big h]
  simp [ByteArray.data_append]

set_option maxRecDepth 100000 in
set_option maxHeartbeats 1600000 in
theorem rdig_nat : ∀ (u : Nat) (hu : u ≤ 9223372036854775807) (w : World), Calls Tryd.prog 46 #[.int .i64 (u : Int)] w fun e w' => e = .returned (.string (decS u)) ∧ Below w.heap.size w w' := by
  intro u
  induction u using Nat.strongRecOn with
  | ind u ih =>
    intro hu w
    by_cases h : u < 10
    · have E := Lib.hid (decS_small u h)
      go_enter Tryd.func46, Tryd.ntmps46
      go_wp2
      go_returns
      exact ⟨by rw [E.out]; rfl, Below.refl _ _⟩
    · have E := Lib.hid (decS_big u h)
      have C := Lib.hid (fun x : Later w => ih (u / 10) (by omega) (by omega) x.w)
      have hq : ((u / 10 : Nat) : Int) = (u : Int) / 10 := by omega
      rw [hq] at C E
      have hsz := decS_size ((u : Int) / 10) (by omega)
      clear ih hq
      go_enter Tryd.func46, Tryd.ntmps46
      go_wp2
      refine wp_region_later (by kernel_rfl) (by kernel_rfl) ?_
      repeat (go_big_quiet_step (first
        | (go_at_call 46; with_reducible exact later_call (C.out _))))
      refine wpQuiet_nil ?_
      intro _ hw'
      obtain ⟨xl, hw''⟩ := hw'
      subst hw''
      go_wp2
      go_returns
      exact ⟨by rw [E.out]; rfl, xl.below⟩
end Go.Proofs.YtifeakmbeaflgaaDoor

set_option linter.unusedVariables false
namespace Go.Proofs.YtifeakmbeaflgaaDoor
open Go.RowKit

theorem tl_eq {a b : ByteArray} (h : a = b) : (a.toList == b.toList) = true := by rw [h]; simp
theorem tl_ne {a b : ByteArray} (h : a ≠ b) : (a.toList == b.toList) = false := by
  rw [beq_eq_false_iff_ne, ByteArray.toList_eq, ByteArray.toList_eq]
  exact fun e => h (ba_ext e)
set_option maxRecDepth 100000 in
set_option maxHeartbeats 400000 in
theorem rdig_any (w : World) (n : Int) (h1 : n ≤ 9223372036854775807) : Calls Tryd.prog 46 #[.int .i64 n] w fun e w' => e = .returned (.string (decS n)) ∧ Below w.heap.size w w' := by
  by_cases h : n < 0
  · have E := Lib.hid (show decS n = ⟨#[48]⟩ by unfold decS; rw [Int.toNat_of_nonpos (by omega), dd_small (by omega)]; rfl)
    go_enter Tryd.func46, Tryd.ntmps46
    go_wp2
    go_returns
    exact ⟨by rw [E.out]; rfl, Below.refl _ _⟩
  · obtain ⟨u, rfl⟩ : ∃ u : Nat, n = u := ⟨n.toNat, by omega⟩
    exact rdig_nat u (by omega) w

end Go.Proofs.YtifeakmbeaflgaaDoor

set_option linter.unusedVariables false
namespace Go.Proofs.YtifeakmbeaflgaaDoor
open Go.RowKit

def plainB (c : Nat) : Bool := decide (33 ≤ c ∧ c ≤ 126 ∧ c ≠ 37)
set_option maxRecDepth 100000 in
set_option maxHeartbeats 400000 in
theorem plain_any (w : World) (c : Nat) : Calls Tryd.prog 77 #[.int .u8 c] w fun e w' => e = .returned (.bool (plainB c)) ∧ w = w' := by
  have hcase : (c < 33 ∧ plainB c = false) ∨ (33 ≤ c ∧ 126 < c ∧ plainB c = false) ∨ (33 ≤ c ∧ c ≤ 126 ∧ c = 37 ∧ plainB c = false) ∨ (33 ≤ c ∧ c ≤ 126 ∧ c ≠ 37 ∧ plainB c = true) := by
    unfold plainB
    by_cases h1 : 33 ≤ c <;> by_cases h2 : c ≤ 126 <;> by_cases h3 : c = 37 <;> simp <;> omega
  rcases hcase with ⟨h1, h⟩ | ⟨h1, h2, h⟩ | ⟨h1, h2, h3, h⟩ | ⟨h1, h2, h3, h⟩
  · have E := Lib.hid h
    clear h
    go_enter Tryd.func77, Tryd.ntmps77
    go_wp2
    go_returns
    exact ⟨ret_b (by first | exact E.out.symm | (rw [E.out]; simp; omega)), rfl⟩
  · have E := Lib.hid h
    clear h
    go_enter Tryd.func77, Tryd.ntmps77
    go_wp2
    go_returns
    exact ⟨ret_b (by first | exact E.out.symm | (rw [E.out]; simp; omega)), rfl⟩
  · have E := Lib.hid h
    subst h3
    clear h
    go_enter Tryd.func77, Tryd.ntmps77
    go_wp2
    go_returns
    exact ⟨ret_b (by first | exact E.out.symm | (rw [E.out]; simp; done) | (rw [E.out]; simp; omega)), rfl⟩
  · have E := Lib.hid h
    have t1 := neb_ (c : Int) 37 (by omega)
    clear h h3
    go_enter Tryd.func77, Tryd.ntmps77
    go_wp2
    go_returns
    exact ⟨ret_b (by first | exact E.out.symm | (rw [E.out]; simp; omega)), rfl⟩

end Go.Proofs.YtifeakmbeaflgaaDoor

set_option linter.unusedVariables false
namespace Go.Proofs.YtifeakmbeaflgaaDoor
open Go.RowKit

/-- The result lies where the slice lay, or in a block that was not there. -/
def Sprung (w : World) (v v' : Value) : Prop := v'.ownBlock = v.ownBlock ∨ ∃ k, v'.ownBlock = some k ∧ w.heap.size ≤ k

section
variable {P : Program} (w : World)
theorem run_append_src_own (base : Nat) (t tx ty e : TypeId) (i : TypeInfo) (z : Value) (size bytes : Nat) (ht : P.underlying t = some (.slice e)) (hi : P.info? e = some i) (hz : i.zero = some z)
    (hsize : i.size = size) (hby : i.bytes = bytes) (hzs : z.cells.size = size) (hsz : 0 < size)
    (v : Value) (n : Nat) (xs : List Value) (hown : w.ownsRow base e size v n xs) (x : Value) (m : Nat) (news : List Value) (hs : Src P size tx x m news w)
    (h63 : n + m ≤ maxLen) (hbytes : (n + m) * bytes ≤ 140737488355328) (hbase : base ≤ w.heap.size) :
    ∃ v' w', (Builtin.append_ #[t, tx] ty #[v, x]).run P w = .ok v' w' ∧ w'.ownsRow base e size v' (n + m) (xs ++ news) ∧ w.grownBy w' v.ownBlock ∧ Sprung w v v' := by
  subst hsize
  subst hby
  have hlen : (xs ++ news).length = (n + m) * i.size := by rw [List.length_append, hown.1, hs.newsLen, Nat.add_mul]
  have grown : ∀ (old : Nat), old < n + m → ∀ (row : Option Nat),
      (w.drew.alloc (.cells ((xs ++ news).toArray ++ Builtin.zeroCells z.cells (grownCap w (n + m) old e - (n + m))) e)).ownsRow base e i.size (.slice (some ⟨w.heap.size, 0, none⟩) (n + m) (grownCap w (n + m) old e)) (n + m) (xs ++ news) ∧
      w.grownBy (w.drew.alloc (.cells ((xs ++ news).toArray ++ Builtin.zeroCells z.cells (grownCap w (n + m) old e - (n + m))) e)) row := by
    intro old ho row
    have hge := grownCap_ge w (n + m) old e
    have hcm : grownCap w (n + m) old e ≤ maxLen := grownCap_le_maxLen w (n + m) old e h63
    refine ⟨⟨hlen, .inr ⟨w.heap.size, _, _, rfl, hbase, heap_alloc_new w.drew _, hge, hcm, ?_, ?_⟩⟩, ⟨rfl, rfl, rfl, by simp, fun k hk _ => Below.heap_alloc w.drew _ k (by simpa using hk)⟩⟩
    · simp only [Array.size_append, List.size_toArray, size_zeroCells, hzs, hlen, ← Nat.add_mul]
      congr 1
      omega
    · simp only [Array.toList_append]
      rw [← hlen]
      exact List.take_left
  have h63' : ((n + m : Nat) : Int) ≤ 9223372036854775807 := by simp only [maxLen] at h63; omega
  rcases hown.2 with ⟨rfl, rfl⟩ | ⟨g, cap, cur, rfl, hbg, hg, hnc, hcm, hcs, htake⟩
  · have hx : xs = [] := List.eq_nil_of_length_eq_zero (by simpa using hown.1)
    subst hx
    by_cases hm : m = 0
    · subst hm
      have hn : news = [] := List.eq_nil_of_length_eq_zero (by simpa using hs.newsLen)
      subst hn
      refine ⟨.slice none 0 0, w, ?_, World.ownsRow_nil w base e i.size, ⟨rfl, rfl, rfl, Nat.le_refl _, fun _ _ _ => rfl⟩, .inl rfl⟩
      rcases hs.kind with ⟨e', hk⟩ | hk <;> simp [Builtin.append_, run_underlying ht, run_underlying hk, sizeOf, typeInfo, hi, hs.len, hs.cells]
    · have hr := run_append_grow_src (P := P) w t tx ty e i z ht hi hz none 0 0 [] (by simp [Builtin.firstCells]) x m news hs (by omega) (by simpa using h63') (by rw [nextslicecap_zero (by omega)]; have := hbytes; simp only [Nat.zero_add] at this ⊢; omega)
      have hgr := grown 0 (by omega) (Value.ownBlock (.slice none 0 0))
      simp only [Nat.zero_add, List.nil_append] at hgr hr ⊢
      exact ⟨_, _, hr, hgr.1, hgr.2, .inr ⟨_, rfl, Nat.le_refl _⟩⟩
  · by_cases hroom : n + m ≤ cap
    · have hfit : n * i.size + news.length ≤ cur.size := by rw [hs.newsLen, hcs, ← Nat.add_mul]; exact Nat.mul_le_mul_right _ hroom
      have hst := run_storeCells_at P g (n * i.size) e news 0 cur w hg (by simpa using hfit) hs.one
      simp only [Nat.add_zero] at hst
      have hr : (Builtin.append_ #[t, tx] ty #[.slice (some ⟨g, 0, none⟩) n cap, x]).run P w =
          .ok (.slice (some ⟨g, 0, none⟩) (n + m) cap) (w.setRow g (cur.toList.take (n * i.size) ++ news ++ cur.toList.drop (n * i.size + news.length)).toArray) := by
        rcases hs.kind with ⟨e', hk⟩ | hk <;> simp [Builtin.append_, run_underlying ht, run_underlying hk, sizeOf, typeInfo, hi, hs.len, hroom, hs.cells, Addr.add_lit, hst]
      refine ⟨_, _, hr, ⟨hlen, .inr ⟨g, cap, _, rfl, hbg, setRow_heap w g cur _ e _ hg, hroom, hcm, ?_, ?_⟩⟩, ⟨rfl, rfl, rfl, by simp, fun k _ hk => setRow_other w g k _ (fun e => hk (by simp [Value.ownBlock, e]))⟩, .inl rfl⟩
      · simp only [List.size_toArray, List.length_append, List.length_take, List.length_drop, Array.length_toList]
        omega
      · rw [htake, ← hlen]
        exact List.take_left
    · have holds : ∀ j u, xs[j]? = some u → w.cell? ((⟨g, 0, none⟩ : Addr).add j) = some u := hown.cells (g := g) rfl
      have hold : (Builtin.firstCells i.size n (.slice (some ⟨g, 0, none⟩) n cap)).run P w.drew = .ok xs.toArray w.drew := run_firstCells_some w.drew i.size n ⟨g, 0, none⟩ n cap xs hown.1 (by simpa using holds)
      have hr := run_append_grow_src (P := P) w t tx ty e i z ht hi hz (some ⟨g, 0, none⟩) n cap xs hold x m news hs (by omega) h63' (growslice_fits (by omega) hbytes)
      have hgr := grown cap (by omega) (Value.ownBlock (.slice (some ⟨g, 0, none⟩) n cap))
      exact ⟨_, _, hr, hgr.1, hgr.2, .inr ⟨_, rfl, Nat.le_refl _⟩⟩
end

theorem wpList_append_src_own {P : Program} {w : World} {ops : Array Oper} {rest : List Oper} {o : Oper} {a : Act} {Q : Exit → Act → World → Prop} (hgd : o.guard = none) (s x : Operand) (t tx : TypeId)
    (ho : o.op = .call { callee := .builtin .append, args := #[s, x], argTypes := #[t, tx] })
    (base : Nat) (e : TypeId) (i : TypeInfo) (z : Value) (size bytes : Nat) (ht : P.underlying t = some (.slice e)) (hi : P.info? e = some i) (hz : i.zero = some z)
    (hsize : i.size = size) (hby : i.bytes = bytes) (hzs : z.cells.size = size) (hsz : 0 < size)
    (v : Value) (n : Nat) (xs : List Value) (hs : a.eval s = v) (hown : w.ownsRow base e size v n xs) (xv : Value) (m : Nat) (news : List Value) (hx : a.eval x = xv) (hsrc : Src P size tx xv m news w)
    (h63 : n + m ≤ maxLen) (hbytes : (n + m) * bytes ≤ 140737488355328) (hbase : base ≤ w.heap.size)
    (h : ∀ v' w', w'.ownsRow base e size v' (n + m) (xs ++ news) → w.grownBy w' v.ownBlock → Sprung w v v' → wpList P ops Q rest (a.put o.dst v') w') : wpList P ops Q (o :: rest) a w := by
  refine wpList_plain hgd fun K hK => ?_
  obtain ⟨v', w', hr, h2, h3, h4⟩ := run_append_src_own (P := P) w base t tx o.type e i z size bytes ht hi hz hsize hby hzs hsz v n xs hown xv m news hsrc h63 hbytes hbase
  unfold Oper.wp
  simp only [execOp, ho, resolve, invoke, builtin, Sem.run_bind, Sem.run_pure, Result.andThen_ok, List.map_toArray, List.map_cons, List.map_nil, hs, hx, hr]
  exact hK _ _ (h v' w' h2 h3 h4)
end Go.Proofs.YtifeakmbeaflgaaDoor

set_option linter.unusedVariables false
namespace Go.Proofs.YtifeakmbeaflgaaDoor
open Go.RowKit

theorem Tryd.info5 : (Tryd.prog.info? 5).map (fun i => (i.zero, i.size, i.bytes)) = some (some (.int .u8 0), 1, 1) := by kernel_rfl
def u8s (l : List Int) : List Value := l.map (Value.int .u8)
theorem u8s_append (l m : List Int) : u8s (l ++ m) = u8s l ++ u8s m := List.map_append
theorem u8s_one (l : List Int) : ∀ u ∈ u8s l, u.oneCell' = true := by
  intro u hu
  obtain ⟨x, _, rfl⟩ := List.mem_map.1 hu
  rfl
theorem own_shape {w : World} {B e size n : Nat} {v : Value} {xs : List Value} (h : w.ownsRow B e size v n xs) : ∃ ao cap, v = .slice ao n cap := by
  rcases h.2 with ⟨rfl, rfl⟩ | ⟨g, cap, cur, rfl, _⟩
  · exact ⟨_, _, rfl⟩
  · exact ⟨_, _, rfl⟩
theorem src_one {P : Program} {t e : TypeId} (hk : P.underlying t = some (.slice e)) (w : World) (x : Int) (T : TypeId) : Src P 1 t (.slice (some ⟨w.heap.size, 0, none⟩) 1 1) 1 (u8s [x]) (w.alloc (.cells #[.int .u8 x] T)) := by
  refine Src.ofSlice _ hk _ _ _ _ rfl ?_ (u8s_one _)
  intro j u hj
  match j, hj with
  | 0, hj =>
    have e : u = .int .u8 x := by simpa [u8s] using hj.symm
    rw [e]
    exact cell_of_one (heap_alloc_new w (.cells #[.int .u8 x] T))
  | j + 1, hj => simp [u8s] at hj
theorem row_one {w wr w1 : World} {v v1 : Value} {cs : List Int} {x : Int} {T : TypeId} (hE : Below w.heap.size w wr) (hW : wr.ownsRow w.heap.size 5 1 v cs.length (u8s cs)) (hown : w1.ownsRow w.heap.size 5 1 v1 (cs.length + 1) (u8s cs ++ u8s [x]))
    (hgr : (wr.alloc (.cells #[.int .u8 x] T)).grownBy w1 v.ownBlock) : w1.ownsRow w.heap.size 5 1 v1 (cs ++ [x]).length (u8s (cs ++ [x])) ∧ Below w.heap.size w w1 := by
  refine ⟨by rw [u8s_append, List.length_append]; exact hown, ?_⟩
  exact (hE.alloc hE.size _).grown hgr (by have := hE.size; simp; omega) (fun k hk => (hW.lt k hk).1)

/-- A text out of bytes that the call owns. -/
theorem conv_own {w : World} {B : Nat} {v : Value} {bs : List Int} (h : w.ownsRow B 5 1 v bs.length (u8s bs)) : (convert 36 9 v).run Tryd.prog w = .ok (.string (strOfNums bs)) w := by
  rcases h.2 with ⟨rfl, hn⟩ | ⟨g, cap, cur, rfl, hB, hg, hn, hm, hs, ht⟩
  · have : bs = [] := List.eq_nil_of_length_eq_zero hn
    subst this
    rw [run_convert_bytes_string w 36 9 5 none 0 0 Tryd.underlying36 Tryd.underlying5 Tryd.underlying9]
    simp [Conv.bytesToString]; rfl
  · have hc := h.cells (g := g) rfl
    refine run_convert_bytes_arg w 36 5 Tryd.underlying36 Tryd.underlying5 g 0 bs.length cap bs rfl (fun i hi => ?_) 9 Tryd.underlying9
    have := hc i (.int .u8 bs[i]) (by unfold u8s; rw [List.getElem?_map, List.getElem?_eq_getElem hi]; rfl)
    have e : bs.getD i 0 = bs[i] := by simp [List.getD, hi]
    rw [e]
    by_cases h0 : i = 0
    · subst h0; simpa [Addr.add] using this
    · simpa [Addr.add, h0] using this

end Go.Proofs.YtifeakmbeaflgaaDoor

set_option linter.unusedVariables false
namespace Go.Proofs.YtifeakmbeaflgaaDoor
open Go.RowKit

theorem step_append_own {P : Program} {ops : Array Oper} {o : Oper} {a : Act} {w : World} {K : Act → World → Prop} {Q : Exit → Act → World → Prop} {E : Prop}
    (hg : o.guard = none) (s x : Operand) (t tx : TypeId) (hop : o.op = Op.call { callee := Callee.builtin Builtin.append, args := #[s, x], argTypes := #[t, tx] })
    (base : Nat) (e : TypeId) (i : TypeInfo) (z : Value) (size bytes : Nat) (ht : P.underlying t = some (.slice e)) (hi : P.info? e = some i) (hz : i.zero = some z)
    (hsize : i.size = size) (hby : i.bytes = bytes) (hzs : z.cells.size = size) (hsz : 0 < size)
    (v : Value) (n : Nat) (xs : List Value) (hs : a.eval s = v) (hown : w.ownsRow base e size v n xs) (xv : Value) (m : Nat) (news : List Value) (hx : a.eval x = xv) (hsrc : Src P size tx xv m news w)
    (h63 : n + m ≤ maxLen) (hbytes : (n + m) * bytes ≤ 140737488355328) (hbase : base ≤ w.heap.size)
    (h : ∀ v' w', w'.ownsRow base e size v' (n + m) (xs ++ news) → w.grownBy w' v.ownBlock → Sprung w v v' → K (a.put o.dst v') w') :
    if Region.wanted o (yielded ops a.tmps) = true then Oper.wp P o a w K Q else E := by
  have hw : Region.wanted o (yielded ops a.tmps) = true := by simp [Region.wanted, hg]
  rw [if_pos hw]
  obtain ⟨v', w', hr, h2, h3, h4⟩ := run_append_src_own (P := P) w base t tx o.type e i z size bytes ht hi hz hsize hby hzs hsz v n xs hown xv m news hsrc h63 hbytes hbase
  unfold Oper.wp
  simp only [execOp, hop, resolve, invoke, builtin, Sem.run_bind, Sem.run_pure, Result.andThen_ok, List.map_toArray, List.map_cons, List.map_nil, hs, hx, hr]
  exact h _ _ h2 h3 h4

theorem src_three {P : Program} {t e : TypeId} (hk : P.underlying t = some (.slice e)) (w : World) (x y z : Int) (T : TypeId) : Src P 1 t (.slice (some ⟨w.heap.size, 0, none⟩) 3 3) 3 (u8s [x, y, z]) (w.alloc (.cells #[.int .u8 x, .int .u8 y, .int .u8 z] T)).drew := by
  refine Src.ofSlice _ hk _ _ _ _ rfl ?_ (u8s_one _)
  intro j u hj
  have hb := heap_alloc_new w (.cells #[.int .u8 x, .int .u8 y, .int .u8 z] T)
  match j, hj with
  | 0, hj => have e : u = .int .u8 x := by simpa [u8s] using hj.symm
             subst e; show World.cell? (w.alloc (.cells #[.int .u8 x, .int .u8 y, .int .u8 z] T)) ⟨w.heap.size, 0, none⟩ = _; rw [cell_of_row _ _ _ _ _ _ hb]; rfl
  | 1, hj => have e : u = .int .u8 y := by simpa [u8s] using hj.symm
             subst e; show World.cell? (w.alloc (.cells #[.int .u8 x, .int .u8 y, .int .u8 z] T)) ⟨w.heap.size, 1, none⟩ = _; rw [cell_of_row _ _ _ _ _ _ hb]; rfl
  | 2, hj => have e : u = .int .u8 z := by simpa [u8s] using hj.symm
             subst e; show World.cell? (w.alloc (.cells #[.int .u8 x, .int .u8 y, .int .u8 z] T)) ⟨w.heap.size, 2, none⟩ = _; rw [cell_of_row _ _ _ _ _ _ hb]; rfl
  | j + 3, hj => simp [u8s] at hj

theorem own_drew {w : World} {B e size n : Nat} {v : Value} {xs : List Value} (h : w.ownsRow B e size v n xs) : w.drew.ownsRow B e size v n xs := h

theorem row_three {w wr w1 : World} {v v1 : Value} {cs : List Int} {x y z : Int} {T : TypeId} (hE : Below w.heap.size w wr) (hW : wr.ownsRow w.heap.size 5 1 v cs.length (u8s cs)) (hown : w1.ownsRow w.heap.size 5 1 v1 (cs.length + 3) (u8s cs ++ u8s [x, y, z]))
    (hgr : (wr.alloc (.cells #[.int .u8 x, .int .u8 y, .int .u8 z] T)).drew.grownBy w1 v.ownBlock) : w1.ownsRow w.heap.size 5 1 v1 (cs ++ [x, y, z]).length (u8s (cs ++ [x, y, z])) ∧ Below w.heap.size w w1 := by
  refine ⟨by rw [u8s_append, List.length_append]; exact hown, ?_⟩
  exact ((hE.alloc hE.size _).trans ⟨rfl, rfl, rfl, Nat.le_refl _, fun _ _ => rfl⟩ : Below w.heap.size w (wr.alloc (.cells #[.int .u8 x, .int .u8 y, .int .u8 z] T)).drew).grown hgr (by have := hE.size; simp; omega) (fun k hk => (hW.lt k hk).1)

end Go.Proofs.YtifeakmbeaflgaaDoor

set_option linter.unusedVariables false
namespace Go.Proofs.YtifeakmbeaflgaaDoor
open Go.RowKit

def badN (c : Nat) : Bool := decide (c = 47 ∨ c = 0)
/-- A bad byte at some place from a place on. -/
def BadFrom (s : ByteArray) (p : Nat) : Prop := ∃ j, p ≤ j ∧ j < s.size ∧ badN (s.get! j).toNat = true

theorem dec_high (n b0 b1 b2 b3 : Nat) (h : 128 ≤ b0) : 128 ≤ (Lib.decodeN n b0 b1 b2 b3).1 ∧ 1 ≤ (Lib.decodeN n b0 b1 b2 b3).2 ∧ (2 ≤ (Lib.decodeN n b0 b1 b2 b3).2 → 128 ≤ b1) ∧ (3 ≤ (Lib.decodeN n b0 b1 b2 b3).2 → 128 ≤ b2) ∧ (4 ≤ (Lib.decodeN n b0 b1 b2 b3).2 → 128 ≤ b3) ∧ (Lib.decodeN n b0 b1 b2 b3).2 ≤ 4 := by
  unfold Lib.decodeN
  rw [if_neg (by omega)]
  repeat' split
  all_goals (simp only; refine ⟨by omega, by omega, fun _ => by omega, fun _ => by omega, fun _ => by omega, by omega⟩)

theorem idx_bad (s : ByteArray) : ∀ (f p : Nat), s.size - p ≤ f → (0 ≤ Lib.idxFuncFrom badN true s f p ↔ BadFrom s p)
  | 0, p, h => by
    constructor
    · intro h1; simp [Lib.idxFuncFrom] at h1
    · rintro ⟨j, h1, h2, _⟩; omega
  | f + 1, p, h => by
    unfold Lib.idxFuncFrom
    by_cases hp : p < s.size
    · rw [if_pos hp]
      have hd := Lib.decode_at s p
      by_cases hb : (s.get! p).toNat < 128
      · have e : Utf8.decode s p = ((s.get! p).toNat, 1) := by rw [hd]; unfold Lib.decodeN; rw [if_pos hb]
        rw [e]
        simp only
        cases hc : badN (s.get! p).toNat with
        | true => rw [if_pos rfl]; exact ⟨fun _ => ⟨p, Nat.le_refl _, hp, hc⟩, fun _ => by omega⟩
        | false =>
          rw [if_neg (by decide), idx_bad s f (p + 1) (by omega)]
          constructor
          · rintro ⟨j, h1, h2, h3⟩; exact ⟨j, by omega, h2, h3⟩
          · rintro ⟨j, h1, h2, h3⟩
            refine ⟨j, ?_, h2, h3⟩
            rcases Nat.eq_or_lt_of_le h1 with rfl | h'
            · rw [hc] at h3; cases h3
            · omega
      · have D := dec_high (s.size - p) (s.get! p).toNat (s.get! (p + 1)).toNat (s.get! (p + 2)).toNat (s.get! (p + 3)).toNat (by omega)
        rw [← hd] at D
        generalize Utf8.decode s p = d at D
        obtain ⟨r, wd⟩ := d
        simp only at D ⊢
        obtain ⟨D1, D2, D3, D4, D5, D6⟩ := D
        have hr : badN r = false := by unfold badN; simp; omega
        rw [hr, if_neg (by decide), idx_bad s f (p + wd) (by omega)]
        constructor
        · rintro ⟨j, h1, h2, h3⟩; exact ⟨j, by omega, h2, h3⟩
        · rintro ⟨j, h1, h2, h3⟩
          refine ⟨j, ?_, h2, h3⟩
          rcases Nat.lt_or_ge j (p + wd) with h' | h'
          · exfalso
            have hbj : 128 ≤ (s.get! j).toNat := by
              rcases (show j = p ∨ j = p + 1 ∨ j = p + 2 ∨ j = p + 3 by omega) with rfl | rfl | rfl | rfl
              · omega
              · exact D3 (by omega)
              · exact D4 (by omega)
              · exact D5 (by omega)
            unfold badN at h3
            simp at h3
            omega
          · exact h'
    · rw [if_neg hp]
      constructor
      · intro h1; simp at h1
      · rintro ⟨j, h1, h2, _⟩; omega

set_option maxRecDepth 100000 in
set_option maxHeartbeats 400000 in
theorem lit_any (w : World) (x : Nat) : Calls Tryd.prog 74 #[.int .i32 x] w fun e w' => e = .returned (.bool (badN x)) ∧ w = w' := by
  have hcase : (x = 47 ∧ badN x = true) ∨ (x ≠ 47 ∧ x = 0 ∧ badN x = true) ∨ (x ≠ 47 ∧ x ≠ 0 ∧ badN x = false) := by
    unfold badN
    by_cases h1 : x = 47 <;> by_cases h2 : x = 0 <;> simp [h1, h2]
  rcases hcase with ⟨h1, h⟩ | ⟨h1, h2, h⟩ | ⟨h1, h2, h⟩
  · subst h1
    go_enter Tryd.func74, Tryd.ntmps74
    go_wp2
    go_returns
    exact ⟨rfl, rfl⟩
  · subst h2
    go_enter Tryd.func74, Tryd.ntmps74
    go_wp2
    go_returns
    exact ⟨rfl, rfl⟩
  · have t1 := bneb_ (x : Int) 47 (by omega)
    have t2 := bneb_ (x : Int) 0 (by omega)
    have E := Lib.hid h
    clear h h1 h2
    go_enter Tryd.func74, Tryd.ntmps74
    go_wp2
    go_returns
    exact ⟨ret_b E.out.symm, rfl⟩
end Go.Proofs.YtifeakmbeaflgaaDoor

set_option linter.unusedVariables false
namespace Go.Proofs.YtifeakmbeaflgaaDoor
open Go.RowKit

def Lits (s : ByteArray) : Prop := s = ⟨#[]⟩ ∨ s = ⟨#[46]⟩ ∨ s = ⟨#[46, 46]⟩
/-- The number that Check answers. -/
def CheckIs (s : ByteArray) (c : Int) : Prop :=
  ((Lits s ∨ BadFrom s 0) ∧ c = 25) ∨ (¬ Lits s ∧ ¬ BadFrom s 0 ∧ 255 < s.size ∧ c = 26) ∨ (¬ Lits s ∧ ¬ BadFrom s 0 ∧ s.size ≤ 255 ∧ c = 0)
theorem eg26 : ∀ args w, (callFunc 74 args).run Tryd.prog w = .ok (.enter 74 args) w := enters_of Tryd.func74 (by kernel_rfl) rfl
theorem contains_any (w : World) (s : ByteArray) (b : Bool) (hb : b = true ↔ BadFrom s 0) :
    Calls Tryd.prog 73 #[.string s, .func (.func 74) #[] #[]] w fun e w' => e = .returned (.bool b) ∧ Below w.heap.size w w' := by
  have C := Tryd.strings_ContainsFunc_runes 74 #[] eg26 badN s w (fun W x _ _ => (lit_any W x).mono fun e w' h => ⟨h.1, 0, h.2.symm⟩)
  have e : decide (0 ≤ Lib.idxFunc badN true s) = b := by
    have h1 := idx_bad s s.size 0 (by omega)
    cases b with
    | true => exact decide_eq_true (h1.2 (hb.1 rfl))
    | false => exact decide_eq_false (fun h => by have := hb.2 (h1.1 h); cases this)
  rw [e] at C
  exact C

theorem ne_one {s : ByteArray} (h : s ≠ ⟨#[46]⟩) : (s.toList == [46]) = false := by
  have := tl_ne h
  rwa [show (ByteArray.mk #[46]).toList = [46] from by rw [ByteArray.toList_eq]] at this
theorem ne_two {s : ByteArray} (h : s ≠ ⟨#[46, 46]⟩) : (s.toList == [46, 46]) = false := by
  have := tl_ne h
  rwa [show (ByteArray.mk #[46, 46]).toList = [46, 46] from by rw [ByteArray.toList_eq]] at this

set_option maxRecDepth 100000 in
set_option maxHeartbeats 800000 in
theorem check_any (w : World) (s : ByteArray) (hs : s.size ≤ 1000000) (c : Int) (hc : CheckIs s c) : Calls Tryd.prog 36 #[.string s] w fun e w' => e = .returned (.int .i64 c) ∧ Below w.heap.size w w' := by
  by_cases hl : Lits s
  · obtain rfl : c = 25 := by rcases hc with h | h | h <;> first | exact h.2 | exact absurd hl h.1
    clear hc
    rcases hl with rfl | rfl | rfl
    all_goals
      go_enter Tryd.func36, Tryd.ntmps36
      go_wp2
      go_returns
      exact ⟨rfl, Below.refl _ _⟩
  · have n1 := ne_one (fun h => hl (.inr (.inl h)))
    have n2 := ne_two (fun h => hl (.inr (.inr h)))
    have hne : s.toList.isEmpty = false := by
      rw [ByteArray.toList_eq]
      cases hd : s.data.toList with
      | nil => exact absurd (.inl (ba_ext hd)) hl
      | cons a t => rfl
    by_cases hb : BadFrom s 0
    · obtain rfl : c = 25 := by rcases hc with h | h | h <;> first | exact h.2 | exact absurd hb h.2.1
      have C := Lib.hid (fun W => contains_any W s true ⟨fun _ => hb, fun _ => rfl⟩)
      clear hc hl hb
      go_enter Tryd.func36, Tryd.ntmps36
      go_wp2_with fail
      refine (C.out _).mono ?_
      rintro e w1 ⟨rfl, hb⟩
      have HB := Lib.hid hb
      clear hb
      go_wp2
      go_returns
      exact ⟨rfl, HB.out⟩
    · have C := Lib.hid (fun W => contains_any W s false ⟨fun h => absurd h (by decide), fun h => absurd h hb⟩)
      rcases hc with h | ⟨_, _, h2, rfl⟩ | ⟨_, _, h2, rfl⟩
      · exact absurd h.1 (fun h => h.elim hl hb)
      all_goals
        clear hl hb
        go_enter Tryd.func36, Tryd.ntmps36
        go_wp2_with fail
        refine (C.out _).mono ?_
        rintro e w1 ⟨rfl, hb⟩
        have HB := Lib.hid hb
        clear hb
        go_wp2
        go_returns
        exact ⟨rfl, HB.out⟩

set_option maxRecDepth 100000 in
set_option maxHeartbeats 800000 in
theorem has_any (w : World) (s : ByteArray) (hs : s.size ≤ 9223372036854775807) (x : Nat) (xi : Int) (hxi : xi = x) (b : Bool) (hb : b = true ↔ ∃ j, j < s.size ∧ (s.get! j).toNat = x) :
    Calls Tryd.prog 75 #[.string s, .int .u8 xi] w fun e w' => e = .returned (.bool b) ∧ w = w' := by
  have HB := Lib.hid hb
  clear hb
  go_enter Tryd.func75, Tryd.ntmps75
  go_wp2
  go_loop [5] (fun kv => ∃ k : Nat, kv = .int .i64 k ∧ k ≤ s.size ∧ Hid (∀ j, j < k → (s.get! j).toNat ≠ x)) (fun kv => s.size - (intOf kv).toNat)
  case atStart => exact ⟨0, rfl, by omega, fun j hj => by omega⟩
  case round =>
    obtain ⟨k, rfl, hk, hI⟩ := hrel
    by_cases hlt : k < s.size
    · have hg : s.get! k = s[k]'hlt := get_at s k hlt
      by_cases hx : (s[k]'hlt).toNat = x
      · have E : b = true := HB.out.2 ⟨k, hlt, by rw [hg]; exact hx⟩
        have HE := Lib.hid E
        have t1 := beqb_ ((s[k]'hlt).toNat : Int) xi (by omega)
        clear hx hg E
        go_wp2
        go_returns
        exact ⟨ret_b HE.out.symm, rfl⟩
      · have t1 := bneb_ ((s[k]'hlt).toNat : Int) xi (by omega)
        have NX := Lib.hid (fun j (hj : j < k + 1) => show (s.get! j).toNat ≠ x from if hji : j = k then by rw [hji, hg]; exact hx else hI.out j (by omega))
        clear hx hg
        go_wp2
        go_round
        case rel => exact ⟨k + 1, by go_num, by omega, NX.out⟩
        case measure => simp [intOf]; omega
    · have E : b = false := by
        cases hbb : b with
        | false => rfl
        | true =>
          obtain ⟨j, h1, h2⟩ := HB.out.1 hbb
          exact absurd h2 (hI.out j (by omega))
      have HE := Lib.hid E
      clear E
      go_wp2
      go_returns
      exact ⟨ret_b HE.out.symm, rfl⟩

theorem bad_has (s : ByteArray) : BadFrom s 0 ↔ (∃ j, j < s.size ∧ (s.get! j).toNat = 47) ∨ (∃ j, j < s.size ∧ (s.get! j).toNat = 0) := by
  unfold BadFrom badN
  constructor
  · rintro ⟨j, _, h2, h3⟩
    rcases of_decide_eq_true h3 with h | h
    · exact .inl ⟨j, h2, h⟩
    · exact .inr ⟨j, h2, h⟩
  · rintro (⟨j, h2, h⟩ | ⟨j, h2, h⟩)
    · exact ⟨j, by omega, h2, decide_eq_true (.inl h)⟩
    · exact ⟨j, by omega, h2, decide_eq_true (.inr h)⟩

set_option maxRecDepth 100000 in
set_option maxHeartbeats 800000 in
theorem rcheck_any (w : World) (s : ByteArray) (hs : s.size ≤ 9223372036854775807) (c : Int) (hc : CheckIs s c) : Calls Tryd.prog 38 #[.string s] w fun e w' => e = .returned (.int .i64 c) ∧ w = w' := by
  by_cases hl : Lits s
  · obtain rfl : c = 25 := by rcases hc with h | h | h <;> first | exact h.2 | exact absurd hl h.1
    clear hc
    rcases hl with rfl | rfl | rfl
    all_goals
      go_enter Tryd.func38, Tryd.ntmps38
      go_wp2
      go_returns
      exact ⟨rfl, rfl⟩
  · have n1 := ne_one (fun h => hl (.inr (.inl h)))
    have n2 := ne_two (fun h => hl (.inr (.inr h)))
    have hne : s.toList.isEmpty = false := by
      rw [ByteArray.toList_eq]
      cases hd : s.data.toList with
      | nil => exact absurd (.inl (ba_ext hd)) hl
      | cons a t => rfl
    have hbh := bad_has s
    by_cases h47 : ∃ j, j < s.size ∧ (s.get! j).toNat = 47
    · have C := Lib.hid (fun W => has_any W s hs 47 47 rfl true ⟨fun _ => h47, fun _ => rfl⟩)
      obtain rfl : c = 25 := by rcases hc with h | h | h <;> first | exact h.2 | exact absurd (hbh.2 (.inl h47)) h.2.1
      clear hc hl hbh h47
      go_enter Tryd.func38, Tryd.ntmps38
      go_wp2_with fail
      refine (C.out _).mono ?_
      rintro e w1 ⟨rfl, rfl⟩
      go_wp2
      go_returns
      exact ⟨rfl, rfl⟩
    · have C := Lib.hid (fun W => has_any W s hs 47 47 rfl false ⟨fun h => absurd h (by decide), fun h => absurd h h47⟩)
      by_cases h0 : ∃ j, j < s.size ∧ (s.get! j).toNat = 0
      · have D := Lib.hid (fun W => has_any W s hs 0 0 rfl true ⟨fun _ => h0, fun _ => rfl⟩)
        obtain rfl : c = 25 := by rcases hc with h | h | h <;> first | exact h.2 | exact absurd (hbh.2 (.inr h0)) h.2.1
        clear hc hl hbh h47 h0
        go_enter Tryd.func38, Tryd.ntmps38
        go_wp2_with fail
        refine (C.out _).mono ?_
        rintro e w1 ⟨rfl, rfl⟩
        go_wp2_with fail
        refine (D.out _).mono ?_
        rintro e w1 ⟨rfl, rfl⟩
        go_wp2
        go_returns
        exact ⟨rfl, rfl⟩
      · have D := Lib.hid (fun W => has_any W s hs 0 0 rfl false ⟨fun h => absurd h (by decide), fun h => absurd h h0⟩)
        rcases hc with h | ⟨_, _, h2, rfl⟩ | ⟨_, _, h2, rfl⟩
        · exact absurd h.1 (fun h => h.elim hl (fun h => (hbh.1 h).elim h47 h0))
        all_goals
          clear hl hbh h47 h0
          go_enter Tryd.func38, Tryd.ntmps38
          go_wp2_with fail
          refine (C.out _).mono ?_
          rintro e w1 ⟨rfl, rfl⟩
          go_wp2_with fail
          refine (D.out _).mono ?_
          rintro e w1 ⟨rfl, rfl⟩
          go_wp2
          go_returns
          exact ⟨rfl, rfl⟩
end Go.Proofs.YtifeakmbeaflgaaDoor

set_option linter.unusedVariables false
namespace Go.Proofs.YtifeakmbeaflgaaDoor
open Go.RowKit

theorem size_list (t : ByteArray) : t.data.toList.length = t.size := by rw [Array.length_toList]; rfl

theorem ext_list (s : ByteArray) (a b : Nat) : (s.extract a b).data.toList = (s.data.toList.take b).drop a := by
  rw [ByteArray.data_extract, Array.toList_extract, List.extract_eq_drop_take', ]

end Go.Proofs.YtifeakmbeaflgaaDoor

set_option linter.unusedVariables false
namespace Go.Proofs.YtifeakmbeaflgaaDoor
open Go.RowKit

def hexL : List Nat := [48, 49, 50, 51, 52, 53, 54, 55, 56, 57, 65, 66, 67, 68, 69, 70]
def hexAt (k : Nat) : Nat := hexL.getD k 0
/-- The worth of a digit; 16: none. -/
def hexOf (b : Nat) : Nat := if 48 ≤ b ∧ b ≤ 57 then b - 48 else if 65 ≤ b ∧ b ≤ 70 then b - 55 else 16
theorem hexAt_lo (k : Nat) (h : k < 10) : hexAt k = 48 + k := by
  rcases (show k = 0 ∨ k = 1 ∨ k = 2 ∨ k = 3 ∨ k = 4 ∨ k = 5 ∨ k = 6 ∨ k = 7 ∨ k = 8 ∨ k = 9 by omega) with rfl | rfl | rfl | rfl | rfl | rfl | rfl | rfl | rfl | rfl <;> rfl
theorem hexAt_hi (k : Nat) (h : 10 ≤ k) (h2 : k < 16) : hexAt k = 55 + k := by
  rcases (show k = 10 ∨ k = 11 ∨ k = 12 ∨ k = 13 ∨ k = 14 ∨ k = 15 by omega) with rfl | rfl | rfl | rfl | rfl | rfl <;> rfl
theorem hex_there (k : Nat) (h : k < 16) : hexOf (hexAt k) = k ∧ 48 ≤ hexAt k ∧ hexAt k ≤ 70 := by
  by_cases h1 : k < 10
  · rw [hexAt_lo k h1]; unfold hexOf; rw [if_pos (by omega)]; omega
  · rw [hexAt_hi k (by omega) h]; unfold hexOf; rw [if_neg (by omega), if_pos (by omega)]; omega
def oneN (c : Nat) : List Nat := if plainB c then [c] else [37, hexAt (c / 16), hexAt (c % 16)]
theorem oneN_plain {c : Nat} (h : plainB c = true) : oneN c = [c] := by unfold oneN; rw [if_pos h]
theorem oneN_hex {c : Nat} (h : plainB c = false) : oneN c = [37, hexAt (c / 16), hexAt (c % 16)] := by unfold oneN; rw [if_neg (by rw [h]; decide)]
theorem plain_bd {c : Nat} (h : plainB c = true) : 33 ≤ c ∧ c ≤ 126 := by unfold plainB at h; have := of_decide_eq_true h; omega

def nl (s : ByteArray) : List Nat := s.data.toList.map (·.toNat)
theorem nl_length (s : ByteArray) : (nl s).length = s.size := by unfold nl; rw [List.length_map, size_list]
theorem nl_lt (s : ByteArray) : ∀ x ∈ nl s, x < 256 := by
  intro x hx
  obtain ⟨b, _, rfl⟩ := List.mem_map.1 hx
  exact UInt8.toNat_lt _
theorem nl_get (s : ByteArray) (p : Nat) (h : p < s.size) : (nl s)[p]'(by rw [nl_length]; exact h) = (s[p]'h).toNat := by
  unfold nl
  rw [List.getElem_map]
  congr 1
theorem nl_extract (s : ByteArray) (a b : Nat) : nl (s.extract a b) = ((nl s).take b).drop a := by
  unfold nl; rw [ext_list, List.map_drop, List.map_take]
def ints (l : List Nat) : List Int := l.map (fun n : Nat => (n : Int))
theorem nl_str {l : List Nat} (h : ∀ x ∈ l, x < 256) : nl (strOfNums (ints l)) = l := by
  unfold nl ints
  rw [strOfNums_data, List.map_map, List.map_map]
  refine (List.map_congr_left (g := id) ?_).trans (List.map_id _)
  intro x hx
  have := h x hx
  show (UInt8.ofNat (x : Int).toNat).toNat = x
  rw [UInt8.toNat_ofNat']
  omega
theorem str_nl (s : ByteArray) : strOfNums (ints (nl s)) = s := by
  apply ba_ext
  unfold nl ints
  rw [strOfNums_data, List.map_map, List.map_map]
  refine (List.map_congr_left (g := id) ?_).trans (List.map_id _)
  intro x hx
  apply UInt8.toNat_inj.1
  have := UInt8.toNat_lt x
  show (UInt8.ofNat (x.toNat : Int).toNat).toNat = x.toNat
  rw [UInt8.toNat_ofNat']
  omega
theorem nl_ext {a b : ByteArray} (h : nl a = nl b) : a = b := by rw [← str_nl a, ← str_nl b, h]

def qn (l : List Nat) : List Nat := l.flatMap oneN
theorem oneN_good (c : Nat) (h : c < 256) : ∀ x ∈ oneN c, 33 ≤ x ∧ x ≤ 126 := by
  by_cases hp : plainB c = true
  · rw [oneN_plain hp]
    intro x hx
    obtain rfl : x = c := by simpa using hx
    exact plain_bd hp
  · rw [oneN_hex (eq_false_of_ne_true hp)]
    have a1 := hex_there (c / 16) (by omega)
    have a2 := hex_there (c % 16) (by omega)
    intro x hx
    rcases (show x = 37 ∨ x = hexAt (c / 16) ∨ x = hexAt (c % 16) by simpa using hx) with rfl | rfl | rfl <;> omega
theorem qn_good (l : List Nat) (h : ∀ x ∈ l, x < 256) : ∀ x ∈ qn l, 33 ≤ x ∧ x ≤ 126 := by
  intro x hx
  obtain ⟨c, hc, hx⟩ := List.mem_flatMap.1 hx
  exact oneN_good c (h c hc) x hx
theorem qn_snoc (l : List Nat) (c : Nat) : qn (l ++ [c]) = qn l ++ oneN c := by unfold qn; rw [List.flatMap_append]; simp
theorem oneN_len (c : Nat) : (oneN c).length ≤ 3 := by unfold oneN; split <;> simp
theorem qn_len (l : List Nat) : (qn l).length ≤ 3 * l.length := by
  induction l with
  | nil => simp [qn]
  | cons c t ih =>
    have e : qn (c :: t) = oneN c ++ qn t := List.flatMap_cons
    have := oneN_len c
    rw [e, List.length_append, List.length_cons]; omega
/-- A text quoted. -/
def quT (s : ByteArray) : ByteArray := strOfNums (ints (qn (nl s)))
theorem nl_quT (s : ByteArray) : nl (quT s) = qn (nl s) := nl_str (fun x hx => by have := qn_good _ (nl_lt s) x hx; omega)
end Go.Proofs.YtifeakmbeaflgaaDoor

set_option linter.unusedVariables false
namespace Go.Proofs.YtifeakmbeaflgaaDoor
open Go.RowKit

theorem hexT_size (h : Nat) (hh : h < 16) : h < (ByteArray.mk #[48, 49, 50, 51, 52, 53, 54, 55, 56, 57, 65, 66, 67, 68, 69, 70]).size := hh
theorem hex_at (h : Nat) (hh : h < 16) : (((ByteArray.mk #[48, 49, 50, 51, 52, 53, 54, 55, 56, 57, 65, 66, 67, 68, 69, 70])[h]'(hexT_size h hh)).toNat : Int) = (hexAt h : Nat) := by
  rcases (show h = 0 ∨ h = 1 ∨ h = 2 ∨ h = 3 ∨ h = 4 ∨ h = 5 ∨ h = 6 ∨ h = 7 ∨ h = 8 ∨ h = 9 ∨ h = 10 ∨ h = 11 ∨ h = 12 ∨ h = 13 ∨ h = 14 ∨ h = 15 by omega) with rfl | rfl | rfl | rfl | rfl | rfl | rfl | rfl | rfl | rfl | rfl | rfl | rfl | rfl | rfl | rfl <;> rfl
theorem hex_ext (h : Nat) (hh : h < 16) : nl ((ByteArray.mk #[48, 49, 50, 51, 52, 53, 54, 55, 56, 57, 65, 66, 67, 68, 69, 70]).extract h (h + 1)) = [hexAt h] := by
  rw [nl_extract]
  rcases (show h = 0 ∨ h = 1 ∨ h = 2 ∨ h = 3 ∨ h = 4 ∨ h = 5 ∨ h = 6 ∨ h = 7 ∨ h = 8 ∨ h = 9 ∨ h = 10 ∨ h = 11 ∨ h = 12 ∨ h = 13 ∨ h = 14 ∨ h = 15 by omega) with rfl | rfl | rfl | rfl | rfl | rfl | rfl | rfl | rfl | rfl | rfl | rfl | rfl | rfl | rfl | rfl <;> rfl
theorem nl_append (a b : ByteArray) : nl (a ++ b) = nl a ++ nl b := by
  unfold nl; rw [ByteArray.data_append, Array.toList_append, List.map_append]

theorem src_row_one (W : World) (x : Int) (T : TypeId) : (convert 36 9 (.slice (some ⟨W.heap.size, 0, none⟩) 1 1)).run Tryd.prog (W.alloc (.cells #[.int .u8 x] T)) = .ok (.string (strOfNums [x])) (W.alloc (.cells #[.int .u8 x] T)) := by
  refine run_convert_bytes_arg _ 36 5 Tryd.underlying36 Tryd.underlying5 W.heap.size 0 1 1 [x] rfl (fun i hi => ?_) 9 Tryd.underlying9
  obtain rfl : i = 0 := by omega
  exact cell_of_one (heap_alloc_new W (.cells #[.int .u8 x] T))

set_option maxRecDepth 100000 in
set_option maxHeartbeats 800000 in
theorem one_any (w : World) (c : Nat) (hc : c < 256) (t : ByteArray) (ht : nl t = oneN c) : Calls Tryd.prog 78 #[.int .u8 c] w fun e w' => e = .returned (.string t) ∧ Below w.heap.size w w' := by
  have hcase : (c < 33 ∧ plainB c = false) ∨ (33 ≤ c ∧ 126 < c ∧ plainB c = false) ∨ (33 ≤ c ∧ c ≤ 126 ∧ c = 37 ∧ plainB c = false) ∨ (33 ≤ c ∧ c ≤ 126 ∧ c ≠ 37 ∧ plainB c = true) := by
    unfold plainB
    by_cases h1 : 33 ≤ c <;> by_cases h2 : c ≤ 126 <;> by_cases h3 : c = 37 <;> simp <;> omega
  obtain ⟨h, hh⟩ : ∃ h : Nat, h = c / 16 := ⟨_, rfl⟩
  obtain ⟨l, hl⟩ : ∃ l : Nat, l = c % 16 := ⟨_, rfl⟩
  have hh16 : h < 16 := by omega
  have hl16 : l < 16 := by omega
  by_cases hp : plainB c = true
  · have hb : 33 ≤ c ∧ c ≤ 126 ∧ c ≠ 37 := by rcases hcase with ⟨_, h⟩ | ⟨_, _, h⟩ | ⟨_, _, _, h⟩ | ⟨h1, h2, h3, _⟩ <;> first | exact ⟨h1, h2, h3⟩ | (rw [hp] at h; cases h)
    obtain ⟨b1, b2, b3⟩ := hb
    have E : t = strOfNums [(c : Int)] := by
      apply nl_ext
      rw [ht, oneN_plain hp]
      exact (nl_str (l := [c]) (by simp; omega)).symm
    have HE := Lib.hid E
    have cv1 := src_row_one w (c : Int) 5
    have t1 := neb_ (c : Int) 37 (by omega)
    have g1 : (32 : Int) < (c : Int) := by omega
    have g2 : (c : Int) < 127 := by omega
    clear E hcase hp ht hh hl b3
    go_enter Tryd.func78, Tryd.ntmps78
    go_wp2
    go_returns
    exact ⟨by rw [HE.out]; rfl, (Below.refl _ _).alloc (Nat.le_refl _) _⟩
  · have hp := eq_false_of_ne_true hp
    have E : ∀ x y : ByteArray, nl x = [hexAt h] → nl y = [hexAt l] → (⟨#[37]⟩ : ByteArray) ++ x ++ y = t := by
      intro x y hx hy
      apply nl_ext
      rw [ht, oneN_hex hp, nl_append, nl_append, hx, hy, ← hh, ← hl]
      rfl
    have HE := Lib.hid (E _ _ (hex_ext h hh16) (hex_ext l hl16))
    have e1 : (c : Int) / 16 = (h : Int) := by omega
    have e2 : (c : Int) % 16 = (l : Int) := by omega
    have g3 : (h : Int) < 16 := by omega
    have g4 : (l : Int) < 16 := by omega
    have hcase2 : c < 33 ∨ (33 ≤ c ∧ 126 < c) ∨ (33 ≤ c ∧ c ≤ 126 ∧ c = 37) := by
      rcases hcase with ⟨h1, _⟩ | ⟨h1, h2, _⟩ | ⟨h1, h2, h3, _⟩ | ⟨h1, h2, h3, hp2⟩
      · exact .inl h1
      · exact .inr (.inl ⟨h1, h2⟩)
      · exact .inr (.inr ⟨h1, h2, h3⟩)
      · rw [hp] at hp2; cases hp2
    clear E ht hh hl hp hcase
    rcases hcase2 with h1 | ⟨h1, h2⟩ | ⟨h1, h2, h3⟩
    · have g5 : (c : Int) ≤ 32 := by omega
      go_enter Tryd.func78, Tryd.ntmps78
      go_wp2
      go_quiet (fail)
      go_wp2
      go_returns
      exact ⟨by rw [← HE.out]; first | rfl | simp, ⟨rfl, rfl, rfl, Nat.le_refl _, fun _ _ => rfl⟩⟩
    · have g5 : (32 : Int) < (c : Int) := by omega
      have g6 : (127 : Int) ≤ (c : Int) := by omega
      go_enter Tryd.func78, Tryd.ntmps78
      go_wp2
      go_quiet (fail)
      go_wp2
      go_returns
      exact ⟨by rw [← HE.out]; first | rfl | simp, ⟨rfl, rfl, rfl, Nat.le_refl _, fun _ _ => rfl⟩⟩
    · have t1 := eqb_ (c : Int) 37 (by omega)
      have g5 : (32 : Int) < (c : Int) := by omega
      have g6 : (c : Int) < 127 := by omega
      clear h3
      go_enter Tryd.func78, Tryd.ntmps78
      go_wp2
      go_quiet (fail)
      go_wp2
      go_returns
      exact ⟨by rw [← HE.out]; first | rfl | simp, ⟨rfl, rfl, rfl, Nat.le_refl _, fun _ _ => rfl⟩⟩

set_option maxRecDepth 100000 in
set_option maxHeartbeats 1600000 in
theorem quote_any (w : World) (s : ByteArray) (hs : s.size ≤ 100000) : Calls Tryd.prog 44 #[.string s] w fun e w' => e = .returned (.string (quT s)) ∧ Below w.heap.size w w' := by
  obtain ⟨i0, hi, hz0, hz1, hz2⟩ := info_parts Tryd.info5
  go_enter Tryd.func44, Tryd.ntmps44
  go_wp2
  go_loopw [3, 8] (fun bv av wr => ∃ (k : Nat) (cs : List Int), av = .int .i64 k ∧ k ≤ s.size ∧ Hid (cs = ints (qn ((nl s).take k))) ∧ wr.ownsRow w.heap.size 5 1 bv cs.length (u8s cs) ∧ Below w.heap.size w wr) (fun _ av _ => s.size - (intOf av).toNat)
  case atStart => exact ⟨0, [], rfl, by omega, Lib.hid rfl, World.ownsRow_nil _ _ _ _, Below.refl _ _⟩
  case round =>
    obtain ⟨k, cs, rfl, hk, HC, hW, hE⟩ := hrel
    have HW := Lib.hid hW
    have HE := Lib.hid hE
    have hB2 := hE.size
    have hl : cs.length ≤ 300000 := by
      rw [HC.out]
      unfold ints
      rw [List.length_map]
      have h1 := qn_len ((nl s).take k)
      have h2 : ((nl s).take k).length ≤ k := List.length_take_le _ _
      omega
    by_cases hlt : k < s.size
    · have HT : Hid ((nl s).take (k + 1) = (nl s).take k ++ [(s[k]'hlt).toNat]) := Lib.hid (by
        rw [List.take_succ_eq_append_getElem (by rw [nl_length]; exact hlt), nl_get s k hlt])
      have hx256 : (s[k]'hlt).toNat < 256 := UInt8.toNat_lt _
      obtain ⟨ao, cp, rfl⟩ := own_shape hW
      have P := Lib.hid (fun W => plain_any W (s[k]'hlt).toNat)
      clear hW hE
      generalize hgx : (s[k]'hlt).toNat = x at *
      by_cases hp : plainB x = true
      · rw [hp] at P
        have HN : Hid (ints (qn ((nl s).take (k + 1))) = cs ++ [(x : Int)]) := Lib.hid (by
          rw [HT.out, qn_snoc, oneN_plain hp, HC.out]; unfold ints; rw [List.map_append]; rfl)
        clear hp
        go_wp2_with fail
        refine (P.out _).mono ?_
        rintro e w1 ⟨rfl, rfl⟩
        go_wp2_with (at_builtin; refine wpList_append_src_own rfl (.tmp 16) (.tmp 18) 36 36 rfl w.heap.size 5 i0 (.int .u8 0) 1 1 Tryd.underlying36 hi hz0 hz1 hz2 rfl (by decide) _ _ _ rfl (HW.out.alloc _) _ 1 _ rfl (src_one Tryd.underlying36 _ (x : Int) 5) (by unfold maxLen; omega) (by omega) (by simp; omega) ?_; intro v3 w3 hown hgr hspr; have K := Lib.hid (row_one HE.out HW.out hown hgr); clear hown hgr hspr)
        go_roundw
        case rel => exact ⟨k + 1, cs ++ [(x : Int)], by go_num, by omega, Lib.hid HN.out.symm, K.out.1, K.out.2⟩
        case measure => simp [intOf]; omega
      · have hp := eq_false_of_ne_true hp
        rw [hp] at P
        obtain ⟨h, hh⟩ : ∃ h : Nat, h = x / 16 := ⟨_, rfl⟩
        obtain ⟨l, hl2⟩ : ∃ l : Nat, l = x % 16 := ⟨_, rfl⟩
        have hh16 : h < 16 := by omega
        have hl16 : l < 16 := by omega
        have HN : Hid (ints (qn ((nl s).take (k + 1))) = cs ++ [37, (hexAt h : Int), (hexAt l : Int)]) := Lib.hid (by
          rw [HT.out, qn_snoc, oneN_hex hp, HC.out, hh, hl2]; unfold ints; rw [List.map_append]; rfl)
        have d1 := hex_at h hh16
        have d2 := hex_at l hl16
        have e1 : (x : Int) / 16 = (h : Int) := by omega
        have e2 : (x : Int) % 16 = (l : Int) := by omega
        have e3 : (x : Int).tdiv 16 = (h : Int) := by rw [Int.tdiv_eq_ediv_of_nonneg (by omega)]; omega
        have e4 : (x : Int).tmod 16 = (l : Int) := by rw [Int.tmod_eq_emod_of_nonneg (by omega)]; omega
        have g3 : (h : Int) < 16 := by omega
        have g4 : (l : Int) < 16 := by omega
        have w3 : IntKind.u8.wrap (h : Int) = (h : Int) := by unfold IntKind.wrap; simp [IntKind.bits, IntKind.signed]; omega
        have w4 : IntKind.u8.wrap (l : Int) = (l : Int) := by unfold IntKind.wrap; simp [IntKind.bits, IntKind.signed]; omega
        clear hp hh hl2
        go_wp2_with fail
        refine (P.out _).mono ?_
        rintro e w1 ⟨rfl, rfl⟩
        go_wp2
        go_region_law (refine step_append_own rfl (.tmp 20) (.tmp 27) 36 36 rfl w.heap.size 5 i0 (.int .u8 0) 1 1 Tryd.underlying36 hi hz0 hz1 hz2 rfl (by decide) _ _ _ rfl (own_drew (HW.out.alloc _)) _ 3 _ rfl (src_three Tryd.underlying36 _ _ _ _ 5) (by unfold maxLen; omega) (by omega) (by simp; omega) ?_; intro v3 w3 hown hgr hspr; have K := Lib.hid (row_three HE.out HW.out hown hgr); clear hown hgr hspr)
        all_goals
          go_wp2
          go_roundw
          case rel => exact ⟨k + 1, cs ++ [37, (hexAt h : Int), (hexAt l : Int)], by go_num, by omega, Lib.hid HN.out.symm, K.out.1, K.out.2⟩
          case measure => simp [intOf]; omega
    · have hke : k = s.size := by omega
      have hcs : strOfNums cs = quT s := by rw [HC.out, List.take_of_length_le (by rw [nl_length]; omega)]; rfl
      obtain ⟨ao, cp, rfl⟩ := own_shape hW
      have cvt := conv_own hW
      rw [hcs] at cvt
      clear hW hE hcs hke
      go_wp2
      go_returns
      exact ⟨rfl, HE.out⟩

set_option maxRecDepth 100000 in
set_option maxHeartbeats 800000 in
theorem rquote_any (w : World) (s : ByteArray) (hs : s.size ≤ 100000) : Calls Tryd.prog 47 #[.string s] w fun e w' => e = .returned (.string (quT s)) ∧ Below w.heap.size w w' := by
  go_enter Tryd.func47, Tryd.ntmps47
  go_wp2
  go_loopw [3, 4] (fun tv av wr => ∃ (k : Nat) (t : ByteArray), av = .int .i64 k ∧ tv = .string t ∧ k ≤ s.size ∧ Hid (nl t = qn ((nl s).take k)) ∧ Below w.heap.size w wr) (fun _ av _ => s.size - (intOf av).toNat)
  case atStart => exact ⟨0, ⟨#[]⟩, rfl, rfl, by omega, Lib.hid rfl, Below.refl _ _⟩
  case round =>
    obtain ⟨k, t, rfl, rfl, hk, HC, hE⟩ := hrel
    have HE := Lib.hid hE
    clear hE
    by_cases hlt : k < s.size
    · have HT : Hid ((nl s).take (k + 1) = (nl s).take k ++ [(s[k]'hlt).toNat]) := Lib.hid (by
        rw [List.take_succ_eq_append_getElem (by rw [nl_length]; exact hlt), nl_get s k hlt])
      have hx256 : (s[k]'hlt).toNat < 256 := UInt8.toNat_lt _
      obtain ⟨u, hu⟩ : ∃ u : ByteArray, nl u = oneN (s[k]'hlt).toNat := ⟨strOfNums (ints (oneN (s[k]'hlt).toNat)), nl_str (fun x hx => by have := oneN_good _ hx256 x hx; omega)⟩
      have P := Lib.hid (fun W => one_any W (s[k]'hlt).toNat hx256 u hu)
      have HN : Hid (nl (t ++ u) = qn ((nl s).take (k + 1))) := Lib.hid (by
        rw [HT.out, qn_snoc, nl_append, HC.out, hu])
      have z1 : u.size ≤ 3 := by rw [← nl_length, hu]; exact oneN_len _
      have z2 : t.size ≤ 300000 := by
        rw [← nl_length, HC.out]
        have h1 := qn_len ((nl s).take k)
        have h2 : ((nl s).take k).length ≤ k := List.length_take_le _ _
        omega
      clear hu
      go_wp2_with fail
      refine (P.out _).mono ?_
      rintro e w1 ⟨rfl, hb⟩
      have B := Lib.hid (HE.out.trans (hb.mono HE.out.size))
      clear hb
      go_wp2
      go_roundw
      case rel => exact ⟨k + 1, t ++ u, by go_num, rfl, by omega, HN, B.out⟩
      case measure => simp [intOf]; omega
    · have hke : k = s.size := by omega
      have E : t = quT s := nl_ext (by rw [HC.out, nl_quT, List.take_of_length_le (by rw [nl_length]; omega)])
      have HX := Lib.hid E
      clear E hke
      go_wp2
      go_returns
      exact ⟨by rw [HX.out]; rfl, HE.out⟩
end Go.Proofs.YtifeakmbeaflgaaDoor
