/- Merged by tools/merge.py: SClock, SNum, SLater, SCut, SParseW, SAwake, SDecMath, SBack, SCmpW, SDigW, SRNumW. -/
import Derived.Test.YtifeakmbeaflgaaDoorRows
import Derived.Test.YtifeakmbeaflgaaDoorShelf
import Derived.WalkKit
import Derived.WalkSpells
import Derived.Lib.Hide
import Derived.Lib.Walk
import Derived.OneCell
import Derived.LoopTactic
import Derived.Deep.Cut
import Derived.Outline
import Derived.Handy
import Derived.RegionTactic
import Derived.ChangeAlike
import Derived.Laws.RangeAny
import Derived.Lib.OthersKept
import Derived.Lib.DecodeN
import Derived.Below
import Derived.Deep.Quiet
import Derived.BigQuiet
import Derived.Lib.AppendIntMem
import Derived.Lib.IndexLaws
import Derived.Lib.LaidTab
import Derived.Lib.ItoaLen
import Derived.Deep.QuietTactic

set_option linter.unusedVariables false
namespace Go.Proofs.YtifeakmbeaflgaaDoor.St
open Go.RowKit

def rT (n : Int) : Bool := decide (1 ≤ n ∧ n ≤ 281474976710656)
def rR (n : Int) : Bool := decide (0 ≤ n ∧ n < 64)
theorem ret_b {a b : Bool} (h : a = b) : Ending.returned (.bool a) = .returned (.bool b) := by rw [h]
set_option maxRecDepth 100000 in
set_option maxHeartbeats 400000 in
theorem rtime_any (w : World) (n : Int) : Calls Tryd.prog 69 #[.int .i64 n] w fun e w' => e = .returned (.bool (rT n)) ∧ w = w' := by
  by_cases h : 1 ≤ n
  · go_enter Tryd.func69, Tryd.ntmps69
    go_wp2
    go_returns
    exact ⟨ret_b (by unfold rT; simp [h]), rfl⟩
  · have h' : decide (1 ≤ n) = false := by simpa using h
    have h'' : n < 1 := by omega
    go_enter Tryd.func69, Tryd.ntmps69
    go_wp2
    go_returns
    exact ⟨ret_b (by unfold rT; simp; omega), rfl⟩
set_option maxRecDepth 100000 in
set_option maxHeartbeats 400000 in
theorem rrep_any (w : World) (n : Int) : Calls Tryd.prog 70 #[.int .i64 n] w fun e w' => e = .returned (.bool (rR n)) ∧ w = w' := by
  by_cases h : 0 ≤ n
  · go_enter Tryd.func70, Tryd.ntmps70
    go_wp2
    go_returns
    exact ⟨ret_b (by unfold rR; simp [h]), rfl⟩
  · have h' : decide (0 ≤ n) = false := by simpa using h
    have h'' : n < 0 := by omega
    go_enter Tryd.func70, Tryd.ntmps70
    go_wp2
    go_returns
    exact ⟨ret_b (by unfold rR; simp; omega), rfl⟩

end Go.Proofs.YtifeakmbeaflgaaDoor.St

set_option linter.unusedVariables false
namespace Go.Proofs.YtifeakmbeaflgaaDoor.St
open Go.RowKit

theorem neb_ (a b : Int) (h : a ≠ b) : (a != b) = true := by simpa using h
theorem eqb_ (a b : Int) (h : a = b) : (a != b) = false := by simpa using h
end Go.Proofs.YtifeakmbeaflgaaDoor.St

set_option linter.unusedVariables false
namespace Go.Proofs.YtifeakmbeaflgaaDoor.St
open Go.RowKit

/-- A world in which all that stands in w stands as it did. -/
def Later (w : World) : Type := { w' : World // Below w.heap.size w w' }
def Later.w {w : World} (x : Later w) : World := x.val
theorem Later.below {w : World} (x : Later w) : Below w.heap.size w x.w := x.property
instance (w : World) : Nonempty (Later w) := ⟨⟨w, Below.refl _ _⟩⟩

theorem wp_region_later {P : Program} {id : Nat} {Q : Exit → Act → World → Prop} {a : Act} {w : World} {l : List Oper} (hm : P.follows .mixedOrders = true) (hB : Region.lexB .any l.toArray = true)
    (h : wpQuiet P l.toArray (fun w' => ∃ x : Later w, w' = x.w) (fun a' => ∀ w', (∃ x : Later w, w' = x.w) → Q .normal a' w') l a) : (Code.region id l.toArray true).wp P Q a w :=
  wp_region_quiet (C := fun w' => ∃ x : Later w, w' = x.w) hm hB ⟨⟨_, (Below.refl _ _).drew⟩, rfl⟩ (by simpa using h)

/-- A callee's contract there. -/
theorem later_call {P : Program} {f : FuncId} {args : Array Value} {w : World} {x : Later w} {v : Value}
    (h : Calls P f args x.w fun e w' => e = .returned v ∧ Below x.w.heap.size x.w w') : Calls P f args x.w fun e w'' => e = .returned v ∧ ∃ y : Later w, w'' = y.w :=
  h.mono fun _ w' ⟨he, hb⟩ => ⟨he, ⟨⟨w', x.below.trans (hb.mono x.below.size)⟩, rfl⟩⟩
end Go.Proofs.YtifeakmbeaflgaaDoor.St

set_option linter.unusedVariables false
namespace Go.Proofs.YtifeakmbeaflgaaDoor.St
open Go.RowKit

theorem tab_later {P : Program} {w w' : World} {name : String} {k : IntKind} {zs : List Int} (h : Lib.TabIs P w name k zs) (hb : Below w.heap.size w w') : Lib.TabIs P w' name k zs := by
  unfold Lib.TabIs World.var? at *
  cases hg : P.globalNamed name with
  | none => rw [hg] at h; simp at h
  | some g =>
    rw [hg] at h
    simp only [Option.bind_some] at h ⊢
    have hlt : g < w.heap.size := by
      rcases Nat.lt_or_ge g w.heap.size with h' | h'
      · exact h'
      · rw [Array.getElem?_eq_none h'] at h; simp at h
    rw [hb.block g hlt]
    exact h

/-- A number's digits. -/
def decS (n : Int) : ByteArray := ⟨(Lib.decDigits n.toNat).toArray⟩

set_option maxRecDepth 100000 in
set_option maxHeartbeats 400000 in
theorem digits_small (w : World) (n : Int) (h0 : 0 ≤ n) (h1 : n < 100) : Calls Tryd.prog 42 #[.int .i64 n] w fun e w' => e = .returned (.string (decS n)) ∧ Below w.heap.size w w' := by
  obtain ⟨i, rfl⟩ := Int.eq_ofNat_of_zero_le h0
  have hm : max (i : Int) 0 = i := by omega
  have C := Lib.hid (Tryd.strconv_Itoa_small i (by omega) w)
  go_enter Tryd.func42, Tryd.ntmps42
  go_wp2_with fail
  refine C.out.mono ?_
  rintro e w1 ⟨rfl, rfl⟩
  go_wp2
  go_returns
  exact ⟨rfl, Below.refl _ _⟩

def Tab (w : World) : Prop := Lib.TabIs Tryd.prog w "internal/strconv.uint64pow10" .u64 Lib.pow10Tab
set_option maxRecDepth 100000 in
set_option maxHeartbeats 400000 in
theorem digits_any (w : World) (n : Int) (h1 : n ≤ 9223372036854775807) (ht : Tab w) : Calls Tryd.prog 42 #[.int .i64 n] w fun e w' => e = .returned (.string (decS n)) ∧ Below w.heap.size w w' := by
  have hm : max n 0 = (n.toNat : Int) := (Int.toNat_eq_max _).symm
  have C := Lib.hid (Tryd.strconv_Itoa (n.toNat : Int) (by omega) (by omega) w ht)
  have hd : (⟨(Lib.itoa (n.toNat : Int)).toArray⟩ : ByteArray) = decS n := by rw [Lib.itoa_nonneg]; rfl
  rw [hd] at C
  have HM := Lib.hid hm
  clear hm hd ht
  go_enter Tryd.func42, Tryd.ntmps42
  go_wp2_with fail
  rw [HM.out]
  refine C.out.mono ?_
  rintro e w1 ⟨rfl, k, os, hw⟩
  have hb : Below w.heap.size w w1 := by rw [hw]; exact Lib.below_grow _ w (Nat.le_refl _) k os
  have HB := Lib.hid hb
  clear hw hb
  go_wp2
  go_returns
  exact ⟨rfl, HB.out⟩

theorem later_cell {W : World} {g j : Nat} {c : Array Value} {t : TypeId} {v : Value} (h : W.heap[g]? = some (.cells c t (0, 0))) (hv : c[j]? = some v) : ∀ x : Later W, x.w.cell? ⟨g, j, none⟩ = some v := fun x => by
  rw [x.below.cell (p := ⟨g, j, none⟩) (Array.getElem?_eq_some_iff.1 h).1, cell_of_row _ _ _ _ _ _ h, hv]

theorem decS_size (n : Int) (h1 : n ≤ 9223372036854775807) : (decS n).size ≤ 21 := by
  have := Lib.itoa_length_le (n.toNat : Int) (by omega) (by omega)
  rw [Lib.itoa_nonneg] at this
  unfold decS
  simpa [ByteArray.size] using this

/-- A stamp's text. -/
def textS (a b : Int) : ByteArray := decS a ++ ⟨#[46]⟩ ++ decS b

set_option maxRecDepth 100000 in
set_option maxHeartbeats 800000 in
theorem text_of (w : World) (a b : Int) (ha : a ≤ 9223372036854775807) (hb : b ≤ 9223372036854775807) (ca : ∀ x : Later w, Calls Tryd.prog 42 #[.int .i64 a] x.w fun e w' => e = .returned (.string (decS a)) ∧ Below x.w.heap.size x.w w')
    (cb : ∀ x : Later w, Calls Tryd.prog 42 #[.int .i64 b] x.w fun e w' => e = .returned (.string (decS b)) ∧ Below x.w.heap.size x.w w') :
    Calls Tryd.prog 41 #[.agg #[.int .i64 a, .int .i64 b]] w fun e w' => e = .returned (.string (textS a b)) ∧ Below w.heap.size w w' := by
  have hX := (Below.refl w.heap.size w).alloc (Nat.le_refl _) (.cells #[.int .i64 a, .int .i64 b] 23)
  have hbox := heap_alloc_new w (.cells #[.int .i64 a, .int .i64 b] 23)
  have k0 := later_cell hbox (j := 0) rfl
  have k1 := later_cell hbox (j := 1) rfl
  have CA0 : ∀ x : Later (w.alloc (.cells #[.int .i64 a, .int .i64 b] 23)), Calls Tryd.prog 42 #[.int .i64 a] x.w fun e w' => e = .returned (.string (decS a)) ∧ Below x.w.heap.size x.w w' := fun x => ca ⟨x.w, hX.trans (x.below.mono (by simp))⟩
  have CA := Lib.hid CA0
  have CB0 : ∀ x : Later (w.alloc (.cells #[.int .i64 a, .int .i64 b] 23)), Calls Tryd.prog 42 #[.int .i64 b] x.w fun e w' => e = .returned (.string (decS b)) ∧ Below x.w.heap.size x.w w' := fun x => cb ⟨x.w, hX.trans (x.below.mono (by simp))⟩
  have CB := Lib.hid CB0
  have HX := Lib.hid hX
  have sa := decS_size a ha
  have sb := decS_size b hb
  clear CA0 CB0 ca cb hX hbox
  go_enter Tryd.func41, Tryd.ntmps41
  go_wp2
  refine wp_region_later (by kernel_rfl) (by kernel_rfl) ?_
  repeat (go_big_quiet_step (first
    | (go_at_call 42; with_reducible exact later_call (CA.out _))
    | (go_at_call 42; with_reducible exact later_call (CB.out _))))
  refine wpQuiet_nil ?_
  intro _ hw'
  obtain ⟨xl, hw''⟩ := hw'
  subst hw''
  go_wp2
  go_returns
  exact ⟨rfl, HX.out.trans (xl.below.mono (by simp))⟩
end Go.Proofs.YtifeakmbeaflgaaDoor.St

set_option linter.unusedVariables false
namespace Go.Proofs.YtifeakmbeaflgaaDoor.St
open Go.RowKit

set_option maxRecDepth 100000 in
set_option maxHeartbeats 400000 in
theorem root_any (w : World) : Calls Tryd.prog 72 #[] w fun e w' => e = .returned (.agg #[.int .i64 0, .int .i64 0]) ∧ Below w.heap.size w w' := by
  go_enter Tryd.func72, Tryd.ntmps72
  go_wp2
  refine bodyPost_ret (v := .agg #[.int .i64 0, .int .i64 0]) (by simp [results, Tryd.results72, go_sem]) rfl ⟨rfl, ?_⟩
  exact (Below.refl _ _).alloc (Nat.le_refl _) _
set_option maxRecDepth 100000 in
set_option maxHeartbeats 400000 in
theorem trash_any (w : World) : Calls Tryd.prog 40 #[] w fun e w' => e = .returned (.agg #[.int .i64 0, .int .i64 1]) ∧ Below w.heap.size w w' := by
  go_enter Tryd.func40, Tryd.ntmps40
  go_wp2
  refine bodyPost_ret (v := .agg #[.int .i64 0, .int .i64 1]) (by simp [results, Tryd.results40, go_sem]) rfl ⟨rfl, ?_⟩
  exact (Below.refl _ _).alloc (Nat.le_refl _) _
def rightB (a b : Int) : Bool := rT a && rR b
set_option maxRecDepth 100000 in
set_option maxHeartbeats 400000 in
theorem right_any (w : World) (a b : Int) : Calls Tryd.prog 33 #[.agg #[.int .i64 a, .int .i64 b]] w fun e w' => e = .returned (.bool (rightB a b)) ∧ Below w.heap.size w w' := by
  have C := Lib.hid (fun W => rtime_any W a)
  have D := Lib.hid (fun W => rrep_any W b)
  unfold rightB
  generalize rT a = x at *
  generalize rR b = y at *
  cases x
  · go_enter Tryd.func33, Tryd.ntmps33
    go_wp2_with fail
    refine (C.out _).mono ?_
    rintro e w1 ⟨rfl, rfl⟩
    go_wp2
    go_returns
    exact ⟨rfl, (Below.refl _ _).alloc (Nat.le_refl _) _⟩
  · go_enter Tryd.func33, Tryd.ntmps33
    go_wp2_with fail
    refine (C.out _).mono ?_
    rintro e w1 ⟨rfl, rfl⟩
    go_wp2_with fail
    refine (D.out _).mono ?_
    rintro e w1 ⟨rfl, rfl⟩
    go_wp2
    go_returns
    exact ⟨rfl, (Below.refl _ _).alloc (Nat.le_refl _) _⟩

end Go.Proofs.YtifeakmbeaflgaaDoor.St

set_option linter.unusedVariables false
namespace Go.Proofs.YtifeakmbeaflgaaDoor.St
open Go.RowKit

theorem dec8 : decS 8 = ⟨#[56]⟩ := by unfold decS; rw [Lib.decDigits_one (by decide)]; rfl
end Go.Proofs.YtifeakmbeaflgaaDoor.St

set_option linter.unusedVariables false
namespace Go.Proofs.YtifeakmbeaflgaaDoor.St
open Go.RowKit

theorem dd_small {u : Nat} (h : u < 10) : Lib.decDigits u = [UInt8.ofNat (48 + u)] := Lib.decDigits_one h
theorem dd_big {u : Nat} (h : ¬ u < 10) : Lib.decDigits u = Lib.decDigits (u / 10) ++ [UInt8.ofNat (48 + u % 10)] := by
  conv => lhs; rw [Lib.decDigits, dif_neg h]
theorem ba_ext {a b : ByteArray} (h : a.data.toList = b.data.toList) : a = b := by
  cases a with | mk x => cases b with | mk y => exact congrArg ByteArray.mk (Array.ext' h)

end Go.Proofs.YtifeakmbeaflgaaDoor.St

set_option linter.unusedVariables false
namespace Go.Proofs.YtifeakmbeaflgaaDoor.St
open Go.RowKit

set_option maxRecDepth 100000 in
set_option maxHeartbeats 800000 in
theorem rright_any (w : World) (a b : Int) : Calls Tryd.prog 37 #[.agg #[.int .i64 a, .int .i64 b]] w fun e w' => e = .returned (.bool (rightB a b)) ∧ Below w.heap.size w w' := by
  have hcase : (a < 1 ∧ rightB a b = false) ∨ (1 ≤ a ∧ 281474976710656 < a ∧ rightB a b = false) ∨ (1 ≤ a ∧ a ≤ 281474976710656 ∧ b < 0 ∧ rightB a b = false) ∨ (1 ≤ a ∧ a ≤ 281474976710656 ∧ 0 ≤ b ∧ 63 < b ∧ rightB a b = false) ∨ (1 ≤ a ∧ a ≤ 281474976710656 ∧ 0 ≤ b ∧ b ≤ 63 ∧ rightB a b = true) := by
    unfold rightB rT rR
    by_cases h1 : 1 ≤ a <;> by_cases h2 : a ≤ 281474976710656 <;> by_cases h3 : 0 ≤ b <;> by_cases h4 : b ≤ 63 <;> simp <;> omega
  rcases hcase with ⟨h1, h⟩ | ⟨h1, h2, h⟩ | ⟨h1, h2, h3, h⟩ | ⟨h1, h2, h3, h4, h⟩ | ⟨h1, h2, h3, h4, h⟩
  all_goals
    have E := Lib.hid h
    clear h
    go_enter Tryd.func37, Tryd.ntmps37
    go_wp2
    go_returns
    exact ⟨ret_b (by first | exact E.out.symm | (rw [E.out]; done) | (rw [E.out]; simp; done) | (rw [E.out]; simp; omega)), (Below.refl _ _).alloc (Nat.le_refl _) _⟩
theorem text_any (w : World) (a b : Int) (ha : a ≤ 9223372036854775807) (hb : b ≤ 9223372036854775807) (ht : Tab w) :
    Calls Tryd.prog 41 #[.agg #[.int .i64 a, .int .i64 b]] w fun e w' => e = .returned (.string (textS a b)) ∧ Below w.heap.size w w' :=
  text_of w a b ha hb (fun x => digits_any x.w a ha (tab_later ht x.below)) (fun x => digits_any x.w b hb (tab_later ht x.below))

end Go.Proofs.YtifeakmbeaflgaaDoor.St

set_option linter.unusedVariables false
namespace Go.Proofs.YtifeakmbeaflgaaDoor.St
open Go.RowKit

def lessB (a1 a2 b1 b2 : Int) : Bool := if a1 = b1 then decide (a2 < b2) else decide (a1 < b1)
def cmpS (a1 a2 b1 b2 : Int) : Int := if a1 = b1 then Lib.compareInt a2 b2 else Lib.compareInt a1 b1
theorem cmp_less (a1 a2 b1 b2 : Int) : (lessB a1 a2 b1 b2 = true ∧ cmpS a1 a2 b1 b2 = -1) ∨ (lessB a1 a2 b1 b2 = false ∧ lessB b1 b2 a1 a2 = true ∧ cmpS a1 a2 b1 b2 = 1) ∨ (lessB a1 a2 b1 b2 = false ∧ lessB b1 b2 a1 a2 = false ∧ cmpS a1 a2 b1 b2 = 0) := by
  unfold lessB cmpS Lib.compareInt
  by_cases h : a1 = b1
  · subst h
    simp only [if_true, decide_eq_true_eq, decide_eq_false_iff_not]
    by_cases h1 : a2 < b2
    · simp [h1]
    · by_cases h2 : b2 < a2
      · first | (simp [h1, h2]; done) | (simp [h1, h2]; omega)
      · first | (simp [h1, h2]; done) | (simp [h1, h2]; omega)
  · have h' : ¬ b1 = a1 := fun e => h e.symm
    simp only [h, h', if_false, decide_eq_true_eq, decide_eq_false_iff_not]
    by_cases h1 : a1 < b1
    · simp [h1]
    · by_cases h2 : b1 < a1
      · first | (simp [h1, h2]; done) | (simp [h1, h2]; omega)
      · omega

set_option maxRecDepth 100000 in
set_option maxHeartbeats 800000 in
theorem less_any (w : World) (a1 a2 b1 b2 : Int) : Calls Tryd.prog 32 #[.agg #[.int .i64 a1, .int .i64 a2], .agg #[.int .i64 b1, .int .i64 b2]] w fun e w' => e = .returned (.bool (lessB a1 a2 b1 b2)) ∧ Below w.heap.size w w' := by
  have E := Lib.hid (show lessB a1 a2 b1 b2 = if a1 = b1 then decide (a2 < b2) else decide (a1 < b1) from rfl)
  have X := Lib.hid (((Below.refl w.heap.size w).alloc (Nat.le_refl _) (.cells #[.int .i64 a1, .int .i64 a2] 23)).alloc (by simp) (.cells #[.int .i64 b1, .int .i64 b2] 23))
  by_cases h : a1 = b1
  · have t1 := eqb_ a1 b1 h
    have H := Lib.hid h
    clear h
    go_enter Tryd.func32, Tryd.ntmps32
    go_wp2
    go_returns
    exact ⟨ret_b (by rw [E.out, if_pos H.out]), X.out⟩
  · have t1 := neb_ a1 b1 h
    have H := Lib.hid h
    clear h
    go_enter Tryd.func32, Tryd.ntmps32
    go_wp2
    go_returns
    exact ⟨ret_b (by rw [E.out, if_neg H.out]), X.out⟩

set_option maxRecDepth 100000 in
set_option maxHeartbeats 800000 in
theorem compare_any (w : World) (a1 a2 b1 b2 : Int) : Calls Tryd.prog 34 #[.agg #[.int .i64 a1, .int .i64 a2], .agg #[.int .i64 b1, .int .i64 b2]] w fun e w' => e = .returned (.int .i64 (cmpS a1 a2 b1 b2)) ∧ Below w.heap.size w w' := by
  have E := Lib.hid (show cmpS a1 a2 b1 b2 = if a1 = b1 then Lib.compareInt a2 b2 else Lib.compareInt a1 b1 from rfl)
  have X := Lib.hid (((Below.refl w.heap.size w).alloc (Nat.le_refl _) (.cells #[.int .i64 a1, .int .i64 a2] 23)).alloc (by simp) (.cells #[.int .i64 b1, .int .i64 b2] 23))
  have C1 := Lib.hid (fun W => Tryd.cmp_Compare_int a1 b1 W)
  have C2 := Lib.hid (fun W => Tryd.cmp_Compare_int a2 b2 W)
  by_cases h : a1 = b1
  · have t1 := eqb_ a1 b1 h
    rw [if_pos h] at E
    clear h
    go_enter Tryd.func34, Tryd.ntmps34
    go_wp2_with fail
    refine (C2.out _).mono ?_
    rintro e w1 ⟨rfl, rfl⟩
    go_wp2
    go_returns
    exact ⟨by rw [E.out]; rfl, X.out⟩
  · have t1 := neb_ a1 b1 h
    rw [if_neg h] at E
    clear h
    go_enter Tryd.func34, Tryd.ntmps34
    go_wp2_with fail
    refine (C1.out _).mono ?_
    rintro e w1 ⟨rfl, rfl⟩
    go_wp2
    go_returns
    exact ⟨by rw [E.out]; rfl, X.out⟩

end Go.Proofs.YtifeakmbeaflgaaDoor.St

set_option linter.unusedVariables false
namespace Go.Proofs.YtifeakmbeaflgaaDoor.St
open Go.RowKit

theorem dig_str (k : Nat) (h : k < 10) : (ByteArray.mk #[48, 49, 50, 51, 52, 53, 54, 55, 56, 57]).extract k (k + 1) = ⟨#[UInt8.ofNat (48 + k)]⟩ := by
  have : ∀ k : Fin 10, (ByteArray.mk #[48, 49, 50, 51, 52, 53, 54, 55, 56, 57]).extract k.1 (k.1 + 1) = ⟨#[UInt8.ofNat (48 + k.1)]⟩ := by decide +kernel
  exact this ⟨k, h⟩
theorem decS_small (u : Nat) (h : u < 10) : decS (u : Int) = (ByteArray.mk #[48, 49, 50, 51, 52, 53, 54, 55, 56, 57]).extract u (u + 1) := by
  rw [dig_str u h]
  unfold decS
  rw [Int.toNat_natCast, dd_small h]
theorem decS_big (u : Nat) (h : ¬ u < 10) : decS (u : Int) = decS ((u / 10 : Nat) : Int) ++ (ByteArray.mk #[48, 49, 50, 51, 52, 53, 54, 55, 56, 57]).extract (u % 10) (u % 10 + 1) := by
  rw [dig_str (u % 10) (by omega)]
  refine ba_ext ?_
  unfold decS
  simp only [Int.toNat_natCast]
  rw [dd_big h]
  simp [ByteArray.data_append]

set_option maxRecDepth 100000 in
set_option maxHeartbeats 1600000 in
theorem rdig_nat : ∀ (u : Nat) (hu : u ≤ 9223372036854775807) (w : World), Calls Tryd.prog 46 #[.int .i64 (u : Int)] w fun e w' => e = .returned (.string (decS u)) ∧ Below w.heap.size w w' := by
  intro u
  induction u using Nat.strongRecOn with
  | ind u ih =>
    intro hu w
    by_cases h : u < 10
    · have E := Lib.hid (decS_small u h)
      go_enter Tryd.func46, Tryd.ntmps46
      go_wp2
      go_returns
      exact ⟨by rw [E.out]; rfl, Below.refl _ _⟩
    · have E := Lib.hid (decS_big u h)
      have C := Lib.hid (fun x : Later w => ih (u / 10) (by omega) (by omega) x.w)
      have hq : ((u / 10 : Nat) : Int) = (u : Int) / 10 := by omega
      rw [hq] at C E
      have hsz := decS_size ((u : Int) / 10) (by omega)
      clear ih hq
      go_enter Tryd.func46, Tryd.ntmps46
      go_wp2
      refine wp_region_later (by kernel_rfl) (by kernel_rfl) ?_
      repeat (go_big_quiet_step (first
        | (go_at_call 46; with_reducible exact later_call (C.out _))))
      refine wpQuiet_nil ?_
      intro _ hw'
      obtain ⟨xl, hw''⟩ := hw'
      subst hw''
      go_wp2
      go_returns
      exact ⟨by rw [E.out]; rfl, xl.below⟩
end Go.Proofs.YtifeakmbeaflgaaDoor.St

set_option linter.unusedVariables false
namespace Go.Proofs.YtifeakmbeaflgaaDoor.St
open Go.RowKit

set_option maxRecDepth 100000 in
set_option maxHeartbeats 400000 in
theorem rdig_any (w : World) (n : Int) (h1 : n ≤ 9223372036854775807) : Calls Tryd.prog 46 #[.int .i64 n] w fun e w' => e = .returned (.string (decS n)) ∧ Below w.heap.size w w' := by
  by_cases h : n < 0
  · have E := Lib.hid (show decS n = ⟨#[48]⟩ by unfold decS; rw [Int.toNat_of_nonpos (by omega), dd_small (by omega)]; rfl)
    go_enter Tryd.func46, Tryd.ntmps46
    go_wp2
    go_returns
    exact ⟨by rw [E.out]; rfl, Below.refl _ _⟩
  · obtain ⟨u, rfl⟩ : ∃ u : Nat, n = u := ⟨n.toNat, by omega⟩
    exact rdig_nat u (by omega) w

set_option maxRecDepth 100000 in
set_option maxHeartbeats 800000 in
theorem rtext_any (w : World) (a b : Int) (ha : a ≤ 9223372036854775807) (hb : b ≤ 9223372036854775807) :
    Calls Tryd.prog 45 #[.agg #[.int .i64 a, .int .i64 b]] w fun e w' => e = .returned (.string (textS a b)) ∧ Below w.heap.size w w' := by
  have hX := (Below.refl w.heap.size w).alloc (Nat.le_refl _) (.cells #[.int .i64 a, .int .i64 b] 23)
  have hbox := heap_alloc_new w (.cells #[.int .i64 a, .int .i64 b] 23)
  have k0 := later_cell hbox (j := 0) rfl
  have k1 := later_cell hbox (j := 1) rfl
  have CA := Lib.hid (fun x : Later (w.alloc (.cells #[.int .i64 a, .int .i64 b] 23)) => rdig_any x.w a ha)
  have CB := Lib.hid (fun x : Later (w.alloc (.cells #[.int .i64 a, .int .i64 b] 23)) => rdig_any x.w b hb)
  have HX := Lib.hid hX
  have sa := decS_size a ha
  have sb := decS_size b hb
  clear hX hbox
  go_enter Tryd.func45, Tryd.ntmps45
  go_wp2
  refine wp_region_later (by kernel_rfl) (by kernel_rfl) ?_
  repeat (go_big_quiet_step (first
    | (go_at_call 46; with_reducible exact later_call (CA.out _))
    | (go_at_call 46; with_reducible exact later_call (CB.out _))))
  refine wpQuiet_nil ?_
  intro _ hw'
  obtain ⟨xl, hw''⟩ := hw'
  subst hw''
  go_wp2
  go_returns
  exact ⟨rfl, HX.out.trans (xl.below.mono (by simp))⟩
end Go.Proofs.YtifeakmbeaflgaaDoor.St
