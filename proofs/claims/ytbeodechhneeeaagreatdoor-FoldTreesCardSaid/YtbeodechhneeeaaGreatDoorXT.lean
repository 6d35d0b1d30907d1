/- What Shelf, NAll, WOwn, WWBase, SAll, OA, OB, OF, TA, TB, TSrtK, TOwn, TRk, ES, DR, PL, BK, IN, IO, SrtL, TLater, MS, MT, MU, OG, OJ, VE, OT, OS, EM, BA, BB, DO, DP, EA, EB, EC, ED, EE, EF, EG, RL, EH, EX, EW, LF, RZ hold beside, of the texts at another seat. Made by tools/sup.py. -/
import Derived.Test.YtbeodechhneeeaaGreatDoorBA
import Derived.Test.YtbeodechhneeeaaGreatDoorBB
import Derived.Test.YtbeodechhneeeaaGreatDoorDO
import Derived.Test.YtbeodechhneeeaaGreatDoorDR
import Derived.Test.YtbeodechhneeeaaGreatDoorEA
import Derived.Test.YtbeodechhneeeaaGreatDoorEC
import Derived.Test.YtbeodechhneeeaaGreatDoorEF
import Derived.Test.YtbeodechhneeeaaGreatDoorEG
import Derived.Test.YtbeodechhneeeaaGreatDoorEH
import Derived.Test.YtbeodechhneeeaaGreatDoorEM
import Derived.Test.YtbeodechhneeeaaGreatDoorES
import Derived.Test.YtbeodechhneeeaaGreatDoorFR
import Derived.Test.YtbeodechhneeeaaGreatDoorLF
import Derived.Test.YtbeodechhneeeaaGreatDoorMS
import Derived.Test.YtbeodechhneeeaaGreatDoorMT
import Derived.Test.YtbeodechhneeeaaGreatDoorMU
import Derived.Test.YtbeodechhneeeaaGreatDoorNAll
import Derived.Test.YtbeodechhneeeaaGreatDoorOZ
import Derived.Test.YtbeodechhneeeaaGreatDoorPL
import Derived.Test.YtbeodechhneeeaaGreatDoorRL
import Derived.Test.YtbeodechhneeeaaGreatDoorRZ
import Derived.Test.YtbeodechhneeeaaGreatDoorSAll
import Derived.Test.YtbeodechhneeeaaGreatDoorTA
import Derived.Test.YtbeodechhneeeaaGreatDoorTB
import Derived.Test.YtbeodechhneeeaaGreatDoorTLater
import Derived.Test.YtbeodechhneeeaaGreatDoorTOwn
import Derived.Test.YtbeodechhneeeaaGreatDoorTRk
import Derived.Test.YtbeodechhneeeaaGreatDoorTSrtK
import Derived.Test.YtbeodechhneeeaaGreatDoorVE
import Derived.Test.YtbeodechhneeeaaGreatDoorWOwn
import Derived.Test.YtbeodechhneeeaaGreatDoorWWBase
import Derived.Test.YtbeodechhneeeaaGreatDoorXS
import Derived.Handy
import Derived.Lib.Walk
import Derived.Lib.Hide
import Derived.LoopTactic
import Derived.RegionTactic
import Derived.Deep.Cut
import Derived.Deep.QuietTactic
import Derived.RangeFuncFrom
import Derived.RegionIn
import Derived.LoopNIn
import Derived.LoopIn
import Derived.TacticsInMore
import Derived.RangeFuncNested
import Derived.RangeFuncBound
import Derived.RangeFuncCalls
import Derived.RangeFuncLeaves
import Derived.Shelf.Abstract
import Derived.Shelf.RegionOpen
import Derived.Lib.Overlaps
import Derived.Lib.AppendZeros
import Derived.Lib.JoinLaws
import Derived.Laws.Externs
import Derived.Laws.IdiomCopy
import Derived.Laws.CopyRow
import Derived.Deep.RegionLaw
import Derived.Shelf.RegionOpenPlain
import Derived.Lib.AppendZerosOnto
import Derived.Laws.NewBlocks
import Derived.Carry
import Derived.ProofKit
import Derived.WalkSpells
import Derived.Deep.RegionHeld3
import Derived.Deep.CutRange
import Derived.Deep.CutBlock
import Derived.StillTailTactics
import Derived.Shelf.SlSortCmp.NoneTotal
import Derived.Sort.MapsRangeIn
import Derived.MapKept
import Derived.Lib.SlicesS
import Derived.Deep.WholeRow
import Derived.WalkKit
import Derived.OneCell
import Derived.Outline
import Derived.BigQuiet
import Derived.Deep.MidRow
import Derived.Below
import Derived.Laws.OwnMore
import Derived.Laws.StructEq
import Derived.Deep.AppendSrc
import Derived.OwnWalk

/-! ### of ES -/
set_option linter.unusedVariables false
set_option linter.unusedSimpArgs false
set_option maxRecDepth 100000
namespace Go.Proofs.YtbeodechhneeeaaGreatDoor
open Go.RowKit
open Tb (ltS)

def stV (s : Stp) : Value := .agg (stCells s)
theorem stc1_len (s : Stp) : (stc1 s).length = 15 := rfl
def stc (l : List Stp) : List Value := l.flatMap stc1
theorem stc_append (a b : List Stp) : stc (a ++ b) = stc a ++ stc b := List.flatMap_append
theorem stc_cons (a : Stp) (b : List Stp) : stc (a :: b) = stc1 a ++ stc b := List.flatMap_cons
theorem stc_len : ∀ l : List Stp, (stc l).length = l.length * 15
  | [] => rfl
  | a :: l => by rw [stc_cons, List.length_append, stc_len l, stc1_len, List.length_cons]; omega
theorem stc_one (l : List Stp) : ∀ v ∈ stc l, v.oneCell' = true := by
  intro v hv
  obtain ⟨s, _, hv⟩ := List.mem_flatMap.1 hv
  unfold stc1 stCells at hv
  simp at hv
  rcases hv with rfl | rfl | rfl | rfl | rfl | rfl | rfl | rfl | rfl | rfl | rfl | rfl | rfl | rfl | rfl <;> rfl
theorem stc_at {l : List Stp} {i : Nat} {s : Stp} (h : l[i]? = some s) {j : Nat} {u : Value} (hj : (stc1 s)[j]? = some u) : (stc l)[i * 15 + j]? = some u := by
  have hj15 : j < 15 := by have := (List.getElem?_eq_some_iff.1 hj).1; rwa [stc1_len] at this
  have hi := (List.getElem?_eq_some_iff.1 h).1
  have e : l = l.take i ++ s :: l.drop (i + 1) := by
    have := (List.getElem?_eq_some_iff.1 h).2
    rw [← this, ← List.drop_eq_getElem_cons hi, List.take_append_drop]
  have hl : (stc (l.take i)).length = i * 15 := by rw [stc_len, List.length_take]; congr 1; omega
  rw [e, stc_append, stc_cons, List.getElem?_append_right (by omega), hl, show i * 15 + j - i * 15 = j by omega, List.getElem?_append_left (by rw [stc1_len]; exact hj15)]
  exact hj
/-! ### places -/
def ltO (x : O) (t r : Int) : Bool := ltS x.t x.r t r
def RiseO (L : List O) : Prop := L.Pairwise (fun x y => ltS x.t x.r y.t y.r = true)
def posF (L : List O) (t r : Int) : Nat := (L.filter (fun x => ltO x t r)).length
theorem ltS_tri (a b c d : Int) : (ltS a b c d = true ∧ ¬ (a = c ∧ b = d) ∧ ltS c d a b = false) ∨ (ltS a b c d = false ∧ (a = c ∧ b = d) ∧ ltS c d a b = false) ∨ (ltS a b c d = false ∧ ¬ (a = c ∧ b = d) ∧ ltS c d a b = true) := by
  unfold ltS
  by_cases h : a = c
  · subst h
    simp only [if_true]
    by_cases h1 : b < d
    · left; simp; omega
    · by_cases h2 : d < b
      · right; right; simp; omega
      · right; left; simp; omega
  · have h' : ¬ c = a := fun e => h e.symm
    simp only [h, h', if_false]
    by_cases h1 : a < c
    · left; simp; omega
    · right; right; simp; omega
theorem ltS_trans {a b c d e f : Int} (h1 : ltS a b c d = true) (h2 : ltS c d e f = true) : ltS a b e f = true := by
  unfold ltS at *
  split at h1 <;> split at h2 <;> split <;> simp at * <;> omega
theorem ltS_irr (a b : Int) : ltS a b a b = false := by unfold ltS; simp
/-- What stands ahead of a stamp is a beginning. -/
theorem pos_split {L : List O} (h : RiseO L) (t r : Int) : L.take (posF L t r) = L.filter (fun x => ltO x t r) ∧ L.drop (posF L t r) = L.filter (fun x => !ltO x t r) := by
  induction L with
  | nil => exact ⟨rfl, rfl⟩
  | cons a L ih =>
    obtain ⟨h1, h2⟩ := List.pairwise_cons.1 h
    by_cases ha : ltO a t r = true
    · have e : posF (a :: L) t r = posF L t r + 1 := by unfold posF; rw [List.filter_cons_of_pos (p := fun x => ltO x t r) ha]; rfl
      rw [e, List.take_succ_cons, List.drop_succ_cons, List.filter_cons_of_pos (p := fun x => ltO x t r) ha, List.filter_cons_of_neg (by simp [ha]), (ih h2).1, (ih h2).2]
      exact ⟨rfl, rfl⟩
    · have ha' : ltO a t r = false := by simpa using ha
      have hall : ∀ y ∈ L, ltO y t r = false := fun y hy => by
        have hy := h1 y hy
        cases hq : ltO y t r with
        | false => rfl
        | true => have := ltS_trans hy hq; unfold ltO at ha'; rw [ha'] at this; cases this
      have e0 : L.filter (fun x => ltO x t r) = [] := List.filter_eq_nil_iff.2 (fun y hy => by rw [hall y hy]; simp)
      have e1 : L.filter (fun x => !ltO x t r) = L := List.filter_eq_self.2 (fun y hy => by rw [hall y hy]; rfl)
      have e : posF (a :: L) t r = 0 := by unfold posF; rw [List.filter_cons_of_neg (p := fun x => ltO x t r) ha, e0]; rfl
      rw [e, List.filter_cons_of_neg (p := fun x => ltO x t r) ha, List.filter_cons_of_pos (by simp [ha']), e0, e1]
      exact ⟨rfl, rfl⟩
theorem pos_le (L : List O) (t r : Int) : posF L t r ≤ L.length := List.length_filter_le _ _
/-- A new op, in its place. -/
def putOx (L : List O) (o : O) : List O := L.take (posF L o.t o.r) ++ o :: L.drop (posF L o.t o.r)
theorem put_mem {L : List O} {o x : O} : x ∈ putOx L o ↔ x = o ∨ x ∈ L := by
  unfold putOx
  conv => rhs; rhs; rw [← List.take_append_drop (posF L o.t o.r) L]
  simp only [List.mem_append, List.mem_cons]
  constructor
  · rintro (h | h | h)
    · exact .inr (.inl h)
    · exact .inl h
    · exact .inr (.inr h)
  · rintro (h | h | h)
    · exact .inr (.inl h)
    · exact .inl h
    · exact .inr (.inr h)
theorem put_len (L : List O) (o : O) : (putOx L o).length = L.length + 1 := by
  unfold putOx
  rw [List.length_append, List.length_cons, List.length_take, List.length_drop]
  have := pos_le L o.t o.r
  omega
theorem has_iff {L : List O} {t r : Int} : hasO L t r = true ↔ ∃ x ∈ L, x.t = t ∧ x.r = r := by unfold hasO; rw [List.any_eq_true]; simp
theorem put_rise {L : List O} (h : RiseO L) {o : O} (hn : hasO L o.t o.r = false) : RiseO (putOx L o) := by
  obtain ⟨e1, e2⟩ := pos_split h o.t o.r
  unfold putOx
  rw [e1, e2]
  have hne : ∀ x ∈ L, ¬ (x.t = o.t ∧ x.r = o.r) := fun x hx e => by
    have := has_iff.2 ⟨x, hx, e⟩
    rw [hn] at this; cases this
  refine List.pairwise_append.2 ⟨h.filter _, List.pairwise_cons.2 ⟨fun y hy => ?_, h.filter _⟩, fun x hx y hy => ?_⟩
  · obtain ⟨h1, h2⟩ := List.mem_filter.1 hy
    have h2 : ltS y.t y.r o.t o.r = false := by simpa [ltO] using h2
    rcases ltS_tri y.t y.r o.t o.r with ⟨q, _, _⟩ | ⟨_, q, _⟩ | ⟨_, _, q⟩
    · rw [q] at h2; cases h2
    · exact absurd q (hne y h1)
    · exact q
  · have h1 : ltS x.t x.r o.t o.r = true := (List.mem_filter.1 hx).2
    rcases List.mem_cons.1 hy with rfl | hy
    · exact h1
    · obtain ⟨h3, h2⟩ := List.mem_filter.1 hy
      have h2 : ltS y.t y.r o.t o.r = false := by simpa [ltO] using h2
      rcases ltS_tri y.t y.r o.t o.r with ⟨q, _, _⟩ | ⟨_, q, _⟩ | ⟨_, _, q⟩
      · rw [q] at h2; cases h2
      · exact absurd q (hne y h3)
      · exact ltS_trans h1 q
theorem stc1_one (s : Stp) : ∀ v ∈ stc1 s, v.oneCell' = true := by
  intro v hv
  unfold stc1 stCells at hv
  simp at hv
  rcases hv with rfl | rfl | rfl | rfl | rfl | rfl | rfl | rfl | rfl | rfl | rfl | rfl | rfl | rfl | rfl <;> rfl
theorem pos_of {L : List O} {t r : Int} {i : Nat} (hi : i ≤ L.length) (h1 : ∀ (k : Nat) x, L[k]? = some x → k < i → ltO x t r = true) (h2 : ∀ (k : Nat) x, L[k]? = some x → i ≤ k → ltO x t r = false) : posF L t r = i := by
  unfold posF
  conv => lhs; rw [← List.take_append_drop i L]
  rw [List.filter_append, List.length_append]
  have e1 : (L.take i).filter (fun x => ltO x t r) = L.take i := List.filter_eq_self.2 (fun x hx => by
    obtain ⟨k, hk⟩ := List.getElem?_of_mem hx
    rw [List.getElem?_take] at hk
    split at hk
    · exact h1 k x hk (by assumption)
    · cases hk)
  have e2 : (L.drop i).filter (fun x => ltO x t r) = [] := List.filter_eq_nil_iff.2 (fun x hx => by
    obtain ⟨k, hk⟩ := List.getElem?_of_mem hx
    rw [List.getElem?_drop] at hk
    rw [h2 (i + k) x hk (by omega)]
    simp)
  rw [e1, e2, List.length_take, List.length_nil]
  omega
theorem has_at {L : List O} (h : RiseO L) {t r : Int} {i : Nat} {x : O} (hi : posF L t r = i) (hx : L[i]? = some x) : hasO L t r = decide (x.t = t ∧ x.r = r) := by
  by_cases he : x.t = t ∧ x.r = r
  · rw [decide_eq_true he]
    exact has_iff.2 ⟨x, List.mem_of_getElem? hx, he⟩
  · rw [decide_eq_false he]
    cases hq : hasO L t r with
    | false => rfl
    | true =>
      obtain ⟨y, hy, e1, e2⟩ := has_iff.1 hq
      exfalso
      obtain ⟨k, hk⟩ := List.getElem?_of_mem hy
      obtain ⟨f1, f2⟩ := pos_split h t r
      rw [hi] at f1 f2
      have hxd : ltO x t r = false := by
        have : x ∈ L.drop i := List.mem_of_getElem? (i := 0) (by rw [List.getElem?_drop]; exact hx)
        rw [f2] at this
        simpa using (List.mem_filter.1 this).2
      have hyd : ltO y t r = false := by unfold ltO; rw [e1, e2]; exact ltS_irr t r
      have hki : ¬ k < i := fun hlt => by
        have : y ∈ L.take i := List.mem_of_getElem? (i := k) (by rw [List.getElem?_take_of_lt hlt]; exact hk)
        rw [f1] at this
        rw [(List.mem_filter.1 this).2] at hyd
        cases hyd
      have hki2 : k ≠ i := fun e => by rw [e, hx] at hk; injection hk with hk; exact he ⟨by rw [hk]; exact e1, by rw [hk]; exact e2⟩
      have := (List.pairwise_iff_getElem.1 h) i k (List.getElem?_eq_some_iff.1 hx).1 (List.getElem?_eq_some_iff.1 hk).1 (by omega)
      rw [(List.getElem?_eq_some_iff.1 hx).2, (List.getElem?_eq_some_iff.1 hk).2, e1, e2] at this
      unfold ltO at hxd
      rw [this] at hxd
      cases hxd
theorem has_end {L : List O} (h : RiseO L) {t r : Int} (hi : posF L t r = L.length) : hasO L t r = false := by
  cases hq : hasO L t r with
  | false => rfl
  | true =>
    obtain ⟨y, hy, e1, e2⟩ := has_iff.1 hq
    have f1 := (pos_split h t r).1
    rw [hi, List.take_length] at f1
    rw [f1] at hy
    have := (List.mem_filter.1 hy).2
    unfold ltO at this
    rw [e1, e2, ltS_irr] at this
    cases this
end Go.Proofs.YtbeodechhneeeaaGreatDoor



/-! ### of PL -/
set_option linter.unusedVariables false
set_option linter.unusedSimpArgs false
set_option maxRecDepth 100000
namespace Go.Proofs.YtbeodechhneeeaaGreatDoor
open Go.RowKit
open Tb (LiesK)
/-- A step's load. -/
theorem ldS {W : World} {g o : Nat} {x : Stp} (h : ∀ i u, (stc1 x)[i]? = some u → W.cell? ⟨g, o + i, none⟩ = some u) : (Instr.loadAt 71 (.pointer (some ⟨g, o, none⟩))).run Tryz.prog W = .ok (stV x) W := by
  have h0 := h 0 _ rfl; have h1 := h 1 _ rfl; have h2 := h 2 _ rfl; have h3 := h 3 _ rfl; have h4 := h 4 _ rfl; have h5 := h 5 _ rfl; have h6 := h 6 _ rfl; have h7 := h 7 _ rfl
  have h8 := h 8 _ rfl; have h9 := h 9 _ rfl; have h10 := h 10 _ rfl; have h11 := h 11 _ rfl; have h12 := h 12 _ rfl; have h13 := h 13 _ rfl; have h14 := h 14 _ rfl
  rw [Nat.add_zero] at h0
  clear h
  go_simp
  rfl
theorem lies_elt {w : World} {ao : Option Addr} {n cap : Nat} {l : List Stp} (h : LiesK stc1 15 w (.slice ao n cap) l) {i : Nat} (hi : i < n) : ∃ g o x, ao = some ⟨g, o, none⟩ ∧ l[i]? = some x ∧ g < w.heap.size ∧ ∀ r u, (stc1 x)[r]? = some u → w.cell? ⟨g, o + i * 15 + r, none⟩ = some u := by
  obtain ⟨g, o, p, e1, e2, e3, e4⟩ := h.at' hi
  exact ⟨g, o, p, e1, e2, e3, e4⟩
set_option maxHeartbeats 1600000 in
theorem place1_any (w : World) (s : Stp) (t r : Int) : Calls Tryz.prog 60 #[stV s, .agg #[.int .i64 t, .int .i64 r]] w fun e w' => e = .returned (.int .i64 (St.cmpS s.o.t s.o.r t r)) ∧ Below w.heap.size w w' := by
  unfold stV stCells
  have B1 := Lib.hid (pl_vstep w (.cells #[.int .i64 s.o.t, .int .i64 s.o.r, .int .i64 s.o.q, .int .i64 s.o.nt, .int .i64 s.o.nr, .int .i64 s.o.pt, .int .i64 s.o.pr, .string s.o.nm, .bool s.o.d, .bool s.did, .bool s.had, .int .i64 s.wt, .int .i64 s.wr, .string s.wn, .bool s.wd] 71))
  have C := Lib.hid (fun W => St.compare_any W s.o.t s.o.r t r)
  obtain ⟨z, hz⟩ : ∃ z, St.cmpS s.o.t s.o.r t r = z := ⟨_, rfl⟩
  rw [hz] at C ⊢
  clear hz
  go_enter Tryz.func60, Tryz.ntmps60
  go_wp2_with fail
  refine (C.out _).mono ?_
  rintro e w1 ⟨rfl, hb⟩
  have B2 := Lib.hid (B1.out.trans (((pl_vstep _ _).trans (hb.mono (pl_vstep _ _).size)).mono B1.out.size))
  clear hb
  go_wp2
  go_returns
  exact ⟨rfl, B2.out⟩

set_option maxHeartbeats 1600000 in
theorem bsearch_any (w : World) (v : Value) (l : List Stp) (t r : Int) (h : LiesK stc1 15 w v l) (hu : RiseO (l.map (·.o))) (hl : l.length ≤ 100000) :
    Calls Tryz.prog 59 #[v, .agg #[.int .i64 t, .int .i64 r], .func (.func 60) #[] #[]] w fun e w' => e = .returned (.tuple #[.int .i64 (posF (l.map (·.o)) t r : Nat), .bool (hasO (l.map (·.o)) t r)]) ∧ Below w.heap.size w w' := by
  have X := pl_vstep w (.cells #[.int .i64 t, .int .i64 r] 31)
  have N := heap_alloc_new w (.cells #[.int .i64 t, .int .i64 r] 31)
  obtain ⟨W0, hW0⟩ : ∃ W0, w.alloc (.cells #[.int .i64 t, .int .i64 r] 31) = W0 := ⟨_, rfl⟩
  rw [hW0] at X N
  have HW := Lib.hid hW0
  have X := Lib.hid X
  have HU := Lib.hid hu
  have BX := Lib.hid (fun W (hb : Below W0.heap.size W0 W) => ldSt ((hb.block _ (pl_lt N)).trans N))
  have V := Lib.hid (fun W (hb : Below W0.heap.size W0 W) => (h.step X.out).step hb)
  have C := Lib.hid (fun W (s : Stp) => place1_any W s t r)
  have PE := Lib.hid (fun i => @pos_of (l.map (·.o)) t r i)
  have PA := Lib.hid (fun i x => @has_at (l.map (·.o)) hu t r i x)
  have PN := Lib.hid (@has_end (l.map (·.o)) hu t r)
  obtain ⟨ao, cap, rfl⟩ := h.shape
  obtain ⟨ps, hps⟩ : ∃ z, posF (l.map (·.o)) t r = z := ⟨_, rfl⟩
  obtain ⟨hs, hhs⟩ : ∃ z, hasO (l.map (·.o)) t r = z := ⟨_, rfl⟩
  rw [hps] at PE PA PN ⊢
  rw [hhs] at PA PN ⊢
  clear hW0 h hu N hps hhs
  go_enter Tryz.func59, Tryz.ntmps59
  go_wp2_with fail
  rw [HW.out]
  go_loopw [9, 10] (fun iv jv wr => ∃ i j : Nat, iv = .int .i64 i ∧ jv = .int .i64 j ∧ i ≤ j ∧ j ≤ l.length ∧ Hid ((∀ (k : Nat) x, (l.map (·.o))[k]? = some x → k < i → ltO x t r = true) ∧ (∀ (k : Nat) x, (l.map (·.o))[k]? = some x → j ≤ k → ltO x t r = false) ∧ Below W0.heap.size W0 wr)) (fun iv jv _ => (intOf jv).toNat - (intOf iv).toNat)
  case atStart => exact ⟨0, l.length, rfl, rfl, Nat.zero_le _, Nat.le_refl _, Lib.hid ⟨fun k x _ hk => absurd hk (Nat.not_lt_zero _), fun k x hk hk2 => absurd (List.getElem?_eq_some_iff.1 hk).1 (by rw [List.length_map]; omega), Below.refl _ _⟩⟩
  case round =>
    obtain ⟨i, j, rfl, rfl, hij, hjl, hI⟩ := hrel
    have B0 := Lib.hid hI.out.2.2
    by_cases hlt : i < j
    · obtain ⟨m, hm⟩ : ∃ m, m = (i + j) / 2 := ⟨_, rfl⟩
      obtain ⟨g, o, p, rfl, hp, hg, hc⟩ := lies_elt (V.out wr B0.out) (i := m) (by omega)
      have HP := Lib.hid (show (l.map (·.o))[m]? = some p.o by rw [List.getElem?_map, hp]; rfl)
      have LX := Lib.hid (fun W (hb : Below wr.heap.size wr W) => @ldS W g (o + m * 15) p (fun i u hu => (hb.cell (p := ⟨g, o + m * 15 + i, none⟩) hg).trans (hc i u hu)))
      have LB := Lib.hid (fun W (hb : Below wr.heap.size wr W) => BX.out W (B0.out.trans (hb.mono B0.out.size)))
      have CP := Lib.hid (fun W => C.out W p)
      have hmi : i ≤ m := by omega
      have hmj : m < j := by omega
      have hm0 : (0 : Int) ≤ (m : Int) := by omega
      have hml : (m : Int) < (l.length : Int) := by omega
      have q1 : ((i : Int) + (j : Int)) / 2 = (m : Int) := by omega
      have HL := Lib.hid (show (St.cmpS p.o.t p.o.r t r < 0 ∧ ltO p.o t r = true) ∨ (¬ St.cmpS p.o.t p.o.r t r < 0 ∧ ltO p.o t r = false) from by
        rcases St.cmp_less p.o.t p.o.r t r with ⟨a, e⟩ | ⟨a, _, e⟩ | ⟨a, _, e⟩
        · exact .inl ⟨by rw [e]; decide, a⟩
        · exact .inr ⟨by rw [e]; decide, a⟩
        · exact .inr ⟨by rw [e]; decide, a⟩)
      have RI := Lib.hid (fun k x (hk : (l.map (·.o))[k]? = some x) => (show (k < m → ltO x p.o.t p.o.r = true) ∧ (m < k → ltO p.o x.t x.r = true) from ⟨fun hkm => by
          have := (List.pairwise_iff_getElem.1 HU.out) k m (List.getElem?_eq_some_iff.1 hk).1 (List.getElem?_eq_some_iff.1 HP.out).1 hkm
          rw [(List.getElem?_eq_some_iff.1 hk).2, (List.getElem?_eq_some_iff.1 HP.out).2] at this; exact this, fun hkm => by
          have := (List.pairwise_iff_getElem.1 HU.out) m k (List.getElem?_eq_some_iff.1 HP.out).1 (List.getElem?_eq_some_iff.1 hk).1 hkm
          rw [(List.getElem?_eq_some_iff.1 hk).2, (List.getElem?_eq_some_iff.1 HP.out).2] at this; exact this⟩))
      obtain ⟨z, hz⟩ : ∃ z, St.cmpS p.o.t p.o.r t r = z := ⟨_, rfl⟩
      rw [hz] at HL CP
      obtain ⟨PV, hPV⟩ : ∃ z, stV p = z := ⟨_, rfl⟩
      rw [hPV] at LX CP
      clear hp hc hm hz hPV
      rcases HL.out with ⟨hz, hlo⟩ | ⟨hz, hlo⟩
      · have c0 := decide_eq_true hz
        have LO := Lib.hid hlo
        clear hz hlo
        go_wp2
        refine wp_region_held_drew (S := fun w' => Below wr.heap.size wr w') (by kernel_rfl) (Below.refl _ _).drew (fun hHeld => ?_)
        have BV := Lib.hid (show Below wr.heap.size wr wr.drew from (Below.refl _ _).drew)
        clear hHeld
        refine take_at (i := 0) 24 ?_ rfl rfl (by kernel_rfl) (by kernel_rfl) (by kernel_rfl) (fun _ _ _ h => h) (.inl ⟨rfl, ?_⟩) BV.out ?_
        rotate_left 1
        · intro w hSw; go_simp; try with_reducible rfl
        simp only [Act.put, List.setIfInBounds_toArray, List.set_cons_zero, List.set_cons_succ]
        refine take_at (i := 1) 25 ?_ rfl rfl (by kernel_rfl) (by kernel_rfl) (by kernel_rfl) (fun _ _ _ h => h) (.inl ⟨rfl, ?_⟩) BV.out ?_
        rotate_left 1
        · intro w hSw; go_simp; try with_reducible rfl
        simp only [Act.put, List.setIfInBounds_toArray, List.set_cons_zero, List.set_cons_succ]
        refine take_at (i := 2) 26 ?_ rfl rfl (by kernel_rfl) (by kernel_rfl) (by kernel_rfl) (fun _ _ _ h => h) (.inl ⟨rfl, ?_⟩) BV.out ?_
        rotate_left 1
        · intro w hSw; go_simp; try with_reducible rfl
        simp only [Act.put, List.setIfInBounds_toArray, List.set_cons_zero, List.set_cons_succ]
        refine take_at (i := 3) 27 ?_ rfl rfl (by kernel_rfl) (by kernel_rfl) (by kernel_rfl) (fun _ _ _ h => h) (.inl ⟨rfl, ?_⟩) BV.out ?_
        rotate_left 1
        · intro w hSw; go_simp; try with_reducible rfl
        simp only [Act.put, List.setIfInBounds_toArray, List.set_cons_zero, List.set_cons_succ]
        refine take_at (i := 4) 28 (PV) rfl rfl (by kernel_rfl) (by kernel_rfl) (by kernel_rfl) (fun _ _ _ h => h) (yields_ld (.tmp 27) 71 (.pointer (some ⟨g, o + m * 15, none⟩)) _ LX.out rfl rfl rfl) BV.out ?_
        simp only [Act.put, List.setIfInBounds_toArray, List.set_cons_zero, List.set_cons_succ]
        refine take_at (i := 5) 29 (.agg #[.int .i64 t, .int .i64 r]) rfl rfl (by kernel_rfl) (by kernel_rfl) (by kernel_rfl) (fun _ _ _ h => h) (yields_ld (.tmp 4) 31 (.pointer (some ⟨w.heap.size, 0, none⟩)) _ LB.out rfl rfl rfl) BV.out ?_
        simp only [Act.put, List.setIfInBounds_toArray, List.set_cons_zero, List.set_cons_succ]
        refine wpAnyH_ready (rs := [6]) (by kernel_rfl) (by simp) (br_call (i := 6) 30 60 #[PV, .agg #[.int .i64 t, .int .i64 r]] rfl rfl rfl (by go_simp) ((CP.out _).mono ?_) AllReadyH.nil)
        rintro e v1 ⟨rfl, hb⟩
        have BV := Lib.hid (BV.out.trans (hb.mono BV.out.size))
        clear hb
        refine ⟨_, rfl, BV.out, fun _ => ?_⟩
        simp only [Act.put, List.setIfInBounds_toArray, List.set_cons_zero, List.set_cons_succ]
        refine take_at (i := 7) 31 ?_ rfl rfl (by kernel_rfl) (by kernel_rfl) (by kernel_rfl) (fun _ _ _ h => h) (.inl ⟨rfl, ?_⟩) BV.out ?_
        rotate_left 1
        · intro w hSw; go_simp; try with_reducible rfl
        simp only [Act.put, List.setIfInBounds_toArray, List.set_cons_zero, List.set_cons_succ]
        refine wpAnyH_done (by kernel_rfl) ?_ _
        have B1 := Lib.hid (B0.out.trans (BV.out.mono B0.out.size))
        clear BV
        go_wp2
        go_roundw
        case rel =>
          refine ⟨m + 1, j, by go_num, rfl, by omega, by omega, Lib.hid ⟨fun k x hk hk2 => ?_, hI.out.2.1, B1.out⟩⟩
          by_cases e : k = m
          · rw [e, HP.out] at hk; injection hk with hk; rw [← hk]; exact LO.out
          · exact ltS_trans ((RI.out k x hk).1 (by omega)) LO.out
        case measure => simp [intOf]; omega

      · have c0 := decide_eq_false hz
        have LO := Lib.hid hlo
        clear hz hlo
        go_wp2
        refine wp_region_held_drew (S := fun w' => Below wr.heap.size wr w') (by kernel_rfl) (Below.refl _ _).drew (fun hHeld => ?_)
        have BV := Lib.hid (show Below wr.heap.size wr wr.drew from (Below.refl _ _).drew)
        clear hHeld
        refine take_at (i := 0) 24 ?_ rfl rfl (by kernel_rfl) (by kernel_rfl) (by kernel_rfl) (fun _ _ _ h => h) (.inl ⟨rfl, ?_⟩) BV.out ?_
        rotate_left 1
        · intro w hSw; go_simp; try with_reducible rfl
        simp only [Act.put, List.setIfInBounds_toArray, List.set_cons_zero, List.set_cons_succ]
        refine take_at (i := 1) 25 ?_ rfl rfl (by kernel_rfl) (by kernel_rfl) (by kernel_rfl) (fun _ _ _ h => h) (.inl ⟨rfl, ?_⟩) BV.out ?_
        rotate_left 1
        · intro w hSw; go_simp; try with_reducible rfl
        simp only [Act.put, List.setIfInBounds_toArray, List.set_cons_zero, List.set_cons_succ]
        refine take_at (i := 2) 26 ?_ rfl rfl (by kernel_rfl) (by kernel_rfl) (by kernel_rfl) (fun _ _ _ h => h) (.inl ⟨rfl, ?_⟩) BV.out ?_
        rotate_left 1
        · intro w hSw; go_simp; try with_reducible rfl
        simp only [Act.put, List.setIfInBounds_toArray, List.set_cons_zero, List.set_cons_succ]
        refine take_at (i := 3) 27 ?_ rfl rfl (by kernel_rfl) (by kernel_rfl) (by kernel_rfl) (fun _ _ _ h => h) (.inl ⟨rfl, ?_⟩) BV.out ?_
        rotate_left 1
        · intro w hSw; go_simp; try with_reducible rfl
        simp only [Act.put, List.setIfInBounds_toArray, List.set_cons_zero, List.set_cons_succ]
        refine take_at (i := 4) 28 (PV) rfl rfl (by kernel_rfl) (by kernel_rfl) (by kernel_rfl) (fun _ _ _ h => h) (yields_ld (.tmp 27) 71 (.pointer (some ⟨g, o + m * 15, none⟩)) _ LX.out rfl rfl rfl) BV.out ?_
        simp only [Act.put, List.setIfInBounds_toArray, List.set_cons_zero, List.set_cons_succ]
        refine take_at (i := 5) 29 (.agg #[.int .i64 t, .int .i64 r]) rfl rfl (by kernel_rfl) (by kernel_rfl) (by kernel_rfl) (fun _ _ _ h => h) (yields_ld (.tmp 4) 31 (.pointer (some ⟨w.heap.size, 0, none⟩)) _ LB.out rfl rfl rfl) BV.out ?_
        simp only [Act.put, List.setIfInBounds_toArray, List.set_cons_zero, List.set_cons_succ]
        refine wpAnyH_ready (rs := [6]) (by kernel_rfl) (by simp) (br_call (i := 6) 30 60 #[PV, .agg #[.int .i64 t, .int .i64 r]] rfl rfl rfl (by go_simp) ((CP.out _).mono ?_) AllReadyH.nil)
        rintro e v1 ⟨rfl, hb⟩
        have BV := Lib.hid (BV.out.trans (hb.mono BV.out.size))
        clear hb
        refine ⟨_, rfl, BV.out, fun _ => ?_⟩
        simp only [Act.put, List.setIfInBounds_toArray, List.set_cons_zero, List.set_cons_succ]
        refine take_at (i := 7) 31 ?_ rfl rfl (by kernel_rfl) (by kernel_rfl) (by kernel_rfl) (fun _ _ _ h => h) (.inl ⟨rfl, ?_⟩) BV.out ?_
        rotate_left 1
        · intro w hSw; go_simp; try with_reducible rfl
        simp only [Act.put, List.setIfInBounds_toArray, List.set_cons_zero, List.set_cons_succ]
        refine wpAnyH_done (by kernel_rfl) ?_ _
        have B1 := Lib.hid (B0.out.trans (BV.out.mono B0.out.size))
        clear BV
        go_wp2
        go_roundw
        case rel =>
          refine ⟨i, m, rfl, rfl, by omega, by omega, Lib.hid ⟨hI.out.1, fun k x hk hk2 => ?_, B1.out⟩⟩
          by_cases e : k = m
          · rw [e, HP.out] at hk; injection hk with hk; rw [← hk]; exact LO.out
          · cases hq : ltO x t r with
            | false => rfl
            | true =>
              have := ltS_trans ((RI.out k x hk).2 (by omega)) hq
              have h2 := LO.out
              unfold ltO at h2
              rw [this] at h2
              cases h2
        case measure => simp [intOf]; omega

    · have hij' : i = j := by omega
      subst hij'
      have HS := Lib.hid (PE.out i (by rw [List.length_map]; exact hjl) hI.out.1 hI.out.2.1)
      by_cases hl2 : i < l.length
      · obtain ⟨g, o, p, rfl, hp, hg, hc⟩ := lies_elt (V.out wr B0.out) (i := i) hl2
        have LX := Lib.hid (fun W (hb : Below wr.heap.size wr W) => @ldS W g (o + i * 15) p (fun i u hu => (hb.cell (p := ⟨g, o + _ * 15 + i, none⟩) hg).trans (hc i u hu)))
        have LB := Lib.hid (fun W (hb : Below wr.heap.size wr W) => BX.out W (B0.out.trans (hb.mono B0.out.size)))
        have CP := Lib.hid (fun W => C.out W p)
        have hm0 : (0 : Int) ≤ (i : Int) := by omega
        have hml : (i : Int) < (l.length : Int) := by omega
        have HE := Lib.hid (show hs = decide (St.cmpS p.o.t p.o.r t r = 0) from by
          rw [PA.out i p.o HS.out (by rw [List.getElem?_map, hp]; rfl)]
          refine decide_eq_decide.2 ?_
          unfold St.cmpS Lib.compareInt
          constructor
          · rintro ⟨e1, e2⟩; simp [e1, e2]
          · intro hz
            split at hz
            · rename_i e
              split at hz
              · cases hz
              · split at hz
                · cases hz
                · exact ⟨e, by omega⟩
            · split at hz
              · cases hz
              · split at hz
                · cases hz
                · omega)
        obtain ⟨z, hz⟩ : ∃ z, St.cmpS p.o.t p.o.r t r = z := ⟨_, rfl⟩
        rw [hz] at HE CP
        obtain ⟨PV, hPV⟩ : ∃ z, stV p = z := ⟨_, rfl⟩
        rw [hPV] at LX CP
        clear hp hc hz hPV hI
        go_wp2
        refine wp_region_held_drew (S := fun w' => Below wr.heap.size wr w') (by kernel_rfl) (Below.refl _ _).drew (fun hHeld => ?_)
        have BV := Lib.hid (show Below wr.heap.size wr wr.drew from (Below.refl _ _).drew)
        clear hHeld
        refine take_at (i := 0) 35 ?_ rfl rfl (by kernel_rfl) (by kernel_rfl) (by kernel_rfl) (fun _ _ _ h => h) (.inl ⟨rfl, ?_⟩) BV.out ?_
        rotate_left 1
        · intro w hSw; go_simp; try with_reducible rfl
        simp only [Act.put, List.setIfInBounds_toArray, List.set_cons_zero, List.set_cons_succ]
        refine take_at (i := 1) 36 ?_ rfl rfl (by kernel_rfl) (by kernel_rfl) (by kernel_rfl) (fun _ _ _ h => h) (.inl ⟨rfl, ?_⟩) BV.out ?_
        rotate_left 1
        · intro w hSw; go_simp; try with_reducible rfl
        simp only [Act.put, List.setIfInBounds_toArray, List.set_cons_zero, List.set_cons_succ]
        refine take_at (i := 2) 37 ?_ rfl rfl (by kernel_rfl) (by kernel_rfl) (by kernel_rfl) (fun _ _ _ h => h) (.inl ⟨rfl, ?_⟩) BV.out ?_
        rotate_left 1
        · intro w hSw; go_simp; try with_reducible rfl
        simp only [Act.put, List.setIfInBounds_toArray, List.set_cons_zero, List.set_cons_succ]
        refine take_at (i := 3) 38 ?_ rfl rfl (by kernel_rfl) (by kernel_rfl) (by kernel_rfl) (fun _ _ _ h => h) (.inl ⟨rfl, ?_⟩) BV.out ?_
        rotate_left 1
        · intro w hSw; go_simp; try with_reducible rfl
        simp only [Act.put, List.setIfInBounds_toArray, List.set_cons_zero, List.set_cons_succ]
        refine take_at (i := 4) 39 ?_ rfl rfl (by kernel_rfl) (by kernel_rfl) (by kernel_rfl) (fun _ _ _ h => h) (.inl ⟨rfl, ?_⟩) BV.out ?_
        rotate_left 1
        · intro w hSw; go_simp; try with_reducible rfl
        simp only [Act.put, List.setIfInBounds_toArray, List.set_cons_zero, List.set_cons_succ]
        refine take_at (i := 5) 40 ?_ rfl rfl (by kernel_rfl) (by kernel_rfl) (by kernel_rfl) (fun _ _ _ h => h) (.inl ⟨rfl, ?_⟩) BV.out ?_
        rotate_left 1
        · intro w hSw; go_simp; try with_reducible rfl
        simp only [Act.put, List.setIfInBounds_toArray, List.set_cons_zero, List.set_cons_succ]
        refine take_at (i := 6) 41 ?_ rfl rfl (by kernel_rfl) (by kernel_rfl) (by kernel_rfl) (fun _ _ _ h => h) (.inl ⟨rfl, ?_⟩) BV.out ?_
        rotate_left 1
        · intro w hSw; go_simp; try with_reducible rfl
        simp only [Act.put, List.setIfInBounds_toArray, List.set_cons_zero, List.set_cons_succ]
        refine take_at (i := 7) 42 ?_ rfl rfl (by kernel_rfl) (by kernel_rfl) (by kernel_rfl) (fun _ _ _ h => h) (.inl ⟨rfl, ?_⟩) BV.out ?_
        rotate_left 1
        · intro w hSw; go_simp; try with_reducible rfl
        simp only [Act.put, List.setIfInBounds_toArray, List.set_cons_zero, List.set_cons_succ]
        refine take_at (i := 8) 43 ?_ rfl rfl (by kernel_rfl) (by kernel_rfl) (by kernel_rfl) (fun _ _ _ h => h) (.inl ⟨rfl, ?_⟩) BV.out ?_
        rotate_left 1
        · intro w hSw; go_simp; try with_reducible rfl
        simp only [Act.put, List.setIfInBounds_toArray, List.set_cons_zero, List.set_cons_succ]
        refine take_at (i := 9) 44 (PV) rfl rfl (by kernel_rfl) (by kernel_rfl) (by kernel_rfl) (fun _ _ _ h => h) (yields_ld (.tmp 43) 71 (.pointer (some ⟨g, o + i * 15, none⟩)) _ LX.out rfl rfl rfl) BV.out ?_
        simp only [Act.put, List.setIfInBounds_toArray, List.set_cons_zero, List.set_cons_succ]
        refine take_at (i := 10) 45 (.agg #[.int .i64 t, .int .i64 r]) rfl rfl (by kernel_rfl) (by kernel_rfl) (by kernel_rfl) (fun _ _ _ h => h) (yields_ld (.tmp 4) 31 (.pointer (some ⟨w.heap.size, 0, none⟩)) _ LB.out rfl rfl rfl) BV.out ?_
        simp only [Act.put, List.setIfInBounds_toArray, List.set_cons_zero, List.set_cons_succ]
        refine wpAnyH_ready (rs := [11]) (by kernel_rfl) (by simp) (br_call (i := 11) 46 60 #[PV, .agg #[.int .i64 t, .int .i64 r]] rfl rfl rfl (by go_simp) ((CP.out _).mono ?_) AllReadyH.nil)
        rintro e v1 ⟨rfl, hb⟩
        have BV := Lib.hid (BV.out.trans (hb.mono BV.out.size))
        clear hb
        refine ⟨_, rfl, BV.out, fun _ => ?_⟩
        simp only [Act.put, List.setIfInBounds_toArray, List.set_cons_zero, List.set_cons_succ]
        refine take_at (i := 12) 47 ?_ rfl rfl (by kernel_rfl) (by kernel_rfl) (by kernel_rfl) (fun _ _ _ h => h) (.inl ⟨rfl, ?_⟩) BV.out ?_
        rotate_left 1
        · intro w hSw; go_simp; try with_reducible rfl
        simp only [Act.put, List.setIfInBounds_toArray, List.set_cons_zero, List.set_cons_succ]
        refine take_at (i := 13) 48 ?_ rfl rfl (by kernel_rfl) (by kernel_rfl) (by kernel_rfl) (fun _ _ _ h => h) (.inl ⟨rfl, ?_⟩) BV.out ?_
        rotate_left 1
        · intro w hSw; go_simp; try with_reducible rfl
        simp only [Act.put, List.setIfInBounds_toArray, List.set_cons_zero, List.set_cons_succ]
        refine take_at (i := 14) 6 ?_ rfl rfl (by kernel_rfl) (by kernel_rfl) (by kernel_rfl) (fun _ _ _ h => h) (.inl ⟨rfl, ?_⟩) BV.out ?_
        rotate_left 1
        · intro w hSw; go_simp; try with_reducible rfl
        simp only [Act.put, List.setIfInBounds_toArray, List.set_cons_zero, List.set_cons_succ]
        refine take_at (i := 15) 7 ?_ rfl rfl (by kernel_rfl) (by kernel_rfl) (by kernel_rfl) (fun _ _ _ h => h) (.inl ⟨rfl, ?_⟩) BV.out ?_
        rotate_left 1
        · intro w hSw; go_simp; try with_reducible rfl
        simp only [Act.put, List.setIfInBounds_toArray, List.set_cons_zero, List.set_cons_succ]
        refine wpAnyH_done (by kernel_rfl) ?_ _
        have B1 := Lib.hid (X.out.trans ((B0.out.trans (BV.out.mono B0.out.size)).mono X.out.size))
        clear BV
        go_wp2
        go_returns
        rw [HS.out]
        refine ⟨?_, B1.out⟩
        rw [HE.out]
        rfl

      · have HE := Lib.hid (PN.out (by rw [HS.out, List.length_map]; omega))
        have hd : decide ((i : Int) < (l.length : Int)) = false := decide_eq_false (by omega)
        clear hI
        go_wp2
        refine wp_region_held_drew (S := fun w' => Below wr.heap.size wr w') (by kernel_rfl) (Below.refl _ _).drew (fun hHeld => ?_)
        have BV := Lib.hid (show Below wr.heap.size wr wr.drew from (Below.refl _ _).drew)
        clear hHeld
        refine take_at (i := 0) 35 ?_ rfl rfl (by kernel_rfl) (by kernel_rfl) (by kernel_rfl) (fun _ _ _ h => h) (.inl ⟨rfl, ?_⟩) BV.out ?_
        rotate_left 1
        · intro w hSw; go_simp; try with_reducible rfl
        simp only [Act.put, List.setIfInBounds_toArray, List.set_cons_zero, List.set_cons_succ]
        refine take_at (i := 1) 36 ?_ rfl rfl (by kernel_rfl) (by kernel_rfl) (by kernel_rfl) (fun _ _ _ h => h) (.inl ⟨rfl, ?_⟩) BV.out ?_
        rotate_left 1
        · intro w hSw; go_simp; try with_reducible rfl
        simp only [Act.put, List.setIfInBounds_toArray, List.set_cons_zero, List.set_cons_succ]
        refine take_at (i := 2) 37 ?_ rfl rfl (by kernel_rfl) (by kernel_rfl) (by kernel_rfl) (fun _ _ _ h => h) (.inl ⟨rfl, ?_⟩) BV.out ?_
        rotate_left 1
        · intro w hSw; go_simp; try with_reducible rfl
        simp only [Act.put, List.setIfInBounds_toArray, List.set_cons_zero, List.set_cons_succ]
        refine take_at (i := 3) 38 ?_ rfl rfl (by kernel_rfl) (by kernel_rfl) (by kernel_rfl) (fun _ _ _ h => h) (.inl ⟨rfl, ?_⟩) BV.out ?_
        rotate_left 1
        · intro w hSw; go_simp; try with_reducible rfl
        simp only [Act.put, List.setIfInBounds_toArray, List.set_cons_zero, List.set_cons_succ]
        refine take_at (i := 4) 39 ?_ rfl rfl (by kernel_rfl) (by kernel_rfl) (by kernel_rfl) (fun _ _ _ h => h) (.inl ⟨rfl, ?_⟩) BV.out ?_
        rotate_left 1
        · intro w hSw; go_simp; try with_reducible rfl
        simp only [Act.put, List.setIfInBounds_toArray, List.set_cons_zero, List.set_cons_succ]
        refine take_at (i := 5) 40 undef rfl rfl (by kernel_rfl) (by kernel_rfl) (by kernel_rfl) (fun _ _ _ h => h) (.inr ⟨rfl, rfl⟩) BV.out ?_
        simp only [Act.put, List.setIfInBounds_toArray, List.set_cons_zero, List.set_cons_succ]
        refine take_at (i := 6) 41 undef rfl rfl (by kernel_rfl) (by kernel_rfl) (by kernel_rfl) (fun _ _ _ h => h) (.inr ⟨rfl, rfl⟩) BV.out ?_
        simp only [Act.put, List.setIfInBounds_toArray, List.set_cons_zero, List.set_cons_succ]
        refine take_at (i := 7) 42 undef rfl rfl (by kernel_rfl) (by kernel_rfl) (by kernel_rfl) (fun _ _ _ h => h) (.inr ⟨rfl, rfl⟩) BV.out ?_
        simp only [Act.put, List.setIfInBounds_toArray, List.set_cons_zero, List.set_cons_succ]
        refine take_at (i := 8) 43 undef rfl rfl (by kernel_rfl) (by kernel_rfl) (by kernel_rfl) (fun _ _ _ h => h) (.inr ⟨rfl, rfl⟩) BV.out ?_
        simp only [Act.put, List.setIfInBounds_toArray, List.set_cons_zero, List.set_cons_succ]
        refine take_at (i := 9) 44 undef rfl rfl (by kernel_rfl) (by kernel_rfl) (by kernel_rfl) (fun _ _ _ h => h) (.inr ⟨rfl, rfl⟩) BV.out ?_
        simp only [Act.put, List.setIfInBounds_toArray, List.set_cons_zero, List.set_cons_succ]
        refine take_at (i := 10) 45 undef rfl rfl (by kernel_rfl) (by kernel_rfl) (by kernel_rfl) (fun _ _ _ h => h) (.inr ⟨rfl, rfl⟩) BV.out ?_
        simp only [Act.put, List.setIfInBounds_toArray, List.set_cons_zero, List.set_cons_succ]
        refine take_at (i := 11) 46 undef rfl rfl (by kernel_rfl) (by kernel_rfl) (by kernel_rfl) (fun _ _ _ h => h) (.inr ⟨rfl, rfl⟩) BV.out ?_
        simp only [Act.put, List.setIfInBounds_toArray, List.set_cons_zero, List.set_cons_succ]
        refine take_at (i := 12) 47 undef rfl rfl (by kernel_rfl) (by kernel_rfl) (by kernel_rfl) (fun _ _ _ h => h) (.inr ⟨rfl, rfl⟩) BV.out ?_
        simp only [Act.put, List.setIfInBounds_toArray, List.set_cons_zero, List.set_cons_succ]
        refine take_at (i := 13) 48 ?_ rfl rfl (by kernel_rfl) (by kernel_rfl) (by kernel_rfl) (fun _ _ _ h => h) (.inl ⟨rfl, ?_⟩) BV.out ?_
        rotate_left 1
        · intro w hSw; go_simp; try with_reducible rfl
        simp only [Act.put, List.setIfInBounds_toArray, List.set_cons_zero, List.set_cons_succ]
        refine take_at (i := 14) 6 ?_ rfl rfl (by kernel_rfl) (by kernel_rfl) (by kernel_rfl) (fun _ _ _ h => h) (.inl ⟨rfl, ?_⟩) BV.out ?_
        rotate_left 1
        · intro w hSw; go_simp; try with_reducible rfl
        simp only [Act.put, List.setIfInBounds_toArray, List.set_cons_zero, List.set_cons_succ]
        refine take_at (i := 15) 7 ?_ rfl rfl (by kernel_rfl) (by kernel_rfl) (by kernel_rfl) (fun _ _ _ h => h) (.inl ⟨rfl, ?_⟩) BV.out ?_
        rotate_left 1
        · intro w hSw; go_simp; try with_reducible rfl
        simp only [Act.put, List.setIfInBounds_toArray, List.set_cons_zero, List.set_cons_succ]
        refine wpAnyH_done (by kernel_rfl) ?_ _
        have B1 := Lib.hid (X.out.trans ((B0.out.trans (BV.out.mono B0.out.size)).mono X.out.size))
        clear BV
        go_wp2
        go_returns
        rw [HS.out]
        refine ⟨?_, B1.out⟩
        rw [HE.out]
        rfl

end Go.Proofs.YtbeodechhneeeaaGreatDoor



/-! ### of BK -/
set_option linter.unusedVariables false
set_option maxRecDepth 100000
namespace Go.Proofs.YtbeodechhneeeaaGreatDoor
open Go.RowKit Go.Shelf
open Tb (LiesK)
attribute [local go_sem] Oper.semAt_some

set_option maxHeartbeats 1600000 in
theorem told_back (n : Nat) (hn : 1 ≤ n) (l bx : Nat) (v : Value) (L : List Stp) (hl : L.length ≤ 100000) (J : Nat → World → Prop)
    (hR : ∀ i W, J i W → W.cell? ⟨bx, 0, none⟩ = some v ∧ LiesK stc1 15 W v L)
    (hY : ∀ (i k : Nat) (s : Stp) (W : World), J i W → i < L.length → k = L.length - 1 - i → L[k]? = some s → YieldAt Fence.wide (n - 1) Tryz.prog l #[.int .i64 (k : Int), stV s] W fun e W' => e = .returned (.bool true) ∧ J (i + 1) W')
    (W : World) (h0 : J 0 W) :
    CallsIn Fence.wide n Tryz.prog 93 #[.func (.yield l) #[] #[], .pointer (some ⟨bx, 0, none⟩)] W fun e W' => (∃ v, e = .returned v) ∧ J L.length W' := by
  have hY := Lib.hid hY
  have hR := Lib.hid hR
  have hro : Fence.wide.round = none := rfl
  obtain ⟨c0, hL0⟩ := hR.out 0 W h0
  obtain ⟨ao, cap, rfl⟩ := hL0.shape
  have J0 := Lib.hid h0
  clear h0 hL0
  refine callsIn_of_wp Tryz.func93 rfl trivial ?_ hro
  simp only [Tryz.ntmps93, List.size_toArray, List.length_cons, List.length_nil, Nat.reduceAdd, Nat.reduceSub, Array.replicate_succ, Array.replicate_zero, List.push_toArray, List.append_toArray, List.nil_append, List.cons_append]
  have hw0 : wrap64 ((L.length : Int) - 1) = (L.length : Int) - 1 := by unfold wrap64; omega
  gi_wp2
  clear c0
  gi_loopw [3] (fun p wr => ∃ (i : Nat), p = .int .i64 ((L.length : Int) - 1 - (i : Int)) ∧ i ≤ L.length ∧ Hid (J i wr)) (fun p wr => (intOf p + 1).toNat)
  case atStart => exact ⟨0, by simp, Nat.zero_le _, J0⟩
  case round =>
    obtain ⟨i, rfl, hi, hI⟩ := hrel
    obtain ⟨c0, hL⟩ := hR.out i wr hI.out
    by_cases hlt : i < L.length
    · obtain ⟨k, hk⟩ : ∃ k, k = L.length - 1 - i := ⟨_, rfl⟩
      have hkk : (L.length : Int) - 1 - (i : Int) = (k : Int) := by omega
      rw [hkk]
      obtain ⟨g, o, s, rfl, hs, hg, hc⟩ := lies_elt hL (i := k) (by omega)
      have d0 := hc 0 _ rfl; have d1 := hc 1 _ rfl; have d2 := hc 2 _ rfl; have d3 := hc 3 _ rfl; have d4 := hc 4 _ rfl; have d5 := hc 5 _ rfl; have d6 := hc 6 _ rfl; have d7 := hc 7 _ rfl
      have d8 := hc 8 _ rfl; have d9 := hc 9 _ rfl; have d10 := hc 10 _ rfl; have d11 := hc 11 _ rfl; have d12 := hc 12 _ rfl; have d13 := hc 13 _ rfl; have d14 := hc 14 _ rfl
      rw [Nat.add_zero] at d0
      obtain ⟨fn, tmps, assign, body, hy, hRr⟩ := hY.out i k s wr hI.out hlt hk hs
      unfold stV stCells at hy
      have hRr := Lib.hid hRr
      have hk0 : (0 : Int) ≤ (k : Int) := by omega
      have hk1 : (k : Int) < (L.length : Int) := by omega
      have HKK := Lib.hid hkk
      have HK0 := Lib.hid hk0
      clear hL hc hs hk hkk
      gi_wp2_with fail
      refine hRr.out.mono ?_
      rintro e W3 ⟨rfl, hJ3⟩
      have J3 := Lib.hid hJ3
      clear hJ3 hy c0 d0 d1 d2 d3 d4 d5 d6 d7 d8 d9 d10 d11 d12 d13 d14
      gi_wp2
      go_roundw
      case rel => exact ⟨i + 1, by have := HKK.out; congr 1; push_cast; omega, by omega, J3⟩
      case measure => have := HKK.out; have := HK0.out; simp [intOf]; try omega
    · have he : i = L.length := by omega
      subst he
      have hneg : decide ((0 : Int) ≤ (L.length : Int) - 1 - (L.length : Int)) = false := decide_eq_false (by omega)
      have hn1 : ((L.length : Int) - 1 - (L.length : Int)) = -1 := by omega
      rw [hn1]
      clear hL c0
      gi_wp2
      go_end0
      exact ⟨⟨_, rfl⟩, hI.out⟩
/-- How the body of such a loop is left: at its end; the two blocks of the loop are as they were. -/
def goesOnB (w : World) (I : Nat → World → Prop) (i : Nat) (W : World) : Exit → Act → World → Prop
  | .normal, _, W' => W'.heap[w.heap.size]? = W.heap[w.heap.size]? ∧ W'.heap[w.heap.size + 1]? = W.heap[w.heap.size + 1]? ∧ I (i + 1) W'
  | _, _, _ => False
theorem range_back {g : Operand} {ps : Array Tmp} {assign body : Code} {Q : Exit → Act → World → Prop} {a : Act} {w : World} {n : Nat} (hn : 2 ≤ n) {bx : Nat} {v : Value} {L : List Stp} (hl : L.length ≤ 100000)
    (hg : a.eval g = .func (.func 93) #[] #[.pointer (some ⟨bx, 0, none⟩)]) (hps : ps.size = 2)
    (I : Nat → World → Prop) (hI : OwnFrom w.heap.size I) (h0 : I 0 w) (hR : ∀ i W, I i W → W.cell? ⟨bx, 0, none⟩ = some v ∧ LiesK stc1 15 W v L) (a₁ : Nat → Stp → Nat → Act)
    (hassign : ∀ (l k : Nat) (s : Stp) (W : World) (K : Act → World → Prop), K (a₁ k s W.heap.size) (W.alloc (.cells (stCells s) 71)) →
      assign.wpIn (Fence.wide.inRound l) (n - 1 - 1) Tryz.prog (Exit.then K (fun _ _ _ => False)) { tmps := (ps.zip #[.int .i64 (k : Int), stV s]).foldl (fun t (p, v) => t.setIfInBounds p v) a.tmps, defers := [] } W)
    (hbody : ∀ (l i k b : Nat) (s : Stp) (W : World), I i W → i < L.length → k = L.length - 1 - i → L[k]? = some s → w.heap.size + 1 < b → b < W.heap.size → W.heap[b]? = some (.cells (stCells s) 71 (0, 0)) →
      body.wpIn (Fence.wide.inRound l) (n - 1 - 1) Tryz.prog (goesOnB w I i W) (a₁ k s b) W)
    (hdone : ∀ (D : Nat) (W : World), w.heap.size ≤ D → I L.length W → W.heap[D]? = some (.deferred (some [])) → Q .normal { a with defers := { target := .collected D, args := #[] } :: a.defers } W) :
    (Code.rangeFunc g ps assign body).wpIn Fence.wide n Tryz.prog Q a w := by
  have hro : Fence.wide.round = none := rfl
  have eg : ∀ (args : Array Value) (W : World), (callFunc 93 args).run Tryz.prog W = .ok (.enter 93 args) W := enters_of Tryz.func93 (by kernel_rfl) rfl
  refine wpIn_rangeFunc fun fn hfn => ?_
  rw [hro]
  obtain ⟨lp, hlp⟩ : ∃ lp : LoopState → Option Code → Loop, lp = fun st jump => { state := st, pending := jump, fn, tmps := a.tmps, params := ps, assign, body, defers := w.heap.size } := ⟨_, rfl⟩
  obtain ⟨Ws, hWs⟩ : ∃ Ws, Ws = (w.alloc (.deferred (some []))).alloc (.loop (lp .ready none)) := ⟨_, rfl⟩
  have sLoop : Ws.heap[w.heap.size + 1]? = some (.loop (lp .ready none)) := by
    have := World.alloc_heap_new (w.alloc (.deferred (some []))) (.loop (lp .ready none))
    rw [World.size_alloc] at this
    rw [hWs]; exact this
  have sDef : Ws.heap[w.heap.size]? = some (.deferred (some [])) := by
    rw [hWs]; exact (Below.heap_alloc _ _ _ (by simp)).trans (World.alloc_heap_new w _)
  have sB : Below w.heap.size w Ws := by rw [hWs]; exact ((Below.refl _ w).alloc (Nat.le_refl _) _).alloc (by simp) _
  have sI : I 0 Ws := by rw [hWs]; exact hI.alloc _ (hI.alloc _ h0)
  refine ⟨w.heap.size + 1, [{ target := .collected w.heap.size, args := #[] }], Ws, { target := .fn (.func 93) #[.pointer (some ⟨bx, 0, none⟩)], args := #[.func (.yield (w.heap.size + 1)) #[] #[]] }, Ws, 93,
    #[.func (.yield (w.heap.size + 1)) #[] #[], .pointer (some ⟨bx, 0, none⟩)], Ws, ?enter, ?who, (fun f' _ => trivial), ?into, (fun _ => by omega), ?run⟩
  case enter => rw [hWs, hlp]; exact run_enterLoop_outer _ _ _ _ _
  case who =>
    simp only [resolve, hg]
    simp [go_sem]
  case into => simp [invoke, go_sem, eg]
  case run =>
    refine (told_back (n - 1) (by omega) (w.heap.size + 1) bx v L hl
      (fun i W => I i W ∧ W.heap[w.heap.size + 1]? = some (.loop (lp .ready none)) ∧ W.heap[w.heap.size]? = some (.deferred (some [])))
      (fun i W h => hR i W h.1) ?round Ws ⟨sI, sLoop, sDef⟩).mono ?after
    case round =>
      rintro i k s W ⟨hii, hloop, hdef⟩ hil hk hget
      have hlt : w.heap.size + 1 < W.heap.size := (Array.getElem?_eq_some_iff.1 hloop).1
      have hy := run_yield (P := Tryz.prog) (args := #[.int .i64 (k : Int), stV s]) hloop (by rw [hlp]; exact hps.symm)
      obtain ⟨Wa, hWa⟩ : ∃ z, z = W.alloc (.cells (stCells s) 71) := ⟨_, rfl⟩
      have aLoop : Wa.heap[w.heap.size + 1]? = some (.loop (lp .ready none)) := by rw [hWa]; exact (Below.heap_alloc _ _ _ hlt).trans hloop
      have aDef : Wa.heap[w.heap.size]? = some (.deferred (some [])) := by rw [hWa]; exact (Below.heap_alloc _ _ _ (by omega)).trans hdef
      have aI : I i Wa := by rw [hWa]; exact hI.alloc _ hii
      have aBox : Wa.heap[W.heap.size]? = some (.cells (stCells s) 71 (0, 0)) := by rw [hWa]; exact World.alloc_heap_new W _
      have aLt : w.heap.size + 1 < Wa.heap.size := (Array.getElem?_eq_some_iff.1 aLoop).1
      obtain ⟨Wb, hWb⟩ : ∃ Wb, Wb = Wa.putObj (w.heap.size + 1) (.loop { lp .ready none with state := .busy }) := ⟨_, rfl⟩
      rw [hlp] at hy
      refine ⟨fn, _, assign, body, hy, roundIn_of_wpIn hfn (hassign _ k s W _ ⟨_, run_beginRound (by rw [← hWa]; exact aLoop) (by rw [hlp]), ?_⟩)⟩
      have bLoop : Wb.heap[w.heap.size + 1]? = some (.loop { lp .ready none with state := .busy }) := by rw [hWb]; exact World.putObj_heap_same aLt
      have bDef : Wb.heap[w.heap.size]? = some (.deferred (some [])) := by rw [hWb]; exact (World.putObj_heap_other (by omega)).trans aDef
      have bI : I i Wb := by rw [hWb]; exact hI.putObj _ aI (by omega) aLoop rfl
      have bBox : Wb.heap[W.heap.size]? = some (.cells (stCells s) 71 (0, 0)) := by rw [hWb]; exact (World.putObj_heap_other (by omega)).trans aBox
      rw [← hWa, ← hWb]
      refine wpIn_mono (hbody _ i k W.heap.size s Wb bI hil hk hget hlt (Array.getElem?_eq_some_iff.1 bBox).1 bBox) fun ex a3 W3 hp => ?_
      cases ex with
      | normal =>
        obtain ⟨k1, k2, k3⟩ := hp
        have eLoop := k2.trans bLoop
        have hend := run_endRound (P := Tryz.prog) none eLoop
        rw [hlp] at hend eLoop ⊢
        have hl3 := (Array.getElem?_eq_some_iff.1 eLoop).1
        exact ⟨_, _, hend, rfl, hI.putObj _ k3 (by omega) eLoop rfl, World.putObj_heap_same hl3, (World.putObj_heap_other (by omega)).trans (k1.trans bDef)⟩
      | ret => exact hp.elim
      | exit id => exact hp.elim
      | goto t => exact hp.elim
      | panic ch => exact hp.elim
      | outgrown => exact hp.elim
    case after =>
      rintro e W2 ⟨⟨v, rfl⟩, hii, hloop, hdef⟩
      have hend := run_endLoop (P := Tryz.prog) hloop (by rw [hlp]; simp)
      rw [hlp] at hend
      exact ⟨none, _, hend, hdone _ _ (Nat.le_refl _) (hI.putObj _ hii (by omega) hloop rfl) ((World.putObj_heap_other (by omega)).trans hdef)⟩
end Go.Proofs.YtbeodechhneeeaaGreatDoor



/-! ### of IN -/
set_option linter.unusedVariables false
set_option linter.unusedSimpArgs false
set_option maxRecDepth 100000
namespace Go.Proofs.YtbeodechhneeeaaGreatDoor
open Go.RowKit Go.Shelf Go.Lib
open Tb (Sprung)

section
variable {P : Program}
/-- A copy into a row that is known whole, of elements of k cells. -/
theorem run_copy_rowK (w : World) (dT sT ty elem : TypeId) (k g o dLen dCap : Nat) (a : Addr) (sLen sCap : Nat) (cur : Array Value) (t : TypeId) (cs : List Value)
    (hu : P.underlying dT = some (.slice elem)) (hs : (P.info? elem).map (·.size) = some k)
    (hg : w.heap[g]? = some (.cells cur t (0, 0))) (hn : cs.length = Nat.min sLen dLen * k)
    (hsrc : ∀ j v, cs[j]? = some v → w.cell? (a.add j) = some v) (hfit : o + cs.length ≤ cur.size) (h1 : ∀ v ∈ cs, v.oneCell' = true) :
    (Builtin.copy_ #[dT, sT] ty #[.slice (some ⟨g, o, none⟩) dLen dCap, .slice (some a) sLen sCap]).run P w =
      .ok (goInt (Nat.min sLen dLen)) (w.setRow g (cur.toList.take o ++ cs ++ cur.toList.drop (o + cs.length)).toArray) := by
  have hl := run_loadCells_list (P := P) w a cs hsrc
  rw [hn] at hl
  have hst := run_storeCells_at P g o t cs 0 cur w hg (by simpa using hfit) h1
  cases hq : P.info? elem with
  | none => simp [hq] at hs
  | some i =>
    have hi : i.size = k := by simpa [hq] using hs
    subst hi
    simp [Builtin.copy_, run_underlying hu, Builtin.lenOf, Builtin.firstCells, sizeOf, typeInfo, hq, hl, hst]
theorem wpList_copyK {w : World} {ops : Array Oper} {rest : List Oper} {o : Oper} {a : Act} {Q : Exit → Act → World → Prop} (hgd : o.guard = none) (d s : Operand) (t t' : TypeId)
    (ho : o.op = .call { callee := .builtin .copy, args := #[d, s], argTypes := #[t, t'] }) (v u : Value) (hd : a.eval d = v) (hs : a.eval s = u) {v' : Value} {w' : World}
    (hr : (Builtin.copy_ #[t, t'] o.type #[v, u]).run P w = .ok v' w') (h : wpList P ops Q rest (a.put o.dst v') w') : wpList P ops Q (o :: rest) a w :=
  wpList_plain hgd fun _ hK => by
    unfold Oper.wp execOp
    simp only [ho, resolve, invoke, builtin, Sem.run_bind, Sem.run_pure, Result.andThen_ok, List.map_toArray, List.map_cons, List.map_nil, hd, hs, hr]
    exact hK _ _ h
end
theorem info89 : (Tryz.prog.info? 71).map (fun i => (i.zero, i.size, i.bytes)) = some (some (.agg #[.int .i64 0, .int .i64 0, .int .i64 0, .int .i64 0, .int .i64 0, .int .i64 0, .int .i64 0, .string ⟨#[]⟩, .bool false, .bool false, .bool false, .int .i64 0, .int .i64 0, .string ⟨#[]⟩, .bool false]), 15, 128) := by kernel_rfl
theorem Tryz.u75 : Tryz.prog.underlying 60 = some (.slice 71) := by kernel_rfl
theorem size89 : (Tryz.prog.info? 71).map (·.size) = some 15 := by kernel_rfl
theorem run_size89 (w : World) : (Go.sizeOf 71).run Tryz.prog w = .ok 15 w := by
  obtain ⟨i, hi, _, h1, _⟩ := info_parts info89
  simp [sizeOf, typeInfo, hi, h1]
theorem overlaps_no (w : World) (vb o b o2 m vc lb cb : Nat) (ca cb' : Array Value) (ta tb : TypeId) (hne : vb ≠ b) (ha : w.heap[vb]? = some (.cells ca ta (0, 0))) (hb : w.heap[b]? = some (.cells cb' tb (0, 0))) (hz : cb'.size ≠ 0) :
    (callFunc 63 #[.slice (some ⟨vb, o, none⟩) m vc, .slice (some ⟨b, o2, none⟩) lb cb]).run Tryz.prog w = .ok (.value (.bool false)) w := by
  rw [run_callFunc_extern Tryz.func63 (by kernel_rfl) (by kernel_rfl) (by kernel_rfl) (e := Extern.SlicesOverlaps.overlaps #[60, 60] #[4]) (by kernel_rfl),
    Lib.run_overlaps_apart w 60 4 71 Tryz.u75 15 run_size89 ⟨vb, o, none⟩ ⟨b, o2, none⟩ m vc lb cb hne ta tb ca.size cb'.size (by simp [World.shape?, ha]) (by simp [World.shape?, hb]) hz (by simp [World.frozen?, ha]) (by simp [World.frozen?, ha])]
  rfl
theorem ins_rows {α : Type} (A D T st : List α) (m : Nat) (hm : st.length = m) (hD : m ≤ D.length) :
    (((A ++ D ++ T).take (A.length + m) ++ D ++ (A ++ D ++ T).drop (A.length + m + D.length)).take A.length ++ st ++ ((A ++ D ++ T).take (A.length + m) ++ D ++ (A ++ D ++ T).drop (A.length + m + D.length)).drop (A.length + m)) = A ++ st ++ D ++ (A ++ D ++ T).drop (A.length + m + D.length) := by
  have h1 : ((A ++ D ++ T).take (A.length + m)).length = A.length + m := by rw [List.length_take, List.length_append, List.length_append]; omega
  have h2 : ((A ++ D ++ T).take (A.length + m)).take A.length = A := by
    rw [List.take_take, Nat.min_eq_left (by omega), List.append_assoc, List.take_left]
  generalize (A ++ D ++ T).take (A.length + m) = X at *
  generalize (A ++ D ++ T).drop (A.length + m + D.length) = Y at *
  rw [List.append_assoc X D Y, List.take_append_of_le_length (by omega), h2, ← h1, List.drop_left, List.append_assoc]
  simp
theorem ins_rows2 {α : Type} (A Z D st : List α) (m : Nat) (hm : st.length = m) (X : List α) :
    (((A ++ Z).take A.length ++ st ++ (A ++ Z).drop (A.length + m)).take (A.length + m)) ++ D ++ X = A ++ st ++ D ++ X := by
  have e : (A ++ st).length = A.length + m := by rw [List.length_append, hm]
  rw [List.take_left, ← e, List.take_left]
set_option maxHeartbeats 3200000 in
theorem insert_end (w : World) (B : Nat) (v : Value) (n : Nat) (xs st : List Value) (hown : w.ownsRow B 71 15 v n xs) (hn : n < 1000000) (vb : Nat) (hv : w.heap[vb]? = some (.cells st.toArray 71 (0, 0))) (hst : st.length = 15)
    (h2 : ∀ u ∈ st, u.oneCell' = true) (hB : B ≤ w.heap.size) :
    Calls Tryz.prog 35 #[v, .int .i64 n, .slice (some ⟨vb, 0, none⟩) 1 1] w fun e w' => ∃ v', e = .returned v' ∧ w'.ownsRow B 71 15 v' (n + 1) (xs ++ st) ∧ w.grownBy w' v.ownBlock ∧ Sprung w v v' := by
  have hsrc : Src Tryz.prog 15 60 (.slice (some ⟨vb, 0, none⟩) 1 1) 1 st w := Src.ofSlice w Tryz.u75 ⟨vb, 0, none⟩ 1 1 st (by rw [hst]) (fun j u hj => by
    rw [Addr.add_lit, Nat.zero_add, cell_of_row _ _ _ _ _ _ hv]; simpa using hj) h2
  obtain ⟨i0, hi0, hz0, hs0, hb0⟩ := info_parts info89
  have HO := Lib.hid hown
  have HS := Lib.hid hsrc
  rcases hown.2 with ⟨rfl, rfl⟩ | ⟨g, cap, cur, rfl, hbg, hg, hnc, hcm, hcs, htake⟩
  · clear hown hsrc hv
    go_enter Tryz.func35, Tryz.ntmps35
    go_wp2_with (at_builtin; refine Tb.wpList_append_src_own rfl (.tmp 23) (.tmp 24) 60 60 rfl B 71 i0 _ 15 128 Tryz.u75 hi0 hz0 hs0 hb0 rfl (by decide) _ _ xs rfl HO.out _ 1 st rfl HS.out (by decide) (by decide) hB ?_; intro v' w' r1 r2 r3; have R1 := Lib.hid r1; have R2 := Lib.hid r2; have R3 := Lib.hid r3; clear r1 r2 r3)
    go_returns
    exact ⟨_, rfl, R1.out, R2.out, R3.out⟩
  · have hcm' : cap ≤ 9223372036854775807 := by unfold maxLen at hcm; omega
    clear hown hsrc hv hg hcs htake
    go_enter Tryz.func35, Tryz.ntmps35
    go_wp2_with (at_builtin; refine Tb.wpList_append_src_own rfl (.tmp 23) (.tmp 24) 60 60 rfl B 71 i0 _ 15 128 Tryz.u75 hi0 hz0 hs0 hb0 rfl (by decide) _ _ xs rfl HO.out _ 1 st rfl HS.out (by unfold maxLen; omega) (by omega) hB ?_; intro v' w' r1 r2 r3; have R1 := Lib.hid r1; have R2 := Lib.hid r2; have R3 := Lib.hid r3; clear r1 r2 r3)
    all_goals
      go_returns
      exact ⟨_, rfl, R1.out, R2.out, R3.out⟩
end Go.Proofs.YtbeodechhneeeaaGreatDoor



/-! ### of IO -/
set_option linter.unusedVariables false
set_option linter.unusedSimpArgs false
set_option maxRecDepth 100000
namespace Go.Proofs.YtbeodechhneeeaaGreatDoor
open Go.RowKit Go.Shelf Go.Lib
open Tb (Sprung)

set_option maxHeartbeats 800000 in
theorem insert_room (w : World) (B g cap n i : Nat) (A D T st : List Value) (hB : B ≤ g) (hg : w.heap[g]? = some (.cells (A ++ D ++ T).toArray 71 (0, 0))) (hA : A.length = i * 15) (hD : D.length = (n - i) * 15) (hT : T.length = (cap - n) * 15)
    (hi : i < n) (hroom : n + 1 ≤ cap) (hcm : cap ≤ maxLen) (vb : Nat) (hv : w.heap[vb]? = some (.cells st.toArray 71 (0, 0))) (hst : st.length = 15) (hne : vb ≠ g)
    (h1 : ∀ u ∈ D, u.oneCell' = true) (h2 : ∀ u ∈ st, u.oneCell' = true) :
    Calls Tryz.prog 35 #[.slice (some ⟨g, 0, none⟩) n cap, .int .i64 i, .slice (some ⟨vb, 0, none⟩) 1 1] w fun e w' => ∃ v', e = .returned v' ∧ w'.ownsRow B 71 15 v' (n + 1) (A ++ st ++ D) ∧ w.grownBy w' (some g) ∧ Sprung w (.slice (some ⟨g, 0, none⟩) n cap) v' := by
  have hcm' : cap ≤ 9223372036854775807 := by unfold maxLen at hcm; omega
  have hov : ∀ o lb cb, (callFunc 63 #[.slice (some ⟨vb, 0, none⟩) 1 1, .slice (some ⟨g, o, none⟩) lb cb]).run Tryz.prog w = .ok (.value (.bool false)) w := fun o lb cb =>
    overlaps_no w vb 0 g o 1 1 lb cb _ _ 71 71 hne hv hg (by simp only [List.size_toArray, List.length_append]; omega)
  obtain ⟨c1, hc1⟩ : ∃ z, z = ((A ++ D ++ T).take (A.length + 15) ++ D ++ (A ++ D ++ T).drop (A.length + 15 + D.length)) := ⟨_, rfl⟩
  have hl1 : c1.length = (A ++ D ++ T).length := by rw [hc1]; simp only [List.length_append, List.length_take, List.length_drop]; omega
  have hcp1 : ∀ W, W.heap[g]? = some (.cells (A ++ D ++ T).toArray 71 (0, 0)) → ∀ ty dc sc, (Builtin.copy_ #[60, 60] ty #[.slice (some ⟨g, (i + 1) * 15, none⟩) (n - i) dc, .slice (some ⟨g, i * 15, none⟩) (n + 1 - i) sc]).run Tryz.prog W = .ok (goInt (n - i : Nat)) (W.setRow g c1.toArray) := fun W hW ty dc sc => by
    have := run_copy_rowK (P := Tryz.prog) W 60 60 ty 71 15 g ((i + 1) * 15) (n - i) dc ⟨g, i * 15, none⟩ (n + 1 - i) sc _ 71 D Tryz.u75 size89 hW (by rw [hD]; congr 1; simp only [Nat.min_def]; split <;> omega)
      (fun j u hj => by
        rw [Addr.add_lit, cell_of_row _ _ _ _ _ _ hW]
        simp only [List.getElem?_toArray]
        rw [← hA, List.append_assoc, List.getElem?_append_right (by omega), Nat.add_sub_cancel_left, List.getElem?_append_left (List.getElem?_eq_some_iff.1 hj).1]
        exact hj) (by simp only [List.size_toArray, List.length_append]; omega) h1
    rw [show Nat.min (n + 1 - i) (n - i) = n - i by simp only [Nat.min_def]; split <;> omega] at this
    rw [this, hc1]
    simp only [List.toList_toArray, show (i + 1) * 15 = A.length + 15 by omega]
  obtain ⟨c2, hc2⟩ : ∃ z, z = A ++ st ++ D ++ (A ++ D ++ T).drop (A.length + 15 + D.length) := ⟨_, rfl⟩
  have hcp2 : ∀ W, W.heap[g]? = some (.cells c1.toArray 71 (0, 0)) → W.heap[vb]? = some (.cells st.toArray 71 (0, 0)) → ∀ ty dc, (Builtin.copy_ #[60, 60] ty #[.slice (some ⟨g, i * 15, none⟩) (n + 1 - i) dc, .slice (some ⟨vb, 0, none⟩) 1 1]).run Tryz.prog W = .ok (goInt (1 : Nat)) (W.setRow g c2.toArray) := fun W hW hV ty dc => by
    have := run_copy_rowK (P := Tryz.prog) W 60 60 ty 71 15 g (i * 15) (n + 1 - i) dc ⟨vb, 0, none⟩ 1 1 _ 71 st Tryz.u75 size89 hW (by rw [hst]; simp only [Nat.min_def]; split <;> omega)
      (fun j u hj => by
        rw [Addr.add_lit, Nat.zero_add, cell_of_row _ _ _ _ _ _ hV]
        simpa using hj) (by simp only [List.size_toArray, hl1, List.length_append]; omega) h2
    rw [show Nat.min 1 (n + 1 - i) = 1 by simp only [Nat.min_def]; split <;> omega] at this
    rw [this, hc2, ← ins_rows A D T st 15 hst (by omega), ← hc1]
    simp only [List.toList_toArray, hst, hA]
  have hz2 : ¬ ((i : Int) = (n : Int)) := by omega
  have hz3 : ¬ ((cap : Int) < (n : Int) + 1) := by omega
  have e1 : (((i : Int) + 1).toNat) = i + 1 := by omega
  have e2 : (((n : Int) + 1).toNat) = n + 1 := by omega
  have e3 : ¬ (cap = i) := by omega
  have e4 : ¬ (cap = i + 1) := by omega
  have hw1 : IntKind.i64.wrap ((i : Int) + 1) = (i : Int) + 1 := by rw [IntKind.wrap_i64]; omega
  have hb1 : (0 : Int) ≤ (i : Int) + 1 := by omega
  have hb2 : (i : Int) ≤ (n : Int) := by omega
  have hb3 : (i : Int) ≤ (n : Int) + 1 := by omega
  have hb4 : (i : Int) + 1 ≤ (n : Int) + 1 := by omega
  have hb5 : i ≤ n := by omega
  have hb6 : i ≤ n + 1 := by omega
  have e5 : n + 1 - (i + 1) = n - i := by omega
  obtain ⟨W1, hW1⟩ : ∃ W1, w.setRow g c1.toArray = W1 := ⟨_, rfl⟩
  have GW := hcp1 w.drew hg
  have HC1 := Lib.hid hl1
  have HC2 := Lib.hid hc2
  have HL := Lib.hid (show c2.length = cap * 15 ∧ c2.take ((n + 1) * 15) = A ++ st ++ D from by
    have e : (A ++ st ++ D).length = (n + 1) * 15 := by simp only [List.length_append]; omega
    constructor
    · rw [hc2]; simp only [List.length_append, List.length_drop]; omega
    · rw [hc2, ← e, List.take_left])
  obtain ⟨R, hR⟩ : ∃ z, A ++ st ++ D = z := ⟨_, rfl⟩
  rw [hR] at HL ⊢
  have HRL := Lib.hid (show R.length = (n + 1) * 15 from by rw [← hR]; simp only [List.length_append]; omega)
  clear hcp1 hc1 hc2 hl1 hR hA hD hT h1 h2 hst
  go_enter Tryz.func35, Tryz.ntmps35
  go_wp2_with (simp only [hov])
  refine wp_region_held_drew (S := fun w' => w' = w.drew ∨ w' = w.drew.setRow g c1.toArray) (by kernel_rfl) (.inl rfl) (fun hHeld => ?_)
  clear hHeld
  refine take_at (i := 0) 69 ?_ rfl rfl (by kernel_rfl) (by kernel_rfl) (by kernel_rfl) (fun _ _ _ h => h) (.inl ⟨rfl, ?_⟩) (.inl rfl) ?_
  rotate_left 1
  · intro w hSw; go_simp; try with_reducible rfl
  simp only [Act.put, List.setIfInBounds_toArray, List.set_cons_zero, List.set_cons_succ]
  refine take_at (i := 1) 70 ?_ rfl rfl (by kernel_rfl) (by kernel_rfl) (by kernel_rfl) (fun _ _ _ h => h) (.inl ⟨rfl, ?_⟩) (.inl rfl) ?_
  rotate_left 1
  · intro w hSw; go_simp; try with_reducible rfl
  simp only [Act.put, List.setIfInBounds_toArray, List.set_cons_zero, List.set_cons_succ]
  refine take_at (i := 2) 71 ?_ rfl rfl (by kernel_rfl) (by kernel_rfl) (by kernel_rfl) (fun _ _ _ h => h) (.inl ⟨rfl, ?_⟩) (.inl rfl) ?_
  rotate_left 1
  · intro w hSw; go_simp; try with_reducible rfl
  simp only [Act.put, List.setIfInBounds_toArray, List.set_cons_zero, List.set_cons_succ]
  refine take_at (i := 3) 72 ?_ rfl rfl (by kernel_rfl) (by kernel_rfl) (by kernel_rfl) (fun _ _ _ h => h) (.inl ⟨rfl, ?_⟩) (.inl rfl) ?_
  rotate_left 1
  · intro w hSw; go_simp; try with_reducible rfl
  simp only [Act.put, List.setIfInBounds_toArray, List.set_cons_zero, List.set_cons_succ]
  refine take_at (i := 4) 73 ?_ rfl rfl (by kernel_rfl) (by kernel_rfl) (by kernel_rfl) (fun _ _ _ h => h) (.inl ⟨rfl, ?_⟩) (.inl rfl) ?_
  rotate_left 1
  · intro w hSw; go_simp; try with_reducible rfl
  simp only [Act.put, List.setIfInBounds_toArray, List.set_cons_zero, List.set_cons_succ]
  refine take_at (i := 5) 74 ?_ rfl rfl (by kernel_rfl) (by kernel_rfl) (by kernel_rfl) (fun _ _ _ h => h) (.inl ⟨rfl, ?_⟩) (.inl rfl) ?_
  rotate_left 1
  · intro w hSw; go_simp; try with_reducible rfl
  simp only [Act.put, List.setIfInBounds_toArray, List.set_cons_zero, List.set_cons_succ]
  refine take_at (i := 6) 75 ?_ rfl rfl (by kernel_rfl) (by kernel_rfl) (by kernel_rfl) (fun _ _ _ h => h) (.inl ⟨rfl, ?_⟩) (.inl rfl) ?_
  rotate_left 1
  · intro w hSw; go_simp; try with_reducible rfl
  simp only [Act.put, List.setIfInBounds_toArray, List.set_cons_zero, List.set_cons_succ]
  refine take_at (i := 7) 76 ?_ rfl rfl (by kernel_rfl) (by kernel_rfl) (by kernel_rfl) (fun _ _ _ h => h) (.inl ⟨rfl, ?_⟩) (.inl rfl) ?_
  rotate_left 1
  · intro w hSw; go_simp; try with_reducible rfl
  simp only [Act.put, List.setIfInBounds_toArray, List.set_cons_zero, List.set_cons_succ]
  refine wpAnyH_ready (rs := [8]) (by kernel_rfl) (by simp) (br_copy (i := 8) 77 (.tmp 73) (.tmp 76) 60 60 rfl rfl rfl rfl _ _ _ _ rfl rfl (GW _ _ _) (.inr rfl) (fun _ => ?_) AllReadyH.nil)
  simp only [Act.put, List.setIfInBounds_toArray, List.set_cons_zero, List.set_cons_succ]
  refine wpAnyH_done (by kernel_rfl) ?_ _
  have HB : Hid ((w.drew.setRow g c1.toArray).heap[g]? = some (.cells c1.toArray 71 (0, 0))) := Lib.hid (setRow_heap w.drew g _ _ 71 _ hg)
  have HV : Hid ((w.drew.setRow g c1.toArray).heap[vb]? = some (.cells st.toArray 71 (0, 0))) := Lib.hid ((setRow_other w.drew g vb _ hne).trans hv)
  have GW2 := hcp2 _ HB.out HV.out
  have HG : Hid (w.grownBy (w.drew.setRow g c1.toArray) (some g)) := Lib.hid ⟨rfl, rfl, rfl, by simp [World.setRow], fun k _ hk => setRow_other w.drew g k _ (fun e => hk (by rw [e]))⟩
  clear GW hg hv hcp2 hov
  generalize w.drew.setRow g c1.toArray = W2 at *
  go_wp2_with (at_builtin; refine wpList_copyK rfl (.tmp 80) (.tmp 81) 60 60 rfl _ _ rfl rfl (GW2 _ _) ?_)
  go_returns
  refine ⟨_, rfl, ⟨HRL.out, .inr ⟨g, cap, c2.toArray, rfl, hB, setRow_heap W2 g _ _ 71 _ HB.out, hroom, hcm, by simp only [List.size_toArray]; exact HL.out.1, by simp only [List.toList_toArray]; exact HL.out.2⟩⟩, ?_, .inl rfl⟩
  exact ⟨HG.out.os, HG.out.tape, HG.out.output, by simp [World.setRow, HG.out.size], fun k h1 hk => (setRow_other W2 g k _ (fun e => hk (by rw [e]))).trans (HG.out.block k h1 hk)⟩

set_option maxHeartbeats 800000 in
theorem insert_grow (w : World) (B g n i : Nat) (A D : List Value) (st : List Value) (hB : B ≤ w.heap.size) (hg : w.heap[g]? = some (.cells (A ++ D).toArray 71 (0, 0))) (hA : A.length = i * 15) (hD : D.length = (n - i) * 15)
    (hi : i < n) (hn : n < 1000000) (vb : Nat) (hv : w.heap[vb]? = some (.cells st.toArray 71 (0, 0))) (hst : st.length = 15)
    (h1 : ∀ u ∈ D, u.oneCell' = true) (h2 : ∀ u ∈ st, u.oneCell' = true) :
    Calls Tryz.prog 35 #[.slice (some ⟨g, 0, none⟩) n n, .int .i64 i, .slice (some ⟨vb, 0, none⟩) 1 1] w fun e w' => ∃ v', e = .returned v' ∧ w'.ownsRow B 71 15 v' (n + 1) (A ++ st ++ D) ∧ w.grownBy w' (some g) ∧ Sprung w (.slice (some ⟨g, 0, none⟩) n n) v' := by
  obtain ⟨i0, hi0, hz0, hs0, hb0⟩ := info_parts info89
  have hgl : g < w.heap.size := (Array.getElem?_eq_some_iff.1 hg).1
  have hvl : vb < w.heap.size := (Array.getElem?_eq_some_iff.1 hv).1
  obtain ⟨G, hG⟩ : ∃ G, G = grownCap w (n + 1) n 71 := ⟨_, rfl⟩
  have hGn : n + 1 ≤ G := by rw [hG]; exact grownCap_ge w _ _ _
  have hGm : G ≤ maxLen := by rw [hG]; exact grownCap_le_maxLen w (n + 1) n 71 (by unfold maxLen; omega)
  have hG63 : G ≤ 9223372036854775807 := by unfold maxLen at hGm; omega
  obtain ⟨Z, hZ⟩ : ∃ Z : List Value, Z = (Builtin.zeroCells (Value.agg #[.int .i64 0, .int .i64 0, .int .i64 0, .int .i64 0, .int .i64 0, .int .i64 0, .int .i64 0, .string ⟨#[]⟩, .bool false, .bool false, .bool false, .int .i64 0, .int .i64 0, .string ⟨#[]⟩, .bool false]).cells (n + 1 - i) ++ Builtin.zeroCells (Value.agg #[.int .i64 0, .int .i64 0, .int .i64 0, .int .i64 0, .int .i64 0, .int .i64 0, .int .i64 0, .string ⟨#[]⟩, .bool false, .bool false, .bool false, .int .i64 0, .int .i64 0, .string ⟨#[]⟩, .bool false]).cells (G - (n + 1))).toList := ⟨_, rfl⟩
  have hZl : Z.length = (G - i) * 15 := by
    rw [hZ, Array.length_toList, Array.size_append, size_zeroCells, size_zeroCells]
    show (n + 1 - i) * 15 + (G - (n + 1)) * 15 = _
    omega
  have hkk : (n : Int) + 1 - (i : Int) = ((n + 1 - i : Nat) : Int) := by omega
  have hik : i + (n + 1 - i) = n + 1 := by omega
  have hold : (Builtin.firstCells i0.size i (.slice (some ⟨g, 0, none⟩) i n)).run Tryz.prog w.drew = .ok A.toArray w.drew := by
    rw [hs0]
    exact run_firstCells_some w.drew 15 i ⟨g, 0, none⟩ i n A hA (fun j u hj => by
      rw [Addr.add_lit, Nat.zero_add, cell_of_row w.drew _ _ _ _ _ hg]
      simp only [List.getElem?_toArray]
      rw [List.getElem?_append_left (List.getElem?_eq_some_iff.1 hj).1]
      exact hj)
  have hrz : ∀ ty, (Builtin.append_ #[60, 3] ty #[.slice (some ⟨g, 0, none⟩) i n, .int .i64 ((n : Int) + 1 - (i : Int))]).run Tryz.prog w =
      .ok (.slice (some ⟨w.heap.size, 0, none⟩) (n + 1) G) (w.drew.alloc (.cells (A ++ Z).toArray 71)) := fun ty => by
    have h := Lib.run_append_grow_zeros w 60 3 ty 71 i0 _ .i64 .i64 Tryz.u75 (by kernel_rfl) hi0 hz0 (some ⟨g, 0, none⟩) i n A.toArray.toList (by simpa using hold) (n + 1 - i) (by omega) (by omega) (by omega) (by omega) (by rw [hb0]; omega) (by rw [hb0, hik]; exact growslice_fits (by omega) (by omega))
    rw [hik, ← hG] at h
    rw [hkk, h, hZ]
    congr 3
    simp [Array.append_assoc]
  obtain ⟨N, hN⟩ : ∃ z, z = w.heap.size := ⟨_, rfl⟩
  rw [← hN] at hrz
  obtain ⟨W1, hW1⟩ : ∃ z, z = w.drew.alloc (.cells (A ++ Z).toArray 71) := ⟨_, rfl⟩
  rw [← hW1] at hrz
  have hr1 : W1.heap[N]? = some (.cells (A ++ Z).toArray 71 (0, 0)) := by rw [hW1, hN]; exact heap_alloc_new w.drew _
  have hg1 : W1.heap[g]? = some (.cells (A ++ D).toArray 71 (0, 0)) := by rw [hW1]; exact (Below.heap_alloc w.drew _ g (by simpa using hgl)).trans hg
  have hv1 : W1.heap[vb]? = some (.cells st.toArray 71 (0, 0)) := by rw [hW1]; exact (Below.heap_alloc w.drew _ vb (by simpa using hvl)).trans hv
  have G1 : w.grownBy W1 (some g) := by rw [hW1]; exact ⟨rfl, rfl, rfl, by simp, fun k hk _ => Below.heap_alloc w.drew _ k (by simpa using hk)⟩
  obtain ⟨c1, hc1⟩ : ∃ z, z = (A ++ Z).take A.length ++ st ++ (A ++ Z).drop (A.length + 15) := ⟨_, rfl⟩
  have hl1 : c1.length = (A ++ Z).length := by rw [hc1]; simp only [List.length_append, List.length_take, List.length_drop]; omega
  have hcpA : ∀ ty dc, (Builtin.copy_ #[60, 60] ty #[.slice (some ⟨N, i * 15, none⟩) (n + 1 - i) dc, .slice (some ⟨vb, 0, none⟩) 1 1]).run Tryz.prog W1 = .ok (goInt (1 : Nat)) (W1.setRow N c1.toArray) := fun ty dc => by
    have := run_copy_rowK (P := Tryz.prog) W1 60 60 ty 71 15 N (i * 15) (n + 1 - i) dc ⟨vb, 0, none⟩ 1 1 _ 71 st Tryz.u75 size89 hr1 (by rw [hst]; simp only [Nat.min_def]; split <;> omega)
      (fun j u hj => by
        rw [Addr.add_lit, Nat.zero_add, cell_of_row W1 _ _ _ _ _ hv1]
        simpa using hj) (by simp only [List.size_toArray, List.length_append]; omega) h2
    rw [show Nat.min 1 (n + 1 - i) = 1 by simp only [Nat.min_def]; split <;> omega] at this
    rw [this, hc1]
    simp only [List.toList_toArray, hst, hA]
  obtain ⟨W2, hW2⟩ : ∃ z, z = W1.setRow N c1.toArray := ⟨_, rfl⟩
  rw [← hW2] at hcpA
  have hNg : g ≠ N := by omega
  have hr2 : W2.heap[N]? = some (.cells c1.toArray 71 (0, 0)) := by rw [hW2]; exact setRow_heap W1 N _ _ 71 _ hr1
  have hg2 : W2.heap[g]? = some (.cells (A ++ D).toArray 71 (0, 0)) := by rw [hW2]; exact (setRow_other W1 N g _ hNg).trans hg1
  have G2 : w.grownBy W2 (some g) := by rw [hW2]; exact ⟨G1.os, G1.tape, G1.output, by simp [World.setRow, G1.size], fun k h1 hk => (setRow_other W1 N k _ (by omega)).trans (G1.block k h1 hk)⟩
  obtain ⟨c2, hc2⟩ : ∃ z, z = A ++ st ++ D ++ c1.drop (A.length + 15 + D.length) := ⟨_, rfl⟩
  have hcpB : ∀ ty dc sc, (Builtin.copy_ #[60, 60] ty #[.slice (some ⟨N, (i + 1) * 15, none⟩) (n - i) dc, .slice (some ⟨g, i * 15, none⟩) (n - i) sc]).run Tryz.prog W2.drew = .ok (goInt (n - i : Nat)) (W2.drew.setRow N c2.toArray) := fun ty dc sc => by
    have := run_copy_rowK (P := Tryz.prog) W2.drew 60 60 ty 71 15 N ((i + 1) * 15) (n - i) dc ⟨g, i * 15, none⟩ (n - i) sc _ 71 D Tryz.u75 size89 hr2 (by rw [hD]; simp [Nat.min_def])
      (fun j u hj => by
        rw [Addr.add_lit, cell_of_row W2.drew _ _ _ _ _ hg2]
        simp only [List.getElem?_toArray]
        rw [← hA, List.getElem?_append_right (by omega), Nat.add_sub_cancel_left]
        exact hj) (by simp only [List.size_toArray, hl1, List.length_append]; omega) h1
    rw [show Nat.min (n - i) (n - i) = n - i by simp [Nat.min_def]] at this
    rw [this, hc2, ← ins_rows2 A Z D st 15 hst, ← hc1]
    simp only [List.toList_toArray, show (i + 1) * 15 = A.length + 15 by omega]
  have HL := Lib.hid (show c2.length = G * 15 ∧ c2.take ((n + 1) * 15) = A ++ st ++ D from by
    have e : (A ++ st ++ D).length = (n + 1) * 15 := by simp only [List.length_append]; omega
    constructor
    · rw [hc2]; simp only [List.length_append, List.length_drop, hl1]; omega
    · rw [hc2, ← e, List.take_left])
  obtain ⟨R, hR⟩ : ∃ z, A ++ st ++ D = z := ⟨_, rfl⟩
  rw [hR] at HL ⊢
  have HRL := Lib.hid (show R.length = (n + 1) * 15 from by rw [← hR]; simp only [List.length_append]; omega)
  have HR2 := Lib.hid hr2
  have HG2 := Lib.hid G2
  have HN := Lib.hid hN
  have e1 : (((i : Int) + 1).toNat) = i + 1 := by omega
  have e3 : ¬ (n = i) := by omega
  have e6 : ¬ (G = i) := by omega
  have e7 : ¬ (G = i + 1) := by omega
  have hw1 : IntKind.i64.wrap ((i : Int) + 1) = (i : Int) + 1 := by rw [IntKind.wrap_i64]; omega
  have hb1 : (0 : Int) ≤ (i : Int) + 1 := by omega
  have hb2 : (i : Int) ≤ (n : Int) := by omega
  have hb3 : (i : Int) ≤ (n : Int) + 1 := by omega
  have hb4 : (i : Int) + 1 ≤ (n : Int) + 1 := by omega
  have hb5 : i ≤ n := by omega
  have hb6 : i ≤ n + 1 := by omega
  have e5 : n + 1 - (i + 1) = n - i := by omega
  have hz2 : ¬ ((i : Int) = (n : Int)) := by omega
  have hz3 : (n : Int) < (n : Int) + 1 := by omega
  clear hR hA hD h1 h2 hst hg hv hg1 hv1 hr1 hg2 hr2 G1 G2 hc1 hc2 hl1 hW1 hW2 hZ hZl hG hkk hik hold hi0 hz0 hs0 hb0 hN hgl hvl hNg hGm
  go_enter Tryz.func35, Tryz.ntmps35
  go_wp2_with (first
    | (at_builtin; refine Lib.wpList_append_run _ rfl (.tmp 34) (.tmp 39) 60 3 rfl _ _ rfl rfl _ _ (hrz _) ?_)
    | (at_builtin; refine wpList_copyK rfl (.tmp 43) (.tmp 44) 60 60 rfl _ _ rfl rfl (hcpA _ _) ?_))
  refine wp_region_held_drew (S := fun w' => w' = W2.drew ∨ w' = W2.drew.setRow N c2.toArray) (by kernel_rfl) (.inl rfl) (fun hHeld => ?_)
  clear hHeld
  refine take_at (i := 0) 46 ?_ rfl rfl (by kernel_rfl) (by kernel_rfl) (by kernel_rfl) (fun _ _ _ h => h) (.inl ⟨rfl, ?_⟩) (.inl rfl) ?_
  rotate_left 1
  · intro w hSw; go_simp; try with_reducible rfl
  simp only [Act.put, List.setIfInBounds_toArray, List.set_cons_zero, List.set_cons_succ]
  refine take_at (i := 1) 47 ?_ rfl rfl (by kernel_rfl) (by kernel_rfl) (by kernel_rfl) (fun _ _ _ h => h) (.inl ⟨rfl, ?_⟩) (.inl rfl) ?_
  rotate_left 1
  · intro w hSw; go_simp; try with_reducible rfl
  simp only [Act.put, List.setIfInBounds_toArray, List.set_cons_zero, List.set_cons_succ]
  refine take_at (i := 2) 48 ?_ rfl rfl (by kernel_rfl) (by kernel_rfl) (by kernel_rfl) (fun _ _ _ h => h) (.inl ⟨rfl, ?_⟩) (.inl rfl) ?_
  rotate_left 1
  · intro w hSw; go_simp; try with_reducible rfl
  simp only [Act.put, List.setIfInBounds_toArray, List.set_cons_zero, List.set_cons_succ]
  refine take_at (i := 3) 49 ?_ rfl rfl (by kernel_rfl) (by kernel_rfl) (by kernel_rfl) (fun _ _ _ h => h) (.inl ⟨rfl, ?_⟩) (.inl rfl) ?_
  rotate_left 1
  · intro w hSw; go_simp; try with_reducible rfl
  simp only [Act.put, List.setIfInBounds_toArray, List.set_cons_zero, List.set_cons_succ]
  refine take_at (i := 4) 50 ?_ rfl rfl (by kernel_rfl) (by kernel_rfl) (by kernel_rfl) (fun _ _ _ h => h) (.inl ⟨rfl, ?_⟩) (.inl rfl) ?_
  rotate_left 1
  · intro w hSw; go_simp; try with_reducible rfl
  simp only [Act.put, List.setIfInBounds_toArray, List.set_cons_zero, List.set_cons_succ]
  refine take_at (i := 5) 51 ?_ rfl rfl (by kernel_rfl) (by kernel_rfl) (by kernel_rfl) (fun _ _ _ h => h) (.inl ⟨rfl, ?_⟩) (.inl rfl) ?_
  rotate_left 1
  · intro w hSw; go_simp; try with_reducible rfl
  simp only [Act.put, List.setIfInBounds_toArray, List.set_cons_zero, List.set_cons_succ]
  refine take_at (i := 6) 52 ?_ rfl rfl (by kernel_rfl) (by kernel_rfl) (by kernel_rfl) (fun _ _ _ h => h) (.inl ⟨rfl, ?_⟩) (.inl rfl) ?_
  rotate_left 1
  · intro w hSw; go_simp; try with_reducible rfl
  simp only [Act.put, List.setIfInBounds_toArray, List.set_cons_zero, List.set_cons_succ]
  refine take_at (i := 7) 53 ?_ rfl rfl (by kernel_rfl) (by kernel_rfl) (by kernel_rfl) (fun _ _ _ h => h) (.inl ⟨rfl, ?_⟩) (.inl rfl) ?_
  rotate_left 1
  · intro w hSw; go_simp; try with_reducible rfl
  simp only [Act.put, List.setIfInBounds_toArray, List.set_cons_zero, List.set_cons_succ]
  refine wpAnyH_ready (rs := [8]) (by kernel_rfl) (by simp) (br_copy (i := 8) 54 (.tmp 50) (.tmp 53) 60 60 rfl rfl rfl rfl _ _ _ _ rfl rfl (hcpB _ _ _) (.inr rfl) (fun _ => ?_) AllReadyH.nil)
  simp only [Act.put, List.setIfInBounds_toArray, List.set_cons_zero, List.set_cons_succ]
  refine wpAnyH_done (by kernel_rfl) ?_ _
  go_wp2
  go_returns
  refine ⟨_, rfl, ⟨HRL.out, .inr ⟨N, G, c2.toArray, rfl, by rw [HN.out]; exact hB, setRow_heap W2.drew N _ _ 71 _ HR2.out, hGn, by unfold maxLen; omega, by simp only [List.size_toArray]; exact HL.out.1, by simp only [List.toList_toArray]; exact HL.out.2⟩⟩, ?_, .inr ⟨N, rfl, by rw [HN.out]; exact Nat.le_refl _⟩⟩
  exact ⟨HG2.out.os, HG2.out.tape, HG2.out.output, by simp [World.setRow, HG2.out.size], fun k h1 hk => (setRow_other W2.drew N k _ (by have := HN.out; omega)).trans (HG2.out.block k h1 hk)⟩
theorem insert_anyx (w : World) (B : Nat) (v : Value) (n i : Nat) (xs st : List Value) (hown : w.ownsRow B 71 15 v n xs) (hi : i ≤ n) (hn : n < 1000000) (vb : Nat) (hv : w.heap[vb]? = some (.cells st.toArray 71 (0, 0))) (hst : st.length = 15)
    (hne : v.ownBlock ≠ some vb) (h1 : ∀ u ∈ xs, u.oneCell' = true) (h2 : ∀ u ∈ st, u.oneCell' = true) (hB : B ≤ w.heap.size) :
    Calls Tryz.prog 35 #[v, .int .i64 i, .slice (some ⟨vb, 0, none⟩) 1 1] w fun e w' => ∃ v', e = .returned v' ∧ w'.ownsRow B 71 15 v' (n + 1) (xs.take (i * 15) ++ st ++ xs.drop (i * 15)) ∧ w.grownBy w' v.ownBlock ∧ Sprung w v v' := by
  by_cases he : i = n
  · subst he
    have e1 : xs.take (i * 15) = xs := by rw [← hown.1]; exact List.take_length
    have e2 : xs.drop (i * 15) = [] := by rw [← hown.1]; exact List.drop_length
    rw [e1, e2, List.append_nil]
    exact insert_end w B v i xs st hown hn vb hv hst h2 hB
  · rcases hown.2 with ⟨rfl, rfl⟩ | ⟨g, cap, cur, rfl, hbg, hg, hnc, hcm, hcs, htake⟩
    · omega
    · have hxl := hown.1
      have hcur : cur = (xs.take (i * 15) ++ xs.drop (i * 15) ++ cur.toList.drop (n * 15)).toArray := by
        rw [List.take_append_drop, ← htake, List.take_append_drop, Array.toArray_toList]
      have hA : (xs.take (i * 15)).length = i * 15 := by rw [List.length_take]; omega
      have hD : (xs.drop (i * 15)).length = (n - i) * 15 := by rw [List.length_drop]; omega
      have hT : (cur.toList.drop (n * 15)).length = (cap - n) * 15 := by rw [List.length_drop, Array.length_toList, hcs]; omega
      have hne' : vb ≠ g := fun e => hne (by rw [e]; rfl)
      have h1' : ∀ u ∈ xs.drop (i * 15), u.oneCell' = true := fun u hu => h1 u (List.mem_of_mem_drop hu)
      rw [hcur] at hg
      by_cases hr : n + 1 ≤ cap
      · exact insert_room w B g cap n i _ _ _ st hbg hg hA hD hT (by omega) hr hcm vb hv hst hne' h1' h2
      · have ec : cap = n := by omega
        subst ec
        have e0 : cur.toList.drop (cap * 15) = [] := List.eq_nil_of_length_eq_zero (by rw [hT]; omega)
        rw [e0, List.append_nil] at hg
        exact insert_grow w B g cap i _ _ st hB hg hA hD (by omega) hn vb hv hst h1' h2
end Go.Proofs.YtbeodechhneeeaaGreatDoor



/-! ### of MS -/
set_option linter.unusedVariables false
set_option maxRecDepth 100000
namespace Go.Proofs.YtbeodechhneeeaaGreatDoor.Tb
open Go.RowKit Go.WideMaps Go.Maps

set_option maxHeartbeats 400000 in
theorem made_nil (w : World) : Calls Tryz.prog 44 #[.pointer none] w fun e w' => e = .returned (.bool false) ∧ w = w' := by
  have n59 := fun W m => ne59 W m
  go_enter Tryz.func44, Tryz.ntmps44
  go_wp2
  go_returns
  exact ⟨rfl, rfl⟩
set_option maxHeartbeats 400000 in
theorem made_zero (w : World) (p : Nat) (c0 : w.cell? ⟨p, 0, none⟩ = some (.map none)) : Calls Tryz.prog 44 #[.pointer (some ⟨p, 0, none⟩)] w fun e w' => e = .returned (.bool false) ∧ w = w' := by
  have n59 := fun W m => ne59 W m
  go_enter Tryz.func44, Tryz.ntmps44
  go_wp2
  go_returns
  exact ⟨rfl, rfl⟩
end Go.Proofs.YtbeodechhneeeaaGreatDoor.Tb


set_option linter.unusedVariables false
set_option maxRecDepth 100000
namespace Go.Proofs.YtbeodechhneeeaaGreatDoor.Tb
open Go.RowKit Go.WideMaps Go.Maps

theorem wpList_tdrop {w : World} {ops : Array Oper} {rest : List Oper} {o : Oper} {a : Act} {Q : Exit → Act → World → Prop} (hg : o.guard = none) (m x : Operand) (hop : o.op = Op.call { callee := Callee.builtin Builtin.delete, args := #[m, x], argTypes := #[84, 31] }) (b : Nat) (l : List Rw) (t r : Int) (hm : a.eval m = .map (some b)) (h : TM w b l) (ht : I64 t) (hr : I64 r)
    (hx : a.eval x = sv t r) (hK : ∀ w', TM w' b (dropF l t r) → w.grownBy w' (some b) → wpList Tryz.prog ops Q rest (a.put o.dst (.tuple #[])) w') : wpList Tryz.prog ops Q (o :: rest) a w := by
  refine wpList_plain hg fun K' hK' => ?_
  obtain ⟨w', hrun, r1, r2⟩ := h.drop ht hr o.type
  unfold Oper.wp
  simp [execOp, hop, resolve, invoke, builtin, hm, hx, hrun, Result.andThen]
  exact hK' _ _ (hK w' r1 r2)
end Go.Proofs.YtbeodechhneeeaaGreatDoor.Tb


set_option linter.unusedVariables false
set_option maxRecDepth 100000
namespace Go.Proofs.YtbeodechhneeeaaGreatDoor.Tb
open Go.RowKit Go.WideMaps Go.Maps

theorem drop_none {l : List Rw} {t r : Int} (h : getF l t r = none) : dropF l t r = l := by
  unfold dropF
  rw [List.filter_eq_self]
  intro x hx
  have := get_none.1 h x hx
  show (!decide (x.t = t ∧ x.r = r)) = true
  rw [decide_eq_false this]
  rfl
set_option maxHeartbeats 1600000 in
theorem drop_any (w : World) (p b : Nat) (l : List Rw) (h : TabI w p b l) (t r : Int) (ht : I64 t) (hr : I64 r) :
    Calls Tryz.prog 94 #[.pointer (some ⟨p, 0, none⟩), .agg #[.int .i64 t, .int .i64 r]] w fun e w' => e = .returned (.bool (getF l t r).isSome) ∧ TOut w w' p b (dropF l t r) := by
  have B1 := Lib.hid (vstep w (.cells #[.int .i64 t, .int .i64 r] 31))
  have T1 := Lib.hid (h.step B1.out)
  have S1 := Lib.hid (StAt.new w t r)
  obtain ⟨W0, hW0⟩ : ∃ y, w.alloc (.cells #[.int .i64 t, .int .i64 r] 31) = y := ⟨_, rfl⟩
  rw [hW0] at T1 S1 B1
  have HW := Lib.hid hW0
  have G := Lib.hid (get_any W0 p b l T1.out t r ht hr)
  obtain ⟨x1, x2, x3, x4, hx⟩ := gv_form l t r
  rw [hx] at G
  have HT := Lib.hid (And.intro ht hr)
  have DN := Lib.hid (fun h => drop_none (l := l) (t := t) (r := r) h)
  clear hW0 h ht hr hx
  cases hg : getF l t r with
  | none =>
    rw [hg] at G
    have DN := Lib.hid (DN.out hg)
    clear hg
    go_enter Tryz.func94, Tryz.ntmps94
    go_upto_region 1 with (fail)
    rw [HW.out]
    obtain ⟨c1, c2⟩ := S1.out.cells
    go_wp2_with fail
    refine G.out.mono ?_
    rintro e w1 ⟨rfl, hb⟩
    have T2 := Lib.hid (T1.out.step hb)
    have B2 := Lib.hid (B1.out.trans (hb.mono B1.out.size))
    clear hb c1 c2
    go_wp2
    go_returns
    rw [DN.out]
    have B3 := vstep w1 (.cells #[.int .i64 x1, .int .i64 x2, .string x3, .bool x4] 47)
    exact ⟨rfl, T2.out.step B3, below_grown (B2.out.trans (B3.mono B2.out.size)) _⟩
  | some y =>
    rw [hg] at G
    clear hg DN
    go_enter Tryz.func94, Tryz.ntmps94
    go_upto_region 1 with (fail)
    rw [HW.out]
    obtain ⟨c1, c2⟩ := S1.out.cells
    go_wp2_with fail
    refine G.out.mono ?_
    rintro e w1 ⟨rfl, hb⟩
    have B3 := Lib.hid (vstep w1 (.cells #[.int .i64 x1, .int .i64 x2, .string x3, .bool x4] 47))
    have T2 := Lib.hid ((T1.out.step hb).step B3.out)
    have S2 := Lib.hid ((S1.out.step hb).step B3.out)
    have B2 := Lib.hid ((B1.out.trans (hb.mono B1.out.size)))
    have B2 := Lib.hid (B2.out.trans (B3.out.mono B2.out.size))
    clear hb c1 c2
    go_upto_region 4 with (fail)
    generalize (w1.alloc (.cells #[.int .i64 x1, .int .i64 x2, .string x3, .bool x4] 47)) = w2 at *
    obtain ⟨c1, c2⟩ := S2.out.cells
    have c0 := T2.out.cell
    go_still_tail 5, (by kernel_rfl)
    change wpList _ _ _ _ _ w2.drew
    have BD := Lib.hid (show Below w2.heap.size w2 w2.drew from (Below.refl _ _).drew)
    have T3 := Lib.hid (T2.out.step BD.out)
    have B3 := Lib.hid (B2.out.trans (BD.out.mono B2.out.size))
    generalize w2.drew = w3 at *
    go_wp2_with (at_delete; refine wpList_tdrop rfl _ _ rfl b l t r rfl T3.out.map HT.out.1 HT.out.2 rfl ?_; intro w4 ht hg; have T4 := Lib.hid ht; have G4 := Lib.hid hg; clear ht hg)
    go_returns
    refine ⟨rfl, ⟨(G4.out.block p T3.out.plt (fun e => T3.out.ne (by injection e))).trans T3.out.box, T4.out⟩, ?_⟩
    exact (below_grown B3.out (some b)).andThen G4.out (fun j e => Or.inr e)
end Go.Proofs.YtbeodechhneeeaaGreatDoor.Tb


set_option linter.unusedVariables false
set_option maxRecDepth 100000
namespace Go.Proofs.YtbeodechhneeeaaGreatDoor.Tb
open Go.RowKit Go.Sort Go.Shelf

end Go.Proofs.YtbeodechhneeeaaGreatDoor.Tb


set_option linter.unusedVariables false
set_option maxRecDepth 100000
namespace Go.Proofs.YtbeodechhneeeaaGreatDoor.Tb
open Go.RowKit Go.WideMaps Go.Maps Go.WideShapes Go.ChangeMaps

section
variable {w : World} {ops : Array Oper} {rest : List Oper} {o : Oper} {a : Act} {Q : Exit → Act → World → Prop}
theorem wpList_trange (hg : o.guard = none) (m : Operand) (hop : o.op = Op.range 84 m) (b : Nat) (l : List Rw) (hm : a.eval m = .map (some b)) (h : TM w b l)
    (hK : ∀ w', TRg w' b w.heap.size l [] → w.grownBy w' none → w'.heap.size = w.heap.size + 1 → wpList Tryz.prog ops Q rest (a.put o.dst (.pointer (some ⟨w.heap.size, 0, none⟩))) w') : wpList Tryz.prog ops Q (o :: rest) a w := by
  refine wpList_plain hg fun K' hK' => ?_
  obtain ⟨w', hrun, r1, r2, r3⟩ := h.range
  unfold Oper.wp
  simp [execOp, hop, hm, hrun, Result.andThen]
  exact hK' _ _ (hK w' r1 r2 r3)
theorem wpList_tnext (hg : o.guard = none) (it : Operand) (hop : o.op = Op.next it false) (b r : Nat) (l done : List Rw) (hit : a.eval it = .pointer (some ⟨r, 0, none⟩)) (h : TRg w b r l done)
    (hDone : (∀ x ∈ l, x ∈ done) → wpList Tryz.prog ops Q rest (a.put o.dst (.tuple #[.bool false])) w)
    (hMore : ∀ (x : Rw) (w' : World), x ∈ l → x ∉ done → TRg w' b r l (done ++ [x]) → w'.rangeLeft b r < w.rangeLeft b r → w.grownBy w' (some r) → w'.heap.size = w.heap.size → (Instr.entry (.pointer (some ⟨r, 0, none⟩))).run Tryz.prog w' = .ok (.tuple #[sv x.t x.r, ev x.pt x.pr x.nm x.d]) w' →
      wpList Tryz.prog ops Q rest (a.put o.dst (.tuple #[.bool true, sv x.t x.r, ev x.pt x.pr x.nm x.d])) w') : wpList Tryz.prog ops Q (o :: rest) a w := by
  refine wpList_plain hg fun K' hK' => ?_
  unfold Oper.wp
  rcases h.next o.type with ⟨hall, hrun⟩ | ⟨x, w', hx, hn, hrun, h1, h2, h3, h4, h5⟩
  · simp [execOp, hop, hit, hrun, Result.andThen]
    exact hK' _ _ (hDone hall)
  · simp [execOp, hop, hit, hrun, Result.andThen]
    exact hK' _ _ (hMore x w' hx hn h1 h2 h3 h4 h5)
end
end Go.Proofs.YtbeodechhneeeaaGreatDoor.Tb


set_option linter.unusedVariables false
set_option maxRecDepth 100000
namespace Go.Proofs.YtbeodechhneeeaaGreatDoor.Tb
open Go.RowKit Go.WideMaps Go.Maps

end Go.Proofs.YtbeodechhneeeaaGreatDoor.Tb




/-! ### of MT -/
set_option linter.unusedVariables false
set_option maxRecDepth 100000
namespace Go.Proofs.YtbeodechhneeeaaGreatDoor.Tb
open Go.RowKit Go.WideMaps Go.Maps

end Go.Proofs.YtbeodechhneeeaaGreatDoor.Tb


set_option linter.unusedVariables false
set_option maxRecDepth 100000
namespace Go.Proofs.YtbeodechhneeeaaGreatDoor.Tb
open Go.RowKit Go.WideMaps Go.Maps

section
variable {F : Fence} {n : Nat} {w : World} {ops : Array Oper} {rest : List Oper} {o : Oper} {a : Act} {Q : Exit → Act → World → Prop}
end
end Go.Proofs.YtbeodechhneeeaaGreatDoor.Tb


set_option linter.unusedVariables false
set_option maxRecDepth 100000
namespace Go.Proofs.YtbeodechhneeeaaGreatDoor.Tb
open Go.RowKit Go.WideMaps Go.Maps

end Go.Proofs.YtbeodechhneeeaaGreatDoor.Tb


set_option linter.unusedVariables false
set_option maxRecDepth 100000
namespace Go.Proofs.YtbeodechhneeeaaGreatDoor.Tb
open Go.RowKit Go.WideMaps Go.Maps

end Go.Proofs.YtbeodechhneeeaaGreatDoor.Tb


set_option linter.unusedVariables false
set_option maxRecDepth 100000
namespace Go.Proofs.YtbeodechhneeeaaGreatDoor.Tb
open Go.RowKit Go.WideMaps Go.Maps

end Go.Proofs.YtbeodechhneeeaaGreatDoor.Tb


set_option linter.unusedVariables false
set_option maxRecDepth 100000
namespace Go.Proofs.YtbeodechhneeeaaGreatDoor.Tb
open Go.RowKit Go.WideMaps Go.Maps

end Go.Proofs.YtbeodechhneeeaaGreatDoor.Tb


set_option linter.unusedVariables false
set_option maxRecDepth 100000
namespace Go.Proofs.YtbeodechhneeeaaGreatDoor.Tb
open Go.RowKit Go.WideMaps Go.Maps

end Go.Proofs.YtbeodechhneeeaaGreatDoor.Tb


set_option linter.unusedVariables false
set_option maxRecDepth 100000
namespace Go.Proofs.YtbeodechhneeeaaGreatDoor.Tb
open Go.RowKit Go.WideMaps Go.Maps

def madeF (l : List Rw) : List Rw := l.foldl setF []
theorem fold_len : ∀ (l m : List Rw), (l.foldl setF m).length ≤ m.length + l.length
  | [], m => by simp
  | x :: l, m => by
    have := fold_len l (setF m x)
    have := setF_len m x
    rw [List.foldl_cons, List.length_cons]
    omega
theorem madeF_len (l : List Rw) : (madeF l).length ≤ l.length := by have := fold_len l []; simpa [madeF] using this
theorem fold_rise : ∀ (l m : List Rw), Rise m → Rise (l.foldl setF m)
  | [], m, h => h
  | x :: l, m, h => fold_rise l _ (rise_set h x)
theorem madeF_rise (l : List Rw) : Rise (madeF l) := fold_rise l [] List.Pairwise.nil
end Go.Proofs.YtbeodechhneeeaaGreatDoor.Tb


set_option linter.unusedVariables false
set_option maxRecDepth 100000
namespace Go.Proofs.YtbeodechhneeeaaGreatDoor.Tb
open Go.RowKit Go.WideMaps Go.Maps

end Go.Proofs.YtbeodechhneeeaaGreatDoor.Tb




/-! ### of MU -/
set_option linter.unusedVariables false
set_option maxRecDepth 100000
namespace Go.Proofs.YtbeodechhneeeaaGreatDoor.Tb
open Go.RowKit Go.WideMaps Go.Maps

theorem made_dead (w : World) (u : Value) (h : Dead w u) : Calls Tryz.prog 44 #[u] w fun e w' => e = .returned (.bool false) ∧ w = w' := by
  rcases h with rfl | ⟨z, rfl, h2⟩
  · exact made_nil w
  · exact made_zero w z (cell_of_one h2)
set_option maxHeartbeats 800000 in
theorem clone_dead (w : World) (u : Value) (h : Dead w u) : Calls Tryz.prog 39 #[u] w fun e w' => ∃ p b, e = .returned (.pointer (some ⟨p, 0, none⟩)) ∧ TabI w' p b [] ∧ w.heap.size ≤ p ∧ w.heap.size ≤ b ∧ Below w.heap.size w w' := by
  have N := Lib.hid (new_any w)
  have D := Lib.hid h
  clear h
  go_enter Tryz.func39, Tryz.ntmps39
  go_wp2_with fail
  refine N.out.mono ?_
  rintro e w1 ⟨p, b, rfl, h1, h2, h3, h4⟩
  have M := Lib.hid (made_dead w1 u (D.out.step h4))
  have K := Lib.hid (And.intro h1 (And.intro h2 (And.intro h3 h4)))
  clear h1 h2 h3 h4
  go_wp2_with fail
  refine M.out.mono ?_
  rintro e w2 ⟨rfl, rfl⟩
  go_wp2
  go_returns
  exact ⟨p, b, rfl, K.out.1, K.out.2.1, K.out.2.2.1, K.out.2.2.2⟩
end Go.Proofs.YtbeodechhneeeaaGreatDoor.Tb


set_option linter.unusedVariables false
set_option maxRecDepth 100000
namespace Go.Proofs.YtbeodechhneeeaaGreatDoor.Tb
open Go.RowKit Go.WideMaps Go.Maps

end Go.Proofs.YtbeodechhneeeaaGreatDoor.Tb


set_option linter.unusedVariables false
set_option maxRecDepth 100000
namespace Go.Proofs.YtbeodechhneeeaaGreatDoor.Tb
open Go.RowKit Go.WideMaps Go.Maps

theorem push_okG {W W' W0 : World} {E k n : Nat} {e : TypeId} {v : Value} {xs : List Value} {ob : Obj} (hB : Below W0.heap.size W0 W) (ho : W.ownsRow E e k v n xs) (hE : W0.heap.size ≤ E) (hg : (W.alloc ob).grownBy W' v.ownBlock) : Below W0.heap.size W0 W' :=
  (hB.trans ((vstep W ob).mono hB.size)).grown hg (by have := hB.size; simp; omega) (fun k e => by have := (ho.lt k e).1; omega)
end Go.Proofs.YtbeodechhneeeaaGreatDoor.Tb


set_option linter.unusedVariables false
set_option maxRecDepth 100000
namespace Go.Proofs.YtbeodechhneeeaaGreatDoor.Tb
open Go.RowKit Go.WideMaps Go.Maps

end Go.Proofs.YtbeodechhneeeaaGreatDoor.Tb


set_option linter.unusedVariables false
set_option linter.unusedSimpArgs false
set_option maxRecDepth 100000
namespace Go.Proofs.YtbeodechhneeeaaGreatDoor.Tb
open Go.RowKit Go.WideMaps Go.Maps

theorem fold_iff {L : List Rw} (hL : Rise L) : ∀ (l m : List Rw), (∀ x ∈ m, x ∈ L) → (∀ x ∈ l, x ∈ L) → ∀ y, y ∈ l.foldl setF m ↔ y ∈ m ∨ y ∈ l
  | [], m, _, _, y => by simp
  | x :: l, m, hm, hl, y => by
    have hx := hl x (List.mem_cons_self ..)
    have hsub : ∀ z ∈ setF m x, z ∈ L := fun z hz => by
      rcases mem_set.1 hz with e | e
      · rw [e]; exact hx
      · exact hm z e.1
    have ih := fold_iff hL l (setF m x) hsub (fun z hz => hl z (List.mem_cons_of_mem _ hz)) y
    rw [List.foldl_cons, ih, mem_set, List.mem_cons]
    constructor
    · rintro ((e | e) | e)
      · exact .inr (.inl e)
      · exact .inl e.1
      · exact .inr (.inr e)
    · rintro (e | e | e)
      · cases hs : sameN y x with
        | true => exact .inl (.inl (rise_one hL (hm y e) hx hs))
        | false => exact .inl (.inr ⟨e, rfl⟩)
      · exact .inl (.inl e)
      · exact .inr e
theorem made_perm {l done : List Rw} (h : Rise l) (hp : done.Perm l) : madeF done = l := by
  refine rise_ext (madeF_rise done) h (fun y => ?_)
  unfold madeF
  rw [fold_iff h done [] (fun x hx => by cases hx) (fun x hx => hp.mem_iff.1 hx) y, hp.mem_iff]
  simp
theorem made_snoc (done : List Rw) (x : Rw) : madeF (done ++ [x]) = setF (madeF done) x := by
  unfold madeF
  rw [List.foldl_append]
  rfl
theorem trg_len {w : World} {b r : Nat} {l done : List Rw} (h : TRg w b r l done) : done.length ≤ l.length := by
  obtain ⟨es, left, cnt, _, _, _, h4, _, h6, h7⟩ := h
  exact List.Nodup.length_le_of_subset h6 h7
/-- Between two rounds of a copy. -/
structure CI (w W : World) (b qb r : Nat) (l done : List Rw) : Prop where
  rg : TRg W b r l done
  dst : TM W qb (madeF done)
  grow : w.grownBy W (some qb)
  r0 : w.heap.size ≤ r
set_option maxHeartbeats 6400000 in
theorem copy_any (w : World) (b qb : Nat) (l : List Rw) (h : TM w b l) (hq : TM w qb []) (hne : b ≠ qb) (hl : l.length < 100000) :
    Calls Tryz.prog 68 #[.map (some qb), .map (some b)] w fun e w' => e = .returned (.tuple #[]) ∧ TM w' qb l ∧ w.grownBy w' (some qb) := by
  have T1 := Lib.hid h
  have Q1 := Lib.hid hq
  have RS := Lib.hid h.rise
  have HQ := Lib.hid hq.lt
  clear h hq
  go_enter Tryz.func68, Tryz.ntmps68
  go_wp2_with (at_range; refine wpList_trange rfl _ rfl b l rfl T1.out ?_; intro w2 hr hg hs; have R2 := Lib.hid hr; have G2 := Lib.hid hg; clear hr hg hs)
  have K0 := Lib.hid (show CI w w2 b qb w.heap.size l [] from ⟨R2.out, Q1.out.grown G2.out (by simp), ⟨G2.out.os, G2.out.tape, G2.out.output, G2.out.size, fun k hk _ => G2.out.block k hk (by simp)⟩, Nat.le_refl _⟩)
  clear R2 G2 T1 Q1
  go_frame
  go_loopw [4] (fun sv wr => ∃ done, Hid (CI w wr b qb w.heap.size l done)) (fun _ wr => wr.rangeLeft b w.heap.size)
  case atStart => exact ⟨[], K0⟩
  case round =>
    obtain ⟨done, hK⟩ := hrel
    have KH := Lib.hid hK.out
    clear hK K0
    go_wp2_with (at_next; refine wpList_tnext rfl _ rfl b w.heap.size l done rfl KH.out.rg ?_ ?_)
    · intro hall
      have FIN := Lib.hid (show TM wr qb l ∧ w.grownBy wr (some qb) from ⟨by have := KH.out.dst; rwa [made_perm RS.out (KH.out.rg.all hall)] at this, KH.out.grow⟩)
      clear hall
      go_wp2
      go_returns
      exact ⟨rfl, FIN.out.1, FIN.out.2⟩
    · intro x w3 hx hn hr hlt hg hs hen
      have XO := Lib.hid (show x.ok from by obtain ⟨es, left, cnt, _, _, h3, _⟩ := hr; exact h3 x hx)
      have R3 := Lib.hid hr
      have LT := Lib.hid hlt
      have Q3 := Lib.hid (KH.out.dst.grown hg (by have := HQ.out; intro e; injection e; omega))
      have G3 := Lib.hid (KH.out.grow.andThen hg (fun j e => .inl (by injection e; omega)))
      have ML3 := Lib.hid (show (madeF done).length < maxLen from by have := madeF_len done; have := trg_len KH.out.rg; unfold maxLen; omega)
      have ML4 := Lib.hid (show (madeF done).length < 1000000 from by have := madeF_len done; have := trg_len KH.out.rg; omega)
      clear hr hlt hg hs hx hn KH
      have B4 := Lib.hid ((vstep w3 (.cells #[.int .i64 x.t, .int .i64 x.r] 31)).trans ((vstep (w3.alloc (.cells #[.int .i64 x.t, .int .i64 x.r] 31)) (.cells #[.int .i64 x.pt, .int .i64 x.pr, .string x.nm, .bool x.d] 47)).mono (vstep w3 _).size))
      have S4 := Lib.hid ((StAt.new w3 x.t x.r).step (vstep _ (.cells #[.int .i64 x.pt, .int .i64 x.pr, .string x.nm, .bool x.d] 47)))
      have E4 := Lib.hid (show EnAt ((w3.alloc (.cells #[.int .i64 x.t, .int .i64 x.r] 31)).alloc (.cells #[.int .i64 x.pt, .int .i64 x.pr, .string x.nm, .bool x.d] 47)) (w3.heap.size + 1) x.pt x.pr x.nm x.d from by have := EnAt.new (w3.alloc (.cells #[.int .i64 x.t, .int .i64 x.r] 31)) x.pt x.pr x.nm x.d; rwa [World.size_alloc] at this)
      go_upto_region 3 with (fail)
      obtain ⟨w4, hw4⟩ : ∃ y, (w3.alloc (.cells #[.int .i64 x.t, .int .i64 x.r] 31)).alloc (.cells #[.int .i64 x.pt, .int .i64 x.pr, .string x.nm, .bool x.d] 47) = y := ⟨_, rfl⟩
      rw [hw4] at B4 S4 E4 ⊢
      clear hw4 hen
      have R4 := Lib.hid (R3.out.kept (below_grown B4.out none) (by simp) (by simp))
      have Q4 := Lib.hid (Q3.out.step B4.out)
      obtain ⟨c1, c2⟩ := S4.out.cells
      obtain ⟨d0, d1, d2, d3⟩ := E4.out.cells
      go_wp2_with (at_mapUpdate; refine wpList_tput rfl _ _ _ rfl qb (madeF done) x rfl Q4.out ML4.out XO.out rfl rfl ?_; intro w5 ht hg; have Q5 := Lib.hid ht; have G5 := Lib.hid hg; clear ht hg)
      have R5 := R4.out.1.kept G5.out (fun e => hne (by injection e)) (fun e => by injection e; have := HQ.out; omega)
      have FIN := Lib.hid (show CI w w5 b qb w.heap.size l (done ++ [x]) from ⟨R5.1, by rw [made_snoc]; exact Q5.out, (G3.out.andThen (below_grown B4.out none) (fun j e => by cases e)).andThen G5.out (fun j e => .inr e), Nat.le_refl _⟩)
      have ML := Lib.hid (show w5.rangeLeft b w.heap.size < wr.rangeLeft b w.heap.size from by rw [R5.2, R4.out.2]; exact LT.out)
      clear R5 c1 c2 d0 d1 d2 d3
      go_roundw
      case rel => exact ⟨_, _, _, _, _, _, _, _, _, _, ⟨done ++ [x], FIN⟩, rfl⟩
      case measure => exact ML.out
/-- A clone. -/
structure ClO (w w' : World) (q qb : Nat) (l : List Rw) : Prop where
  tab : TabI w' q qb l
  q0 : w.heap.size ≤ q
  b0 : w.heap.size ≤ qb
  bel : Below w.heap.size w w'
set_option maxHeartbeats 3200000 in
theorem clone_any (w : World) (p b : Nat) (l : List Rw) (h : TabI w p b l) (hl : l.length < 100000) :
    Calls Tryz.prog 39 #[.pointer (some ⟨p, 0, none⟩)] w fun e w' => ∃ q qb, e = .returned (.pointer (some ⟨q, 0, none⟩)) ∧ ClO w w' q qb l := by
  have N := Lib.hid (new_any w)
  have T0 := Lib.hid h
  clear h
  go_enter Tryz.func39, Tryz.ntmps39
  go_wp2_with fail
  refine N.out.mono ?_
  rintro e w1 ⟨q, qb, rfl, h1, h2, h3, h4⟩
  have T1 := Lib.hid (T0.out.step h4)
  have Q1 := Lib.hid h1
  have NE := Lib.hid (show b ≠ qb ∧ w.heap.size ≤ q ∧ w.heap.size ≤ qb ∧ p ≠ qb from ⟨by have := T0.out.blt; omega, h2, h3, by have := T0.out.plt; omega⟩)
  have B1 := Lib.hid h4
  clear h1 h2 h3 h4 N T0
  have M := Lib.hid (made_any w1 p b l T1.out)
  go_wp2_with fail
  refine M.out.mono ?_
  rintro e w2 ⟨rfl, rfl⟩
  have CP := Lib.hid (fun W (hb : Below w1.heap.size w1 W) => copy_any W b qb l (T1.out.step hb).map (Q1.out.step hb).map NE.out.1 hl)
  have CF := Lib.hid (fun W (hb : Below w1.heap.size w1 W) => (show W.cell? ⟨p, 0, none⟩ = some (.map (some b)) ∧ W.cell? ⟨q, 0, none⟩ = some (.map (some qb)) from ⟨(T1.out.step hb).cell, (Q1.out.step hb).cell⟩))
  have BX := Lib.hid (fun W W' (hb : Below w1.heap.size w1 W) (hg : W.grownBy W' (some qb)) (ht : TM W' qb l) => (show ClO w W' q qb l ∧ TabI W' p b l from ⟨⟨⟨(hg.block q (by have := (Q1.out.step hb).plt; omega) (fun e => by injection e; have := Q1.out.ne; omega)).trans (Q1.out.step hb).box, ht⟩, NE.out.2.1, NE.out.2.2.1, (B1.out.trans (hb.mono B1.out.size)).grown hg (by have := B1.out.size; have := hb.size; omega) (fun k e => by cases e; exact NE.out.2.2.1)⟩, (T1.out.step hb).grown hg (fun e => by injection e; have := NE.out.2.2.2; omega) (fun e => by injection e; have := NE.out.1; omega)⟩))
  have BB := Lib.hid ((Below.refl w1.heap.size w1).drew)
  clear M T1 Q1 B1
  go_upto_region 3 with (fail)
  go_region_held3 (fun W => W.cell? ⟨p, 0, none⟩ = some (.map (some b)) ∧ W.cell? ⟨q, 0, none⟩ = some (.map (some qb))) (exact CF.out _ BB.out)
    (first
    | (go_at_call 68; refine (CP.out _ BB.out).mono ?_; rintro e w4 ⟨rfl, ht, hg⟩; have FI := Lib.hid (BX.out _ _ BB.out hg ht); have FIN := Lib.hid FI.out.1; have CF := Lib.hid (fun W (hb : Below w4.heap.size w4 W) => (show W.cell? ⟨p, 0, none⟩ = some (.map (some b)) ∧ W.cell? ⟨q, 0, none⟩ = some (.map (some qb)) from ⟨(FI.out.2.step hb).cell, (FI.out.1.tab.step hb).cell⟩)); have BB := Lib.hid (Below.refl w4.heap.size w4); clear hg ht FI))
  all_goals
    go_wp2
    go_returns
    exact ⟨_, _, rfl, FIN.out⟩
end Go.Proofs.YtbeodechhneeeaaGreatDoor.Tb


set_option linter.unusedVariables false
set_option linter.unusedSimpArgs false
set_option maxRecDepth 100000
namespace Go.Proofs.YtbeodechhneeeaaGreatDoor.Tb
open Go.RowKit Go.WideMaps Go.Maps

noncomputable instance : DecidableEq Rw := fun a b => Classical.propDecidable (a = b)
end Go.Proofs.YtbeodechhneeeaaGreatDoor.Tb




/-! ### of VE -/
set_option linter.unusedVariables false
namespace Go.Proofs.YtbeodechhneeeaaGreatDoor.Ve
open Go.RowKit

theorem row_setC {w : World} {b j : Nat} {c : Array Value} {t : TypeId} {fz : Nat × Nat} {u : Value} (h : w.heap[b]? = some (.cells c t fz)) : (w.setCell ⟨b, j, none⟩ u).heap[b]? = some (.cells (c.setIfInBounds j u) t fz) := by
  have hlt := (Array.getElem?_eq_some_iff.1 h).1
  have h' : w.heap[b] = .cells c t fz := by simpa [Array.getElem?_eq_getElem hlt] using h
  show (w.heap.modify b _)[b]? = _
  rw [Array.getElem?_eq_getElem (by simpa using hlt), Array.getElem_modify_self, h']
  rfl
end Go.Proofs.YtbeodechhneeeaaGreatDoor.Ve






/-! ### of OT -/
set_option linter.unusedVariables false
set_option linter.unusedSimpArgs false
set_option maxRecDepth 100000
namespace Go.Proofs.YtbeodechhneeeaaGreatDoor
open Go.RowKit
theorem wpList_bs {P : Program} {w : World} {ops : Array Oper} {rest : List Oper} {o : Oper} {a : Act} {Q : Exit → Act → World → Prop} (hgd : o.guard = none) (ty : TypeId) (x : Operand)
    (ho : o.op = .buildSlice ty 1 #[(0, x)]) (xv : Value) (hx : a.eval x = xv) (u : Value) (w' : World) (hr : (Instr.buildSlice ty 1 #[(0, xv)]).run P w = .ok u w')
    (h : wpList P ops Q rest (a.put o.dst u) w') : wpList P ops Q (o :: rest) a w :=
  wpList_plain hgd fun _ hK => by
    unfold Oper.wp execOp
    simp only [ho, List.map_toArray, List.map_cons, List.map_nil, hx, hr, Sem.run_bind, Sem.run_pure, Result.andThen_ok]
    exact hK _ _ h
theorem own_keep {w w' : World} {B e n size : Nat} {v : Value} {xs : List Value} (h : w.ownsRow B e size v n xs) (hb : Below w.heap.size w w') : w'.ownsRow B e size v n xs := (Far.of_below (P := fun _ => False) hb).row h (fun _ _ q => q)
end Go.Proofs.YtbeodechhneeeaaGreatDoor




/-! ### of EM -/
set_option linter.unusedVariables false
set_option linter.unusedSimpArgs false
namespace Go.Proofs.YtbeodechhneeeaaGreatDoor
open Go.RowKit
open Tb (Rw setF dropF getF aboveF Rise ltR ltS sameN isN stOf nodesF)

def wasF (T : List Rw) (t r : Int) : Rw := match getF T t r with | some x => ⟨t, r, x.pt, x.pr, x.nm, x.d⟩ | none => ⟨t, r, 0, 0, ⟨#[]⟩, false⟩
def stepF (T : List Rw) (o : O) : Stp := if skipF T o = true then ⟨o, false, false, 0, 0, ⟨#[]⟩, false⟩
  else ⟨o, true, (getF T o.nt o.nr).isSome, (wasF T o.nt o.nr).pt, (wasF T o.nt o.nr).pr, (wasF T o.nt o.nr).nm, (wasF T o.nt o.nr).d⟩
def stepsF (T : List Rw) : List O → List Stp
  | [] => []
  | o :: L => stepF T o :: stepsF (doF T o) L
theorem steps_append : ∀ (A B : List O) (T : List Rw), stepsF T (A ++ B) = stepsF T A ++ stepsF (playF T A) B
  | [], _, _ => rfl
  | o :: A, B, T => by
    show stepF T o :: stepsF (doF T o) (A ++ B) = _
    rw [steps_append A B (doF T o)]
    rfl
theorem steps_len : ∀ (L : List O) (T : List Rw), (stepsF T L).length = L.length
  | [], _ => rfl
  | o :: L, T => by show (stepsF (doF T o) L).length + 1 = _; rw [steps_len L]; rfl
theorem step_o (T : List Rw) (o : O) : (stepF T o).o = o := by unfold stepF; split <;> rfl
theorem steps_o : ∀ (L : List O) (T : List Rw), (stepsF T L).map (·.o) = L
  | [], _ => rfl
  | o :: L, T => by show (stepF T o).o :: (stepsF (doF T o) L).map (·.o) = _; rw [steps_o L, step_o]
theorem undo_do {T : List Rw} (h : Rise T) (o : O) : undoF (stepF T o) (doF T o) = T := by
  unfold stepF doF
  by_cases hs : skipF T o = true
  · rw [if_pos hs, if_pos hs]; rfl
  · rw [if_neg hs, if_neg hs]
    unfold undoF
    rw [if_pos rfl]
    cases hg : getF T o.nt o.nr with
    | none =>
      rw [if_neg (by simp)]
      have hn := Tb.get_none.1 hg
      refine Tb.rise_ext ((Tb.rise_set h _).filter _) h (fun y => ?_)
      show y ∈ (setF T (rwO o)).filter (fun y => !isN o.nt o.nr y) ↔ _
      rw [List.mem_filter, Tb.mem_set]
      have hny : isN o.nt o.nr y = sameN y (rwO o) := rfl
      constructor
      · rintro ⟨h1 | h1, h2⟩
        · subst h1; rw [hny] at h2; unfold sameN at h2; simp at h2
        · exact h1.1
      · intro hy
        have := hn y hy
        have hs : sameN y (rwO o) = false := by unfold sameN rwO; exact decide_eq_false this
        exact ⟨.inr ⟨hy, hs⟩, by rw [hny, hs]; rfl⟩
    | some x =>
      rw [if_pos (by simp)]
      obtain ⟨hx, e1, e2⟩ := (Tb.get_some h).1 hg
      have hw : wasF T o.nt o.nr = x := by
        unfold wasF; rw [hg]
        exact Tb.Rw.ext' e1.symm e2.symm rfl rfl rfl rfl
      have he : (⟨o.nt, o.nr, (wasF T o.nt o.nr).pt, (wasF T o.nt o.nr).pr, (wasF T o.nt o.nr).nm, (wasF T o.nt o.nr).d⟩ : Rw) = x := by
        rw [hw]; exact Tb.Rw.ext' e1.symm e2.symm rfl rfl rfl rfl
      show setF (setF T (rwO o)) ⟨o.nt, o.nr, (wasF T o.nt o.nr).pt, (wasF T o.nt o.nr).pr, (wasF T o.nt o.nr).nm, (wasF T o.nt o.nr).d⟩ = T
      rw [he]
      refine Tb.rise_ext (Tb.rise_set (Tb.rise_set h _) _) h (fun y => ?_)
      rw [Tb.mem_set, Tb.mem_set]
      have hsx : ∀ z : Rw, sameN z x = sameN z (rwO o) := fun z => by unfold sameN rwO; rw [e1, e2]
      constructor
      · rintro (h1 | ⟨h1 | h1, h2⟩)
        · rw [h1]; exact hx
        · rw [h1, hsx] at h2; unfold sameN at h2; simp at h2
        · exact h1.1
      · intro hy
        cases hq : sameN y x with
        | true => exact .inl (Tb.rise_one h hy hx hq)
        | false => exact .inr ⟨.inr ⟨hy, by rw [← hsx]; exact hq⟩, rfl⟩
theorem back_play : ∀ (L : List O) {T : List Rw}, Rise T → (stepsF T L).foldr undoF (playF T L) = T
  | [], _, _ => rfl
  | o :: L, T, h => by
    show undoF (stepF T o) ((stepsF (doF T o) L).foldr undoF (playF (doF T o) L)) = T
    rw [back_play L (do_rise h o), undo_do h]
/-! ### up -/
end Go.Proofs.YtbeodechhneeeaaGreatDoor



/-! ### of BA -/
set_option linter.unusedVariables false
set_option linter.unusedSimpArgs false
set_option maxRecDepth 100000
namespace Go.Proofs.YtbeodechhneeeaaGreatDoor
open Go.RowKit Go.Shelf Go.Lib
open Tb (Rw setF dropF getF aboveF Rise TabI TM LiesK TOut)
attribute [local go_sem] Oper.semAt_some

set_option maxHeartbeats 1600000 in
theorem undo_any (w : World) (p b : Nat) (T : List Rw) (h : TabI w p b T) (hl : T.length < 100000) (s : Stp) (hs : s.ok) :
    Calls Tryz.prog 62 #[stV s, .pointer (some ⟨p, 0, none⟩)] w fun e w' => e = .returned (.tuple #[]) ∧ TOut w w' p b (undoF s T) := by
  obtain ⟨⟨t, r, q, nt, nr, pt, pr, nm, d⟩, did, had, wt, wr, wn, wd⟩ := s
  obtain ⟨h1, h2, h3, h4⟩ := hs
  dsimp only at h1 h2 h3 h4
  unfold stV stCells undoF
  dsimp only
  have B1 := pl_vstep w (.cells #[.int .i64 t, .int .i64 r, .int .i64 q, .int .i64 nt, .int .i64 nr, .int .i64 pt, .int .i64 pr, .string nm, .bool d, .bool did, .bool had, .int .i64 wt, .int .i64 wr, .string wn, .bool wd] 71)
  have T1 := h.step B1
  have GB : ∀ (w' : World) (x : List Rw), TOut (w.alloc (.cells #[.int .i64 t, .int .i64 r, .int .i64 q, .int .i64 nt, .int .i64 nr, .int .i64 pt, .int .i64 pr, .string nm, .bool d, .bool did, .bool had, .int .i64 wt, .int .i64 wr, .string wn, .bool wd] 71)) w' p b x → TOut w w' p b x := fun w' x hh =>
    ⟨hh.tab, (Tb.below_grown B1 (some b)).andThen hh.grow (fun j e => Or.inr e)⟩
  have GB := Lib.hid GB
  cases did with
  | false =>
    have F := Lib.hid (show TOut w (w.alloc (.cells #[.int .i64 t, .int .i64 r, .int .i64 q, .int .i64 nt, .int .i64 nr, .int .i64 pt, .int .i64 pr, .string nm, .bool d, .bool false, .bool had, .int .i64 wt, .int .i64 wr, .string wn, .bool wd] 71)) p b T from ⟨T1, Tb.below_grown B1 _⟩)
    clear B1 T1 GB h
    go_enter Tryz.func62, Tryz.ntmps62
    go_wp2
    go_returns
    exact ⟨rfl, F.out⟩
  | true =>
    cases had with
    | true =>
      have S := Lib.hid (Tb.set_any _ p b T T1 (by omega) ⟨nt, nr, wt, wr, wn, wd⟩ ⟨h1, h2, h3, h4⟩)
      clear B1 T1 h
      go_enter Tryz.func62, Tryz.ntmps62
      go_wp2_with fail
      refine S.out.mono ?_
      rintro e w1 ⟨rfl, ho⟩
      have F := Lib.hid (GB.out _ _ ho)
      clear ho
      go_wp2
      go_returns
      exact ⟨rfl, F.out⟩
    | false =>
      have S := Lib.hid (Tb.drop_any _ p b T T1 nt nr h1 h2)
      clear B1 T1 h
      go_enter Tryz.func62, Tryz.ntmps62
      go_wp2_with fail
      refine S.out.mono ?_
      rintro e w1 ⟨rfl, ho⟩
      have F := Lib.hid (GB.out _ _ ho)
      clear ho
      go_wp2
      go_returns
      exact ⟨rfl, F.out⟩
set_option maxHeartbeats 800000 in
theorem backward_any (w : World) (a : Option Addr) (n c : Nat) : Calls Tryz.prog 61 #[.slice a n c] w fun e w' => e = .returned (.func (.func 93) #[] #[.pointer (some ⟨w.heap.size, 0, none⟩)]) ∧ w' = w.alloc (.cells #[.slice a n c] 60) := by
  go_enter Tryz.func61, Tryz.ntmps61
  go_wp2
  go_returns
  exact ⟨rfl, rfl⟩
theorem lies_turnK {α : Type} {enc : α → List Value} {k : Nat} {w w' : World} {b : Nat} {m : List Rw} {l : List α} {v : Value} (h : LiesK enc k w v l) (hm : TM w b m) (hg : w.grownBy w' (some b)) : LiesK enc k w' v l := by
  obtain ⟨ao, cap, h1, h2, h3, h4, h5⟩ := h
  refine ⟨ao, cap, h1, h2, h3, h4, fun a ha hne => ?_⟩
  obtain ⟨g, o, rfl, hgl, hc⟩ := h5 a ha hne
  refine ⟨g, o, rfl, Nat.lt_of_lt_of_le hgl hg.size, fun j p hp i u hu => hg.cell (hc j p hp i u hu) (fun e => ?_)⟩
  injection e with e
  have e : g = b := e
  subst e
  obtain ⟨es, ⟨es', c, hb', _⟩, _⟩ := hm
  have := hc j p hp i u hu
  simp [World.cell?, hb'] at this
theorem undo_len (s : Stp) (T : List Rw) : (undoF s T).length ≤ T.length + 1 := by
  unfold undoF
  split
  · split
    · exact Tb.setF_len _ _
    · unfold dropF; exact Nat.le_trans (List.length_filter_le _ _) (by omega)
  · omega
theorem undos_len : ∀ (S : List Stp) (T : List Rw), (S.foldr undoF T).length ≤ T.length + S.length
  | [], T => by simp
  | s :: S, T => by
    have h1 := undo_len s (S.foldr undoF T)
    have h2 := undos_len S T
    rw [List.foldr_cons, List.length_cons]
    omega
/-- Between two rounds of back. -/
structure BI (w : World) (p b bx : Nat) (T : List Rw) (v : Value) (D : List Stp) (i : Nat) (W : World) : Prop where
  tab : TabI W p b ((D.drop (D.length - i)).foldr undoF T)
  bel : w.grownBy W (some b)
  box : W.heap[bx]? = some (.cells #[v] 60 (0, 0))
  tb : W.heap[w.heap.size + 1]? = some (.cells #[pv p] 40 (0, 0))
  lies : LiesK stc1 15 W v D
theorem BI.own (w : World) (p b bx B : Nat) (T : List Rw) (v : Value) (D : List Stp) (hb : b < B) (hB : w.heap.size ≤ B) : OwnFrom B (BI w p b bx T v D) := by
  intro i W W' row h hg hr
  have hnb : some b ≠ row := fun e => by have := (hr b e.symm).1; omega
  refine ⟨⟨(hg.block _ h.tab.plt (fun e => ?_)).trans h.tab.box, h.tab.map.grown hg hnb⟩, ?_, (hg.block _ (pl_lt h.box) (fun e => ?_)).trans h.box, (hg.block _ (pl_lt h.tb) (fun e => ?_)).trans h.tb, ?_⟩
  · obtain ⟨_, o, ho, hc⟩ := hr _ e.symm; exact ncells_ne h.tab.box ho hc rfl
  · exact ⟨hg.os.trans h.bel.os, hg.tape.trans h.bel.tape, hg.output.trans h.bel.output, Nat.le_trans h.bel.size hg.size, fun k hk hne => (hg.block k (Nat.lt_of_lt_of_le hk h.bel.size) (fun e => by have := (hr k e.symm).1; omega)).trans (h.bel.block k hk hne)⟩
  · obtain ⟨_, o, ho, hc⟩ := hr _ e.symm; exact ncells_ne h.box ho hc rfl
  · obtain ⟨_, o, ho, hc⟩ := hr _ e.symm; exact ncells_ne h.tb ho hc rfl
  · obtain ⟨ao, cap, h1, h2, h3, h4, h5⟩ := h.lies
    refine ⟨ao, cap, h1, h2, h3, h4, fun a ha hne => ?_⟩
    obtain ⟨g, o, rfl, hgl, hc⟩ := h5 a ha hne
    refine ⟨g, o, rfl, Nat.lt_of_lt_of_le hgl hg.size, fun j s hs i u hu => hg.cell (hc j s hs i u hu) (fun e => ?_)⟩
    obtain ⟨_, ob, ho, hcc⟩ := hr _ e.symm
    have ho : W.heap[g]? = some ob := ho
    have := hc j s hs i u hu
    simp [World.cell?, ho] at this
    cases ob <;> simp_all [Obj.isCells]
set_option maxHeartbeats 1600000 in
theorem back_in (m : Nat) (hm : 4 ≤ m) (w : World) (p b : Nat) (T : List Rw) (u : Option Addr) (ft fr : Int) (a : Option Addr) (n c k : Nat) (S : List Stp) (h : TabI w p b T) (hS : LiesK stc1 15 w (.slice a n c) S) (hk : k ≤ n) (hl : T.length + S.length < 100000) (hok : ∀ s ∈ S, s.ok) :
    CallsIn Fence.wide m Tryz.prog 34 #[.agg #[.pointer u, .int .i64 ft, .int .i64 fr, .slice a n c], pv p, .int .i64 k] w fun e w' => e = .returned (.tuple #[]) ∧ TOut w w' p b ((S.drop k).foldr undoF T) := by
  have h1 : 1 ≤ m := by omega
  have hro : Fence.wide.round = none := rfl
  obtain ⟨A, hsl, hD⟩ := slice_tailK Tryz.u75 run_size89 hS hk
  obtain ⟨D, hDD⟩ : ∃ z, z = S.drop k := ⟨_, rfl⟩
  rw [← hDD] at hD ⊢
  have hDl : D.length = n - k := by
    obtain ⟨ao, cap, e, _⟩ := hS
    injection e with _ e _
    rw [hDD, List.length_drop, e]
  have hokD : ∀ s ∈ D, s.ok := fun s hs => hok s (by rw [hDD] at hs; exact List.mem_of_mem_drop hs)
  have hlD : T.length + D.length < 100000 := by rw [hDD, List.length_drop]; omega
  have HOK := Lib.hid hokD
  obtain ⟨W0, hW0⟩ : ∃ z, z = w.alloc (.cells #[.pointer u, .int .i64 ft, .int .i64 fr, .slice a n c] 62) := ⟨_, rfl⟩
  have B0 := pl_vstep w (.cells #[.pointer u, .int .i64 ft, .int .i64 fr, .slice a n c] 62)
  have N0 := heap_alloc_new w (.cells #[.pointer u, .int .i64 ft, .int .i64 fr, .slice a n c] 62)
  have s0 : W0.heap.size = w.heap.size + 1 := by rw [hW0]; simp
  rw [← hW0] at B0 N0
  obtain ⟨W1, hW1⟩ : ∃ z, z = W0.alloc (.cells #[pv p] 40) := ⟨_, rfl⟩
  have B1 := pl_vstep W0 (.cells #[pv p] 40)
  have N1 := heap_alloc_new W0 (.cells #[pv p] 40)
  have s1 : W1.heap.size = w.heap.size + 2 := by rw [hW1]; simp [s0]
  rw [← hW1, s0] at N1
  rw [← hW1] at B1
  have g3 : W1.cell? ⟨w.heap.size, 3, none⟩ = some (.slice a n c) := by rw [cell_of_row _ _ _ _ _ _ ((B1.block _ (pl_lt N0)).trans N0)]; rfl
  have BW := Lib.hid (callsIn_wide (n := m - 1).2 (backward_any W1 A (n - k) (c - k)))
  obtain ⟨W2, hW2⟩ : ∃ z, z = W1.alloc (.cells #[.slice A (n - k) (c - k)] 60) := ⟨_, rfl⟩
  have B2 := pl_vstep W1 (.cells #[.slice A (n - k) (c - k)] 60)
  have N2 := heap_alloc_new W1 (.cells #[.slice A (n - k) (c - k)] 60)
  rw [s1, ← hW2] at N2
  rw [s1, ← hW2] at BW
  have s2 : W2.heap.size = w.heap.size + 3 := by rw [hW2]; simp [s1]
  rw [← hW2] at B2
  have BB := B0.trans ((B1.trans (B2.mono B1.size)).mono B0.size)
  have I0 := Lib.hid (show BI w p b (w.heap.size + 2) T (.slice A (n - k) (c - k)) D 0 W2 from ⟨by rw [Nat.sub_zero, List.drop_length]; exact h.step BB, Tb.below_grown BB _, N2, (B2.block _ (pl_lt N1)).trans N1, hD.step BB⟩)
  have hbl := h.blt
  have HE0 := Lib.hid hW0
  have HE1 := Lib.hid hW1
  have S2 := Lib.hid s2
  have HDL := Lib.hid hDl
  clear hW0 hW1 hW2 B0 B1 B2 N0 N1 N2 s0 s1 s2 BB h hS hD hok hDD hDl hokD
  refine callsIn_of_wp_marks Tryz.func34 rfl trivial ?_ hro
  simp only [Tryz.ntmps34, List.size_toArray, List.length_cons, List.length_nil, Nat.reduceAdd, Nat.reduceSub, Array.replicate_succ, Array.replicate_zero, List.push_toArray, List.append_toArray, List.nil_append, List.cons_append]
  gi_wp2
  rw [← HE0.out, ← HE1.out]
  refine ⟨trivial, ?_⟩
  refine BW.out.mono ?_
  rintro e w3 ⟨rfl, hw3⟩
  subst hw3
  clear g3
  gi_wp2
  refine range_back (v := .slice A (n - k) (c - k)) (bx := w.heap.size + 2) (L := D) (by omega) (by omega) rfl rfl (BI w p b (w.heap.size + 2) T (.slice A (n - k) (c - k)) D) (BI.own w p b _ _ T _ D (by have := S2.out; omega) (by have := S2.out; omega)) I0.out (fun i W h => ⟨by rw [cell_of_row _ _ _ _ _ _ h.box]; rfl, h.lies⟩) (fun k' s b' => { tmps := #[.agg #[.pointer u, .int .i64 ft, .int .i64 fr, .slice a n c], pv p, .int .i64 (k : Int), .pointer (some ⟨w.heap.size, 0, none⟩), .pointer (some ⟨w.heap.size + 1, 0, none⟩), undef, undef, pv b', .pointer (some ⟨w.heap.size, 3, none⟩), .slice a n c, .int .i64 (k : Int), .slice A (n - k) (c - k), .func (.func 93) #[] #[.pointer (some ⟨w.heap.size + 2, 0, none⟩)], .int .i64 (k' : Int), stV s, undef, undef, undef], defers := [] }) ?assign ?body ?done
  case assign =>
    intro l' k' s W K hK
    obtain ⟨⟨t, r, q, nt, nr, pt, pr, nm, d⟩, did, had, wt, wr, wn, wd⟩ := s
    unfold stV stCells at *
    dsimp only at hK ⊢
    gi_wp2_with (rw [Oper.semAt_eq _ _ _ (fun c h => by cases h)]; go_simp; try go_bits)
    exact hK
  case body =>
    intro l' i k' b' s W hI hil hk' hget hb1 hb2 hbox
    have UN := Lib.hid (CallsIn.inRound l' (callsIn_wide (n := m - 1 - 1 - 1).2 (undo_any W p b _ hI.tab (by have := undos_len (D.drop (D.length - i)) T; rw [List.length_drop] at this; omega) s (HOK.out s (List.mem_of_getElem? hget)))))
    have HN := Lib.hid (show undoF s ((D.drop (D.length - i)).foldr undoF T) = (D.drop (D.length - (i + 1))).foldr undoF T by
      have e1 : D.length - (i + 1) = k' := by omega
      have e2 : D.length - i = k' + 1 := by omega
      rw [e1, e2, (List.drop_eq_getElem_cons (show k' < D.length by omega) : D.drop k' = _)]
      rw [List.foldr_cons, (List.getElem?_eq_some_iff.1 hget).2])
    have HI := Lib.hid hI
    have c4 : W.cell? ⟨w.heap.size + 1, 0, none⟩ = some (pv p) := by rw [cell_of_row _ _ _ _ _ _ hI.tb]; rfl
    obtain ⟨⟨t, r, q, nt, nr, pt, pr, nm, d⟩, did, had, wt, wr, wn, wd⟩ := s
    unfold stV stCells at *
    dsimp only at *
    have LS : ∀ (j : Nat) (x : Value), ((#[.int .i64 t, .int .i64 r, .int .i64 q, .int .i64 nt, .int .i64 nr, .int .i64 pt, .int .i64 pr, .string nm, .bool d, .bool did, .bool had, .int .i64 wt, .int .i64 wr, .string wn, .bool wd] : Array Value))[j]? = some x → W.cell? ⟨b', j, none⟩ = some x := fun j x hx => by rw [cell_of_row _ _ _ _ _ _ hbox]; exact hx
    have d0 := LS 0 _ rfl; have d1 := LS 1 _ rfl; have d2 := LS 2 _ rfl; have d3 := LS 3 _ rfl; have d4 := LS 4 _ rfl; have d5 := LS 5 _ rfl; have d6 := LS 6 _ rfl; have d7 := LS 7 _ rfl
    have d8 := LS 8 _ rfl; have d9 := LS 9 _ rfl; have d10 := LS 10 _ rfl; have d11 := LS 11 _ rfl; have d12 := LS 12 _ rfl; have d13 := LS 13 _ rfl; have d14 := LS 14 _ rfl
    clear LS hbox hI hget
    gi_wp2_with (rw [Oper.semAt_eq _ _ _ (fun c h => by cases h)]; go_simp; try go_bits)
    refine ⟨trivial, fun _ => by omega, ?_⟩
    refine UN.out.mono ?_
    rintro e w5 ⟨rfl, ho⟩
    have HO := Lib.hid ho
    clear ho
    gi_wp2_with (rw [Oper.semAt_eq _ _ _ (fun c h => by cases h)]; go_simp; try go_bits)
    have hG := HO.out.grow
    have hT := HO.out.tab
    have hbW : b < w3.heap.size := by have := S2.out; omega
    refine ⟨hG.block _ (by omega) (fun e => by injection e; omega), hG.block _ (by omega) (fun e => by injection e; omega), ?_⟩
    have hbx := HI.out.box
    have htb := HI.out.tb
    refine ⟨?_, ⟨hG.os.trans HI.out.bel.os, hG.tape.trans HI.out.bel.tape, hG.output.trans HI.out.bel.output, Nat.le_trans HI.out.bel.size hG.size, fun j hj hne => (hG.block j (Nat.lt_of_lt_of_le hj HI.out.bel.size) hne).trans (HI.out.bel.block j hj hne)⟩, (hG.block _ (pl_lt hbx) (fun e => by injection e; omega)).trans hbx, (hG.block _ (pl_lt htb) (fun e => by injection e; omega)).trans htb, lies_turnK HI.out.lies HI.out.tab.map hG⟩
    rw [← HN.out]
    exact hT
  case done =>
    intro D' W hD' hI hK
    have FIN := Lib.hid (show TOut w (W.putObj D' (.deferred none)) p b (D.foldr undoF T) from by
      have h2 := (BI.own w p b (w.heap.size + 2) w3.heap.size T (.slice A (n - k) (c - k)) D (by have := S2.out; omega) (by have := S2.out; omega)).putObj (.deferred none) hI hD' hK rfl
      have h3 := h2.tab
      rw [Nat.sub_self, List.drop_zero] at h3
      exact ⟨h3, h2.bel⟩)
    have HK := Lib.hid hK
    gi_wp2
    exact ⟨by simp, .inl ⟨_, _, rfl, run_takeDeferred HK.out, ⟨_, results_none rfl _ _ _, rfl, FIN.out⟩⟩⟩
theorem back_any (w : World) (p b : Nat) (T : List Rw) (u : Option Addr) (ft fr : Int) (a : Option Addr) (n c k : Nat) (S : List Stp) (h : TabI w p b T) (hS : LiesK stc1 15 w (.slice a n c) S) (hk : k ≤ n) (hl : T.length + S.length < 100000) (hok : ∀ s ∈ S, s.ok) :
    Calls Tryz.prog 34 #[.agg #[.pointer u, .int .i64 ft, .int .i64 fr, .slice a n c], pv p, .int .i64 k] w fun e w' => e = .returned (.tuple #[]) ∧ TOut w w' p b ((S.drop k).foldr undoF T) :=
  callsIn_wide.1 (back_in 4 (Nat.le_refl _) w p b T u ft fr a n c k S h hS hk hl hok)
end Go.Proofs.YtbeodechhneeeaaGreatDoor



/-! ### of DO -/
set_option linter.unusedVariables false
set_option linter.unusedSimpArgs false
set_option maxRecDepth 100000
namespace Go.Proofs.YtbeodechhneeeaaGreatDoor
open Go.RowKit Go.Shelf
open Tb (Rw setF dropF getF aboveF Rise TabI TM LiesK TOut)

def S0 (o : O) : Stp := ⟨o, false, false, 0, 0, ⟨#[]⟩, false⟩
/-- do's three boxes, the table. -/
structure DoJ (w W : World) (p b : Nat) (T : List Rw) (o : O) (s4 s5 : Stp) : Prop where
  grow : w.grownBy W (some b)
  tab : TabI W p b T
  b3 : W.heap[w.heap.size]? = some (.cells (oCells o) 33 (0, 0))
  b4 : W.heap[w.heap.size + 1]? = some (.cells (stCells s4) 71 (0, 0))
  b5 : W.heap[w.heap.size + 1 + 1]? = some (.cells (stCells s5) 71 (0, 0))
  lt : b < w.heap.size ∧ p < w.heap.size
theorem DoJ.step {w W W' : World} {p b : Nat} {T : List Rw} {o : O} {s4 s5 : Stp} (h : DoJ w W p b T o s4 s5) (hb : Below W.heap.size W W') : DoJ w W' p b T o s4 s5 :=
  ⟨h.grow.andThen (Tb.below_grown hb (some b)) (fun j e => Or.inr e), h.tab.step hb, (hb.block _ (pl_lt h.b3)).trans h.b3, (hb.block _ (pl_lt h.b4)).trans h.b4, (hb.block _ (pl_lt h.b5)).trans h.b5, h.lt⟩
theorem DoJ.turn {w W W' : World} {p b : Nat} {T T' : List Rw} {o : O} {s4 s5 : Stp} (h : DoJ w W p b T o s4 s5) (ht : TOut W W' p b T') : DoJ w W' p b T' o s4 s5 :=
  have k := h.lt
  ⟨h.grow.andThen ht.grow (fun j e => Or.inr e), ht.tab, (ht.grow.block _ (pl_lt h.b3) (fun e => by injection e; omega)).trans h.b3, (ht.grow.block _ (pl_lt h.b4) (fun e => by injection e; omega)).trans h.b4, (ht.grow.block _ (pl_lt h.b5) (fun e => by injection e; omega)).trans h.b5, h.lt⟩
/-- The numbers of an op are numbers. -/
theorem cells15 {W : World} {g : Nat} {s : Stp} (h : W.heap[g]? = some (.cells (stCells s) 71 (0, 0))) : ∀ i u, (stc1 s)[i]? = some u → W.cell? ⟨g, 0 + i, none⟩ = some u := fun i u hu => by
  rw [Nat.zero_add, cell_of_row _ _ _ _ _ _ h]
  unfold stc1 at hu
  simpa using hu
theorem wpList_st15 {P : Program} {w : World} {ops : Array Oper} {rest : List Oper} {o : Oper} {a : Act} {Q : Exit → Act → World → Prop} (hgd : o.guard = none) (x y : Operand) (ty : TypeId)
    (ho : o.op = .store ty x y) (p v : Value) (hx : a.eval x = p) (hy : a.eval y = v) (w' : World) (hr : (Instr.storeAt ty p v).run P w = .ok () w')
    (h : wpList P ops Q rest (a.put o.dst undef) w') : wpList P ops Q (o :: rest) a w :=
  wpList_plain hgd fun _ hK => by
    unfold Oper.wp execOp
    simp only [ho, hx, hy, hr, Sem.run_bind, Sem.run_pure, Result.andThen_ok]
    exact hK _ _ h
/-- A step stored at its place in a row, or in its box. -/
theorem stR {W : World} {g o : Nat} {cur : List Value} {T : TypeId} {x : Stp} (h : W.heap[g]? = some (.cells cur.toArray T (0, 0))) (ho : o + 15 ≤ cur.length) : (Instr.storeAt 71 (.pointer (some ⟨g, o, none⟩)) (stV x)).run Tryz.prog W = .ok () (W.setRow g (cur.take o ++ stc1 x ++ cur.drop (o + 15)).toArray) := by
  have hst := run_storeCells_at Tryz.prog g o T (stc1 x) 0 cur.toArray W h (by show o + 0 + 15 ≤ _; simpa using ho) (stc1_one x)
  have e : (stc1 x).length = 15 := rfl
  rw [e, Nat.add_zero, List.toList_toArray] at hst
  obtain ⟨i, hi, _, h1, _⟩ := info_parts info89
  show ((Instr.storeAt 71 (.pointer (some ⟨g, o, none⟩)) (.agg (stCells x))).run Tryz.prog W) = _
  simp only [Instr.storeAt, Instr.sureAddr, storeVar, sizeOf, typeInfo, hi, h1, Sem.run_bind, Sem.run_pure, Result.andThen_ok]
  exact hst
theorem stS {W : World} {g : Nat} {s x : Stp} (h : W.heap[g]? = some (.cells (stCells s) 71 (0, 0))) : (Instr.storeAt 71 (.pointer (some ⟨g, 0, none⟩)) (stV x)).run Tryz.prog W = .ok () (W.setRow g (stCells x)) :=
  stR (cur := stc1 s) h (by show 0 + 15 ≤ 15; omega)
theorem setRow_far {w W : World} {b g : Nat} (h : w.grownBy W (some b)) (hg : w.heap.size ≤ g) (c : Array Value) : w.grownBy (W.setRow g c) (some b) :=
  ⟨h.os, h.tape, h.output, by simp [World.setRow, h.size], fun k hk hne => (setRow_other W g k c (by omega)).trans (h.block k hk hne)⟩
theorem TabI.setRow {W : World} {p b g : Nat} {T : List Rw} (h : TabI W p b T) (hp : p ≠ g) (hb : b ≠ g) (c : Array Value) : TabI (W.setRow g c) p b T :=
  ⟨(setRow_other W g p c hp).trans h.box, h.map.grown (⟨rfl, rfl, rfl, by simp [World.setRow], fun k _ hk => setRow_other W g k c (fun e => hk (by rw [e]))⟩ : W.grownBy (W.setRow g c) (some g)) (fun e => hb (by injection e))⟩
theorem DoJ.set4 {w W : World} {p b : Nat} {T : List Rw} {o : O} {s4 s5 : Stp} (h : DoJ w W p b T o s4 s5) (x : Stp) : DoJ w (W.setRow (w.heap.size + 1) (stCells x)) p b T o x s5 :=
  have k := h.lt
  ⟨setRow_far h.grow (by omega) _, TabI.setRow h.tab (by omega) (by omega) _, (setRow_other W _ _ _ (by omega)).trans h.b3, setRow_heap W _ _ _ 71 _ h.b4, (setRow_other W _ _ _ (by omega)).trans h.b5, h.lt⟩
theorem DoJ.set5 {w W : World} {p b : Nat} {T : List Rw} {o : O} {s4 s5 : Stp} (h : DoJ w W p b T o s4 s5) (x : Stp) : DoJ w (W.setRow (w.heap.size + 1 + 1) (stCells x)) p b T o s4 x :=
  have k := h.lt
  ⟨setRow_far h.grow (by omega) _, TabI.setRow h.tab (by omega) (by omega) _, (setRow_other W _ _ _ (by omega)).trans h.b3, (setRow_other W _ _ _ (by omega)).trans h.b4, setRow_heap W _ _ _ 71 _ h.b5, h.lt⟩
theorem DoJ.start {w : World} {p b : Nat} {T : List Rw} (h : TabI w p b T) (o : O) (s4 s5 : Stp) : DoJ w (((w.alloc (.cells (oCells o) 33)).alloc (.cells (stCells s4) 71)).alloc (.cells (stCells s5) 71)) p b T o s4 s5 := by
  have B1 := pl_vstep w (.cells (oCells o) 33)
  have N1 := heap_alloc_new w (.cells (oCells o) 33)
  have z1 : (w.alloc (.cells (oCells o) 33)).heap.size = w.heap.size + 1 := by simp
  generalize w.alloc (.cells (oCells o) 33) = w1 at *
  have B2 := pl_vstep w1 (.cells (stCells s4) 71)
  have N2 := heap_alloc_new w1 (.cells (stCells s4) 71)
  have z2 : (w1.alloc (.cells (stCells s4) 71)).heap.size = w.heap.size + 1 + 1 := by simp [z1]
  rw [z1] at N2
  generalize w1.alloc (.cells (stCells s4) 71) = w2 at *
  have B3 := pl_vstep w2 (.cells (stCells s5) 71)
  have N3 := heap_alloc_new w2 (.cells (stCells s5) 71)
  rw [z2] at N3
  generalize w2.alloc (.cells (stCells s5) 71) = w3 at *
  have BB := B1.trans ((B2.trans (B3.mono B2.size)).mono B1.size)
  exact ⟨Tb.below_grown BB _, h.step BB, ((B2.trans (B3.mono B2.size)).block _ (by omega)).trans N1, (B3.block _ (by omega)).trans N2, N3, h.blt, h.plt⟩
theorem stF4 {W : World} {g j : Nat} {s s' : Stp} {v : Bool} (h : W.heap[g]? = some (.cells (stCells s) 71 (0, 0))) (hj : j < 15) (e : (stCells s).setIfInBounds j (.bool v) = stCells s') : (Instr.storeAt 4 (.pointer (some ⟨g, j, none⟩)) (.bool v)).run Tryz.prog W = .ok () (W.setRow g (stCells s')) := by
  have c : W.cell? ⟨g, j, none⟩ = some (stCells s)[j] := by rw [cell_of_row _ _ _ _ _ _ h]; exact Array.getElem?_eq_getElem hj
  have f : W.frozen? ⟨g, j, none⟩ = false := frozen_of_row _ _ _ _ _ h
  rw [← e, ← setCell_eq_setRow W g j (stCells s) 71 (0, 0) (.bool v) h]
  clear h e
  generalize (stCells s)[j] = z at c
  go_simp
theorem stF69 {W : World} {g : Nat} {s : Stp} (h : W.heap[g]? = some (.cells (stCells s) 71 (0, 0))) (a b : Int) (n : ByteArray) (d : Bool) : (Instr.storeAt 47 (.pointer (some ⟨g, 11, none⟩)) (.agg #[.int .i64 a, .int .i64 b, .string n, .bool d])).run Tryz.prog W = .ok () (W.setRow g (stCells { s with wt := a, wr := b, wn := n, wd := d })) := by
  have c0 : W.cell? ⟨g, 11, none⟩ = some (.int .i64 s.wt) := by rw [cell_of_row _ _ _ _ _ _ h]; rfl
  have c1 : W.cell? ⟨g, 12, none⟩ = some (.int .i64 s.wr) := by rw [cell_of_row _ _ _ _ _ _ h]; rfl
  have c2 : W.cell? ⟨g, 13, none⟩ = some (.string s.wn) := by rw [cell_of_row _ _ _ _ _ _ h]; rfl
  have c3 : W.cell? ⟨g, 14, none⟩ = some (.bool s.wd) := by rw [cell_of_row _ _ _ _ _ _ h]; rfl
  have f0 : W.frozen? ⟨g, 11, none⟩ = false := frozen_of_row _ _ _ _ _ h
  have f1 : W.frozen? ⟨g, 12, none⟩ = false := frozen_of_row _ _ _ _ _ h
  have f2 : W.frozen? ⟨g, 13, none⟩ = false := frozen_of_row _ _ _ _ _ h
  have f3 : W.frozen? ⟨g, 14, none⟩ = false := frozen_of_row _ _ _ _ _ h
  have e : (((W.setCell ⟨g, 11, none⟩ (.int .i64 a)).setCell ⟨g, 12, none⟩ (.int .i64 b)).setCell ⟨g, 13, none⟩ (.string n)).setCell ⟨g, 14, none⟩ (.bool d) = W.setRow g (stCells { s with wt := a, wr := b, wn := n, wd := d }) := by
    have h1 := setRow_heap W g _ ((stCells s).setIfInBounds 11 (.int .i64 a)) 71 _ h
    have h2 := setRow_heap _ g _ (((stCells s).setIfInBounds 11 (.int .i64 a)).setIfInBounds 12 (.int .i64 b)) 71 _ h1
    have h3 := setRow_heap _ g _ ((((stCells s).setIfInBounds 11 (.int .i64 a)).setIfInBounds 12 (.int .i64 b)).setIfInBounds 13 (.string n)) 71 _ h2
    rw [setCell_eq_setRow W g 11 _ 71 (0, 0) _ h, setCell_eq_setRow _ g 12 _ 71 (0, 0) _ h1, setCell_eq_setRow _ g 13 _ 71 (0, 0) _ h2, setCell_eq_setRow _ g 14 _ 71 (0, 0) _ h3, setRow_setRow, setRow_setRow, setRow_setRow]
    rfl
  rw [← e]
  clear h e
  go_simp
end Go.Proofs.YtbeodechhneeeaaGreatDoor



/-! ### of DP -/
set_option linter.unusedVariables false
set_option linter.unusedSimpArgs false
set_option maxRecDepth 100000
namespace Go.Proofs.YtbeodechhneeeaaGreatDoor
open Go.RowKit Go.Shelf
open Tb (Rw setF dropF getF aboveF Rise TabI TM LiesK TOut)

set_option maxHeartbeats 3200000 in
theorem do_any (w : World) (p b : Nat) (T : List Rw) (h : TabI w p b T) (hl : T.length < 100000) (o : O) (ho : OkO o) :
    Calls Tryz.prog 36 #[pv p, oV o] w fun e w' => e = .returned (stV (stepF T o)) ∧ TOut w w' p b (doF T o) := by
  have D0 := Lib.hid (DoJ.start h o (S0 O0) (S0 o))
  have HO := Lib.hid ho
  have SP := Lib.hid (show stepF T o = if skipF T o = true then S0 o else ⟨o, true, (getF T o.nt o.nr).isSome, (wasF T o.nt o.nr).pt, (wasF T o.nt o.nr).pr, (wasF T o.nt o.nr).nm, (wasF T o.nt o.nr).d⟩ from rfl)
  have DF := Lib.hid (show doF T o = if skipF T o = true then T else setF T (rwO o) from rfl)
  have SK := Lib.hid (show skipF T o = (decide (o.nt = o.pt ∧ o.nr = o.pr) || aboveF T o.nt o.nr T.length o.pt o.pr) from rfl)
  have CV : ∀ (W : World) (x : Stp), W.heap[w.heap.size + 1]? = some (.cells (stCells x) 71 (0, 0)) → ∀ (j : Nat) (v : Value), (stCells x)[j]? = some v → W.cell? ⟨w.heap.size + 1, j, none⟩ = some v := fun W x hh j v hv => by rw [cell_of_row _ _ _ _ _ _ hh]; exact hv
  have CV := Lib.hid CV
  clear h ho
  by_cases hq : o.nt = o.pt ∧ o.nr = o.pr
  · have E1 := Lib.hid (show stepF T o = S0 o by rw [SP.out, if_pos (by rw [SK.out, decide_eq_true hq]; rfl)])
    have E2 := Lib.hid (show doF T o = T by rw [DF.out, if_pos (by rw [SK.out, decide_eq_true hq]; rfl)])
    obtain ⟨u1, u2⟩ := yes2 hq
    clear hq
    rw [E1.out, E2.out]
    clear E1 E2 SP DF SK
    obtain ⟨t, r, q, nt, nr, pt, pr, nm, d⟩ := o
    unfold oV oCells
    dsimp only at *
    go_enter Tryz.func36, Tryz.ntmps36
    go_upto_region 2 with (fail)
    change Code.wp _ _ _ _ (((w.alloc (.cells (oCells ⟨t, r, q, nt, nr, pt, pr, nm, d⟩) 33)).alloc (.cells (stCells (S0 O0)) 71)).alloc (.cells (stCells (S0 ⟨t, r, q, nt, nr, pt, pr, nm, d⟩)) 71))
    have D1 := Lib.hid D0.out
    generalize (((w.alloc (.cells (oCells ⟨t, r, q, nt, nr, pt, pr, nm, d⟩) 33)).alloc (.cells (stCells (S0 O0)) 71)).alloc (.cells (stCells (S0 ⟨t, r, q, nt, nr, pt, pr, nm, d⟩)) 71)) = W0 at D1 ⊢
    clear D0
    have oc0 : ∀ (j : Nat) (v : Value), (oCells ⟨t, r, q, nt, nr, pt, pr, nm, d⟩)[j]? = some v → W0.cell? ⟨w.heap.size, j, none⟩ = some v := fun j v hv => (cell_of_row _ _ _ _ _ _ D1.out.b3).trans hv
    have c3 := oc0 3 (.int .i64 nt) rfl; have c4 := oc0 4 (.int .i64 nr) rfl; have c5 := oc0 5 (.int .i64 pt) rfl; have c6 := oc0 6 (.int .i64 pr) rfl; have c7 := oc0 7 (.string nm) rfl; have c8 := oc0 8 (.bool d) rfl
    clear oc0
    go_upto_region 3 with (fail)
    clear c3 c4 c5 c6 c7 c8
    go_wp2_with (first
      | (refine Ve.wpList_load_arr rfl (.tmp 5) 71 rfl (.pointer (some ⟨w.heap.size + 1 + 1, 0, none⟩)) (stV (S0 ⟨t, r, q, nt, nr, pt, pr, nm, d⟩)) rfl (ldS (cells15 D1.out.b5)) ?_)
      | (refine wpList_st15 rfl (.tmp 4) (.tmp 21) 71 rfl (.pointer (some ⟨w.heap.size + 1, 0, none⟩)) (stV (S0 ⟨t, r, q, nt, nr, pt, pr, nm, d⟩)) rfl rfl _ (stS D1.out.b4) ?_))
    have DZ := Lib.hid (D1.out.set4 (S0 ⟨t, r, q, nt, nr, pt, pr, nm, d⟩))
    generalize W0.setRow (w.heap.size + 1) (stCells (S0 ⟨t, r, q, nt, nr, pt, pr, nm, d⟩)) = WZ at *
    have z := CV.out WZ _ DZ.out.b4
    have d0 := z 0 (.int .i64 t) rfl; have d1 := z 1 (.int .i64 r) rfl; have d2 := z 2 (.int .i64 q) rfl; have d3 := z 3 (.int .i64 nt) rfl; have d4 := z 4 (.int .i64 nr) rfl; have d5 := z 5 (.int .i64 pt) rfl; have d6 := z 6 (.int .i64 pr) rfl; have d7 := z 7 (.string nm) rfl; have d8 := z 8 (.bool d) rfl; have d9 := z 9 (.bool false) rfl; have d10 := z 10 (.bool false) rfl; have d11 := z 11 (.int .i64 0) rfl; have d12 := z 12 (.int .i64 0) rfl; have d13 := z 13 (.string ⟨#[]⟩) rfl; have d14 := z 14 (.bool false) rfl
    clear z
    refine bodyPost_ret (by simp [results, Tryz.results36, go_sem, d0, d1, d2, d3, d4, d5, d6, d7, d8, d9, d10, d11, d12, d13, d14]; try rfl) rfl ?_
    exact ⟨rfl, DZ.out.tab, DZ.out.grow⟩

  · have hn := no2 hq
    have SK2 := Lib.hid (show skipF T o = aboveF T o.nt o.nr T.length o.pt o.pr from by rw [SK.out, decide_eq_false hq]; rfl)
    have AB := Lib.hid (fun W (ht : TabI W p b T) => Tb.above_any W p b T ht (by omega) o.nt o.nr o.pt o.pr HO.out.pt HO.out.pr)
    obtain ⟨ab, hab⟩ : ∃ z, aboveF T o.nt o.nr T.length o.pt o.pr = z := ⟨_, rfl⟩
    rw [hab] at SK2 AB
    clear hq SK hab
    cases ab with
    | true =>
      have E1 := Lib.hid (show stepF T o = S0 o by rw [SP.out, if_pos SK2.out])
      have E2 := Lib.hid (show doF T o = T by rw [DF.out, if_pos SK2.out])
      rw [E1.out, E2.out]
      clear E1 E2 SP DF SK2
      obtain ⟨t, r, q, nt, nr, pt, pr, nm, d⟩ := o
      unfold oV oCells
      dsimp only at *
      go_enter Tryz.func36, Tryz.ntmps36
      go_upto_region 2 with (fail)
      change Code.wp _ _ _ _ (((w.alloc (.cells (oCells ⟨t, r, q, nt, nr, pt, pr, nm, d⟩) 33)).alloc (.cells (stCells (S0 O0)) 71)).alloc (.cells (stCells (S0 ⟨t, r, q, nt, nr, pt, pr, nm, d⟩)) 71))
      have D1 := Lib.hid D0.out
      generalize (((w.alloc (.cells (oCells ⟨t, r, q, nt, nr, pt, pr, nm, d⟩) 33)).alloc (.cells (stCells (S0 O0)) 71)).alloc (.cells (stCells (S0 ⟨t, r, q, nt, nr, pt, pr, nm, d⟩)) 71)) = W0 at D1 ⊢
      clear D0
      have oc0 : ∀ (j : Nat) (v : Value), (oCells ⟨t, r, q, nt, nr, pt, pr, nm, d⟩)[j]? = some v → W0.cell? ⟨w.heap.size, j, none⟩ = some v := fun j v hv => (cell_of_row _ _ _ _ _ _ D1.out.b3).trans hv
      have c3 := oc0 3 (.int .i64 nt) rfl; have c4 := oc0 4 (.int .i64 nr) rfl; have c5 := oc0 5 (.int .i64 pt) rfl; have c6 := oc0 6 (.int .i64 pr) rfl; have c7 := oc0 7 (.string nm) rfl; have c8 := oc0 8 (.bool d) rfl
      clear oc0
      rcases hn with n1 | ⟨n1, n2⟩
      all_goals
        go_wp2_with fail
        refine (AB.out W0 D1.out.tab).mono ?_
        rintro e w4 ⟨rfl, hb⟩
        have D2 := Lib.hid (D1.out.step hb)
        clear hb D1 c3 c4 c5 c6 c7 c8
        go_upto_region 3 with (fail)
        go_wp2_with (first
          | (refine Ve.wpList_load_arr rfl (.tmp 5) 71 rfl (.pointer (some ⟨w.heap.size + 1 + 1, 0, none⟩)) (stV (S0 ⟨t, r, q, nt, nr, pt, pr, nm, d⟩)) rfl (ldS (cells15 D2.out.b5)) ?_)
          | (refine wpList_st15 rfl (.tmp 4) (.tmp 21) 71 rfl (.pointer (some ⟨w.heap.size + 1, 0, none⟩)) (stV (S0 ⟨t, r, q, nt, nr, pt, pr, nm, d⟩)) rfl rfl _ (stS D2.out.b4) ?_))
        have DZ := Lib.hid (D2.out.set4 (S0 ⟨t, r, q, nt, nr, pt, pr, nm, d⟩))
        generalize w4.setRow (w.heap.size + 1) (stCells (S0 ⟨t, r, q, nt, nr, pt, pr, nm, d⟩)) = WZ at *
        have z := CV.out WZ _ DZ.out.b4
        have d0 := z 0 (.int .i64 t) rfl; have d1 := z 1 (.int .i64 r) rfl; have d2 := z 2 (.int .i64 q) rfl; have d3 := z 3 (.int .i64 nt) rfl; have d4 := z 4 (.int .i64 nr) rfl; have d5 := z 5 (.int .i64 pt) rfl; have d6 := z 6 (.int .i64 pr) rfl; have d7 := z 7 (.string nm) rfl; have d8 := z 8 (.bool d) rfl; have d9 := z 9 (.bool false) rfl; have d10 := z 10 (.bool false) rfl; have d11 := z 11 (.int .i64 0) rfl; have d12 := z 12 (.int .i64 0) rfl; have d13 := z 13 (.string ⟨#[]⟩) rfl; have d14 := z 14 (.bool false) rfl
        clear z
        refine bodyPost_ret (by simp [results, Tryz.results36, go_sem, d0, d1, d2, d3, d4, d5, d6, d7, d8, d9, d10, d11, d12, d13, d14]; try rfl) rfl ?_
        exact ⟨rfl, DZ.out.tab, DZ.out.grow⟩

    | false =>
      have hns : ¬ skipF T o = true := by rw [SK2.out]; simp
      have E2 := Lib.hid (show doF T o = setF T (rwO o) by rw [DF.out, if_neg hns])
      have GT := Lib.hid (fun W (ht : TabI W p b T) => Tb.get_any W p b T ht o.nt o.nr HO.out.nt HO.out.nr)
      have ST := Lib.hid (fun W (ht : TabI W p b T) => Tb.set_any W p b T ht (by omega) (rwO o) ⟨HO.out.nt, HO.out.nr, HO.out.pt, HO.out.pr⟩)
      have hgv : Tb.gv T o.nt o.nr = .agg #[.int .i64 (wasF T o.nt o.nr).pt, .int .i64 (wasF T o.nt o.nr).pr, .string (wasF T o.nt o.nr).nm, .bool (wasF T o.nt o.nr).d] := by
        unfold Tb.gv wasF
        cases getF T o.nt o.nr <;> rfl
      have E1 := SP.out
      rw [if_neg hns] at E1
      obtain ⟨a1, ha1⟩ : ∃ z, (wasF T o.nt o.nr).pt = z := ⟨_, rfl⟩
      obtain ⟨a2, ha2⟩ : ∃ z, (wasF T o.nt o.nr).pr = z := ⟨_, rfl⟩
      obtain ⟨a3, ha3⟩ : ∃ z, (wasF T o.nt o.nr).nm = z := ⟨_, rfl⟩
      obtain ⟨a4, ha4⟩ : ∃ z, (wasF T o.nt o.nr).d = z := ⟨_, rfl⟩
      obtain ⟨ok, hok⟩ : ∃ z, (getF T o.nt o.nr).isSome = z := ⟨_, rfl⟩
      rw [ha1, ha2, ha3, ha4] at hgv E1
      rw [hok] at E1
      simp only [hgv, hok] at GT
      rw [E1, E2.out]
      clear E1 E2 SP DF SK2 hns ha1 ha2 ha3 ha4 hok hgv
      obtain ⟨t, r, q, nt, nr, pt, pr, nm, d⟩ := o
      unfold oV oCells
      dsimp only at *
      go_enter Tryz.func36, Tryz.ntmps36
      go_upto_region 2 with (fail)
      change Code.wp _ _ _ _ (((w.alloc (.cells (oCells ⟨t, r, q, nt, nr, pt, pr, nm, d⟩) 33)).alloc (.cells (stCells (S0 O0)) 71)).alloc (.cells (stCells (S0 ⟨t, r, q, nt, nr, pt, pr, nm, d⟩)) 71))
      have D1 := Lib.hid D0.out
      generalize (((w.alloc (.cells (oCells ⟨t, r, q, nt, nr, pt, pr, nm, d⟩) 33)).alloc (.cells (stCells (S0 O0)) 71)).alloc (.cells (stCells (S0 ⟨t, r, q, nt, nr, pt, pr, nm, d⟩)) 71)) = W0 at D1 ⊢
      clear D0
      have oc0 : ∀ (j : Nat) (v : Value), (oCells ⟨t, r, q, nt, nr, pt, pr, nm, d⟩)[j]? = some v → W0.cell? ⟨w.heap.size, j, none⟩ = some v := fun j v hv => (cell_of_row _ _ _ _ _ _ D1.out.b3).trans hv
      have c3 := oc0 3 (.int .i64 nt) rfl; have c4 := oc0 4 (.int .i64 nr) rfl; have c5 := oc0 5 (.int .i64 pt) rfl; have c6 := oc0 6 (.int .i64 pr) rfl; have c7 := oc0 7 (.string nm) rfl; have c8 := oc0 8 (.bool d) rfl
      clear oc0
      rcases hn with n1 | ⟨n1, n2⟩
      all_goals
        go_wp2_with fail
        refine (AB.out W0 D1.out.tab).mono ?_
        rintro e w4 ⟨rfl, hb⟩
        have D2 := Lib.hid (D1.out.step hb)
        clear hb D1 c3 c4 c5 c6 c7 c8
        go_upto_region 4 with (fail)
        go_wp2_with (first
          | (refine wpList_st15 rfl (.tmp 22) (.const (.bool true)) 4 rfl (.pointer (some ⟨w.heap.size + 1 + 1, 9, none⟩)) (.bool true) rfl rfl _ (stF4 (s' := ⟨⟨t, r, q, nt, nr, pt, pr, nm, d⟩, true, false, 0, 0, ⟨#[]⟩, false⟩) D2.out.b5 (by omega) rfl) ?_; have D3 := Lib.hid (D2.out.set5 ⟨⟨t, r, q, nt, nr, pt, pr, nm, d⟩, true, false, 0, 0, ⟨#[]⟩, false⟩); generalize w4.setRow (w.heap.size + 1 + 1) (stCells ⟨⟨t, r, q, nt, nr, pt, pr, nm, d⟩, true, false, 0, 0, ⟨#[]⟩, false⟩) = w5 at D3 ⊢; have oc0 : ∀ (j : Nat) (v : Value), (oCells ⟨t, r, q, nt, nr, pt, pr, nm, d⟩)[j]? = some v → w5.cell? ⟨w.heap.size, j, none⟩ = some v := fun j v hv => (cell_of_row _ _ _ _ _ _ D3.out.b3).trans hv; have c3 := oc0 3 (.int .i64 nt) rfl; have c4 := oc0 4 (.int .i64 nr) rfl; have c5 := oc0 5 (.int .i64 pt) rfl; have c6 := oc0 6 (.int .i64 pr) rfl; have c7 := oc0 7 (.string nm) rfl; have c8 := oc0 8 (.bool d) rfl; clear oc0))
        refine (GT.out w5 D3.out.tab).mono ?_
        rintro e w6 ⟨rfl, hb⟩
        have D4 := Lib.hid (D3.out.step hb)
        clear hb c3 c4 c5 c6 c7 c8
        go_wp2_with (first
          | (refine wpList_st15 rfl (.tmp 30) (.tmp 28) 47 rfl (.pointer (some ⟨w.heap.size + 1 + 1, 11, none⟩)) (.agg #[.int .i64 a1, .int .i64 a2, .string a3, .bool a4]) rfl rfl _ (stF69 D4.out.b5 a1 a2 a3 a4) ?_; have D5 := Lib.hid (D4.out.set5 ⟨⟨t, r, q, nt, nr, pt, pr, nm, d⟩, true, false, a1, a2, a3, a4⟩); change wpList _ _ _ _ _ (w6.setRow (w.heap.size + 1 + 1) (stCells ⟨⟨t, r, q, nt, nr, pt, pr, nm, d⟩, true, false, a1, a2, a3, a4⟩)); generalize w6.setRow (w.heap.size + 1 + 1) (stCells ⟨⟨t, r, q, nt, nr, pt, pr, nm, d⟩, true, false, a1, a2, a3, a4⟩) = w7 at D5 ⊢)
          | (refine wpList_st15 rfl (.tmp 31) (.tmp 29) 4 rfl (.pointer (some ⟨w.heap.size + 1 + 1, 10, none⟩)) (.bool ok) rfl rfl _ (stF4 (s' := ⟨⟨t, r, q, nt, nr, pt, pr, nm, d⟩, true, ok, a1, a2, a3, a4⟩) D5.out.b5 (by omega) rfl) ?_; have D6 := Lib.hid (D5.out.set5 ⟨⟨t, r, q, nt, nr, pt, pr, nm, d⟩, true, ok, a1, a2, a3, a4⟩); generalize w7.setRow (w.heap.size + 1 + 1) (stCells ⟨⟨t, r, q, nt, nr, pt, pr, nm, d⟩, true, ok, a1, a2, a3, a4⟩) = w8 at D6 ⊢; have oc0 : ∀ (j : Nat) (v : Value), (oCells ⟨t, r, q, nt, nr, pt, pr, nm, d⟩)[j]? = some v → w8.cell? ⟨w.heap.size, j, none⟩ = some v := fun j v hv => (cell_of_row _ _ _ _ _ _ D6.out.b3).trans hv; have c3 := oc0 3 (.int .i64 nt) rfl; have c4 := oc0 4 (.int .i64 nr) rfl; have c5 := oc0 5 (.int .i64 pt) rfl; have c6 := oc0 6 (.int .i64 pr) rfl; have c7 := oc0 7 (.string nm) rfl; have c8 := oc0 8 (.bool d) rfl; clear oc0))
        refine (ST.out w8 D6.out.tab).mono ?_
        rintro e w9 ⟨rfl, hb⟩
        have D7 := Lib.hid (D6.out.turn hb)
        clear hb c3 c4 c5 c6 c7 c8
        go_wp2_with (first
          | (refine Ve.wpList_load_arr rfl (.tmp 5) 71 rfl (.pointer (some ⟨w.heap.size + 1 + 1, 0, none⟩)) (stV (⟨⟨t, r, q, nt, nr, pt, pr, nm, d⟩, true, ok, a1, a2, a3, a4⟩)) rfl (ldS (cells15 D7.out.b5)) ?_)
          | (refine wpList_st15 rfl (.tmp 4) (.tmp 43) 71 rfl (.pointer (some ⟨w.heap.size + 1, 0, none⟩)) (stV (⟨⟨t, r, q, nt, nr, pt, pr, nm, d⟩, true, ok, a1, a2, a3, a4⟩)) rfl rfl _ (stS D7.out.b4) ?_))
        have DZ := Lib.hid (D7.out.set4 (⟨⟨t, r, q, nt, nr, pt, pr, nm, d⟩, true, ok, a1, a2, a3, a4⟩))
        generalize w9.setRow (w.heap.size + 1) (stCells (⟨⟨t, r, q, nt, nr, pt, pr, nm, d⟩, true, ok, a1, a2, a3, a4⟩)) = WZ at *
        have z := CV.out WZ _ DZ.out.b4
        have d0 := z 0 (.int .i64 t) rfl; have d1 := z 1 (.int .i64 r) rfl; have d2 := z 2 (.int .i64 q) rfl; have d3 := z 3 (.int .i64 nt) rfl; have d4 := z 4 (.int .i64 nr) rfl; have d5 := z 5 (.int .i64 pt) rfl; have d6 := z 6 (.int .i64 pr) rfl; have d7 := z 7 (.string nm) rfl; have d8 := z 8 (.bool d) rfl; have d9 := z 9 (.bool true) rfl; have d10 := z 10 (.bool ok) rfl; have d11 := z 11 (.int .i64 a1) rfl; have d12 := z 12 (.int .i64 a2) rfl; have d13 := z 13 (.string a3) rfl; have d14 := z 14 (.bool a4) rfl
        clear z
        refine bodyPost_ret (by simp [results, Tryz.results36, go_sem, d0, d1, d2, d3, d4, d5, d6, d7, d8, d9, d10, d11, d12, d13, d14]; try rfl) rfl ?_
        exact ⟨rfl, DZ.out.tab, DZ.out.grow⟩

end Go.Proofs.YtbeodechhneeeaaGreatDoor



/-! ### of EA -/
set_option linter.unusedVariables false
set_option linter.unusedSimpArgs false
set_option maxRecDepth 100000
namespace Go.Proofs.YtbeodechhneeeaaGreatDoor
open Go.RowKit
open Tb (Rw setF dropF getF aboveF Rise TabI TM)

abbrev lgV (a : Option Addr) (n c : Nat) : Value := .slice a n c
/-- A tree at block p: its table's box q, the map mb; what was at the floor, the floor, the log. -/
structure TreeI (w : World) (B p q mb : Nat) (T0 : List Rw) (ft fr : Int) (L : List O) (la : Option Addr) (lc : Nat) : Prop where
  box : w.heap[p]? = some (.cells #[pv q, .int .i64 ft, .int .i64 fr, .slice la L.length lc] 73 (0, 0))
  tab : TabI w q mb (playF T0 L)
  log : w.ownsRow B 71 15 (.slice la L.length lc) L.length (stc (stepsF T0 L))
  lo : B ≤ p ∧ B ≤ q ∧ B ≤ mb
  r0 : Rise T0
/-- The tree's blocks that a call may turn. -/
def HasT (p mb : Nat) (la : Option Addr) (k : Nat) : Prop := k = p ∨ k = mb ∨ (lgV la 0 0).ownBlock = some k
theorem ownB (la : Option Addr) (n c n' c' : Nat) : (lgV la n c).ownBlock = (lgV la n' c').ownBlock := by cases la <;> rfl
theorem TreeI.plt {w : World} {B p q mb : Nat} {T0 : List Rw} {ft fr : Int} {L : List O} {la : Option Addr} {lc : Nat} (h : TreeI w B p q mb T0 ft fr L la lc) : p < w.heap.size := lt_of_block h.box
theorem TreeI.step {w w' : World} {B p q mb : Nat} {T0 : List Rw} {ft fr : Int} {L : List O} {la : Option Addr} {lc : Nat} (h : TreeI w B p q mb T0 ft fr L la lc) (hb : Below w.heap.size w w') : TreeI w' B p q mb T0 ft fr L la lc :=
  ⟨(hb.block p h.plt).trans h.box, h.tab.step hb, own_keep h.log hb, h.lo, h.r0⟩
theorem TreeI.has {w : World} {B p q mb : Nat} {T0 : List Rw} {ft fr : Int} {L : List O} {la : Option Addr} {lc : Nat} (h : TreeI w B p q mb T0 ft fr L la lc) {k : Nat} (hk : HasT p mb la k) : B ≤ k ∧ k < w.heap.size := by
  rcases hk with rfl | rfl | hk
  · exact ⟨h.lo.1, h.plt⟩
  · exact ⟨h.lo.2.2, h.tab.blt⟩
  · exact own_lt h.log k (by rw [ownB la L.length lc 0 0]; exact hk)
abbrev grw (q : Nat) (ft fr : Int) (lv : Value) : Value := .agg #[pv q, .int .i64 ft, .int .i64 fr, lv]
def set4 (w : World) (b : Nat) (x y z v : Value) : World := (((w.setCell ⟨b, 0, none⟩ x).setCell ⟨b, 1, none⟩ y).setCell ⟨b, 2, none⟩ z).setCell ⟨b, 3, none⟩ v
theorem set4_row {w : World} {b : Nat} {T : TypeId} {x y z v x' y' z' v' : Value} (h : w.heap[b]? = some (.cells #[x, y, z, v] T (0, 0))) : (set4 w b x' y' z' v').heap[b]? = some (.cells #[x', y', z', v'] T (0, 0)) := by
  have h := Ve.row_setC (j := 3) (u := v') (Ve.row_setC (j := 2) (u := z') (Ve.row_setC (j := 1) (u := y') (Ve.row_setC (j := 0) (u := x') h)))
  exact h
theorem set4_below {w w1 : World} {B b : Nat} {x y z v : Value} (h : Below B w w1) (hb : B ≤ b) : Below B w (set4 w1 b x y z v) :=
  (((h.setCell (p := ⟨b, 0, none⟩) hb _).setCell (p := ⟨b, 1, none⟩) hb _).setCell (p := ⟨b, 2, none⟩) hb _).setCell (p := ⟨b, 3, none⟩) hb _
set_option maxHeartbeats 1600000 in
/-- have, of any tree whose four cells are known. -/
theorem have_box (w : World) (p : Nat) (u : Option Addr) (ft fr : Int) (a : Option Addr) (n c : Nat) (h : w.heap[p]? = some (.cells #[.pointer u, .int .i64 ft, .int .i64 fr, .slice a n c] 73 (0, 0))) :
    Calls Tryz.prog 30 #[pv p] w fun e w' => e = .returned (.agg #[.pointer u, .int .i64 ft, .int .i64 fr, .slice a n c]) ∧ Below w.heap.size w w' := by
  have hb := vstep w (.cells #[.pointer none, .int .i64 0, .int .i64 0, .slice none 0 0] 62)
  have hn := heap_alloc_new w (.cells #[.pointer none, .int .i64 0, .int .i64 0, .slice none 0 0] 62)
  obtain ⟨w0, hw0⟩ : ∃ z, w.alloc (.cells #[.pointer none, .int .i64 0, .int .i64 0, .slice none 0 0] 62) = z := ⟨_, rfl⟩
  rw [hw0] at hb hn
  obtain ⟨c0, c1, c2, c3⟩ := box4 ((hb.block _ (lt_of_block h)).trans h)
  obtain ⟨z0, z1, z2, z3⟩ := box4 hn
  have f0 := frozen_of_row (j := 0) _ _ _ _ hn
  have f1 := frozen_of_row (j := 1) _ _ _ _ hn
  have f2 := frozen_of_row (j := 2) _ _ _ _ hn
  have f3 := frozen_of_row (j := 3) _ _ _ _ hn
  have BB := Lib.hid (set4_below (x := .pointer u) (y := .int .i64 ft) (z := .int .i64 fr) (v := .slice a n c) hb (Nat.le_refl _))
  obtain ⟨d0, d1, d2, d3⟩ := box4 (set4_row (x' := .pointer u) (y' := .int .i64 ft) (z' := .int .i64 fr) (v' := .slice a n c) hn)
  clear h hn hb
  go_enter Tryz.func30, Tryz.ntmps30
  go_wp2_with fail
  unfold set4 at d0 d1 d2 d3
  refine bodyPost_ret (by simp [results, Tryz.results30, go_sem, d0, d1, d2, d3]; try rfl) rfl ⟨rfl, BB.out⟩
theorem TreeI.have {w : World} {B p q mb : Nat} {T0 : List Rw} {ft fr : Int} {L : List O} {la : Option Addr} {lc : Nat} (h : TreeI w B p q mb T0 ft fr L la lc) :
    Calls Tryz.prog 30 #[pv p] w fun e w' => e = .returned (grw q ft fr (.slice la L.length lc)) ∧ Below w.heap.size w w' := have_box w p _ ft fr la _ lc h.box
end Go.Proofs.YtbeodechhneeeaaGreatDoor



/-! ### of EB -/
set_option linter.unusedVariables false
set_option linter.unusedSimpArgs false
set_option maxRecDepth 100000
namespace Go.Proofs.YtbeodechhneeeaaGreatDoor
open Go.RowKit Go.Shelf
open Tb (Rw setF dropF getF aboveF Rise TabI TM LiesK TOut)

theorem fld0 (u : Option Addr) (ft fr : Int) (a : Option Addr) (n c : Nat) (W : World) : (Instr.field 62 (.agg #[.pointer u, .int .i64 ft, .int .i64 fr, .slice a n c]) 0).run Tryz.prog W = .ok (.pointer u) W := by kernel_rfl
theorem fld1 (u : Option Addr) (ft fr : Int) (a : Option Addr) (n c : Nat) (W : World) : (Instr.field 62 (.agg #[.pointer u, .int .i64 ft, .int .i64 fr, .slice a n c]) 1).run Tryz.prog W = .ok (.agg #[.int .i64 ft, .int .i64 fr]) W := by kernel_rfl
theorem fld2 (u : Option Addr) (ft fr : Int) (a : Option Addr) (n c : Nat) (W : World) : (Instr.field 62 (.agg #[.pointer u, .int .i64 ft, .int .i64 fr, .slice a n c]) 2).run Tryz.prog W = .ok (.slice a n c) W := by kernel_rfl
attribute [local go_sem ↓] fld0 fld1 fld2
/-- What have tells of a tree, now and later. -/
def Have (w : World) (X : Value) (u : Option Addr) (ft fr : Int) (a : Option Addr) (n c : Nat) : Prop := ∀ W, Below w.heap.size w W → Calls Tryz.prog 30 #[X] W fun e w' => e = .returned (.agg #[.pointer u, .int .i64 ft, .int .i64 fr, .slice a n c]) ∧ Below W.heap.size W w'
/-- A call upon the table, now and later. -/
def Tells (w : World) (f : Nat) (args : Array Value) (v : Value) : Prop := ∀ W, Below w.heap.size w W → Calls Tryz.prog f args W fun e w' => e = .returned v ∧ Below W.heap.size W w'
theorem Have.step {w w1 : World} {X : Value} {u : Option Addr} {ft fr : Int} {a : Option Addr} {n c : Nat} (h : Have w X u ft fr a n c) (hb : Below w.heap.size w w1) : Have w1 X u ft fr a n c := fun W hW => h W (hb.trans (hW.mono hb.size))
theorem Tells.step {w w1 : World} {f : Nat} {args : Array Value} {v : Value} (h : Tells w f args v) (hb : Below w.heap.size w w1) : Tells w1 f args v := fun W hW => h W (hb.trans (hW.mono hb.size))
theorem TreeI.haveL {w : World} {B p q mb : Nat} {T0 : List Rw} {ft fr : Int} {L : List O} {la : Option Addr} {lc : Nat} (h : TreeI w B p q mb T0 ft fr L la lc) : Have w (pv p) (some ⟨q, 0, none⟩) ft fr la L.length lc := fun W hW => (h.step hW).have
set_option maxHeartbeats 800000 in
theorem table_of (w : World) (X : Value) (u : Option Addr) (ft fr : Int) (a : Option Addr) (n c : Nat) (T : List Rw) (H : Have w X u ft fr a n c) (G : ∀ W, Below w.heap.size w W → Calls Tryz.prog 39 #[.pointer u] W fun e w' => ∃ q b, e = .returned (.pointer (some ⟨q, 0, none⟩)) ∧ TabI w' q b T ∧ W.heap.size ≤ q ∧ W.heap.size ≤ b ∧ Below W.heap.size W w') :
    Calls Tryz.prog 15 #[X] w fun e w' => ∃ q b, e = .returned (.pointer (some ⟨q, 0, none⟩)) ∧ TabI w' q b T ∧ w.heap.size ≤ q ∧ w.heap.size ≤ b ∧ Below w.heap.size w w' := by
  have H := Lib.hid H
  have G := Lib.hid G
  go_enter Tryz.func15, Tryz.ntmps15
  go_wp2_with fail
  refine (H.out w (Below.refl _ _)).mono ?_
  rintro e w1 ⟨rfl, hb⟩
  have B1 := Lib.hid hb
  clear hb
  go_wp2_with fail
  refine (G.out w1 B1.out).mono ?_
  rintro e w2 ⟨q, b, rfl, h1, h2, h3, hb⟩
  have B2 := Lib.hid (B1.out.trans (hb.mono B1.out.size))
  have T2 := Lib.hid h1
  have Z2 := Lib.hid (And.intro (Nat.le_trans B1.out.size h2) (Nat.le_trans B1.out.size h3))
  clear hb h1 h2 h3
  go_wp2
  go_returns
  exact ⟨q, b, rfl, T2.out, Z2.out.1, Z2.out.2, B2.out⟩
/-- Get's two boxes. -/
structure GS (w W : World) (t r : Int) : Prop where
  bel : Below w.heap.size w W
  st : Tb.StAt W w.heap.size t r
  en : ∃ y1 y2 y3 y4, Tb.EnAt W (w.heap.size + 1) y1 y2 y3 y4
theorem GS.step {w W W' : World} {t r : Int} (h : GS w W t r) (hb : Below W.heap.size W W') : GS w W' t r := by
  obtain ⟨h1, h2, y1, y2, y3, y4, h3⟩ := h
  exact ⟨h1.trans (hb.mono h1.size), h2.step hb, y1, y2, y3, y4, h3.step hb⟩
theorem GS.run {w W : World} {t r : Int} (h : GS w W t r) (x1 x2 : Int) (x3 : ByteArray) (x4 : Bool) : (Instr.storeAt 47 (.pointer (some ⟨w.heap.size + 1, 0, none⟩)) (.agg #[.int .i64 x1, .int .i64 x2, .string x3, .bool x4])).run Tryz.prog W = .ok () (Tb.sets4 W (w.heap.size + 1) (.int .i64 x1) (.int .i64 x2) (.string x3) (.bool x4)) := by
  obtain ⟨h1, h2, y1, y2, y3, y4, h3⟩ := h
  obtain ⟨c0, c1, c2, c3⟩ := h3.cells
  obtain ⟨f0, f1, f2, f3⟩ := h3.free
  unfold Tb.sets4
  clear h1 h2 h3
  go_simp
end Go.Proofs.YtbeodechhneeeaaGreatDoor



/-! ### of EC -/
set_option linter.unusedVariables false
set_option linter.unusedSimpArgs false
set_option maxRecDepth 100000
namespace Go.Proofs.YtbeodechhneeeaaGreatDoor
open Go.RowKit Go.Shelf
open Tb (Rw setF dropF getF aboveF Rise TabI TM LiesK TOut)
attribute [local go_sem ↓] fld0 fld1 fld2

def Clones (w : World) (u : Option Addr) (T : List Rw) : Prop := ∀ W, Below w.heap.size w W → Calls Tryz.prog 39 #[.pointer u] W fun e w' => ∃ q b, e = .returned (.pointer (some ⟨q, 0, none⟩)) ∧ TabI w' q b T ∧ W.heap.size ≤ q ∧ W.heap.size ≤ b ∧ Below W.heap.size W w'
theorem clones_none (w : World) : Clones w none [] := fun W _ => Tb.clone_dead W (.pointer none) (.inl rfl)
theorem clones_tab {w : World} {p b : Nat} {T : List Rw} (h : TabI w p b T) (hl : T.length < 100000) : Clones w (some ⟨p, 0, none⟩) T := fun W hW => (Tb.clone_any W p b T (h.step hW) hl).mono (by
  rintro e w' ⟨q, qb, rfl, ho⟩
  exact ⟨q, qb, rfl, ho.tab, ho.q0, ho.b0, ho.bel⟩)
theorem Clones.step {w w1 : World} {u : Option Addr} {T : List Rw} (h : Clones w u T) (hb : Below w.heap.size w w1) : Clones w1 u T := fun W hW => h W (hb.trans (hW.mono hb.size))
theorem build77 (W : World) (u : Option Addr) (ft fr : Int) : (Instr.build 62 #[(0, .pointer u), (1, .agg #[.int .i64 ft, .int .i64 fr])]).run Tryz.prog W = .ok (.agg #[.pointer u, .int .i64 ft, .int .i64 fr, .slice none 0 0]) W := by kernel_rfl
theorem build79 (W : World) (u : Option Addr) (ft fr : Int) : (Instr.build 73 #[(0, .agg #[.pointer u, .int .i64 ft, .int .i64 fr, .slice none 0 0])]).run Tryz.prog W = .ok (.agg #[.pointer u, .int .i64 ft, .int .i64 fr, .slice none 0 0]) W := by kernel_rfl
theorem box79 (W : World) (u : Option Addr) (ft fr : Int) : (Instr.box 73 (.agg #[.pointer u, .int .i64 ft, .int .i64 fr, .slice none 0 0])).run Tryz.prog W = .ok (.pointer (some ⟨W.heap.size, 0, none⟩)) (W.alloc (.cells #[.pointer u, .int .i64 ft, .int .i64 fr, .slice none 0 0] 73)) := by kernel_rfl
set_option maxHeartbeats 1600000 in
theorem load_of (w : World) (u : Option Addr) (ft fr : Int) (T : List Rw) (G : Clones w u T) :
    Calls Tryz.prog 29 #[.pointer u, .agg #[.int .i64 ft, .int .i64 fr]] w fun e w' => ∃ p q mb, e = .returned (pv p) ∧ TreeI w' w.heap.size p q mb T ft fr [] none 0 ∧ Below w.heap.size w w' := by
  have hb := pl_vstep w (.cells #[.int .i64 ft, .int .i64 fr] 31)
  have hn := heap_alloc_new w (.cells #[.int .i64 ft, .int .i64 fr] 31)
  obtain ⟨w0, hw0⟩ : ∃ z, w.alloc (.cells #[.int .i64 ft, .int .i64 fr] 31) = z := ⟨_, rfl⟩
  rw [hw0] at hb hn
  have HW := Lib.hid hw0
  have G := Lib.hid G
  have B0 := Lib.hid hb
  have BX := Lib.hid (fun W (hb : Below w0.heap.size w0 W) => ldSt ((hb.block _ (pl_lt hn)).trans hn))
  clear hw0 hb hn
  go_enter Tryz.func29, Tryz.ntmps29
  go_upto_region 1 with (fail)
  rw [HW.out]
  refine wp_region_held_drew (S := fun w' => Below w0.heap.size w0 w') (by kernel_rfl) (Below.refl _ _).drew (fun hHeld => ?_)
  have BV := Lib.hid (show Below w0.heap.size w0 w0.drew from (Below.refl _ _).drew)
  clear hHeld
  refine take_at (i := 0) 5 ?_ rfl rfl (by kernel_rfl) (by kernel_rfl) (by kernel_rfl) (fun _ _ _ h => h) (.inl ⟨rfl, ?_⟩) BV.out ?_
  rotate_left 1
  · intro w hSw; go_simp; try with_reducible rfl
  simp only [Act.put, List.setIfInBounds_toArray, List.set_cons_zero, List.set_cons_succ]
  refine take_at (i := 2) 7 (.agg #[.int .i64 ft, .int .i64 fr]) rfl rfl (by kernel_rfl) (by kernel_rfl) (by kernel_rfl) (fun _ _ _ h => h) (yields_ld (.tmp 3) 31 (.pointer (some ⟨w.heap.size, 0, none⟩)) _ BX.out rfl rfl rfl) BV.out ?_
  simp only [Act.put, List.setIfInBounds_toArray, List.set_cons_zero, List.set_cons_succ]
  refine wpAnyH_ready (rs := [1]) (by kernel_rfl) (by simp) (br_call (i := 1) 6 39 #[.pointer u] rfl rfl rfl (by go_simp) ((G.out _ (B0.out.trans (BV.out.mono B0.out.size))).mono ?_) AllReadyH.nil)
  rintro e v1 ⟨q, mb, rfl, h1, h2, h3, hb⟩
  have BV := Lib.hid (BV.out.trans (hb.mono BV.out.size))
  have TB := Lib.hid h1
  have TZ := Lib.hid (And.intro h2 h3)
  clear h1 h2 h3
  clear hb
  refine ⟨_, rfl, BV.out, fun _ => ?_⟩
  simp only [Act.put, List.setIfInBounds_toArray, List.set_cons_zero, List.set_cons_succ]
  refine take_at (i := 3) 8 (.agg #[.pointer (some ⟨q, 0, none⟩), .int .i64 ft, .int .i64 fr, .slice none 0 0]) rfl rfl (by kernel_rfl) (by kernel_rfl) (by kernel_rfl) (fun _ _ _ h => h) (yields_bld 62 _ _ _ rfl rfl rfl (fun W => build77 W (some ⟨q, 0, none⟩) ft fr)) BV.out ?_
  simp only [Act.put, List.setIfInBounds_toArray, List.set_cons_zero, List.set_cons_succ]
  refine take_at (i := 4) 9 (.agg #[.pointer (some ⟨q, 0, none⟩), .int .i64 ft, .int .i64 fr, .slice none 0 0]) rfl rfl (by kernel_rfl) (by kernel_rfl) (by kernel_rfl) (fun _ _ _ h => h) (yields_bld 73 _ _ _ rfl rfl rfl (fun W => build79 W (some ⟨q, 0, none⟩) ft fr)) BV.out ?_
  simp only [Act.put, List.setIfInBounds_toArray, List.set_cons_zero, List.set_cons_succ]
  refine wpAnyH_ready (rs := [5]) (by kernel_rfl) (by simp) (br_box (i := 5) 10 73 (.tmp 9) (.agg #[.pointer (some ⟨q, 0, none⟩), .int .i64 ft, .int .i64 fr, .slice none 0 0]) _ _ rfl rfl rfl rfl rfl (box79 v1 _ ft fr) (BV.out.trans ((pl_vstep v1 _).mono BV.out.size)) (fun _ => ?_) AllReadyH.nil)
  have NB := Lib.hid (heap_alloc_new v1 (.cells #[.pointer (some ⟨q, 0, none⟩), .int .i64 ft, .int .i64 fr, .slice none 0 0] 73))
  have hb := pl_vstep v1 (.cells #[.pointer (some ⟨q, 0, none⟩), .int .i64 ft, .int .i64 fr, .slice none 0 0] 73)
  have SZ := Lib.hid BV.out.size
  generalize v1.alloc (.cells #[.pointer (some ⟨q, 0, none⟩), .int .i64 ft, .int .i64 fr, .slice none 0 0] 73) = v2 at NB hb ⊢
  have BV := Lib.hid (BV.out.trans (hb.mono BV.out.size))
  have TB := Lib.hid (TB.out.step hb)
  clear hb
  simp only [Act.put, List.setIfInBounds_toArray, List.set_cons_zero, List.set_cons_succ]
  refine take_at (i := 6) 4 ?_ rfl rfl (by kernel_rfl) (by kernel_rfl) (by kernel_rfl) (fun _ _ _ h => h) (.inl ⟨rfl, ?_⟩) BV.out ?_
  rotate_left 1
  · intro w hSw; go_simp; try with_reducible rfl
  simp only [Act.put, List.setIfInBounds_toArray, List.set_cons_zero, List.set_cons_succ]
  refine wpAnyH_done (by kernel_rfl) ?_ _
  have B2 := Lib.hid (B0.out.trans (BV.out.mono B0.out.size))
  go_wp2
  go_returns
  have hz := TZ.out
  have hs := SZ.out
  have h0 := B0.out.size
  have hdr : w0.drew.heap.size = w0.heap.size := rfl
  refine ⟨_, q, mb, rfl, ⟨NB.out, TB.out, World.ownsRow_nil _ _ _ _, ⟨by omega, by omega, by omega⟩, TB.out.map.rise⟩, B2.out⟩
set_option maxHeartbeats 800000 in
theorem new_of (w : World) : Calls Tryz.prog 8 #[] w fun e w' => ∃ p q mb, e = .returned (pv p) ∧ TreeI w' w.heap.size p q mb [] 0 0 [] none 0 ∧ Below w.heap.size w w' := by
  have L := Lib.hid (load_of w none 0 0 [] (clones_none w))
  go_enter Tryz.func8, Tryz.ntmps8
  go_wp2_with fail
  refine L.out.mono ?_
  rintro e w1 ⟨p, q, mb, rfl, ht, hb⟩
  have F := Lib.hid (And.intro ht hb)
  clear ht hb
  go_wp2
  go_returns
  exact ⟨p, q, mb, rfl, F.out.1, F.out.2⟩
set_option maxHeartbeats 1600000 in
theorem place_of (w : World) (u : Option Addr) (ft fr : Int) (a : Option Addr) (n c : Nat) (S : List Stp) (t r : Int) (hS : LiesK stc1 15 w (.slice a n c) S) (hu : RiseO (S.map (·.o))) (hl : S.length ≤ 100000) :
    Calls Tryz.prog 33 #[.agg #[.pointer u, .int .i64 ft, .int .i64 fr, .slice a n c], .agg #[.int .i64 t, .int .i64 r]] w fun e w' => e = .returned (.tuple #[.int .i64 (posF (S.map (·.o)) t r : Nat), .bool (hasO (S.map (·.o)) t r)]) ∧ Below w.heap.size w w' := by
  have hb1 := pl_vstep w (.cells #[.pointer u, .int .i64 ft, .int .i64 fr, .slice a n c] 62)
  have hb2 := pl_vstep (w.alloc (.cells #[.pointer u, .int .i64 ft, .int .i64 fr, .slice a n c] 62)) (.cells #[.int .i64 t, .int .i64 r] 31)
  have hb := hb1.trans (hb2.mono hb1.size)
  have BS := Lib.hid (bsearch_any _ _ S t r (hS.step hb) hu hl)
  have B0 := Lib.hid hb
  obtain ⟨ps, hps⟩ : ∃ z, posF (S.map (·.o)) t r = z := ⟨_, rfl⟩
  obtain ⟨hs, hhs⟩ : ∃ z, hasO (S.map (·.o)) t r = z := ⟨_, rfl⟩
  rw [hps, hhs] at BS ⊢
  clear hb hb1 hb2 hS hu hps hhs
  go_enter Tryz.func33, Tryz.ntmps33
  go_wp2_with fail
  refine BS.out.mono ?_
  rintro e w1 ⟨rfl, hb⟩
  have B1 := Lib.hid (B0.out.trans (hb.mono B0.out.size))
  clear hb
  go_wp2
  go_returns
  exact ⟨rfl, B1.out⟩
end Go.Proofs.YtbeodechhneeeaaGreatDoor



/-! ### of ED -/
set_option linter.unusedVariables false
set_option linter.unusedSimpArgs false
set_option maxRecDepth 100000
namespace Go.Proofs.YtbeodechhneeeaaGreatDoor
open Go.RowKit Go.Shelf
open Tb (Rw setF dropF getF aboveF Rise TabI TM LiesK TOut)
attribute [local go_sem ↓] fld0 fld1 fld2

def didF (S : List Stp) (t r : Int) : Bool := hasO (S.map (·.o)) t r && ((S[posF (S.map (·.o)) t r]?).map (·.did)).getD false
theorem has_pos {S : List Stp} (hu : RiseO (S.map (·.o))) {t r : Int} (h : hasO (S.map (·.o)) t r = true) : posF (S.map (·.o)) t r < S.length := by
  have h1 := pos_le (S.map (·.o)) t r
  rw [List.length_map] at h1
  rcases Nat.lt_or_ge (posF (S.map (·.o)) t r) S.length with h2 | h2
  · exact h2
  · have := has_end hu (show posF (S.map (·.o)) t r = (S.map (·.o)).length by rw [List.length_map]; omega)
    rw [h] at this; cases this
theorem box77 {W : World} {g : Nat} {u : Option Addr} {ft fr : Int} {a : Option Addr} {n c : Nat} (h : W.heap[g]? = some (.cells #[.pointer u, .int .i64 ft, .int .i64 fr, .slice a n c] 62 (0, 0))) :
    W.cell? ⟨g, 0, none⟩ = some (.pointer u) ∧ W.cell? ⟨g, 1, none⟩ = some (.int .i64 ft) ∧ W.cell? ⟨g, 2, none⟩ = some (.int .i64 fr) ∧ W.cell? ⟨g, 3, none⟩ = some (.slice a n c) := by
  refine ⟨?_, ?_, ?_, ?_⟩ <;> (rw [cell_of_row _ _ _ _ _ _ h]; rfl)
/-- The box of a stamp, then that of what have told. -/
structure SB (w W : World) (k : Nat) (t r : Int) (u : Option Addr) (ft fr : Int) (a : Option Addr) (n c : Nat) : Prop where
  bel : Below w.heap.size w W
  st : W.heap[w.heap.size]? = some (.cells #[.int .i64 t, .int .i64 r] 31 (0, 0))
  gr : W.heap[k]? = some (.cells #[.pointer u, .int .i64 ft, .int .i64 fr, .slice a n c] 62 (0, 0))
theorem SB.step {w W W' : World} {k : Nat} {t r : Int} {u : Option Addr} {ft fr : Int} {a : Option Addr} {n c : Nat} (h : SB w W k t r u ft fr a n c) (hb : Below W.heap.size W W') : SB w W' k t r u ft fr a n c :=
  ⟨h.bel.trans (hb.mono h.bel.size), (hb.block _ (pl_lt h.st)).trans h.st, (hb.block _ (pl_lt h.gr)).trans h.gr⟩
theorem SB.cells {w W : World} {k : Nat} {t r : Int} {u : Option Addr} {ft fr : Int} {a : Option Addr} {n c : Nat} (h : SB w W k t r u ft fr a n c) : (W.cell? ⟨w.heap.size, 0, none⟩ = some (.int .i64 t) ∧ W.cell? ⟨w.heap.size, 1, none⟩ = some (.int .i64 r)) ∧
    W.cell? ⟨k, 0, none⟩ = some (.pointer u) ∧ W.cell? ⟨k, 1, none⟩ = some (.int .i64 ft) ∧ W.cell? ⟨k, 2, none⟩ = some (.int .i64 fr) ∧ W.cell? ⟨k, 3, none⟩ = some (.slice a n c) :=
  ⟨⟨by rw [cell_of_row _ _ _ _ _ _ h.st]; rfl, by rw [cell_of_row _ _ _ _ _ _ h.st]; rfl⟩, box77 h.gr⟩
theorem SB.new {w w1 : World} {t r : Int} {u : Option Addr} {ft fr : Int} {a : Option Addr} {n c : Nat} (hb : Below (w.alloc (.cells #[.int .i64 t, .int .i64 r] 31)).heap.size (w.alloc (.cells #[.int .i64 t, .int .i64 r] 31)) w1) :
    SB w (w1.alloc (.cells #[.pointer u, .int .i64 ft, .int .i64 fr, .slice a n c] 62)) w1.heap.size t r u ft fr a n c := by
  have b1 := pl_vstep w (.cells #[.int .i64 t, .int .i64 r] 31)
  have n1 := heap_alloc_new w (.cells #[.int .i64 t, .int .i64 r] 31)
  have b2 := pl_vstep w1 (.cells #[.pointer u, .int .i64 ft, .int .i64 fr, .slice a n c] 62)
  have n2 := (hb.block _ (pl_lt n1)).trans n1
  exact ⟨(b1.trans (hb.mono b1.size)).trans (b2.mono (b1.trans (hb.mono b1.size)).size), (b2.block _ (pl_lt n2)).trans n2, heap_alloc_new w1 _⟩
set_option maxHeartbeats 1600000 in
theorem did_of (w : World) (X : Value) (u : Option Addr) (ft fr : Int) (a : Option Addr) (n c : Nat) (S : List Stp) (t r : Int) (H : Have w X u ft fr a n c) (hS : LiesK stc1 15 w (.slice a n c) S) (hu : RiseO (S.map (·.o))) (hl : S.length ≤ 100000) :
    Calls Tryz.prog 12 #[X, .agg #[.int .i64 t, .int .i64 r]] w fun e w' => e = .returned (.bool (didF S t r)) ∧ Below w.heap.size w w' := by
  have hb := pl_vstep w (.cells #[.int .i64 t, .int .i64 r] 31)
  have HB := Lib.hid hb
  have NS := Lib.hid (fun w1 hb => @SB.new w w1 t r u ft fr a n c hb)
  have H := Lib.hid (H.step hb)
  have HS := Lib.hid hS
  have HU := Lib.hid hu
  have hn : S.length = n := by obtain ⟨ao, cap, e, _⟩ := hS; injection e with _ e _; exact e.symm
  have HD := Lib.hid (show didF S t r = (hasO (S.map (·.o)) t r && ((S[posF (S.map (·.o)) t r]?).map (·.did)).getD false) from rfl)
  have HP := Lib.hid (@has_pos S hu t r)
  have PL := Lib.hid (fun W (hW : Below w.heap.size w W) => place_of W u ft fr a n c S t r (hS.step hW) hu hl)
  obtain ⟨ps, hps⟩ : ∃ z, posF (S.map (·.o)) t r = z := ⟨_, rfl⟩
  obtain ⟨hs, hhs⟩ : ∃ z, hasO (S.map (·.o)) t r = z := ⟨_, rfl⟩
  rw [hps, hhs] at PL HD HP
  clear hb hS hu hps hhs
  go_enter Tryz.func12, Tryz.ntmps12
  go_wp2_with fail
  refine (H.out _ (Below.refl _ _)).mono ?_
  rintro e w1 ⟨rfl, hb⟩
  have K := Lib.hid (NS.out w1 hb)
  clear hb
  go_upto_region 2 with (fail)
  generalize w1.alloc (.cells #[.pointer u, .int .i64 ft, .int .i64 fr, .slice a n c] 62) = w2 at K ⊢
  obtain ⟨k, hk⟩ : ∃ z, w1.heap.size = z := ⟨_, rfl⟩
  rw [hk] at K ⊢
  clear hk
  obtain ⟨⟨s0, s1⟩, g0, g1, g2, g3⟩ := K.out.cells
  go_wp2_with fail
  refine (PL.out w2 K.out.bel).mono ?_
  rintro e w3 ⟨rfl, hb⟩
  have K3 := Lib.hid (K.out.step hb)
  clear hb s0 s1 g0 g1 g2 g3 K
  obtain ⟨⟨s0, s1⟩, g0, g1, g2, g3⟩ := K3.out.cells
  cases hs with
  | false =>
    go_wp2
    go_returns
    exact ⟨by rw [HD.out]; rfl, K3.out.bel⟩
  | true =>
    have hp := HP.out rfl
    obtain ⟨g, o, s, rfl, hx, hg, hc⟩ := lies_elt (HS.out.step K3.out.bel) (i := ps) (by omega)
    have c9 := hc 9 (.bool s.did) rfl
    have p0 : (0 : Int) ≤ (ps : Int) := by omega
    have p1 : (ps : Int) < (n : Int) := by omega
    have HE := Lib.hid (show didF S t r = s.did by rw [HD.out, hx]; rfl)
    clear hc hx HD HP hp
    go_wp2
    go_returns
    exact ⟨by rw [HE.out]; rfl, K3.out.bel⟩
theorem take_snocS {l : List Stp} {i : Nat} {x : Stp} (h : l[i]? = some x) : (l.take (i + 1)).map (·.o) = (l.take i).map (·.o) ++ [x.o] := by
  rw [Tb.take_snoc h, List.map_append]; rfl
set_option maxHeartbeats 3200000 in
theorem ops_of (w : World) (X : Value) (u : Option Addr) (ft fr : Int) (a : Option Addr) (n c : Nat) (S : List Stp) (H : Have w X u ft fr a n c) (hS : LiesK stc1 15 w (.slice a n c) S) (hl : S.length ≤ 100000) :
    Calls Tryz.prog 11 #[X] w fun e w' => ∃ v, e = .returned v ∧ w'.ownsRow w.heap.size 33 9 v (S.map (·.o)).length ((S.map (·.o)).flatMap oc) ∧ Below w.heap.size w w' := by
  obtain ⟨i0, hi0, hz0, hs0, hb0⟩ := info_parts info25
  have H := Lib.hid H
  have hn : S.length = n := by obtain ⟨ao, cap, e, _⟩ := hS; injection e with _ e _; exact e.symm
  have HS := Lib.hid hS
  clear hS
  go_enter Tryz.func11, Tryz.ntmps11
  go_wp2_with fail
  refine (H.out _ (Below.refl _ _)).mono ?_
  rintro e w1 ⟨rfl, hb⟩
  have B1 := Lib.hid hb
  clear hb
  go_wp2_with fail
  go_loopw [3, 10] (fun ov kv wr => ∃ i : Nat, kv = .int .i64 i ∧ i ≤ n ∧ Hid (wr.ownsRow w.heap.size 33 9 ov ((S.take i).map (·.o)).length (((S.take i).map (·.o)).flatMap oc) ∧ Below w.heap.size w wr)) (fun _ kv _ => n - (intOf kv).toNat)
  case atStart => exact ⟨0, rfl, Nat.zero_le _, Lib.hid ⟨World.ownsRow_nil _ _ _ _, B1.out⟩⟩
  case round =>
    obtain ⟨i, rfl, hi, hK⟩ := hrel
    obtain ⟨oa, ocp, rfl⟩ := Tb.own_shapeK hK.out.1
    have O0 := Lib.hid hK.out.1
    have K0 := Lib.hid hK.out.2
    have LN := Lib.hid (show ((S.take i).map (·.o)).length ≤ 100000 from by rw [List.length_map, List.length_take]; omega)
    clear hK
    by_cases hlt : i < n
    · obtain ⟨g, o, s, rfl, hx, hg, hc⟩ := lies_elt (HS.out.step K0.out) (i := i) (by omega)
      have NX := Lib.hid (take_snocS hx)
      have LX := Lib.hid (@ldS wr g (o + i * 15) s hc)
      obtain ⟨⟨t, r, q, nt, nr, pt, pr, nm, d⟩, did, had, wt, wr', wn, wd⟩ := s
      unfold stV stCells at LX
      dsimp only at LX NX
      have hk0 : (0 : Int) ≤ (i : Int) := by omega
      have hk1 : (i : Int) < (n : Int) := by omega
      have hd : decide ((i : Int) < (n : Int)) = true := decide_eq_true hk1
      generalize (S.take i).map (·.o) = ks at *
      have B5 := Lib.hid (pl_vstep wr (.cells #[.int .i64 t, .int .i64 r, .int .i64 q, .int .i64 nt, .int .i64 nr, .int .i64 pt, .int .i64 pr, .string nm, .bool d, .bool did, .bool had, .int .i64 wt, .int .i64 wr', .string wn, .bool wd] 71))
      have N5 := Lib.hid (heap_alloc_new wr (.cells #[.int .i64 t, .int .i64 r, .int .i64 q, .int .i64 nt, .int .i64 nr, .int .i64 pt, .int .i64 pr, .string nm, .bool d, .bool did, .bool had, .int .i64 wt, .int .i64 wr', .string wn, .bool wd] 71))
      clear hc hx
      go_upto_region 5 with (first
        | (refine Ve.wpList_load_arr rfl (.tmp 12) 71 rfl (.pointer (some ⟨g, o + i * 15, none⟩)) _ rfl LX.out ?_))
      have O5 := Lib.hid (Tb.own_belowK O0.out B5.out)
      have K5 := Lib.hid (K0.out.trans (B5.out.mono K0.out.size))
      generalize wr.alloc (.cells #[.int .i64 t, .int .i64 r, .int .i64 q, .int .i64 nt, .int .i64 nr, .int .i64 pt, .int .i64 pr, .string nm, .bool d, .bool did, .bool had, .int .i64 wt, .int .i64 wr', .string wn, .bool wd] 71) = w5 at N5 O5 K5 ⊢
      clear B5 LX
      have cc : ∀ (j : Nat) (v : Value), ((#[.int .i64 t, .int .i64 r, .int .i64 q, .int .i64 nt, .int .i64 nr, .int .i64 pt, .int .i64 pr, .string nm, .bool d, .bool did, .bool had, .int .i64 wt, .int .i64 wr', .string wn, .bool wd] : Array Value))[j]? = some v → w5.cell? ⟨wr.heap.size, j, none⟩ = some v := fun j v hv => (cell_of_row _ _ _ _ _ _ N5.out).trans hv
      have d0 := cc 0 (.int .i64 t) rfl; have d1 := cc 1 (.int .i64 r) rfl; have d2 := cc 2 (.int .i64 q) rfl; have d3 := cc 3 (.int .i64 nt) rfl; have d4 := cc 4 (.int .i64 nr) rfl
      have d5 := cc 5 (.int .i64 pt) rfl; have d6 := cc 6 (.int .i64 pr) rfl; have d7 := cc 7 (.string nm) rfl; have d8 := cc 8 (.bool d) rfl
      have B6 := Lib.hid (pl_vstep w5 (.cells #[.int .i64 t, .int .i64 r, .int .i64 q, .int .i64 nt, .int .i64 nr, .int .i64 pt, .int .i64 pr, .string nm, .bool d] 33))
      have H6 := Lib.hid (show (w5.alloc (.cells #[.int .i64 t, .int .i64 r, .int .i64 q, .int .i64 nt, .int .i64 nr, .int .i64 pt, .int .i64 pr, .string nm, .bool d] 33)).heap[w5.heap.size]? = some (.cells (oc ⟨t, r, q, nt, nr, pt, pr, nm, d⟩).toArray 33 (0, 0)) from heap_alloc_new w5 _)
      have O6 := Lib.hid (Tb.own_belowK O5.out B6.out)
      have Q6 := Lib.hid (And.intro (show ks.length + 1 ≤ maxLen from by have := LN.out; unfold maxLen; omega) (And.intro (show (ks.length + 1) * 80 ≤ 140737488355328 from by have := LN.out; omega) (show w.heap.size ≤ (w5.alloc (.cells #[.int .i64 t, .int .i64 r, .int .i64 q, .int .i64 nt, .int .i64 nr, .int .i64 pt, .int .i64 pr, .string nm, .bool d] 33)).heap.size from by have := K5.out.size; simp; omega)))
      clear cc N5 B6
      go_wp2_with (at_builtin; refine Tb.wpList_pushK rfl (.tmp 14) (.tmp 17) 22 rfl oc_len (by decide) oc_one w.heap.size 33 i0 _ 80 Tryz.u27 hi0 hz0 hs0 hb0 rfl (.slice oa ks.length ocp) ks ⟨t, r, q, nt, nr, pt, pr, nm, d⟩ w5.heap.size rfl rfl H6.out O6.out Q6.out.1 Q6.out.2.1 Q6.out.2.2 ?_; intro v7 w7 hown hgr; have O7 := Lib.hid hown; have K7 := Lib.hid (Tb.push_okG K5.out O5.out (Nat.le_refl _) hgr); clear hown hgr)
      clear d0 d1 d2 d3 d4 d5 d6 d7 d8
      rw [← NX.out] at O7
      obtain ⟨oa7, oc7, rfl⟩ := Tb.own_shapeK O7.out
      have FIN := Lib.hid (And.intro O7.out K7.out)
      go_wp2
      go_roundw
      case rel => exact ⟨i + 1, by go_num, by omega, FIN⟩
      case measure => simp [intOf]; omega
    · have ei : i = n := by omega
      subst ei
      have hd : decide ((i : Int) < (i : Int)) = false := by simp
      have FN := Lib.hid (show S.take i = S from by rw [← hn, List.take_length])
      rw [FN.out] at O0
      go_wp2
      go_returns
      have O1 := O0.out
      rw [List.length_map, hn] at O1
      exact ⟨_, rfl, O1, K0.out⟩
end Go.Proofs.YtbeodechhneeeaaGreatDoor



/-! ### of EE -/
set_option linter.unusedVariables false
set_option linter.unusedSimpArgs false
set_option maxRecDepth 100000
namespace Go.Proofs.YtbeodechhneeeaaGreatDoor
open Go.RowKit Go.Shelf Go.Lib
open Tb (Rw setF dropF getF aboveF Rise TabI TM LiesK TOut)

theorem lies_log {w : World} {B p q mb : Nat} {T0 : List Rw} {ft fr : Int} {L : List O} {la : Option Addr} {lc : Nat} (h : TreeI w B p q mb T0 ft fr L la lc) : LiesK stc1 15 w (.slice la L.length lc) (stepsF T0 L) := by
  have := h.log
  rw [← steps_len L T0] at this
  have h2 := Tb.own_liesK stc1_len this
  rw [steps_len] at h2
  exact h2
theorem steps_drop (T : List Rw) (L : List O) (k : Nat) : (stepsF T L).drop k = stepsF (playF T (L.take k)) (L.drop k) := by
  by_cases h : k ≤ L.length
  · conv => lhs; rw [← List.take_append_drop k L, steps_append]
    have e : (stepsF T (L.take k)).length = k := by rw [steps_len, List.length_take]; omega
    rw [List.drop_append_of_le_length (by omega), List.drop_eq_nil_of_le (by omega), List.nil_append]
  · rw [List.drop_eq_nil_of_le (by rw [steps_len]; omega), List.drop_eq_nil_of_le (by omega)]; rfl
theorem play_take (T : List Rw) (L : List O) (k : Nat) : playF (playF T (L.take k)) (L.drop k) = playF T L := by rw [← play_append, List.take_append_drop]
theorem setc_far {w : World} {p j : Nat} (v : Value) : w.grownBy (w.setCell ⟨p, j, none⟩ v) (some p) := ⟨rfl, rfl, rfl, by simp [World.setCell], fun k _ hk => Below.heap_setCell _ _ _ _ (fun e => hk (by rw [e]))⟩
end Go.Proofs.YtbeodechhneeeaaGreatDoor



/-! ### of EF -/
set_option linter.unusedVariables false
set_option linter.unusedSimpArgs false
set_option maxRecDepth 100000
namespace Go.Proofs.YtbeodechhneeeaaGreatDoor
open Go.RowKit Go.Shelf Go.Lib
open Tb (Rw setF dropF getF aboveF Rise TabI TM LiesK TOut)

/-! ### plain -/
def rowF (T0 : List Rw) (M : List O) (Old : List Stp) (i : Nat) : List Stp := (stepsF T0 M).take i ++ Old.drop i
theorem steps_get : ∀ (M : List O) (T : List Rw) (i : Nat) (o : O), M[i]? = some o → (stepsF T M)[i]? = some (stepF (playF T (M.take i)) o)
  | [], _, _, _, h => by simp at h
  | x :: M, T, 0, o, h => by simp at h; subst h; rfl
  | x :: M, T, i + 1, o, h => by
    have h : M[i]? = some o := by simpa using h
    show (stepsF (doF T x) M)[i]? = _
    rw [steps_get M (doF T x) i o h]
    rfl
theorem row_len {T0 : List Rw} {M : List O} {Old : List Stp} (hl : Old.length = M.length) {i : Nat} (hi : i ≤ M.length) : (rowF T0 M Old i).length = M.length := by
  unfold rowF
  rw [List.length_append, List.length_take, List.length_drop, steps_len]
  omega
theorem row_at {T0 : List Rw} {M : List O} {Old : List Stp} (hl : Old.length = M.length) {i : Nat} (hi : i < M.length) : (rowF T0 M Old i)[i]? = Old[i]? := by
  have e : ((stepsF T0 M).take i).length = i := by rw [List.length_take, steps_len]; omega
  unfold rowF
  rw [List.getElem?_append_right (by omega), e, Nat.sub_self, List.getElem?_drop]
  rfl
theorem row_list {α : Type} (A b C Z x : List α) (i : Nat) (hA : A.length = i * 15) (hb : b.length = 15) : (A ++ (b ++ C) ++ Z).take (i * 15) ++ x ++ (A ++ (b ++ C) ++ Z).drop (i * 15 + 15) = A ++ x ++ C ++ Z := by
  have e1 : (A ++ (b ++ C) ++ Z).take (i * 15) = A := by rw [List.append_assoc, ← hA, List.take_left]
  have e2 : (A ++ (b ++ C) ++ Z).drop (i * 15 + 15) = C ++ Z := by
    rw [show A ++ (b ++ C) ++ Z = (A ++ b) ++ (C ++ Z) by simp [List.append_assoc], show i * 15 + 15 = (A ++ b).length by rw [List.length_append]; omega, List.drop_left]
  rw [e1, e2]
  simp [List.append_assoc]
theorem row_set {T0 : List Rw} {M : List O} {Old : List Stp} (hl : Old.length = M.length) {i : Nat} {o : O} (ho : M[i]? = some o) (Z : List Value) :
    (stc (rowF T0 M Old i) ++ Z).take (i * 15) ++ stc1 (stepF (playF T0 (M.take i)) o) ++ (stc (rowF T0 M Old i) ++ Z).drop (i * 15 + 15) = stc (rowF T0 M Old (i + 1)) ++ Z := by
  have hi := (List.getElem?_eq_some_iff.1 ho).1
  have e : ((stepsF T0 M).take i).length = i := by rw [List.length_take, steps_len]; omega
  have hd : Old.drop i = Old[i] :: Old.drop (i + 1) := List.drop_eq_getElem_cons (by omega)
  have ht : (stepsF T0 M).take (i + 1) = (stepsF T0 M).take i ++ [stepF (playF T0 (M.take i)) o] := Tb.take_snoc (steps_get M T0 i o ho)
  unfold rowF
  rw [hd, ht, stc_append, stc_cons, stc_append, stc_append]
  have ex : stc [stepF (playF T0 (M.take i)) o] = stc1 (stepF (playF T0 (M.take i)) o) := by unfold stc; simp
  rw [ex, row_list (stc ((stepsF T0 M).take i)) (stc1 Old[i]) (stc (Old.drop (i + 1))) Z _ i (by rw [stc_len, e]) rfl]
theorem row_end {T0 : List Rw} {M : List O} {Old : List Stp} (hl : Old.length = M.length) : rowF T0 M Old M.length = stepsF T0 M := by
  unfold rowF
  rw [← hl, List.drop_length, hl, ← steps_len M T0, List.take_length, List.append_nil]
theorem row_start {T0 : List Rw} {M : List O} {Old : List Stp} {k : Nat} (h : (stepsF T0 M).take k = Old.take k) : rowF T0 M Old k = Old := by
  unfold rowF
  rw [h, List.take_append_drop]
def OkL (L : List O) : Prop := ∀ o ∈ L, OkO o
theorem i64_0 : Tb.I64 0 := ⟨by omega, by omega⟩
theorem do_okTx {T : List Rw} (h : OkT T) {o : O} (ho : OkO o) : OkT (doF T o) := by
  unfold doF
  split
  · exact h
  · intro x hx
    rcases Tb.mem_set.1 hx with rfl | hx
    · exact ⟨ho.nt, ho.nr, ho.pt, ho.pr⟩
    · exact h x hx.1
theorem step_ok {T : List Rw} (h : OkT T) {o : O} (ho : OkO o) : (stepF T o).ok := by
  unfold stepF
  split
  · exact ⟨ho.nt, ho.nr, i64_0, i64_0⟩
  · refine ⟨ho.nt, ho.nr, ?_, ?_⟩
    · show Tb.I64 (wasF T o.nt o.nr).pt
      unfold wasF
      cases hg : getF T o.nt o.nr with
      | none => exact i64_0
      | some x => exact (h x (List.mem_of_find?_eq_some hg)).2.2.1
    · show Tb.I64 (wasF T o.nt o.nr).pr
      unfold wasF
      cases hg : getF T o.nt o.nr with
      | none => exact i64_0
      | some x => exact (h x (List.mem_of_find?_eq_some hg)).2.2.2
theorem steps_ok : ∀ (L : List O) {T : List Rw}, OkT T → OkL L → ∀ s ∈ stepsF T L, s.ok
  | [], _, _, _, s, hs => by cases hs
  | o :: L, T, hT, hL, s, hs => by
    rcases List.mem_cons.1 hs with rfl | hs
    · exact step_ok hT (hL o (List.mem_cons_self ..))
    · exact steps_ok L (do_okTx hT (hL o (List.mem_cons_self ..))) (fun x hx => hL x (List.mem_cons_of_mem _ hx)) s hs
structure AddI (w W : World) (B p q mb k6 g cap : Nat) (T : List Rw) (ft fr : Int) (la : Option Addr) (n lc : Nat) (R : List Stp) (o : O) : Prop where
  far : Far (HasT p mb la) w W
  b3 : W.heap[w.heap.size]? = some (.cells (oCells o) 33 (0, 0))
  b6 : W.heap[k6]? = some (.cells #[pv q, .int .i64 ft, .int .i64 fr, .slice la n lc] 62 (0, 0))
  box : W.heap[p]? = some (.cells #[pv q, .int .i64 ft, .int .i64 fr, .slice (some ⟨g, 0, none⟩) (n + 1) cap] 73 (0, 0))
  tab : TabI W q mb T
  row : ∃ Z : List Value, W.heap[g]? = some (.cells (stc R ++ Z).toArray 71 (0, 0)) ∧ (stc R ++ Z).length = cap * 15
  len : R.length = n + 1 ∧ n + 1 ≤ cap ∧ cap ≤ maxLen ∧ B ≤ g
  gb : (lgV la 0 0).ownBlock = some g ∨ w.heap.size ≤ g
theorem AddI.step {w W W' : World} {B p q mb k6 g cap : Nat} {T : List Rw} {ft fr : Int} {la : Option Addr} {n lc : Nat} {R : List Stp} {o : O} (h : AddI w W B p q mb k6 g cap T ft fr la n lc R o) (hb : Below W.heap.size W W') : AddI w W' B p q mb k6 g cap T ft fr la n lc R o := by
  obtain ⟨Z, h1, h2⟩ := h.row
  exact ⟨h.far.trans (Far.of_below (P := fun _ => False) hb) (fun _ _ q => q.elim), (hb.block _ (pl_lt h.b3)).trans h.b3, (hb.block _ (pl_lt h.b6)).trans h.b6, (hb.block _ (pl_lt h.box)).trans h.box, h.tab.step hb, ⟨Z, (hb.block _ (pl_lt h1)).trans h1, h2⟩, h.len, h.gb⟩
theorem cell_ne {W : World} {a b : Nat} {c d : Array Value} {s t : TypeId} {f g : Nat × Nat} (h : W.heap[a]? = some (.cells c s f)) (k : W.heap[b]? = some (.cells d t g)) (ht : s ≠ t) : a ≠ b := fun e => by
  rw [e, k] at h; injection h with h; injection h with h1 h2; exact ht h2.symm
theorem AddI.turn {w W W' : World} {B p q mb k6 g cap : Nat} {T T' : List Rw} {ft fr : Int} {la : Option Addr} {n lc : Nat} {R : List Stp} {o : O} (h : AddI w W B p q mb k6 g cap T ft fr la n lc R o) (ht : TOut W W' q mb T') : AddI w W' B p q mb k6 g cap T' ft fr la n lc R o := by
  obtain ⟨Z, h1, h2⟩ := h.row
  have hm := h.tab.map
  exact ⟨h.far.trans (Far.of_grown (P := fun k => k = mb) ht.grow (fun k e => by injection e with e; exact e.symm)) (fun _ _ q => .inr (.inl q)), (ht.grow.block _ (pl_lt h.b3) (fun e => map_ne h.b3 hm (by injection e))).trans h.b3, (ht.grow.block _ (pl_lt h.b6) (fun e => map_ne h.b6 hm (by injection e))).trans h.b6, (ht.grow.block _ (pl_lt h.box) (fun e => map_ne h.box hm (by injection e))).trans h.box, ht.tab, ⟨Z, (ht.grow.block _ (pl_lt h1) (fun e => map_ne h1 hm (by injection e))).trans h1, h2⟩, h.len, h.gb⟩
theorem setRow_grown (W : World) (g : Nat) (c : Array Value) : W.grownBy (W.setRow g c) (some g) := ⟨rfl, rfl, rfl, by simp [World.setRow], fun k _ hk => setRow_other W g k c (fun e => hk (by rw [e]))⟩
end Go.Proofs.YtbeodechhneeeaaGreatDoor



/-! ### of EG -/
set_option linter.unusedVariables false
set_option linter.unusedSimpArgs false
set_option maxRecDepth 100000
namespace Go.Proofs.YtbeodechhneeeaaGreatDoor
open Go.RowKit Go.Shelf Go.Lib
open Tb (Rw setF dropF getF aboveF Rise TabI TM LiesK TOut Sprung)

/-- Add's first two boxes. -/
structure AB (w W : World) (k : Nat) (o : O) (q : Nat) (ft fr : Int) (a : Option Addr) (n c : Nat) : Prop where
  bel : Below w.heap.size w W
  b3 : W.heap[w.heap.size]? = some (.cells (oCells o) 33 (0, 0))
  b6 : W.heap[k]? = some (.cells #[pv q, .int .i64 ft, .int .i64 fr, .slice a n c] 62 (0, 0))
theorem AB.step {w W W' : World} {k : Nat} {o : O} {q : Nat} {ft fr : Int} {a : Option Addr} {n c : Nat} (h : AB w W k o q ft fr a n c) (hb : Below W.heap.size W W') : AB w W' k o q ft fr a n c :=
  ⟨h.bel.trans (hb.mono h.bel.size), (hb.block _ (pl_lt h.b3)).trans h.b3, (hb.block _ (pl_lt h.b6)).trans h.b6⟩
theorem AB.new {w w1 : World} {o : O} {q : Nat} {ft fr : Int} {a : Option Addr} {n c : Nat} (hb : Below (w.alloc (.cells (oCells o) 33)).heap.size (w.alloc (.cells (oCells o) 33)) w1) :
    AB w (w1.alloc (.cells #[pv q, .int .i64 ft, .int .i64 fr, .slice a n c] 62)) w1.heap.size o q ft fr a n c := by
  have b1 := pl_vstep w (.cells (oCells o) 33)
  have n1 := heap_alloc_new w (.cells (oCells o) 33)
  have b2 := pl_vstep w1 (.cells #[pv q, .int .i64 ft, .int .i64 fr, .slice a n c] 62)
  have n2 := (hb.block _ (pl_lt n1)).trans n1
  exact ⟨(b1.trans (hb.mono b1.size)).trans (b2.mono (b1.trans (hb.mono b1.size)).size), (b2.block _ (pl_lt n2)).trans n2, heap_alloc_new w1 _⟩
theorem bs89 (W : World) (s : Stp) : (Instr.buildSlice 60 1 #[(0, stV s)]).run Tryz.prog W = .ok (.slice (some ⟨W.heap.size, 0, none⟩) 1 1) (W.alloc (.cells (stCells s) 71)) := by kernel_rfl
noncomputable def addE (ft fr : Int) (L : List O) (o : O) : Int := if rO o = false then 2 else if St.cmpS o.t o.r ft fr ≤ 0 then 11 else if hasO L o.t o.r = true then 9 else 0
noncomputable def addN (ft fr : Int) (L : List O) (o : O) : Int := if addE ft fr L o = 0 then ((L.length - posF L o.t o.r : Nat) : Int) else 0
structure AC (w W : World) (B p q mb k6 : Nat) (T : List Rw) (ft fr : Int) (la : Option Addr) (n lc : Nat) (xs : List Value) (o : O) : Prop where
  far : Far (HasT p mb la) w W
  b3 : W.heap[w.heap.size]? = some (.cells (oCells o) 33 (0, 0))
  b6 : W.heap[k6]? = some (.cells #[pv q, .int .i64 ft, .int .i64 fr, .slice la n lc] 62 (0, 0))
  box : W.heap[p]? = some (.cells #[pv q, .int .i64 ft, .int .i64 fr, .slice la n lc] 73 (0, 0))
  tab : TabI W q mb T
  log : W.ownsRow B 71 15 (.slice la n lc) n xs
theorem AC.step {w W W' : World} {B p q mb k6 : Nat} {T : List Rw} {ft fr : Int} {la : Option Addr} {n lc : Nat} {xs : List Value} {o : O} (h : AC w W B p q mb k6 T ft fr la n lc xs o) (hb : Below W.heap.size W W') : AC w W' B p q mb k6 T ft fr la n lc xs o :=
  ⟨h.far.trans (Far.of_below (P := fun _ => False) hb) (fun _ _ q => q.elim), (hb.block _ (pl_lt h.b3)).trans h.b3, (hb.block _ (pl_lt h.b6)).trans h.b6, (hb.block _ (pl_lt h.box)).trans h.box, h.tab.step hb, own_keep h.log hb⟩
theorem own_map_ne {W : World} {B e k n m : Nat} {v : Value} {xs : List Value} {l : List Rw} (ho : W.ownsRow B e k v n xs) (hm : TM W m l) : v.ownBlock ≠ some m := fun e => by
  rcases ho.2 with ⟨rfl, _⟩ | ⟨g, cap, cur, rfl, hB, hb, h1⟩
  · cases e
  · have : g = m := by simpa [Value.ownBlock] using e
    exact map_ne hb hm this
theorem own_cell_ne {W : World} {B e k n m : Nat} {v : Value} {xs : List Value} {c : Array Value} {t : TypeId} {f : Nat × Nat} (ho : W.ownsRow B e k v n xs) (hm : W.heap[m]? = some (.cells c t f)) (ht : t ≠ e) : v.ownBlock ≠ some m := fun e1 => by
  rcases ho.2 with ⟨rfl, _⟩ | ⟨g, cap, cur, rfl, hB, hb, h1⟩
  · cases e1
  · have : g = m := by simpa [Value.ownBlock] using e1
    exact cell_ne hm hb ht this.symm
theorem AC.of {w W W' : World} {B p q mb k : Nat} {T0 : List Rw} {T' : List Rw} {ft fr : Int} {L : List O} {la : Option Addr} {lc : Nat} {o : O} (ht : TreeI w B p q mb T0 ft fr L la lc) (h : AB w W k o q ft fr la L.length lc) (ho : TOut W W' q mb T') : AC w W' B p q mb k T' ft fr la L.length lc (stc (stepsF T0 L)) o := by
  have t1 := ht.step h.bel
  have hm := t1.tab.map
  refine ⟨(Far.of_below h.bel).trans (Far.of_grown (P := fun k => k = mb) ho.grow (fun k e => by injection e with e; exact e.symm)) (fun _ _ e => .inr (.inl e)), (ho.grow.block _ (pl_lt h.b3) (fun e => map_ne h.b3 hm (by injection e))).trans h.b3, (ho.grow.block _ (pl_lt h.b6) (fun e => map_ne h.b6 hm (by injection e))).trans h.b6, (ho.grow.block _ (pl_lt t1.box) (fun e => map_ne t1.box hm (by injection e))).trans t1.box, ho.tab, ?_⟩
  exact t1.log.kept ho.grow (.inr (own_map_ne t1.log hm))
theorem AC.ins {w W W' : World} {B p q mb k6 : Nat} {T : List Rw} {ft fr : Int} {la : Option Addr} {n lc : Nat} {xs : List Value} {o : O} {v' : Value} {R : List Stp} (h : AC w W B p q mb k6 T ft fr la n lc xs o) (hv : W'.ownsRow B 71 15 v' (n + 1) (stc R)) (hg : W.grownBy W' (Value.slice la n lc).ownBlock) (hs : Sprung W (.slice la n lc) v') (hR : R.length = n + 1) (hp : p < w.heap.size) :
    ∃ g cap, v' = .slice (some ⟨g, 0, none⟩) (n + 1) cap ∧ W'.heap[p]? = some (.cells #[pv q, .int .i64 ft, .int .i64 fr, .slice la n lc] 73 (0, 0)) ∧ AddI w (W'.setCell ⟨p, 3, none⟩ v') B p q mb k6 g cap T ft fr la n lc R o := by
  rcases hv.2 with ⟨_, h0⟩ | ⟨g, cap, cur, rfl, hBg, hgc, hnc, hcm, hcs, htake⟩
  · omega
  have fb : ∀ {k : Nat} {c : Array Value} {t : TypeId}, W.heap[k]? = some (.cells c t (0, 0)) → t ≠ 71 → W'.heap[k]? = some (.cells c t (0, 0)) := fun hk ht => (hg.block _ (pl_lt hk) (fun e => own_cell_ne h.log hk ht e.symm)).trans hk
  have hbox := fb h.box (by decide)
  have htab : TabI W' q mb T := ⟨fb h.tab.box (by decide), h.tab.map.grown hg (fun e => own_map_ne h.log h.tab.map e.symm)⟩
  have hf : Far (HasT p mb la) w W' := h.far.trans (Far.of_grown (P := fun k => (lgV la 0 0).ownBlock = some k) hg (fun k e => by rw [← e]; exact ownB _ _ _ _ _)) (fun _ _ e => .inr (.inr e))
  refine ⟨g, cap, rfl, hbox, ?_⟩
  have hS := setc_far (w := W') (p := p) (j := 3) (.slice (some ⟨g, 0, none⟩) (n + 1) cap)
  have b3 := fb h.b3 (by decide)
  have b6 := fb h.b6 (by decide)
  refine ⟨hf.trans (Far.of_grown (P := fun k => k = p) hS (fun k e => by injection e with e; exact e.symm)) (fun _ _ e => .inl e), (hS.block _ (pl_lt b3) (fun e => cell_ne b3 hbox (by decide) (by injection e))).trans b3, (hS.block _ (pl_lt b6) (fun e => cell_ne b6 hbox (by decide) (by injection e))).trans b6, Ve.row_setC (j := 3) (u := .slice (some ⟨g, 0, none⟩) (n + 1) cap) hbox, htab.grown hS (fun e => cell_ne htab.box hbox (by decide) (by injection e)) (fun e => map_ne hbox htab.map (by injection e with e; exact e.symm)), ⟨cur.toList.drop ((n + 1) * 15), ?_, ?_⟩, ⟨hR, hnc, hcm, hBg⟩, ?_⟩
  · rw [← htake, List.take_append_drop, Array.toArray_toList]
    exact (hS.block _ (pl_lt hgc) (fun e => cell_ne hgc hbox (by decide) (by injection e))).trans hgc
  · rw [← htake, List.take_append_drop, Array.length_toList, hcs]
  · rcases hs with hs | ⟨j, hs, hj⟩
    · left
      rw [ownB la 0 0 n lc]
      exact hs.symm
    · right
      injection hs with hs
      have : g = j := hs
      have := h.far.size
      omega
/-- The tree behind Add. -/
theorem AddI.done {w W : World} {B p q mb k6 g cap : Nat} {T0 : List Rw} {ft fr : Int} {L : List O} {la : Option Addr} {lc : Nat} {o : O} (ht : TreeI w B p q mb T0 ft fr L la lc) (h : AddI w W B p q mb k6 g cap (playF T0 (putOx L o)) ft fr la L.length lc (stepsF T0 (putOx L o)) o) : TreeI W B p q mb T0 ft fr (putOx L o) (some ⟨g, 0, none⟩) cap := by
  obtain ⟨Z, h1, h2⟩ := h.row
  have hl := h.len
  refine ⟨by rw [put_len]; exact h.box, h.tab, ⟨by rw [stc_len, steps_len], .inr ⟨g, cap, _, by rw [put_len], hl.2.2.2, h1, by rw [put_len]; exact hl.2.1, hl.2.2.1, by simpa using h2, ?_⟩⟩, ht.lo, ht.r0⟩
  rw [List.toList_toArray, ← steps_len (putOx L o) T0, ← stc_len, List.take_left]
end Go.Proofs.YtbeodechhneeeaaGreatDoor



/-! ### of EH -/
set_option linter.unusedVariables false
set_option linter.unusedSimpArgs false
set_option maxRecDepth 100000
namespace Go.Proofs.YtbeodechhneeeaaGreatDoor
open Go.RowKit Go.Shelf Go.Lib
open Tb (Rw setF dropF getF aboveF Rise TabI TM LiesK TOut Sprung)

theorem AddI.elt {w W : World} {B p q mb k6 g cap : Nat} {T : List Rw} {ft fr : Int} {la : Option Addr} {n lc : Nat} {R : List Stp} {o : O} (h : AddI w W B p q mb k6 g cap T ft fr la n lc R o) {i : Nat} {s : Stp} (hs : R[i]? = some s) : ∀ r u, (stc1 s)[r]? = some u → W.cell? ⟨g, i * 15 + r, none⟩ = some u := fun r u hu => by
  obtain ⟨Z, h1, _⟩ := h.row
  rw [cell_of_row _ _ _ _ _ _ h1]
  simp only [List.getElem?_toArray]
  have := stc_at hs hu
  rw [List.getElem?_append_left (List.getElem?_eq_some_iff.1 this).1]
  exact this
theorem ix75 {g n c i : Nat} (hi : i < n) (W : World) : (Instr.indexAt 60 (.slice (some ⟨g, 0, none⟩) n c) (.int .i64 (i : Int))).run Tryz.prog W = .ok (.pointer (some ⟨g, i * 15, none⟩)) W := by
  have h0 : (0 : Int) ≤ (i : Int) := by omega
  have h1 : (i : Int) < (n : Int) := by omega
  go_simp
/-- What stands throughout a round's call and store. -/
def AS (w : World) (B p q mb k6 g cap : Nat) (ft fr : Int) (la : Option Addr) (n lc : Nat) (o : O) (k10 : Nat) (s : Stp) (W : World) : Prop := (∃ T R, AddI w W B p q mb k6 g cap T ft fr la n lc R o) ∧ W.heap[k10]? = some (.cells (stCells s) 71 (0, 0))
theorem AS.ld1 {w W : World} {B p q mb k6 g cap : Nat} {ft fr : Int} {la : Option Addr} {n lc : Nat} {o : O} {k10 : Nat} {s : Stp} (h : AS w B p q mb k6 g cap ft fr la n lc o k10 s W) : (Instr.loadAt 60 (.pointer (some ⟨p, 3, none⟩))).run Tryz.prog W = .ok (.slice (some ⟨g, 0, none⟩) (n + 1) cap) W := by
  obtain ⟨⟨T, R, h⟩, _⟩ := h
  obtain ⟨_, _, _, b3⟩ := box4 h.box
  clear h
  go_simp
theorem AS.ld2 {w W : World} {B p q mb k6 g cap : Nat} {ft fr : Int} {la : Option Addr} {n lc : Nat} {o : O} {k10 : Nat} {s : Stp} (h : AS w B p q mb k6 g cap ft fr la n lc o k10 s W) : (Instr.loadAt 40 (.pointer (some ⟨k6, 0, none⟩))).run Tryz.prog W = .ok (pv q) W := by
  obtain ⟨⟨T, R, h⟩, _⟩ := h
  obtain ⟨b0, _, _, _⟩ := box77 h.b6
  clear h
  go_simp
theorem AS.ld3 {w W : World} {B p q mb k6 g cap : Nat} {ft fr : Int} {la : Option Addr} {n lc : Nat} {o : O} {k10 : Nat} {s : Stp} (h : AS w B p q mb k6 g cap ft fr la n lc o k10 s W) : (Instr.loadAt 33 (.pointer (some ⟨k10, 0, none⟩))).run Tryz.prog W = .ok (oV s.o) W := by
  obtain ⟨_, h⟩ := h
  have c : ∀ (j : Nat) (v : Value), (stCells s)[j]? = some v → W.cell? ⟨k10, j, none⟩ = some v := fun j v hv => (cell_of_row _ _ _ _ _ _ h).trans hv
  have d0 := c 0 (.int .i64 s.o.t) rfl; have d1 := c 1 (.int .i64 s.o.r) rfl; have d2 := c 2 (.int .i64 s.o.q) rfl; have d3 := c 3 (.int .i64 s.o.nt) rfl; have d4 := c 4 (.int .i64 s.o.nr) rfl
  have d5 := c 5 (.int .i64 s.o.pt) rfl; have d6 := c 6 (.int .i64 s.o.pr) rfl; have d7 := c 7 (.string s.o.nm) rfl; have d8 := c 8 (.bool s.o.d) rfl
  clear c h
  go_simp
  rfl
theorem old_o (T0 : List Rw) (L : List O) (k : Nat) (o : O) : ((stepsF T0 L).take k ++ S0 o :: (stepsF T0 L).drop k).map (·.o) = L.take k ++ o :: L.drop k := by
  rw [List.map_append, List.map_cons, List.map_take, List.map_drop, steps_o]
  rfl
theorem old_take {T0 : List Rw} {L : List O} {k : Nat} (hk : k ≤ L.length) (o : O) : (stepsF T0 (L.take k ++ o :: L.drop k)).take k = ((stepsF T0 L).take k ++ S0 o :: (stepsF T0 L).drop k).take k := by
  have e1 : (stepsF T0 (L.take k)).length = k := by rw [steps_len, List.length_take]; omega
  have e2 : ((stepsF T0 L).take k).length = k := by rw [List.length_take, steps_len]; omega
  have e3 : (stepsF T0 L).take k = stepsF T0 (L.take k) := by
    conv => lhs; rw [← List.take_append_drop k L, steps_append]
    rw [List.take_append_of_le_length (by omega), List.take_of_length_le (by omega)]
  rw [steps_append]
  exact (List.take_left' e1).trans (e3.symm.trans (List.take_left' e2).symm)
/-- One element of the row laid anew. -/
theorem AddI.setK {w W : World} {B p q mb k6 g cap : Nat} {T : List Rw} {ft fr : Int} {la : Option Addr} {n lc : Nat} {R R' : List Stp} {o : O} (h : AddI w W B p q mb k6 g cap T ft fr la n lc R o) (i : Nat) (x : Stp) (hi : i < n + 1) (hl : R'.length = n + 1)
    (hR : ∀ Z : List Value, (stc R ++ Z).take (i * 15) ++ stc1 x ++ (stc R ++ Z).drop (i * 15 + 15) = stc R' ++ Z) :
    ∃ W', (Instr.storeAt 71 (.pointer (some ⟨g, i * 15, none⟩)) (stV x)).run Tryz.prog W = .ok () W' ∧ AddI w W' B p q mb k6 g cap T ft fr la n lc R' o ∧ ∀ k, k ≠ g → W'.heap[k]? = W.heap[k]? := by
  obtain ⟨Z, h1, h2⟩ := h.row
  have hlen := h.len
  have hs := stR (x := x) h1 (o := i * 15) (by rw [h2]; omega)
  refine ⟨_, hs, ?_, fun k hk => setRow_other W g k _ hk⟩
  rw [hR Z]
  have hg := setRow_grown W g (stc R' ++ Z).toArray
  have hm := h.tab.map
  refine ⟨h.far.trans (Far.of_grown (P := fun k => k = g) hg (fun k e => by injection e with e; exact e.symm)) (fun k hk e => ?_), (setRow_other W g _ _ (cell_ne h.b3 h1 (by decide))).trans h.b3, (setRow_other W g _ _ (cell_ne h.b6 h1 (by decide))).trans h.b6, (setRow_other W g _ _ (cell_ne h.box h1 (by decide))).trans h.box, TabI.setRow h.tab (cell_ne h.tab.box h1 (by decide)) (fun e => map_ne h1 hm e.symm) _, ⟨Z, setRow_heap W g _ _ 71 _ h1, ?_⟩, ⟨hl, hlen.2⟩, h.gb⟩
  · rcases h.gb with hq | hq
    · exact .inr (.inr (by rw [e]; exact hq))
    · omega
  · rw [List.length_append, stc_len, hl]
    rw [List.length_append, stc_len, hlen.1] at h2
    exact h2
theorem putIns (S : List Stp) (k : Nat) (x : Stp) : (stc S).take (k * 15) ++ stc1 x ++ (stc S).drop (k * 15) = stc (S.take k ++ x :: S.drop k) := by
  have e : ∀ (S : List Stp) (k : Nat), (stc S).take (k * 15) = stc (S.take k) ∧ (stc S).drop (k * 15) = stc (S.drop k) := by
    intro S
    induction S with
    | nil => intro k; constructor <;> (unfold stc; simp)
    | cons a S ih =>
      intro k
      cases k with
      | zero => constructor <;> (unfold stc; simp)
      | succ k =>
        have hl : (stc1 a).length = 15 := rfl
        have h1 : (k + 1) * 15 = (stc1 a).length + k * 15 := by omega
        rw [stc_cons, h1, List.take_length_add_append, List.drop_length_add_append, (ih k).1, (ih k).2, List.take_succ_cons, List.drop_succ_cons, stc_cons]
        exact ⟨rfl, rfl⟩
  rw [(e S k).1, (e S k).2, stc_append, stc_cons, List.append_assoc]
set_option maxHeartbeats 6400000 in
theorem add_any (w : World) (B p q mb : Nat) (T0 : List Rw) (ft fr : Int) (L : List O) (la : Option Addr) (lc : Nat) (h : TreeI w B p q mb T0 ft fr L la lc) (hu : RiseO L) (hok : OkL L) (hokT : OkT T0) (hl : T0.length + L.length < 10000) (hB : B ≤ w.heap.size) (o : O) (ho : OkO o) (hz : o.nm.size ≤ 9223372036854775807) :
    Calls Tryz.prog 9 #[pv p, oV o] w fun e w' => e = .returned (.tuple #[.int .i64 (addN ft fr L o), .int .i64 (addE ft fr L o)]) ∧
      ((addE ft fr L o ≠ 0 ∧ Below w.heap.size w w') ∨ (addE ft fr L o = 0 ∧ Far (HasT p mb la) w w' ∧ ∃ g lc', TreeI w' B p q mb T0 ft fr (putOx L o) (some ⟨g, 0, none⟩) lc' ∧ ((lgV la 0 0).ownBlock = some g ∨ w.heap.size ≤ g))) := by
  have hb := pl_vstep w (.cells (oCells o) 33)
  have NS := Lib.hid (fun w1 hb => @AB.new w w1 o q ft fr la L.length lc hb)
  have H := Lib.hid (h.haveL.step hb)
  have RT := Lib.hid (fun W => right_big W o.t o.r o.q o.nt o.nr o.pt o.pr o.nm o.d hz)
  have CM := Lib.hid (fun W => St.compare_any W o.t o.r ft fr)
  have HT := Lib.hid h
  have HO := Lib.hid ho
  have ep : (stepsF T0 L).map (·.o) = L := steps_o L T0
  have PL := Lib.hid (fun W (hW : Below w.heap.size w W) => place_of W (some ⟨q, 0, none⟩) ft fr la L.length lc (stepsF T0 L) o.t o.r ((lies_log h).step hW) (by rw [ep]; exact hu) (by rw [steps_len]; omega))
  rw [ep] at PL
  have EE : addE ft fr L o = if rO o = false then 2 else if St.cmpS o.t o.r ft fr ≤ 0 then 11 else if hasO L o.t o.r = true then 9 else 0 := rfl
  have EN : addN ft fr L o = if addE ft fr L o = 0 then ((L.length - posF L o.t o.r : Nat) : Int) else 0 := rfl
  have RB : rO o = rB o.t o.r o.q o.nt o.nr o.pt o.pr o.nm := rfl
  have PQ := Lib.hid (show putOx L o = L.take (posF L o.t o.r) ++ o :: L.drop (posF L o.t o.r) from rfl)
  have hpl := pos_le L o.t o.r
  obtain ⟨k, hk⟩ : ∃ z, posF L o.t o.r = z := ⟨_, rfl⟩
  obtain ⟨hs, hhs⟩ : ∃ z, hasO L o.t o.r = z := ⟨_, rfl⟩
  obtain ⟨cz, hcz⟩ : ∃ z, St.cmpS o.t o.r ft fr = z := ⟨_, rfl⟩
  obtain ⟨rb, hrb⟩ : ∃ z, rB o.t o.r o.q o.nt o.nr o.pt o.pr o.nm = z := ⟨_, rfl⟩
  rw [hk] at PL EN PQ hpl
  rw [hhs] at PL EE
  rw [hcz] at CM EE
  rw [hrb] at RT RB
  rw [RB] at EE
  obtain ⟨er, her⟩ : ∃ z, addE ft fr L o = z := ⟨_, rfl⟩
  obtain ⟨en, hen⟩ : ∃ z, addN ft fr L o = z := ⟨_, rfl⟩
  rw [her] at EE EN ⊢
  rw [hen] at EN ⊢
  have EE := Lib.hid EE
  have EN := Lib.hid EN
  clear hb h hu ho ep RB hk hhs hcz hrb her hen
  obtain ⟨t, r, sq, nt, nr, pt, pr, nm, d⟩ := o
  unfold oV
  unfold oCells at NS H ⊢
  dsimp only at *
  go_enter Tryz.func9, Tryz.ntmps9
  go_wp2_with fail
  refine (H.out _ (Below.refl _ _)).mono ?_
  rintro e w1 ⟨rfl, hb⟩
  have K := Lib.hid (NS.out w1 hb)
  clear hb
  go_upto_region 2 with (fail)
  generalize w1.alloc (.cells #[pv q, .int .i64 ft, .int .i64 fr, .slice la L.length lc] 62) = w2 at K ⊢
  obtain ⟨k6, hk6⟩ : ∃ z, w1.heap.size = z := ⟨_, rfl⟩
  rw [hk6] at K ⊢
  clear hk6
  obtain ⟨o0, o1, o2, o3, o4, o5, o6, o7, o8⟩ := cell9 K.out.b3
  obtain ⟨g0, g1, g2, g3⟩ := box77 K.out.b6
  go_wp2_with fail
  refine (RT.out w2).mono ?_
  rintro e w3 ⟨rfl, hb⟩
  have K3 := Lib.hid (K.out.step hb)
  clear hb K o0 o1 o2 o3 o4 o5 o6 o7 o8 g0 g1 g2 g3
  obtain ⟨o0, o1, o2, o3, o4, o5, o6, o7, o8⟩ := cell9 K3.out.b3
  obtain ⟨g0, g1, g2, g3⟩ := box77 K3.out.b6
  cases rb with
  | false =>
    have E := Lib.hid (show er = 2 by rw [EE.out, if_pos rfl])
    have N := Lib.hid (show en = 0 by rw [EN.out, if_neg (by rw [E.out]; decide)])
    go_wp2
    go_returns
    refine ⟨by rw [E.out, N.out]; rfl, .inl ⟨by rw [E.out]; decide, K3.out.bel⟩⟩
  | true =>
    have EE := Lib.hid (show er = if cz ≤ 0 then 11 else if hs = true then 9 else 0 by rw [EE.out, if_neg (by decide)])
    go_wp2_with fail
    refine (CM.out w3).mono ?_
    rintro e w4 ⟨rfl, hb⟩
    have K4 := Lib.hid (K3.out.step hb)
    clear hb K3 o0 o1 o2 o3 o4 o5 o6 o7 o8 g0 g1 g2 g3
    obtain ⟨o0, o1, o2, o3, o4, o5, o6, o7, o8⟩ := cell9 K4.out.b3
    obtain ⟨g0, g1, g2, g3⟩ := box77 K4.out.b6
    by_cases hz : cz ≤ 0
    · have hd : decide (cz ≤ 0) = true := decide_eq_true hz
      have E := Lib.hid (show er = 11 by rw [EE.out, if_pos hz])
      have N := Lib.hid (show en = 0 by rw [EN.out, if_neg (by rw [E.out]; decide)])
      clear hz
      go_wp2
      go_returns
      refine ⟨by rw [E.out, N.out]; rfl, .inl ⟨by rw [E.out]; decide, K4.out.bel⟩⟩
    · have hd : decide (cz ≤ 0) = false := decide_eq_false hz
      have EE := Lib.hid (show er = if hs = true then 9 else 0 by rw [EE.out, if_neg hz])
      clear hz
      go_wp2_with fail
      refine (PL.out w4 K4.out.bel).mono ?_
      rintro e w5 ⟨rfl, hb⟩
      have K5 := Lib.hid (K4.out.step hb)
      clear hb K4 o0 o1 o2 o3 o4 o5 o6 o7 o8 g0 g1 g2 g3
      obtain ⟨o0, o1, o2, o3, o4, o5, o6, o7, o8⟩ := cell9 K5.out.b3
      obtain ⟨g0, g1, g2, g3⟩ := box77 K5.out.b6
      cases hs with
      | true =>
        have E := Lib.hid (show er = 9 by rw [EE.out, if_pos rfl])
        have N := Lib.hid (show en = 0 by rw [EN.out, if_neg (by rw [E.out]; decide)])
        go_wp2
        go_returns
        refine ⟨by rw [E.out, N.out]; rfl, .inl ⟨by rw [E.out]; decide, K5.out.bel⟩⟩
      | false =>
        have E := Lib.hid (show er = 0 by rw [EE.out, if_neg (by decide)])
        have N := Lib.hid (show en = (L.length : Int) - (k : Int) by rw [EN.out, if_pos E.out]; omega)
        clear EE EN
        have t5 := Lib.hid (HT.out.step K5.out.bel)
        have hplay := play_len L T0
        have hbk : ((stepsF T0 L).drop k).foldr undoF (playF T0 L) = playF T0 (L.take k) := by
          rw [steps_drop, ← play_take T0 L k]
          exact back_play (L.drop k) (play_rise _ HT.out.r0)
        have BK := Lib.hid (back_any w5 q mb (playF T0 L) (some ⟨q, 0, none⟩) ft fr la L.length lc k (stepsF T0 L) t5.out.tab (lies_log t5.out) hpl (by rw [steps_len]; omega) (steps_ok L hokT hok))
        rw [hbk] at BK
        clear hbk hplay
        go_wp2_with fail
        refine BK.out.mono ?_
        rintro e w6 ⟨rfl, hto⟩
        have A6 := Lib.hid (AC.of HT.out K5.out hto)
        clear hto K5 BK t5 o0 o1 o2 o3 o4 o5 o6 o7 o8 g0 g1 g2 g3
        obtain ⟨o0, o1, o2, o3, o4, o5, o6, o7, o8⟩ := cell9 A6.out.b3
        obtain ⟨g0, g1, g2, g3⟩ := box77 A6.out.b6
        go_upto_region 12 with (fail)
        go_cut [38] from 11 (fun _ wx => ∃ g cap, Hid (AddI w wx B p q mb k6 g cap (playF T0 (L.take k)) ft fr la L.length lc ((stepsF T0 L).take k ++ S0 ⟨t, r, sq, nt, nr, pt, pr, nm, d⟩ :: (stepsF T0 L).drop k) ⟨t, r, sq, nt, nr, pt, pr, nm, d⟩))
        case first =>
          have A7 := Lib.hid (A6.out.step (pl_vstep w6 (.cells (stCells (S0 ⟨t, r, sq, nt, nr, pt, pr, nm, d⟩)) 71)))
          have V7 := Lib.hid (heap_alloc_new w6 (.cells (stCells (S0 ⟨t, r, sq, nt, nr, pt, pr, nm, d⟩)) 71))
          obtain ⟨w7, hw7⟩ : ∃ z, w6.alloc (.cells (stCells (S0 ⟨t, r, sq, nt, nr, pt, pr, nm, d⟩)) 71) = z := ⟨_, rfl⟩
          rw [hw7] at A7 V7
          have HW7 := Lib.hid hw7
          have IS := Lib.hid (insert_anyx w7 B (.slice la L.length lc) L.length k (stc (stepsF T0 L)) (stc1 (S0 ⟨t, r, sq, nt, nr, pt, pr, nm, d⟩)) A7.out.log hpl (by omega) w6.heap.size V7.out rfl (fun e => by have := own_lt A6.out.log _ e; omega) (fun u hu => stc_one _ u hu) (stc1_one _) (by have := A7.out.far.size; omega))
          clear hw7
          rw [putIns] at IS
          go_wp2_with (first | (refine wpList_bs rfl 60 (.tmp 43) rfl (stV (S0 ⟨t, r, sq, nt, nr, pt, pr, nm, d⟩)) rfl _ _ (bs89 w6 _) ?_; rw [HW7.out]))
          refine IS.out.mono ?_
          rintro e w8 ⟨v', rfl, hv, hgr, hsp⟩
          obtain ⟨g, cap, rfl, hbx, hai⟩ := A7.out.ins (R := (stepsF T0 L).take k ++ S0 ⟨t, r, sq, nt, nr, pt, pr, nm, d⟩ :: (stepsF T0 L).drop k) hv hgr hsp (by simp [steps_len]; omega) HT.out.plt
          have A9 := Lib.hid hai
          obtain ⟨b0, b1, b2, b3⟩ := box4 hbx
          have f3 := frozen_of_row (j := 3) _ _ _ _ hbx
          clear hv hgr hsp hbx hai IS A6 A7 V7 HW7 o0 o1 o2 o3 o4 o5 o6 o7 o8 g0 g1 g2 g3
          go_wp2_with fail
          go_meet
          exact ⟨g, cap, A9⟩
        clear A6 o0 o1 o2 o3 o4 o5 o6 o7 o8 g0 g1 g2 g3
        obtain ⟨g, cap, A9⟩ := hcut
        have hMl : (L.take k ++ (⟨t, r, sq, nt, nr, pt, pr, nm, d⟩ : O) :: L.drop k).length = L.length + 1 := by simp; omega
        have hOo := old_o T0 L k ⟨t, r, sq, nt, nr, pt, pr, nm, d⟩
        have hOt := old_take (T0 := T0) hpl ⟨t, r, sq, nt, nr, pt, pr, nm, d⟩
        have hMt : (L.take k ++ (⟨t, r, sq, nt, nr, pt, pr, nm, d⟩ : O) :: L.drop k).take k = L.take k := by rw [List.take_append_of_le_length (by rw [List.length_take]; omega), List.take_of_length_le (by rw [List.length_take]; omega)]
        have hMok : OkL (L.take k ++ (⟨t, r, sq, nt, nr, pt, pr, nm, d⟩ : O) :: L.drop k) := fun x hx => by
          rcases List.mem_append.1 hx with hx | hx
          · exact hok x (List.mem_of_mem_take hx)
          · rcases List.mem_cons.1 hx with rfl | hx
            · exact HO.out
            · exact hok x (List.mem_of_mem_drop hx)
        obtain ⟨M, hM⟩ : ∃ z, L.take k ++ (⟨t, r, sq, nt, nr, pt, pr, nm, d⟩ : O) :: L.drop k = z := ⟨_, rfl⟩
        obtain ⟨Old, hOld⟩ : ∃ z, (stepsF T0 L).take k ++ S0 ⟨t, r, sq, nt, nr, pt, pr, nm, d⟩ :: (stepsF T0 L).drop k = z := ⟨_, rfl⟩
        rw [hM] at hMl hOo hOt hMt hMok PQ
        rw [hOld] at A9 hOo hOt
        have hOl : Old.length = M.length := by rw [← hOo, List.length_map]
        have J0 := Lib.hid (show AddI w wc B p q mb k6 g cap (playF T0 (M.take (k + 0))) ft fr la L.length lc (rowF T0 M Old (k + 0)) ⟨t, r, sq, nt, nr, pt, pr, nm, d⟩ from by rw [Nat.add_zero, row_start hOt, hMt]; exact A9.out)
        have SLE : ∀ W, (Instr.slice 60 (.slice (some ⟨g, 0, none⟩) (L.length + 1) cap) (some (.int .i64 (k : Int))) none none).run Tryz.prog W = .ok (.slice (some ⟨g, k * 15, none⟩) (L.length + 1 - k) (cap - k)) W := fun W => by
          have hcl := A9.out.len
          rw [run_slice_l (P := Tryz.prog) (ht := Tryz.u75) (h0 := by omega) (h1 := by omega), (show (Go.sizeOf (Tryz.prog.elem 60)).run Tryz.prog W = .ok 15 W from run_size89 W)]
          show Result.ok (Value.slice (if cap = k then _ else _) _ _) W = _
          rw [if_neg (by omega)]
          show Result.ok (Value.slice (some ((⟨g, 0, none⟩ : Addr).add (k * 15))) _ _) W = _
          rw [Tb.rk_addr, Nat.zero_add]
          rfl
        obtain ⟨_, _, _, b3⟩ := box4 A9.out.box
        have hMOK := Lib.hid hMok
        have HOO := Lib.hid hOo
        have HOL := Lib.hid hOl
        have hcap := A9.out.len.2
        clear hM hOld hOt hMt hMok hOo A9 hok
        have hmn : ((L.length + 1 : Nat) : Int) = (L.length : Int) + 1 := by omega
        go_wp2
        go_loopw [57] (fun jv wr => ∃ j : Nat, jv = .int .i64 j ∧ j ≤ L.length + 1 - k ∧ Hid (AddI w wr B p q mb k6 g cap (playF T0 (M.take (k + j))) ft fr la L.length lc (rowF T0 M Old (k + j)) ⟨t, r, sq, nt, nr, pt, pr, nm, d⟩)) (fun jv _ => (L.length + 1 - k) - (intOf jv).toNat)
        case atStart => exact ⟨0, rfl, Nat.zero_le _, J0⟩
        case round =>
          obtain ⟨j, rfl, hj, J⟩ := hrel
          by_cases hlt : j < L.length + 1 - k
          · have HLT := Lib.hid hlt
            have HW9 := Lib.hid (wrap_nat hlt (show L.length + 1 - k ≤ 100000 by omega))
            have HMS := Lib.hid (meas_nat hlt)
            have hd : decide ((j : Int) < ((L.length + 1 - k : Nat) : Int)) = true := decide_eq_true (by omega)
            have hj0 : (0 : Int) ≤ (j : Int) := by omega
            have hj1 : (j : Int) < ((L.length + 1 - k : Nat) : Int) := by omega
            obtain ⟨o1, ho1⟩ : ∃ z, M[k + j]? = some z := ⟨_, List.getElem?_eq_getElem (by omega)⟩
            obtain ⟨s1, hs1⟩ : ∃ z, Old[k + j]? = some z := ⟨_, List.getElem?_eq_getElem (by rw [HOL.out]; omega)⟩
            have hso : s1.o = o1 := by
              have := congrArg (fun l => l[k + j]?) HOO.out
              simp only [List.getElem?_map, hs1, ho1] at this
              simpa using this
            have E1 := J.out.elt ((row_at HOL.out (show k + j < M.length by omega)).trans hs1)
            have LX := Lib.hid (@ldS wr g (k * 15 + j * 15) s1 (fun i u hu => by rw [show k * 15 + j * 15 + i = (k + j) * 15 + i by omega]; exact E1 i u hu))
            have O1 := Lib.hid (hMOK.out o1 (List.mem_of_getElem? ho1))
            have HP := Lib.hid (play_snoc T0 ho1)
            have HS := Lib.hid (fun Z => row_set (T0 := T0) HOL.out ho1 Z)
            have HRL := Lib.hid (row_len (T0 := T0) HOL.out (show k + j + 1 ≤ M.length by omega))
            have HPL := Lib.hid (show (playF T0 (M.take (k + j))).length < 100000 from by have := play_len (M.take (k + j)) T0; rw [List.length_take] at this; omega)
            subst hso
            obtain ⟨T1, hT1⟩ : ∃ z, playF T0 (M.take (k + j)) = z := ⟨_, rfl⟩
            rw [hT1] at J HP HPL HS
            clear E1 ho1 hs1 hT1
            obtain ⟨⟨t1, r1, q1, nt1, nr1, pt1, pr1, nm1, d1⟩, did1, had1, wt1, wr1, wn1, wd1⟩ := s1
            unfold stV stCells at LX
            dsimp only at *
            go_upto_region 16 with (first
              | (refine Ve.wpList_load_arr rfl (.tmp 60) 71 rfl (.pointer (some ⟨g, k * 15 + j * 15, none⟩)) _ rfl LX.out ?_))
            have A11 := Lib.hid (J.out.step (pl_vstep wr (.cells (stCells ⟨⟨t1, r1, q1, nt1, nr1, pt1, pr1, nm1, d1⟩, did1, had1, wt1, wr1, wn1, wd1⟩) 71)))
            have N11 := Lib.hid (heap_alloc_new wr (.cells (stCells ⟨⟨t1, r1, q1, nt1, nr1, pt1, pr1, nm1, d1⟩, did1, had1, wt1, wr1, wn1, wd1⟩) 71))
            change Code.wp _ _ _ _ (wr.alloc (.cells (stCells ⟨⟨t1, r1, q1, nt1, nr1, pt1, pr1, nm1, d1⟩, did1, had1, wt1, wr1, wn1, wd1⟩) 71))
            obtain ⟨k10, hk10⟩ : ∃ z, wr.heap.size = z := ⟨_, rfl⟩
            have hgk : g < k10 := by
              rw [← hk10]
              obtain ⟨Z, h1, _⟩ := J.out.row
              exact pl_lt h1
            rw [hk10] at N11 ⊢
            generalize wr.alloc (.cells (stCells ⟨⟨t1, r1, q1, nt1, nr1, pt1, pr1, nm1, d1⟩, did1, had1, wt1, wr1, wn1, wd1⟩) 71) = w11 at A11 N11 ⊢
            clear hk10 LX J
            have hkjn : k + j < L.length + 1 := by omega
            obtain ⟨kj, hkj⟩ : ∃ z, k + j = z := ⟨_, rfl⟩
            rw [hkj] at hkjn
            have hkj0 : (k : Int) + (j : Int) = (kj : Int) := by omega
            have hkj1 : (0 : Int) ≤ (kj : Int) := by omega
            have hkj2 : (kj : Int) < (L.length : Int) + 1 := by omega
            have hkj5 : IntKind.i64.wrap (kj : Int) = (kj : Int) := by rw [IntKind.wrap_i64]; omega
            have hkj3 : IntKind.i64.wrap ((k : Int) + (j : Int)) = (kj : Int) := by rw [IntKind.wrap_i64]; omega
            have hkj4 : wrap64 ((k : Int) + (j : Int)) = (kj : Int) := by unfold wrap64; omega
            rw [hkj] at A11 HS HRL
            have AA := Lib.hid (show AddI w w11.drew B p q mb k6 g cap T1 ft fr la L.length lc (rowF T0 M Old kj) ⟨t, r, sq, nt, nr, pt, pr, nm, d⟩ from A11.out.step (Below.refl _ _).drew)
            have K10 := Lib.hid (show w11.drew.heap[k10]? = some (.cells (stCells ⟨⟨t1, r1, q1, nt1, nr1, pt1, pr1, nm1, d1⟩, did1, had1, wt1, wr1, wn1, wd1⟩) 71 (0, 0)) from N11.out)
            have LA := Lib.hid (fun W (h : AS w B p q mb k6 g cap ft fr la L.length lc ⟨t, r, sq, nt, nr, pt, pr, nm, d⟩ k10 ⟨⟨t1, r1, q1, nt1, nr1, pt1, pr1, nm1, d1⟩, did1, had1, wt1, wr1, wn1, wd1⟩ W) => h.ld1)
            have LB := Lib.hid (fun W (h : AS w B p q mb k6 g cap ft fr la L.length lc ⟨t, r, sq, nt, nr, pt, pr, nm, d⟩ k10 ⟨⟨t1, r1, q1, nt1, nr1, pt1, pr1, nm1, d1⟩, did1, had1, wt1, wr1, wn1, wd1⟩ W) => h.ld2)
            have LC := Lib.hid (fun W (h : AS w B p q mb k6 g cap ft fr la L.length lc ⟨t, r, sq, nt, nr, pt, pr, nm, d⟩ k10 ⟨⟨t1, r1, q1, nt1, nr1, pt1, pr1, nm1, d1⟩, did1, had1, wt1, wr1, wn1, wd1⟩ W) => h.ld3)
            have DO := Lib.hid (fun W (h : TabI W q mb T1) => do_any W q mb T1 h HPL.out ⟨t1, r1, q1, nt1, nr1, pt1, pr1, nm1, d1⟩ O1.out)
            obtain ⟨SV, hSV⟩ : ∃ z, stepF T1 ⟨t1, r1, q1, nt1, nr1, pt1, pr1, nm1, d1⟩ = z := ⟨_, rfl⟩
            rw [hSV] at DO HS
            have IX := Lib.hid (fun W => @ix75 g (L.length + 1) cap kj hkjn W)
            clear hSV A11 N11
            refine wp_region_held_drew (S := fun W => AS w B p q mb k6 g cap ft fr la L.length lc ⟨t, r, sq, nt, nr, pt, pr, nm, d⟩ k10 ⟨⟨t1, r1, q1, nt1, nr1, pt1, pr1, nm1, d1⟩, did1, had1, wt1, wr1, wn1, wd1⟩ W) (by kernel_rfl) ((⟨⟨_, _, AA.out⟩, K10.out⟩ : AS w B p q mb k6 g cap ft fr la L.length lc ⟨t, r, sq, nt, nr, pt, pr, nm, d⟩ k10 ⟨⟨t1, r1, q1, nt1, nr1, pt1, pr1, nm1, d1⟩, did1, had1, wt1, wr1, wn1, wd1⟩ w11.drew)) (fun hHeld => ?_)
            have BV := Lib.hid ((⟨⟨_, _, AA.out⟩, K10.out⟩ : AS w B p q mb k6 g cap ft fr la L.length lc ⟨t, r, sq, nt, nr, pt, pr, nm, d⟩ k10 ⟨⟨t1, r1, q1, nt1, nr1, pt1, pr1, nm1, d1⟩, did1, had1, wt1, wr1, wn1, wd1⟩ w11.drew))
            clear hHeld
            refine take_at (i := 0) 62 ?_ rfl rfl (by kernel_rfl) (by kernel_rfl) (by kernel_rfl) (fun _ _ _ h => h) (.inl ⟨rfl, ?_⟩) BV.out ?_
            rotate_left 1
            · intro w hSw; go_simp; try with_reducible rfl
            simp only [Act.put, List.setIfInBounds_toArray, List.set_cons_zero, List.set_cons_succ]
            refine take_at (i := 1) 63 ?_ rfl rfl (by kernel_rfl) (by kernel_rfl) (by kernel_rfl) (fun _ _ _ h => h) (.inl ⟨rfl, ?_⟩) BV.out ?_
            rotate_left 1
            · intro w hSw; go_simp; try with_reducible rfl
            simp only [Act.put, List.setIfInBounds_toArray, List.set_cons_zero, List.set_cons_succ]
            refine take_at (i := 2) 64 ?_ rfl rfl (by kernel_rfl) (by kernel_rfl) (by kernel_rfl) (fun _ _ _ h => h) (.inl ⟨rfl, ?_⟩) BV.out ?_
            rotate_left 1
            · intro w hSw; go_simp; try with_reducible rfl
            simp only [Act.put, List.setIfInBounds_toArray, List.set_cons_zero, List.set_cons_succ]
            refine take_at (i := 3) 65 ?_ rfl rfl (by kernel_rfl) (by kernel_rfl) (by kernel_rfl) (fun _ _ _ h => h) (.inl ⟨rfl, ?_⟩) BV.out ?_
            rotate_left 1
            · intro w hSw; go_simp; try with_reducible rfl
            simp only [Act.put, List.setIfInBounds_toArray, List.set_cons_zero, List.set_cons_succ]
            refine take_at (i := 4) 66 (.slice (some ⟨g, 0, none⟩) (L.length + 1) cap) rfl rfl (by kernel_rfl) (by kernel_rfl) (by kernel_rfl) (fun _ _ _ h => h) (yields_ld (.tmp 65) 60 (.pointer (some ⟨p, 3, none⟩)) _ LA.out rfl rfl rfl) BV.out ?_
            simp only [Act.put, List.setIfInBounds_toArray, List.set_cons_zero, List.set_cons_succ]
            refine take_at (i := 5) 67 ?_ rfl rfl (by kernel_rfl) (by kernel_rfl) (by kernel_rfl) (fun _ _ _ h => h) (.inl ⟨rfl, ?_⟩) BV.out ?_
            rotate_left 1
            · intro w hSw; go_simp; try with_reducible rfl
            simp only [Act.put, List.setIfInBounds_toArray, List.set_cons_zero, List.set_cons_succ]
            refine take_at (i := 6) 68 ?_ rfl rfl (by kernel_rfl) (by kernel_rfl) (by kernel_rfl) (fun _ _ _ h => h) (.inl ⟨rfl, ?_⟩) BV.out ?_
            rotate_left 1
            · intro w hSw; go_simp; try with_reducible rfl
            simp only [Act.put, List.setIfInBounds_toArray, List.set_cons_zero, List.set_cons_succ]
            refine take_at (i := 7) 69 (.int .i64 (kj : Int)) rfl rfl (by kernel_rfl) (by kernel_rfl) (by kernel_rfl) (fun _ _ _ h => h) (.inl ⟨rfl, fun w hSw => by go_simp⟩) BV.out ?_
            simp only [Act.put, List.setIfInBounds_toArray, List.set_cons_zero, List.set_cons_succ]
            refine take_at (i := 8) 70 ?_ rfl rfl (by kernel_rfl) (by kernel_rfl) (by kernel_rfl) (fun _ _ _ h => h) (.inl ⟨rfl, ?_⟩) BV.out ?_
            rotate_left 1
            · intro w hSw; go_simp; try with_reducible rfl
            simp only [Act.put, List.setIfInBounds_toArray, List.set_cons_zero, List.set_cons_succ]
            refine take_at (i := 9) 71 (.pointer (some ⟨q, 0, none⟩)) rfl rfl (by kernel_rfl) (by kernel_rfl) (by kernel_rfl) (fun _ _ _ h => h) (yields_ld (.tmp 70) 40 (.pointer (some ⟨k6, 0, none⟩)) _ LB.out rfl rfl rfl) BV.out ?_
            simp only [Act.put, List.setIfInBounds_toArray, List.set_cons_zero, List.set_cons_succ]
            refine take_at (i := 10) 72 ?_ rfl rfl (by kernel_rfl) (by kernel_rfl) (by kernel_rfl) (fun _ _ _ h => h) (.inl ⟨rfl, ?_⟩) BV.out ?_
            rotate_left 1
            · intro w hSw; go_simp; try with_reducible rfl
            simp only [Act.put, List.setIfInBounds_toArray, List.set_cons_zero, List.set_cons_succ]
            refine take_at (i := 11) 73 (oV ⟨t1, r1, q1, nt1, nr1, pt1, pr1, nm1, d1⟩) rfl rfl (by kernel_rfl) (by kernel_rfl) (by kernel_rfl) (fun _ _ _ h => h) (yields_ld (.tmp 72) 33 (.pointer (some ⟨k10, 0, none⟩)) _ LC.out rfl rfl rfl) BV.out ?_
            simp only [Act.put, List.setIfInBounds_toArray, List.set_cons_zero, List.set_cons_succ]
            refine wpAnyH_ready (rs := [12]) (by kernel_rfl) (by simp) (br_call (i := 12) 74 36 #[pv q, oV ⟨t1, r1, q1, nt1, nr1, pt1, pr1, nm1, d1⟩] rfl rfl rfl (by go_simp) ((DO.out _ AA.out.tab).mono ?_) AllReadyH.nil)
            rintro e v1 ⟨rfl, ho⟩
            have K10 := Lib.hid ((ho.grow.block _ (pl_lt K10.out) (fun e => map_ne K10.out AA.out.tab.map (by injection e))).trans K10.out)
            have AA := Lib.hid (AA.out.turn ho)
            have BV := Lib.hid (show AS w B p q mb k6 g cap ft fr la L.length lc ⟨t, r, sq, nt, nr, pt, pr, nm, d⟩ k10 ⟨⟨t1, r1, q1, nt1, nr1, pt1, pr1, nm1, d1⟩, did1, had1, wt1, wr1, wn1, wd1⟩ v1 from ⟨⟨_, _, AA.out⟩, K10.out⟩)
            clear ho
            refine ⟨_, rfl, BV.out, fun _ => ?_⟩
            simp only [Act.put, List.setIfInBounds_toArray, List.set_cons_zero, List.set_cons_succ]
            refine take_at (i := 13) 75 (.pointer (some ⟨g, kj * 15, none⟩)) rfl rfl (by kernel_rfl) (by kernel_rfl) (by kernel_rfl) (fun _ _ _ h => h) (yields_ix (.tmp 66) (.tmp 69) 60 (.slice (some ⟨g, 0, none⟩) (L.length + 1) cap) (.int .i64 (kj : Int)) _ IX.out rfl rfl rfl rfl) BV.out ?_
            simp only [Act.put, List.setIfInBounds_toArray, List.set_cons_zero, List.set_cons_succ]
            obtain ⟨wz, hrun, hset, hoth⟩ := AA.out.setK kj SV hkjn (HRL.out.trans hMl) HS.out
            have HRUN := Lib.hid hrun
            have AZ := Lib.hid hset
            have KZ := Lib.hid (show AS w B p q mb k6 g cap ft fr la L.length lc ⟨t, r, sq, nt, nr, pt, pr, nm, d⟩ k10 ⟨⟨t1, r1, q1, nt1, nr1, pt1, pr1, nm1, d1⟩, did1, had1, wt1, wr1, wn1, wd1⟩ wz from ⟨⟨_, _, AZ.out⟩, (hoth k10 (by omega)).trans K10.out⟩)
            clear hrun hset hoth
            refine wpAnyH_ready (rs := [14]) (by kernel_rfl) (by simp) (br_store (i := 14) 71 (.tmp 75) (.tmp 74) (.pointer (some ⟨g, kj * 15, none⟩)) (stV SV) wz rfl rfl rfl rfl rfl rfl HRUN.out KZ.out (fun _ => ?_) AllReadyH.nil)
            simp only [Act.put, List.setIfInBounds_toArray, List.set_cons_zero, List.set_cons_succ]
            refine wpAnyH_done (by kernel_rfl) ?_ _
            have AN := Lib.hid (show AddI w wz B p q mb k6 g cap (playF T0 (M.take (k + (j + 1)))) ft fr la L.length lc (rowF T0 M Old (k + (j + 1))) ⟨t, r, sq, nt, nr, pt, pr, nm, d⟩ from by rw [← Nat.add_assoc, HP.out, hkj]; exact AZ.out)
            clear AA K10 BV KZ HRUN AZ hkj0 hkj1 hkj2 hkj3 hkj4 hkj5 hkjn hkj hgk hcap hmn hj0 hj1 hj hl hB hz hpl
            go_wp2
            go_roundw
            case rel => exact ⟨j + 1, by rw [HW9.out]; rfl, HLT.out, AN⟩
            case measure => rw [HW9.out]; exact HMS.out
          · have ej : j = L.length + 1 - k := by omega
            subst ej
            have hd : decide (((L.length + 1 - k : Nat) : Int) < ((L.length + 1 - k : Nat) : Int)) = false := by simp
            have JF := J.out
            rw [show k + (L.length + 1 - k) = M.length by omega, List.take_length, row_end HOL.out, ← PQ.out] at JF
            have FIN := Lib.hid (show Far (HasT p mb la) w wr ∧ ∃ g lc', TreeI wr B p q mb T0 ft fr (putOx L ⟨t, r, sq, nt, nr, pt, pr, nm, d⟩) (some ⟨g, 0, none⟩) lc' ∧ ((lgV la 0 0).ownBlock = some g ∨ w.heap.size ≤ g) from ⟨JF.far, g, cap, AddI.done HT.out JF, JF.gb⟩)
            obtain ⟨_, _, _, g3⟩ := box77 JF.b6
            have hw2 : wrap64 ((L.length : Int) - (k : Int)) = (L.length : Int) - (k : Int) := by unfold wrap64; omega
            clear JF J J0 b3 SLE
            go_wp2
            go_returns
            refine ⟨?_, .inr ⟨E.out, FIN.out⟩⟩
            rw [E.out, N.out]
            rfl
end Go.Proofs.YtbeodechhneeeaaGreatDoor



/-! ### of EX -/
set_option linter.unusedVariables false
set_option linter.unusedSimpArgs false
set_option maxRecDepth 100000
namespace Go.Proofs.YtbeodechhneeeaaGreatDoor
open Go.RowKit
open Tb (Rw setF dropF getF aboveF Rise TabI TM LiesK)

theorem okT_nil : OkT [] := fun x hx => by cases hx
end Go.Proofs.YtbeodechhneeeaaGreatDoor



/-! ### of EW -/
set_option linter.unusedVariables false
set_option linter.unusedSimpArgs false
set_option maxRecDepth 100000
namespace Go.Proofs.YtbeodechhneeeaaGreatDoor
open Go.RowKit Go.Shelf
open Tb (Rw setF dropF getF aboveF Rise TabI TM LiesK)

theorem TreeI.did {w : World} {B p q mb : Nat} {T0 : List Rw} {ft fr : Int} {L : List O} {la : Option Addr} {lc : Nat} (h : TreeI w B p q mb T0 ft fr L la lc) (hu : RiseO L) (hl : L.length ≤ 100000) (t r : Int) : Calls Tryz.prog 12 #[pv p, .agg #[.int .i64 t, .int .i64 r]] w fun e w' => e = .returned (.bool (didF (stepsF T0 L) t r)) ∧ Below w.heap.size w w' :=
  did_of w (pv p) _ ft fr la L.length lc (stepsF T0 L) t r h.haveL (lies_log h) (by rw [steps_o]; exact hu) (by rw [steps_len]; exact hl)
end Go.Proofs.YtbeodechhneeeaaGreatDoor



/-! ### of LF -/
set_option linter.unusedVariables false
set_option linter.unusedSimpArgs false
set_option maxRecDepth 100000
namespace Go.Proofs.YtbeodechhneeeaaGreatDoor
open Go.RowKit
open Tb (Rw setF dropF getF aboveF Rise TabI TM LiesK ltS)

/-- The log of a law's tree behind so many ops. -/
structure LG (L : List O) (i : Nat) : Prop where
  rise : RiseO L
  ok : OkL L
  right : ∀ o ∈ L, rO o = true
  len : L.length ≤ i
theorem LG.nil : LG [] 0 := ⟨List.Pairwise.nil, fun o h => (List.not_mem_nil h).elim, fun o h => (List.not_mem_nil h).elim, Nat.le_refl _⟩
theorem LG.up {L : List O} {i : Nat} (h : LG L i) : LG L (i + 1) := ⟨h.rise, h.ok, h.right, Nat.le_succ_of_le h.len⟩
theorem addE_zero {ft fr : Int} {L : List O} {o : O} (h : addE ft fr L o = 0) : rO o = true ∧ hasO L o.t o.r = false := by
  unfold addE at h
  cases h1 : rO o with
  | false => rw [if_pos h1] at h; cases h
  | true =>
    rw [if_neg (by rw [h1]; simp)] at h
    refine ⟨rfl, ?_⟩
    split at h
    · cases h
    · cases h2 : hasO L o.t o.r with
      | false => rfl
      | true => rw [if_pos h2] at h; cases h
theorem LG.put {L : List O} {i : Nat} (h : LG L i) {o : O} (ho : OkO o) (he : addE 0 0 L o = 0) : LG (putOx L o) (i + 1) := by
  obtain ⟨h1, h2⟩ := addE_zero he
  refine ⟨put_rise h.rise h2, fun a ha => ?_, fun a ha => ?_, ?_⟩
  · rcases put_mem.1 ha with rfl | ha
    · exact ho
    · exact h.ok a ha
  · rcases put_mem.1 ha with rfl | ha
    · exact h1
    · exact h.right a ha
  · rw [put_len]; have := h.len; omega
end Go.Proofs.YtbeodechhneeeaaGreatDoor



/-! ### of RZ -/
set_option linter.unusedVariables false
set_option linter.unusedSimpArgs false
set_option maxRecDepth 100000
namespace Go.Proofs.YtbeodechhneeeaaGreatDoor
open Go.RowKit Go.Shelf
open Tb (Rw setF getF aboveF Rise TabI TM LiesK LiesR)

end Go.Proofs.YtbeodechhneeeaaGreatDoor

set_option linter.unusedVariables false
set_option linter.unusedSimpArgs false
set_option maxRecDepth 100000
namespace Go.Proofs.YtbeodechhneeeaaGreatDoor
open Go.RowKit Go.Shelf
open Tb (Rw TabI TM LiesK)

section
variable {ops : Array Oper} {S : World → Prop} {op : Oper} {a : Act}
end
theorem addE_of {L : List O} {o : O} (ho : rO o = true) (hn : hasO L o.t o.r = false) : addE 0 0 L o = 0 := by
  unfold addE
  rw [if_neg (by rw [ho]; simp), if_neg ?_, if_neg (by rw [hn]; simp)]
  have ht : 1 ≤ o.t := by
    unfold rO rB St.rightB St.rT at ho
    simp only [Bool.and_eq_true, decide_eq_true_eq] at ho
    omega
  unfold St.cmpS Lib.compareInt
  rw [if_neg (by omega)]
  split
  · omega
  · split <;> omega
end Go.Proofs.YtbeodechhneeeaaGreatDoor

set_option linter.unusedVariables false
set_option linter.unusedSimpArgs false
set_option maxRecDepth 100000
namespace Go.Proofs.YtbeodechhneeeaaGreatDoor
open Go.RowKit Go.Shelf
open Tb (Rw TabI TM LiesK)

end Go.Proofs.YtbeodechhneeeaaGreatDoor

set_option linter.unusedVariables false
set_option linter.unusedSimpArgs false
set_option maxRecDepth 100000
namespace Go.Proofs.YtbeodechhneeeaaGreatDoor
open Go.RowKit Go.Shelf
open Tb (Rw setF getF aboveF Rise TabI TM LiesK LiesR ltS)

theorem rdid_none : ∀ (L : List O) (T : List Rw) (t r : Int), hasO L t r = false → rdidF T L t r = false
  | [], _, _, _, _ => rfl
  | o :: L, T, t, r, h => by
    have h : (decide (o.t = t ∧ o.r = r) || hasO L t r) = false := h
    obtain ⟨h1, h2⟩ := Bool.or_eq_false_iff.1 h
    unfold rdidF
    rw [if_neg (of_decide_eq_false h1)]
    exact rdid_none L _ t r h2
theorem rdid_did : ∀ (L : List O) (T : List Rw) (t r : Int), RiseO L → didF (stepsF T L) t r = rdidF T L t r
  | [], _, _, _, _ => rfl
  | o :: L, T, t, r, h => by
    obtain ⟨h1, h2⟩ := List.pairwise_cons.1 h
    have ih := rdid_did L (doF T o) t r h2
    unfold didF at ih ⊢
    rw [steps_o] at ih ⊢
    unfold rdidF
    show ((decide (o.t = t ∧ o.r = r) || hasO L t r) && (((stepF T o :: stepsF (doF T o) L)[posF (o :: L) t r]?).map (·.did)).getD false) = _
    rcases ltS_tri o.t o.r t r with ⟨q, q2, _⟩ | ⟨q, q2, _⟩ | ⟨q, q2, q3⟩
    · have e1 : posF (o :: L) t r = posF L t r + 1 := by
        unfold posF
        rw [List.filter_cons_of_pos (p := fun x => ltO x t r) (show ltO o t r = true from q)]
        rfl
      rw [if_neg q2, e1, decide_eq_false q2, Bool.false_or, List.getElem?_cons_succ]
      exact ih
    · have e1 : posF (o :: L) t r = 0 := by
        unfold posF
        rw [List.filter_cons_of_neg (p := fun x => ltO x t r) (by show ¬ ltS o.t o.r t r = true; rw [q]; simp), List.filter_eq_nil_iff.2 (fun b hb hc => by
          have h4 := ltS_trans (h1 b hb) (show ltS b.t b.r t r = true from hc)
          rw [q2.1, q2.2, ltS_irr] at h4; cases h4)]
        rfl
      rw [if_pos q2, e1, decide_eq_true q2]
      show (true && ((some (stepF T o)).map (·.did)).getD false) = _
      unfold stepF
      cases hs : skipF T o with
      | true => rw [if_pos rfl]; rfl
      | false => rw [if_neg (by simp)]; rfl
    · have hn : hasO L t r = false := List.any_eq_false.2 (fun b hb hc => by
        have hc := of_decide_eq_true hc
        have h4 := ltS_trans q3 (h1 b hb)
        rw [hc.1, hc.2, ltS_irr] at h4; cases h4)
      rw [if_neg q2, decide_eq_false q2, hn, rdid_none L _ t r hn]
      rfl
end Go.Proofs.YtbeodechhneeeaaGreatDoor

set_option linter.unusedVariables false
set_option linter.unusedSimpArgs false
set_option maxRecDepth 100000
namespace Go.Proofs.YtbeodechhneeeaaGreatDoor
open Go.RowKit Go.Shelf
open Tb (Rw setF dropF getF aboveF Rise TabI TM LiesK TOut)
end Go.Proofs.YtbeodechhneeeaaGreatDoor

set_option linter.unusedVariables false
set_option linter.unusedSimpArgs false
set_option maxRecDepth 100000
namespace Go.Proofs.YtbeodechhneeeaaGreatDoor
open Go.RowKit Go.Shelf
open Tb (Rw TabI TM LiesK ltS Rise)

end Go.Proofs.YtbeodechhneeeaaGreatDoor

set_option linter.unusedVariables false
set_option linter.unusedSimpArgs false
set_option maxRecDepth 100000
namespace Go.Proofs.YtbeodechhneeeaaGreatDoor
open Go.RowKit Go.Shelf
open Tb (Rw TabI TM LiesK ltS)

theorem less_lt (x y : O) : lessO x y = ltS x.t x.r y.t y.r := by
  unfold lessO St.lessB ltS
  by_cases h : x.t = y.t
  · simp [h]
  · simp [h]
theorem fold_truex (x : O) : ∀ (u acc : List O), u.foldl (stepO x) (acc, true) = (acc ++ u, true)
  | [], acc => by simp
  | y :: u, acc => by
    rw [List.foldl_cons, show stepO x (acc, true) y = (acc ++ [y], true) from by unfold stepO; simp, fold_truex x u]
    simp
theorem fold_put (x : O) : ∀ (u acc : List O), RiseO u → hasO u x.t x.r = false → (if (u.foldl (stepO x) (acc, false)).2 then (u.foldl (stepO x) (acc, false)).1 else (u.foldl (stepO x) (acc, false)).1 ++ [x]) = acc ++ putOx u x
  | [], acc, _, _ => rfl
  | y :: u, acc, h, hn => by
    obtain ⟨h1, h2⟩ := List.pairwise_cons.1 h
    have hn : (decide (y.t = x.t ∧ y.r = x.r) || hasO u x.t x.r) = false := hn
    obtain ⟨n1, n2⟩ := Bool.or_eq_false_iff.1 hn
    have n1 := of_decide_eq_false n1
    rw [List.foldl_cons]
    rcases ltS_tri y.t y.r x.t x.r with ⟨q, _, q3⟩ | ⟨_, q, _⟩ | ⟨q, _, q3⟩
    · rw [show stepO x (acc, false) y = (acc ++ [y], false) from by unfold stepO; rw [less_lt, q3]; simp, fold_put x u (acc ++ [y]) h2 n2]
      have e : posF (y :: u) x.t x.r = posF u x.t x.r + 1 := by
        unfold posF
        rw [List.filter_cons_of_pos (p := fun z => ltO z x.t x.r) (show ltO y x.t x.r = true from q)]
        rfl
      unfold putOx
      rw [e, List.take_succ_cons, List.drop_succ_cons]
      simp
    · exact absurd q n1
    · rw [show stepO x (acc, false) y = (acc ++ [x, y], true) from by unfold stepO; rw [less_lt, q3]; simp, fold_truex]
      have e : posF (y :: u) x.t x.r = 0 := by
        unfold posF
        rw [List.filter_eq_nil_iff.2 (fun b hb hc => by
          have hc : ltS b.t b.r x.t x.r = true := hc
          rcases List.mem_cons.1 hb with rfl | hb
          · rw [q] at hc; cases hc
          · have h4 := ltS_trans (h1 b hb) hc
            rw [q] at h4; cases h4)]
        rfl
      unfold putOx
      rw [e]
      simp
theorem ins_put {u : List O} {x : O} (h : RiseO u) (hn : hasO u x.t x.r = false) : insO x u = putOx u x := fold_put x u [] h hn
end Go.Proofs.YtbeodechhneeeaaGreatDoor

set_option linter.unusedVariables false
set_option linter.unusedSimpArgs false
set_option maxRecDepth 100000
namespace Go.Proofs.YtbeodechhneeeaaGreatDoor
open Go.RowKit Go.Shelf
open Tb (Rw TabI TM LiesK ltS)

end Go.Proofs.YtbeodechhneeeaaGreatDoor

set_option linter.unusedVariables false
set_option linter.unusedSimpArgs false
set_option maxRecDepth 100000
namespace Go.Proofs.YtbeodechhneeeaaGreatDoor
open Go.RowKit Go.Shelf
open Tb (Rw setF getF aboveF Rise TabI TM LiesK LiesR ltS)

end Go.Proofs.YtbeodechhneeeaaGreatDoor

set_option linter.unusedVariables false
set_option linter.unusedSimpArgs false
set_option maxRecDepth 100000
namespace Go.Proofs.YtbeodechhneeeaaGreatDoor
open Go.RowKit Go.Shelf
open Tb (Rw setF getF aboveF Rise TabI TM LiesK LiesR ltS)

end Go.Proofs.YtbeodechhneeeaaGreatDoor

set_option linter.unusedVariables false
set_option linter.unusedSimpArgs false
set_option maxRecDepth 100000
namespace Go.Proofs.YtbeodechhneeeaaGreatDoor
open Go.RowKit Go.Shelf
open Tb (Rw TabI TM LiesK)

end Go.Proofs.YtbeodechhneeeaaGreatDoor

set_option linter.unusedVariables false
set_option linter.unusedSimpArgs false
set_option maxRecDepth 100000
namespace Go.Proofs.YtbeodechhneeeaaGreatDoor
open Go.RowKit Go.Shelf
open Tb (Rw setF getF aboveF Rise TabI TM LiesK LiesR ltS)

end Go.Proofs.YtbeodechhneeeaaGreatDoor

set_option linter.unusedVariables false
set_option linter.unusedSimpArgs false
set_option maxRecDepth 100000
namespace Go.Proofs.YtbeodechhneeeaaGreatDoor
open Go.RowKit Go.Shelf
open Tb (Rw setF getF aboveF Rise TabI TM LiesK LiesR ltS)

end Go.Proofs.YtbeodechhneeeaaGreatDoor

set_option linter.unusedVariables false
set_option linter.unusedSimpArgs false
set_option maxRecDepth 100000
namespace Go.Proofs.YtbeodechhneeeaaGreatDoor
open Go.RowKit Go.Shelf
open Tb (Rw setF getF aboveF Rise TabI TM LiesK LiesR ltS)

section
variable {w W W' : World} {k6 p q mb : Nat} {a b : Int} {T0 : List Rw} {ft fr : Int} {L : List O} {la : Option Addr} {lc : Nat} {T1 : List Rw} {gt gr : Int} {M : List O} {ba : Option Addr} {bn bc : Nat} {ra : Option Addr} {rc : Nat}
end
end Go.Proofs.YtbeodechhneeeaaGreatDoor


