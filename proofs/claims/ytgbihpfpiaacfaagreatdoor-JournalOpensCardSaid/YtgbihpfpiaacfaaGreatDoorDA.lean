/- A disk's files: what a map of them holds, set, dropped, asked, gone through. Made by genda10.py. -/
import Derived.Test.YtgbihpfpiaacfaaGreatDoorRows
import Derived.Test.YtgbihpfpiaacfaaGreatDoorRk
import Derived.Test.YtgbihpfpiaacfaaGreatDoorDM
import Derived.WalkKit
import Derived.OwnWalk
import Derived.Maps.OwnSet
import Derived.Maps.RangeWalk
import Derived.DeepKeys4
import Derived.KernelRfl
set_option linter.unusedVariables false
set_option linter.unusedSimpArgs false
set_option maxRecDepth 100000
namespace Go.Proofs.YtgbihpfpiaacfaaGreatDoor
open Go.RowKit Go.WideMaps Go.Maps Go.WideShapes Go.ChangeMaps

/-- A file: its name, its bytes' slice, its bytes, how many are sure. -/
structure Fl where
  n : ByteArray
  a : Option Addr
  c : Nat
  b : List Int
  s : Int
def Fl.v (x : Fl) : Value := .slice x.a x.b.length x.c
abbrev fv (x : Fl) : Value := .agg #[.slice x.a x.b.length x.c, .int .i64 x.s]
def ltF (x y : Fl) : Bool := ltB x.n y.n
def isN (s : ByteArray) (x : Fl) : Bool := decide (x.n = s)
def sameN (x y : Fl) : Bool := decide (x.n = y.n)
def Rise (l : List Fl) : Prop := l.Pairwise (fun x y => ltF x y = true)
theorem lt_tri (x y : Fl) : (ltF x y = true ∧ sameN x y = false ∧ ltF y x = false) ∨ (ltF x y = false ∧ sameN x y = true ∧ ltF y x = false) ∨ (ltF x y = false ∧ sameN x y = false ∧ ltF y x = true) := by
  unfold ltF sameN
  cases h : ltB x.n y.n with
  | true =>
    left
    refine ⟨rfl, decide_eq_false (fun e => ?_), ltB_asymm h⟩
    rw [e, ltB_irrefl] at h; cases h
  | false =>
    cases h2 : ltB y.n x.n with
    | true =>
      right; right
      refine ⟨rfl, decide_eq_false (fun e => ?_), rfl⟩
      rw [e, ltB_irrefl] at h2; cases h2
    | false =>
      right; left
      exact ⟨rfl, decide_eq_true (ltB_total h h2), rfl⟩
theorem lt_trans' {x y z : Fl} (h1 : ltF x y = true) (h2 : ltF y z = true) : ltF x z = true := ltB_trans h1 h2
def setF (l : List Fl) (x : Fl) : List Fl := l.filter (fun y => ltF y x) ++ x :: l.filter (fun y => ltF x y)
def dropF (l : List Fl) (s : ByteArray) : List Fl := l.filter (fun y => !isN s y)
def getF (l : List Fl) (s : ByteArray) : Option Fl := l.find? (isN s)
theorem mem_set {l : List Fl} {x y : Fl} : y ∈ setF l x ↔ y = x ∨ (y ∈ l ∧ sameN y x = false) := by
  unfold setF
  rw [List.mem_append, List.mem_cons, List.mem_filter, List.mem_filter]
  rcases lt_tri y x with ⟨a, b, c⟩ | ⟨a, b, c⟩ | ⟨a, b, c⟩ <;> simp only [a, b, c] <;> simp
  exact or_comm
theorem rise_set {l : List Fl} (h : Rise l) (x : Fl) : Rise (setF l x) := by
  unfold Rise setF
  refine List.pairwise_append.2 ⟨h.filter _, List.pairwise_cons.2 ⟨fun y hy => (List.mem_filter.1 hy).2, h.filter _⟩, fun y hy z hz => ?_⟩
  have h1 := (List.mem_filter.1 hy).2
  rcases List.mem_cons.1 hz with rfl | hz
  · exact h1
  · exact lt_trans' h1 (List.mem_filter.1 hz).2
theorem set_perm {l : List Fl} (x : Fl) : (setF l x).Perm (x :: l.filter (fun y => !sameN y x)) := by
  unfold setF
  refine List.perm_middle.trans (List.Perm.cons _ ?_)
  have h := List.filter_append_perm (fun y => ltF y x) (l.filter (fun y => !sameN y x))
  rw [List.filter_filter, List.filter_filter] at h
  have e1 : (fun y => ltF y x && !sameN y x) = (fun y => ltF y x) := by
    funext y
    rcases lt_tri y x with ⟨a, b, c⟩ | ⟨a, b, c⟩ | ⟨a, b, c⟩ <;> simp [a, b]
  have e2 : (fun y => (!ltF y x) && !sameN y x) = (fun y => ltF x y) := by
    funext y
    rcases lt_tri y x with ⟨a, b, c⟩ | ⟨a, b, c⟩ | ⟨a, b, c⟩ <;> simp [a, b, c]
  rw [e1, e2] at h
  exact h
theorem irrF (z : Fl) : ltF z z = false := ltB_irrefl _
theorem rise_one {l : List Fl} (h : Rise l) {x y : Fl} (hx : x ∈ l) (hy : y ∈ l) (hs : sameN x y = true) : x = y := by
  induction l with
  | nil => cases hx
  | cons a l ih =>
    obtain ⟨h1, h2⟩ := List.pairwise_cons.1 h
    have hs' : sameN y x = true := by unfold sameN at *; simpa using (of_decide_eq_true hs).symm
    rcases List.mem_cons.1 hx with e1 | m1
    · rcases List.mem_cons.1 hy with e2 | m2
      · rw [e1, e2]
      · have := h1 _ m2
        rw [e1] at hs hs'
        rcases lt_tri a y with ⟨q1, q2, q3⟩ | ⟨q1, q2, q3⟩ | ⟨q1, q2, q3⟩ <;> simp_all
    · rcases List.mem_cons.1 hy with e2 | m2
      · have := h1 _ m1
        rw [e2] at hs hs'
        rcases lt_tri a x with ⟨q1, q2, q3⟩ | ⟨q1, q2, q3⟩ | ⟨q1, q2, q3⟩ <;> simp_all
      · exact ih h2 m1 m2
theorem get_some {l : List Fl} (h : Rise l) {s : ByteArray} {x : Fl} : getF l s = some x ↔ x ∈ l ∧ x.n = s := by
  unfold getF
  constructor
  · intro e
    have h1 := List.mem_of_find?_eq_some e
    have h2 := List.find?_some e
    unfold isN at h2
    exact ⟨h1, by simpa using h2⟩
  · rintro ⟨h1, h2⟩
    cases e : l.find? (isN s) with
    | none => exact absurd (List.find?_eq_none.1 e x h1) (by unfold isN; simp [h2])
    | some y =>
      have a := List.mem_of_find?_eq_some e
      have b := List.find?_some e
      unfold isN at b
      simp at b
      rw [rise_one h a h1 (by unfold sameN; simp [b, h2])]
theorem get_none {l : List Fl} {s : ByteArray} : getF l s = none ↔ ∀ x ∈ l, ¬ (x.n = s) := by
  unfold getF
  rw [List.find?_eq_none]
  unfold isN
  simp
/-! ### the map -/
theorem slaw : Keyed Tryz.prog 9 := string_keyed Tryz.underlying9
def KL (s : ByteArray) : Lit := .string s.data.toList
theorem ba_ext' {s t : ByteArray} (h : s.data.toList = t.data.toList) : s = t := by
  cases s; cases t
  simp at h
  subst h
  rfl
theorem kl_inj {s t : ByteArray} (h : KL s = KL t) : s = t := by
  unfold KL at h
  injection h with h
  exact ba_ext' h
theorem kl_key {s : ByteArray} (hs : s.size ≤ maxLen) : keyOf Tryz.prog 9 (.string s) = some (KL s) := keyOf_string_mk Tryz.underlying9 hs
theorem kl_lit (s : ByteArray) : WideAt.IsKeyLit (KL s) := trivial
abbrev RR := Value → Option (DataW Value × List MemPlace)
def heldR : RR := fun v => some (.held v, [])
def en (x : Fl) : Lit × DataW Value := (KL x.n, .held (fv x))
def OkF (l : List Fl) : Prop := ∀ x ∈ l, x.n.size ≤ maxLen
def DM (w : World) (b : Nat) (l : List Fl) : Prop := ∃ es : List (Lit × DataW Value), w.ownsMap Tryz.prog 9 heldR b l.length (.map es) ∧ es.Perm (l.map en) ∧ OkF l ∧ Rise l
theorem own_tight {w : World} {b n : Nat} {D : DataW Value} (h : w.ownsMap Tryz.prog 9 heldR b n D) : w.ownsMap Tryz.prog 9 heldR b (Maps.size D) D := by
  obtain ⟨es, clock, hb, F, hs, rfl⟩ := h
  exact ⟨es, clock, hb, F, by simp [Maps.size, length_sorted], rfl⟩
theorem DM.lt {w : World} {b : Nat} {l : List Fl} (h : DM w b l) : b < w.heap.size := by obtain ⟨es, h, _⟩ := h; exact h.lt
theorem DM.grown {w w' : World} {b : Nat} {l : List Fl} {row : Option Nat} (h : DM w b l) (hg : w.grownBy w' row) (hne : some b ≠ row) : DM w' b l := by
  obtain ⟨es, h1, h2⟩ := h; exact ⟨es, h1.kept hg hne, h2⟩
theorem DM.step {w w' : World} {b : Nat} {l : List Fl} (h : DM w b l) (hb : Below w.heap.size w w') : DM w' b l :=
  h.grown (row := none) ⟨hb.os, hb.tape, hb.output, hb.size, fun k hk _ => hb.block k hk⟩ (by simp)
theorem DM.made (w : World) : DM (w.alloc (.map #[] 0)) w.heap.size [] := ⟨[], World.ownsMap_made _ _ _ _, .refl _, (fun x hx => by cases hx), List.Pairwise.nil⟩
theorem DM.rise {w : World} {b : Nat} {l : List Fl} (h : DM w b l) : Rise l := by obtain ⟨es, _, _, _, h⟩ := h; exact h
theorem DM.oks {w : World} {b : Nat} {l : List Fl} (h : DM w b l) : OkF l := by obtain ⟨es, _, _, h, _⟩ := h; exact h
theorem same_kl {s t : ByteArray} : (KL s).sameKey (KL t) = decide (s = t) := by
  by_cases h : s = t
  · rw [h, decide_eq_true rfl, WideAt.sameKey_self (kl_lit t)]
  · rw [decide_eq_false h]
    cases hs : (KL s).sameKey (KL t) with
    | false => rfl
    | true => exact absurd (kl_inj (WideAt.sameKey_eq hs)) h
theorem filter_en {l : List Fl} {s : ByteArray} : (l.map en).filter (fun p => !p.1.sameKey (KL s)) = (l.filter (fun y => !isN s y)).map en := by
  rw [List.filter_map]
  refine congrArg (List.map en) (List.filter_congr (fun x hx => ?_))
  show (!(KL x.n).sameKey (KL s)) = _
  rw [same_kl]
  rfl
theorem en_at {es : List (Lit × DataW Value)} {l : List Fl} (h2 : es.Perm (l.map en)) (h4 : Rise l) {x : Fl} (hx : x ∈ l) (z : DataW Value) : DataW.atKey (.map es) (KL x.n) z = .held (fv x) := by
  have hin : en x ∈ es := h2.mem_iff.2 (List.mem_map.2 ⟨x, hx, rfl⟩)
  have hself : (en x).1.sameKey (KL x.n) = true := WideAt.sameKey_self (kl_lit x.n)
  unfold DataW.atKey
  dsimp only
  cases hf : es.find? (fun p => p.1.sameKey (KL x.n)) with
  | none => exact absurd hself (List.find?_eq_none.1 hf _ hin)
  | some p =>
    have a := List.mem_of_find?_eq_some hf
    have b := List.find?_some hf
    obtain ⟨y, hy, rfl⟩ := List.mem_map.1 (h2.mem_iff.1 a)
    have b2 : (KL y.n).sameKey (KL x.n) = true := b
    rw [same_kl] at b2
    have := rise_one h4 hy hx (by unfold sameN; exact b2)
    subst this
    rfl
theorem en_has {es : List (Lit × DataW Value)} {l : List Fl} (h2 : es.Perm (l.map en)) {x : Fl} (hx : x ∈ l) : Maps.has (.map es) (KL x.n) = true := by
  rw [Maps.has_eq, List.any_eq_true]
  exact ⟨en x, h2.mem_iff.2 (List.mem_map.2 ⟨x, hx, rfl⟩), WideAt.sameKey_self (kl_lit x.n)⟩
theorem has_en {es : List (Lit × DataW Value)} {l : List Fl} (h2 : es.Perm (l.map en)) {kl : Lit} (h : Maps.has (.map es) kl = true) : ∃ x ∈ l, kl = KL x.n := by
  rw [Maps.has_eq, List.any_eq_true] at h
  obtain ⟨p, hp, hs⟩ := h
  obtain ⟨x, hx, rfl⟩ := List.mem_map.1 (h2.mem_iff.1 hp)
  exact ⟨x, hx, (WideAt.sameKey_eq hs).symm⟩
abbrev f0v : Value := .agg #[.slice none 0 0, .int .i64 0]
def gvF (l : List Fl) (s : ByteArray) : Value := match getF l s with | some x => fv x | none => f0v
theorem zeroF (w : World) : (zeroValue 82).run Tryz.prog w = .ok f0v w := by kernel_rfl
theorem DM.look {w : World} {b : Nat} {l : List Fl} (h : DM w b l) {s : ByteArray} (hs : s.size ≤ maxLen) :
    (Instr.lookup 68 (.map (some b)) (.string s) true).run Tryz.prog w = .ok (.tuple #[gvF l s, .bool (getF l s).isSome]) w := by
  obtain ⟨es, h1, h2, h3, h4⟩ := h
  obtain ⟨v, ps, hrun, hv⟩ := h1.look_ok slaw Tryz.underlying68 (zeroF w) (zd := .held f0v) (zp := []) rfl (kl_key hs)
  have hv2 : DataW.held v = DataW.atKey (.map es) (KL s) (.held f0v) := by
    unfold heldR at hv
    injection hv with hv
    injection hv
  rw [hrun]
  unfold gvF
  cases hg : getF l s with
  | none =>
    have hn := get_none.1 hg
    have hf : ∀ p ∈ es, ¬ p.1.sameKey (KL s) = true := fun p hp hq => by
      obtain ⟨x, hx, rfl⟩ := List.mem_map.1 (h2.mem_iff.1 hp)
      have : (KL x.n).sameKey (KL s) = true := hq
      rw [same_kl] at this
      exact hn x hx (of_decide_eq_true this)
    have e1 : Maps.has (.map es) (KL s) = false := by
      rw [Maps.has_eq, List.any_eq_false]
      exact hf
    have e2 : DataW.atKey (.map es) (KL s) (.held f0v) = .held f0v := by
      unfold DataW.atKey
      dsimp only
      rw [List.find?_eq_none.2 hf]
    rw [e2] at hv2
    injection hv2 with hv2
    rw [e1, hv2]
    rfl
  | some x =>
    obtain ⟨hx, rfl⟩ := (get_some h4).1 hg
    rw [en_at h2 h4 hx] at hv2
    injection hv2 with hv2
    rw [en_has h2 hx, hv2]
    rfl
theorem DM.look1 {w : World} {b : Nat} {l : List Fl} (h : DM w b l) {s : ByteArray} (hs : s.size ≤ maxLen) :
    (Instr.lookup 68 (.map (some b)) (.string s) false).run Tryz.prog w = .ok (gvF l s) w := by
  obtain ⟨es, h1, h2, h3, h4⟩ := h
  obtain ⟨v, ps, hrun, hv⟩ := h1.lookup slaw Tryz.underlying68 (zeroF w) (zd := .held f0v) (zp := []) rfl (kl_key hs)
  have hv2 : DataW.held v = DataW.atKey (.map es) (KL s) (.held f0v) := by
    unfold heldR at hv
    injection hv with hv
    injection hv
  rw [hrun]
  unfold gvF
  cases hg : getF l s with
  | none =>
    have hn := get_none.1 hg
    have hf : ∀ p ∈ es, ¬ p.1.sameKey (KL s) = true := fun p hp hq => by
      obtain ⟨x, hx, rfl⟩ := List.mem_map.1 (h2.mem_iff.1 hp)
      have : (KL x.n).sameKey (KL s) = true := hq
      rw [same_kl] at this
      exact hn x hx (of_decide_eq_true this)
    have e2 : DataW.atKey (.map es) (KL s) (.held f0v) = .held f0v := by
      unfold DataW.atKey
      dsimp only
      rw [List.find?_eq_none.2 hf]
    rw [e2] at hv2
    injection hv2 with hv2
    rw [hv2]
  | some x =>
    obtain ⟨hx, rfl⟩ := (get_some h4).1 hg
    rw [en_at h2 h4 hx] at hv2
    injection hv2 with hv2
    rw [hv2]
theorem DM.put {w : World} {b : Nat} {l : List Fl} (h : DM w b l) {x : Fl} (hx : x.n.size ≤ maxLen) (hn : l.length < maxLen) :
    ∃ w', (Instr.mapUpdate 68 (.map (some b)) (.string x.n) (fv x)).run Tryz.prog w = .ok () w' ∧ DM w' b (setF l x) ∧ w.grownBy w' (some b) := by
  obtain ⟨es, h1, h2, h3, h4⟩ := h
  obtain ⟨w', hrun, ho, hg⟩ := h1.update slaw Tryz.underlying68 hn (kl_key hx) (d := .held (fv x)) (ps := []) rfl
  have hp : (DataW.insert (KL x.n, DataW.held (fv x)) (es.filter fun p => !p.1.sameKey (KL x.n))).Perm ((setF l x).map en) := by
    refine (insert_perm _ _).trans ?_
    have a := h2.filter (fun p => !p.1.sameKey (KL x.n))
    rw [filter_en] at a
    exact (a.cons (en x)).trans ((set_perm x).map en).symm
  have hl : (setF l x).length = Maps.size (.map (DataW.insert (KL x.n, DataW.held (fv x)) (es.filter fun p => !p.1.sameKey (KL x.n)))) := by
    rw [Maps.size_eq, hp.length_eq, List.length_map]
  refine ⟨w', hrun, ⟨_, by rw [hl]; exact own_tight ho, hp, fun y hy => ?_, rise_set h4 x⟩, hg⟩
  rcases mem_set.1 hy with rfl | ⟨hy, _⟩
  · exact hx
  · exact h3 y hy
theorem DM.drop {w : World} {b : Nat} {l : List Fl} (h : DM w b l) {s : ByteArray} (hs : s.size ≤ maxLen) (ty : TypeId) :
    ∃ w', (Builtin.delete_ #[68, 9] ty #[.map (some b), .string s]).run Tryz.prog w = .ok (.tuple #[]) w' ∧ DM w' b (dropF l s) ∧ w.grownBy w' (some b) := by
  obtain ⟨es, h1, h2, h3, h4⟩ := h
  obtain ⟨w', hrun, ho, hg⟩ := h1.drop slaw Tryz.underlying68 (kl_key hs) ty
  have hp : (es.filter fun p => !p.1.sameKey (KL s)).Perm ((dropF l s).map en) := by
    have a := h2.filter (fun p => !p.1.sameKey (KL s))
    rw [filter_en] at a
    exact a
  have hl : (dropF l s).length = Maps.size (.map (es.filter fun p => !p.1.sameKey (KL s))) := by
    rw [Maps.size_eq, hp.length_eq, List.length_map]
  refine ⟨w', hrun, ⟨_, by rw [hl]; exact own_tight ho, hp, fun y hy => h3 y (List.mem_filter.1 hy).1, h4.filter _⟩, ?_⟩
  obtain ⟨es0, clock, es', clock', hb, rfl⟩ := hg
  exact ⟨rfl, rfl, rfl, by simp [setBlock], fun i _ hi => heap_setBlock_other hb _ (fun e => hi (by rw [e]))⟩
theorem key_inv {key : Value} {kl : Lit} (h : keyOf Tryz.prog 9 key = some kl) : ∃ s, key = .string s := by
  rw [keyOf_string Tryz.underlying9] at h
  unfold mapKey at h
  rw [Tryz.underlying9] at h
  cases key <;> simp at h
  exact ⟨_, rfl⟩
/-- A range over the map, `done` having come. -/
def DRg (w : World) (b r : Nat) (l done : List Fl) : Prop := ∃ es left cnt, w.ranges Tryz.prog 9 heldR b r l.length (.map es) left cnt ∧ es.Perm (l.map en) ∧ OkF l ∧ Rise l ∧ (∀ x ∈ l, left (KL x.n) = true ↔ x ∉ done) ∧ done.Nodup ∧ ∀ x ∈ done, x ∈ l
theorem DRg.tm {w : World} {b r : Nat} {l done : List Fl} (h : DRg w b r l done) : DM w b l := by
  obtain ⟨es, left, cnt, h1, h2, h3, h4, _⟩ := h
  exact ⟨es, h1.owns, h2, h3, h4⟩
theorem DRg.kept {w w' : World} {b r : Nat} {l done : List Fl} {row : Option Nat} (h : DRg w b r l done) (hg : w.grownBy w' row) (hb : some b ≠ row) (hr : some r ≠ row) : DRg w' b r l done ∧ w'.rangeLeft b r = w.rangeLeft b r := by
  obtain ⟨es, left, cnt, h1, h2⟩ := h
  have h' := h1.kept hg hb hr
  exact ⟨⟨es, left, cnt, h', h2⟩, h'.left_eq.trans h1.left_eq.symm⟩
theorem DM.range {w : World} {b : Nat} {l : List Fl} (h : DM w b l) : ∃ w', (Instr.range 68 (.map (some b))).run Tryz.prog w = .ok (.pointer (some ⟨w.heap.size, 0, none⟩)) w' ∧ DRg w' b w.heap.size l [] ∧ w.grownBy w' none ∧ w'.heap.size = w.heap.size + 1 := by
  obtain ⟨es, h1, h2, h3, h4⟩ := h
  obtain ⟨w', r1, r2, r3, r4⟩ := h1.range slaw Tryz.underlying68
  refine ⟨w', r1, ⟨es, _, _, r2, h2, h3, h4, fun x hx => ?_, List.nodup_nil, fun x hx => by cases hx⟩, r3, r4⟩
  rw [en_has h2 hx]
  simp
theorem DRg.next {w : World} {b r : Nat} {l done : List Fl} (h : DRg w b r l done) (ty : TypeId) :
    ((∀ x ∈ l, x ∈ done) ∧ (Instr.next (.pointer (some ⟨r, 0, none⟩)) false ty).run Tryz.prog w = .ok (.tuple #[.bool false]) w) ∨
    ∃ x w', x ∈ l ∧ x ∉ done ∧ (Instr.next (.pointer (some ⟨r, 0, none⟩)) false ty).run Tryz.prog w = .ok (.tuple #[.bool true, .string x.n, fv x]) w' ∧ DRg w' b r l (done ++ [x]) ∧ w'.rangeLeft b r < w.rangeLeft b r ∧ w.grownBy w' (some r) ∧ w'.heap.size = w.heap.size ∧
      (Instr.entry (.pointer (some ⟨r, 0, none⟩))).run Tryz.prog w' = .ok (.tuple #[.string x.n, fv x]) w' := by
  obtain ⟨es, left, cnt, h1, h2, h3, h4, h5, h6, h7⟩ := h
  rcases h1.next slaw ty with ⟨hc, hl, hrun⟩ | ⟨key, v, kl, y, w', cnt', hkey, hlk, hv, hat, hrun, hrg, hlt, hgr, hsz, hen⟩
  · refine .inl ⟨fun x hx => ?_, hrun⟩
    have := h5 x hx
    rw [hl] at this
    simpa using this
  · obtain ⟨s, rfl⟩ := key_inv hkey
    have hhas : Maps.has (.map es) kl = true := by
      cases hh : Maps.has (.map es) kl with
      | true => rfl
      | false => exact absurd (Maps.atKey_of_not_has hh) (fun hz => by
          have e1 := hat (.lit (.bool true))
          rw [hz] at e1
          unfold heldR at hv
          injection hv with hv
          rw [← hv] at e1
          cases e1)
    obtain ⟨x, hx, rfl⟩ := has_en h2 hhas
    have hk2 := kl_key (h3 x hx)
    have := slaw.inj hkey hk2
    injection this with this
    subst this
    have hv2 : v = fv x := by
      have e1 := hat (.lit (.bool true))
      rw [en_at h2 h4 hx] at e1
      unfold heldR at hv
      injection hv with hv
      rw [← hv] at e1
      injection e1 with e1
      exact e1.symm
    subst hv2
    have hnd := (h5 x hx).1 hlk
    refine .inr ⟨x, w', hx, hnd, hrun, ⟨es, _, cnt', hrg, h2, h3, h4, fun z hz => ?_, ?_, fun z hz => ?_⟩, by rw [hrg.left_eq, h1.left_eq]; exact hlt, hgr, hsz, hen⟩
    · rw [Bool.and_eq_true, h5 z hz, List.mem_append, List.mem_singleton, same_kl]
      constructor
      · rintro ⟨a, b⟩ c
        rcases c with c | c
        · exact a c
        · subst c; simp at b
      · intro a
        refine ⟨fun c => a (.inl c), ?_⟩
        have hne : ¬ (z.n = x.n) := fun e => a (.inr (rise_one h4 hz hx (by unfold sameN; exact decide_eq_true e)))
        rw [decide_eq_false hne]
        rfl
    · rw [List.nodup_append]
      exact ⟨h6, by simp, fun a ha b hb => by rw [List.mem_singleton] at hb; subst hb; rintro rfl; exact hnd ha⟩
    · rcases List.mem_append.1 hz with hz | hz
      · exact h7 z hz
      · rw [List.mem_singleton] at hz; subst hz; exact hx
theorem rise_nodup {l : List Fl} (h : Rise l) : l.Nodup := h.imp (fun {a b} hab e => by subst e; rw [irrF] at hab; cases hab)
theorem DRg.all {w : World} {b r : Nat} {l done : List Fl} (h : DRg w b r l done) (ha : ∀ x ∈ l, x ∈ done) : done.Perm l := by
  obtain ⟨es, left, cnt, h1, h2, h3, h4, h5, h6, h7⟩ := h
  exact (List.perm_ext_iff_of_nodup h6 (rise_nodup h4)).2 (fun x => ⟨h7 x, ha x⟩)
theorem DRg.len {w : World} {b r : Nat} {l done : List Fl} (h : DRg w b r l done) : done.length ≤ l.length := by
  obtain ⟨es, left, cnt, _, _, _, h4, _, h6, h7⟩ := h
  exact List.Nodup.length_le_of_subset h6 h7
section
variable {w : World} {ops : Array Oper} {rest : List Oper} {o : Oper} {a : Act} {Q : Exit → Act → World → Prop}
theorem wpList_drange (hg : o.guard = none) (m : Operand) (hop : o.op = Op.range 68 m) (b : Nat) (l : List Fl) (hm : a.eval m = .map (some b)) (h : DM w b l)
    (hK : ∀ w', DRg w' b w.heap.size l [] → w.grownBy w' none → w'.heap.size = w.heap.size + 1 → wpList Tryz.prog ops Q rest (a.put o.dst (.pointer (some ⟨w.heap.size, 0, none⟩))) w') : wpList Tryz.prog ops Q (o :: rest) a w := by
  refine wpList_plain hg fun K' hK' => ?_
  obtain ⟨w', hrun, r1, r2, r3⟩ := h.range
  unfold Oper.wp
  simp [execOp, hop, hm, hrun, Result.andThen]
  exact hK' _ _ (hK w' r1 r2 r3)
theorem wpList_dnext (hg : o.guard = none) (it : Operand) (hop : o.op = Op.next it false) (b r : Nat) (l done : List Fl) (hit : a.eval it = .pointer (some ⟨r, 0, none⟩)) (h : DRg w b r l done)
    (hDone : (∀ x ∈ l, x ∈ done) → wpList Tryz.prog ops Q rest (a.put o.dst (.tuple #[.bool false])) w)
    (hMore : ∀ (x : Fl) (w' : World), x ∈ l → x ∉ done → DRg w' b r l (done ++ [x]) → w'.rangeLeft b r < w.rangeLeft b r → w.grownBy w' (some r) → w'.heap.size = w.heap.size → (Instr.entry (.pointer (some ⟨r, 0, none⟩))).run Tryz.prog w' = .ok (.tuple #[.string x.n, fv x]) w' →
      wpList Tryz.prog ops Q rest (a.put o.dst (.tuple #[.bool true, .string x.n, fv x])) w') : wpList Tryz.prog ops Q (o :: rest) a w := by
  refine wpList_plain hg fun K' hK' => ?_
  unfold Oper.wp
  rcases h.next o.type with ⟨hall, hrun⟩ | ⟨x, w', hx, hn, hrun, h1, h2, h3, h4, h5⟩
  · simp [execOp, hop, hit, hrun, Result.andThen]
    exact hK' _ _ (hDone hall)
  · simp [execOp, hop, hit, hrun, Result.andThen]
    exact hK' _ _ (hMore x w' hx hn h1 h2 h3 h4 h5)
theorem wpList_dput (hg : o.guard = none) (m x v : Operand) (hop : o.op = Op.mapUpdate 68 m x v) (b : Nat) (l : List Fl) (y : Fl) (hm : a.eval m = .map (some b)) (h : DM w b l) (hl : l.length < 1000000) (hy : y.n.size ≤ maxLen)
    (hx : a.eval x = .string y.n) (hv : a.eval v = fv y) (hK : ∀ w', DM w' b (setF l y) → w.grownBy w' (some b) → wpList Tryz.prog ops Q rest (a.put o.dst undef) w') : wpList Tryz.prog ops Q (o :: rest) a w := by
  refine wpList_plain hg fun K' hK' => ?_
  obtain ⟨w', hrun, r1, r2⟩ := h.put hy (by unfold maxLen; omega)
  unfold Oper.wp
  simp [execOp, hop, hm, hx, hv, hrun, Result.andThen]
  exact hK' _ _ (hK w' r1 r2)
theorem wpList_ddrop (hg : o.guard = none) (m x : Operand) (hop : o.op = Op.call { callee := Callee.builtin Builtin.delete, args := #[m, x], argTypes := #[68, 9] }) (b : Nat) (l : List Fl) (s : ByteArray) (hm : a.eval m = .map (some b)) (h : DM w b l) (hs : s.size ≤ maxLen)
    (hx : a.eval x = .string s) (hK : ∀ w', DM w' b (dropF l s) → w.grownBy w' (some b) → wpList Tryz.prog ops Q rest (a.put o.dst (.tuple #[])) w') : wpList Tryz.prog ops Q (o :: rest) a w := by
  refine wpList_plain hg fun K' hK' => ?_
  obtain ⟨w', hrun, r1, r2⟩ := h.drop hs o.type
  unfold Oper.wp
  simp [execOp, hop, resolve, invoke, builtin, hm, hx, hrun, Result.andThen]
  exact hK' _ _ (hK w' r1 r2)
end
end Go.Proofs.YtgbihpfpiaacfaaGreatDoor

