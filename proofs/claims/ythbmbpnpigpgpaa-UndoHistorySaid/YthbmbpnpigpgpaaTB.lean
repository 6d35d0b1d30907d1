/- A table's map: what it holds, set, dropped, asked. -/
import Derived.Test.YthbmbpnpigpgpaaTA
set_option linter.unusedVariables false
set_option maxRecDepth 100000
namespace Go.Proofs.Ythbmbpnpigpgpaa
open Go.RowKit Go.WideMaps Go.Maps Go.WideShapes Go.ChangeMaps

/-! ### rows, plain -/
def ltS (a b c d : Int) : Bool := if a = c then decide (b < d) else decide (a < c)
def ltR (x y : Rw) : Bool := ltS x.t x.r y.t y.r
def sameN (x y : Rw) : Bool := decide (x.t = y.t ∧ x.r = y.r)
def isN (t r : Int) (x : Rw) : Bool := decide (x.t = t ∧ x.r = r)
def Rise (l : List Rw) : Prop := l.Pairwise (fun x y => ltR x y = true)
theorem lt_tri (x y : Rw) : (ltR x y = true ∧ sameN x y = false ∧ ltR y x = false) ∨ (ltR x y = false ∧ sameN x y = true ∧ ltR y x = false) ∨ (ltR x y = false ∧ sameN x y = false ∧ ltR y x = true) := by
  unfold ltR ltS sameN
  by_cases h : x.t = y.t
  · have h' := h.symm
    simp only [h, if_true]
    by_cases a : x.r < y.r
    · left; simp [a]; omega
    · by_cases b : y.r < x.r
      · right; right; simp [a, b]; omega
      · right; left; simp [a, b]; omega
  · have h' : ¬ y.t = x.t := fun e => h e.symm
    simp only [h, h', if_false]
    by_cases a : x.t < y.t
    · left; simp [a]; omega
    · right; right; simp [a]; omega
theorem lt_trans' {x y z : Rw} (h1 : ltR x y = true) (h2 : ltR y z = true) : ltR x z = true := by
  unfold ltR ltS at *
  split at h1 <;> split at h2 <;> split <;> simp at * <;> omega
def setF (l : List Rw) (x : Rw) : List Rw := l.filter (fun y => ltR y x) ++ x :: l.filter (fun y => ltR x y)
def getF (l : List Rw) (t r : Int) : Option Rw := l.find? (isN t r)
theorem mem_set {l : List Rw} {x y : Rw} : y ∈ setF l x ↔ y = x ∨ (y ∈ l ∧ sameN y x = false) := by
  unfold setF
  rw [List.mem_append, List.mem_cons, List.mem_filter, List.mem_filter]
  rcases lt_tri y x with ⟨a, b, c⟩ | ⟨a, b, c⟩ | ⟨a, b, c⟩ <;> simp only [a, b, c] <;> simp
  exact or_comm
theorem rise_set {l : List Rw} (h : Rise l) (x : Rw) : Rise (setF l x) := by
  unfold Rise setF
  refine List.pairwise_append.2 ⟨h.filter _, List.pairwise_cons.2 ⟨fun y hy => (List.mem_filter.1 hy).2, h.filter _⟩, fun y hy z hz => ?_⟩
  have h1 := (List.mem_filter.1 hy).2
  rcases List.mem_cons.1 hz with rfl | hz
  · exact h1
  · exact lt_trans' h1 (List.mem_filter.1 hz).2
theorem set_perm {l : List Rw} (x : Rw) : (setF l x).Perm (x :: l.filter (fun y => !sameN y x)) := by
  unfold setF
  refine List.perm_middle.trans (List.Perm.cons _ ?_)
  have h := List.filter_append_perm (fun y => ltR y x) (l.filter (fun y => !sameN y x))
  rw [List.filter_filter, List.filter_filter] at h
  have e1 : (fun y => ltR y x && !sameN y x) = (fun y => ltR y x) := by
    funext y
    rcases lt_tri y x with ⟨a, b, c⟩ | ⟨a, b, c⟩ | ⟨a, b, c⟩ <;> simp [a, b]
  have e2 : (fun y => (!ltR y x) && !sameN y x) = (fun y => ltR x y) := by
    funext y
    rcases lt_tri y x with ⟨a, b, c⟩ | ⟨a, b, c⟩ | ⟨a, b, c⟩ <;> simp [a, b, c]
  rw [e1, e2] at h
  exact h
theorem rise_one {l : List Rw} (h : Rise l) {x y : Rw} (hx : x ∈ l) (hy : y ∈ l) (hs : sameN x y = true) : x = y := by
  have irr : ∀ z, ltR z z = false := fun z => by unfold ltR ltS; simp
  induction l with
  | nil => cases hx
  | cons a l ih =>
    obtain ⟨h1, h2⟩ := List.pairwise_cons.1 h
    have hs' : sameN y x = true := by unfold sameN at *; simp at *; omega
    rcases List.mem_cons.1 hx with e1 | m1
    · rcases List.mem_cons.1 hy with e2 | m2
      · rw [e1, e2]
      · have := h1 _ m2
        rw [e1] at hs hs'
        rcases lt_tri a y with ⟨q1, q2, q3⟩ | ⟨q1, q2, q3⟩ | ⟨q1, q2, q3⟩ <;> simp_all
    · rcases List.mem_cons.1 hy with e2 | m2
      · have := h1 _ m1
        rw [e2] at hs hs'
        rcases lt_tri a x with ⟨q1, q2, q3⟩ | ⟨q1, q2, q3⟩ | ⟨q1, q2, q3⟩ <;> simp_all
      · exact ih h2 m1 m2
theorem get_some {l : List Rw} (h : Rise l) {t r : Int} {x : Rw} : getF l t r = some x ↔ x ∈ l ∧ x.t = t ∧ x.r = r := by
  unfold getF
  constructor
  · intro e
    have h1 := List.mem_of_find?_eq_some e
    have h2 := List.find?_some e
    unfold isN at h2
    exact ⟨h1, by simpa using h2⟩
  · rintro ⟨h1, h2, h3⟩
    cases e : l.find? (isN t r) with
    | none => exact absurd (List.find?_eq_none.1 e x h1) (by unfold isN; simp [h2, h3])
    | some y =>
      have a := List.mem_of_find?_eq_some e
      have b := List.find?_some e
      unfold isN at b
      simp at b
      rw [rise_one h a h1 (by unfold sameN; simp [b, h2, h3])]
theorem get_none {l : List Rw} {t r : Int} : getF l t r = none ↔ ∀ x ∈ l, ¬ (x.t = t ∧ x.r = r) := by
  unfold getF
  rw [List.find?_eq_none]
  unfold isN
  simp
/-! ### the map -/
abbrev RR := Value → Option (DataW Value × List MemPlace)
def heldR : RR := fun v => some (.held v, [])
noncomputable def en (x : Rw) : Lit × DataW Value := (KL x.t x.r, .held (ev x.pt x.pr x.nm x.d))
def TM (w : World) (b : Nat) (l : List Rw) : Prop := ∃ es : List (Lit × DataW Value), w.ownsMap Try.prog 61 heldR b l.length (.map es) ∧ es.Perm (l.map en) ∧ (∀ x ∈ l, x.ok) ∧ Rise l
theorem own_tight {w : World} {b n : Nat} {D : DataW Value} (h : w.ownsMap Try.prog 61 heldR b n D) : w.ownsMap Try.prog 61 heldR b (Maps.size D) D := by
  obtain ⟨es, clock, hb, F, hs, rfl⟩ := h
  exact ⟨es, clock, hb, F, by simp [Maps.size, length_sorted], rfl⟩
theorem TM.lt {w : World} {b : Nat} {l : List Rw} (h : TM w b l) : b < w.heap.size := by obtain ⟨es, h, _⟩ := h; exact h.lt
theorem TM.grown {w w' : World} {b : Nat} {l : List Rw} {row : Option Nat} (h : TM w b l) (hg : w.grownBy w' row) (hne : some b ≠ row) : TM w' b l := by
  obtain ⟨es, h1, h2⟩ := h; exact ⟨es, h1.kept hg hne, h2⟩
theorem TM.step {w w' : World} {b : Nat} {l : List Rw} (h : TM w b l) (hb : Below w.heap.size w w') : TM w' b l :=
  h.grown (row := none) ⟨hb.os, hb.tape, hb.output, hb.size, fun k hk _ => hb.block k hk⟩ (by simp)
theorem TM.made (w : World) : TM (w.alloc (.map #[] 0)) w.heap.size [] := ⟨[], World.ownsMap_made _ _ _ _, .refl _, (fun x hx => by cases hx), List.Pairwise.nil⟩
theorem TM.rise {w : World} {b : Nat} {l : List Rw} (h : TM w b l) : Rise l := by obtain ⟨es, _, _, _, h⟩ := h; exact h
theorem TM.oks {w : World} {b : Nat} {l : List Rw} (h : TM w b l) : ∀ x ∈ l, x.ok := by obtain ⟨es, _, _, h, _⟩ := h; exact h
theorem same_kl {x : Rw} {t r : Int} (hx : x.ok) (ht : I64 t) (hr : I64 r) : (KL x.t x.r).sameKey (KL t r) = decide (x.t = t ∧ x.r = r) := by
  by_cases h : x.t = t ∧ x.r = r
  · rw [h.1, h.2, decide_eq_true ⟨rfl, rfl⟩, WideAt.sameKey_self (kl_lit ht hr)]
  · rw [decide_eq_false h]
    cases hs : (KL x.t x.r).sameKey (KL t r) with
    | false => rfl
    | true => exact absurd (kl_inj hx.1 hx.2.1 ht hr (WideAt.sameKey_eq hs)) h
theorem filter_en {l : List Rw} (hl : ∀ x ∈ l, x.ok) {t r : Int} (ht : I64 t) (hr : I64 r) : (l.map en).filter (fun p => !p.1.sameKey (KL t r)) = (l.filter (fun y => !isN t r y)).map en := by
  rw [List.filter_map]
  refine congrArg (List.map en) (List.filter_congr (fun x hx => ?_))
  show (!(KL x.t x.r).sameKey (KL t r)) = _
  rw [same_kl (hl x hx) ht hr]
  rfl
theorem TM.look {w : World} {b : Nat} {l : List Rw} (h : TM w b l) {t r : Int} (ht : I64 t) (hr : I64 r) :
    (Instr.lookup 99 (.map (some b)) (sv t r) true).run Try.prog w = .ok (.tuple #[(match getF l t r with | some x => ev x.pt x.pr x.nm x.d | none => ev 0 0 ⟨#[]⟩ false), .bool (getF l t r).isSome]) w := by
  obtain ⟨es, h1, h2, h3, h4⟩ := h
  have hz : (zeroValue 78).run Try.prog w = .ok (ev 0 0 ⟨#[]⟩ false) w := by kernel_rfl
  obtain ⟨v, ps, hrun, hv⟩ := h1.look_ok Try.keyed Try.underlying99 hz (zd := .held (ev 0 0 ⟨#[]⟩ false)) (zp := []) rfl (kl_key ht hr)
  have hv2 : DataW.held v = DataW.atKey (.map es) (KL t r) (.held (ev 0 0 ⟨#[]⟩ false)) := by
    unfold heldR at hv
    injection hv with hv
    injection hv
  rw [hrun]
  cases hg : getF l t r with
  | none =>
    have hn := get_none.1 hg
    have hf : ∀ p ∈ es, ¬ p.1.sameKey (KL t r) = true := fun p hp hs => by
      obtain ⟨x, hx, rfl⟩ := List.mem_map.1 (h2.mem_iff.1 hp)
      have : (KL x.t x.r).sameKey (KL t r) = true := hs
      rw [same_kl (h3 x hx) ht hr] at this
      exact hn x hx (of_decide_eq_true this)
    have e1 : Maps.has (.map es) (KL t r) = false := by
      rw [Maps.has_eq, List.any_eq_false]
      exact hf
    have e2 : DataW.atKey (.map es) (KL t r) (.held (ev 0 0 ⟨#[]⟩ false)) = .held (ev 0 0 ⟨#[]⟩ false) := by
      unfold DataW.atKey
      dsimp only
      rw [List.find?_eq_none.2 hf]
    rw [e2] at hv2
    injection hv2 with hv2
    rw [e1, hv2]
    rfl
  | some x =>
    obtain ⟨hx, rfl, rfl⟩ := (get_some h4).1 hg
    have hin : en x ∈ es := h2.mem_iff.2 (List.mem_map.2 ⟨x, hx, rfl⟩)
    have hself : (en x).1.sameKey (KL x.t x.r) = true := by
      show (KL x.t x.r).sameKey (KL x.t x.r) = true
      exact WideAt.sameKey_self (kl_lit ht hr)
    have e1 : Maps.has (.map es) (KL x.t x.r) = true := by
      rw [Maps.has_eq, List.any_eq_true]
      exact ⟨_, hin, hself⟩
    have e2 : DataW.atKey (.map es) (KL x.t x.r) (.held (ev 0 0 ⟨#[]⟩ false)) = .held (ev x.pt x.pr x.nm x.d) := by
      unfold DataW.atKey
      dsimp only
      cases hf : es.find? (fun p => p.1.sameKey (KL x.t x.r)) with
      | none => exact absurd hself (List.find?_eq_none.1 hf _ hin)
      | some p =>
        have a := List.mem_of_find?_eq_some hf
        have b := List.find?_some hf
        obtain ⟨y, hy, rfl⟩ := List.mem_map.1 (h2.mem_iff.1 a)
        have b2 : (KL y.t y.r).sameKey (KL x.t x.r) = true := b
        rw [same_kl (h3 y hy) ht hr] at b2
        have := rise_one h4 hy hx (by unfold sameN; exact b2)
        subst this
        rfl
    rw [e2] at hv2
    injection hv2 with hv2
    rw [e1, hv2]
    rfl
theorem TM.len {w : World} {b : Nat} {l : List Rw} (h : TM w b l) (ty : TypeId) : (Builtin.len_ #[99] ty #[.map (some b)]).run Try.prog w = .ok (.int .i64 (l.length : Int)) w := by
  obtain ⟨es, h1, h2, _⟩ := h
  rw [h1.len Try.underlying99 ty, Maps.size_eq, h2.length_eq, List.length_map]
theorem TM.put {w : World} {b : Nat} {l : List Rw} (h : TM w b l) {x : Rw} (hx : x.ok) (hn : l.length < maxLen) :
    ∃ w', (Instr.mapUpdate 99 (.map (some b)) (sv x.t x.r) (ev x.pt x.pr x.nm x.d)).run Try.prog w = .ok () w' ∧ TM w' b (setF l x) ∧ w.grownBy w' (some b) := by
  obtain ⟨es, h1, h2, h3, h4⟩ := h
  obtain ⟨w', hrun, ho, hg⟩ := h1.update Try.keyed Try.underlying99 hn (kl_key hx.1 hx.2.1) (d := .held (ev x.pt x.pr x.nm x.d)) (ps := []) rfl
  have hp : (DataW.insert (KL x.t x.r, DataW.held (ev x.pt x.pr x.nm x.d)) (es.filter fun p => !p.1.sameKey (KL x.t x.r))).Perm ((setF l x).map en) := by
    refine (insert_perm _ _).trans ?_
    have a := h2.filter (fun p => !p.1.sameKey (KL x.t x.r))
    rw [filter_en h3 hx.1 hx.2.1] at a
    exact (a.cons (en x)).trans ((set_perm x).map en).symm
  have hl : (setF l x).length = Maps.size (.map (DataW.insert (KL x.t x.r, DataW.held (ev x.pt x.pr x.nm x.d)) (es.filter fun p => !p.1.sameKey (KL x.t x.r)))) := by
    rw [Maps.size_eq, hp.length_eq, List.length_map]
  refine ⟨w', hrun, ⟨_, by rw [hl]; exact own_tight ho, hp, fun y hy => ?_, rise_set h4 x⟩, hg⟩
  rcases mem_set.1 hy with rfl | ⟨hy, _⟩
  · exact hx
  · exact h3 y hy
end Go.Proofs.Ythbmbpnpigpgpaa

