/- Two lists of files alike but for where their bytes lie: name, bytes, how many are sure; plain. -/
import Derived.Test.YtoddofcmdbifpaaRG
import Derived.Test.YtoddofcmdbifpaaDX
import Derived.Test.YtoddofcmdbifpaaDO
set_option linter.unusedVariables false
set_option linter.unusedSimpArgs false
namespace Go.Proofs.Ytoddofcmdbifpaa
open Go.RowKit

def core (x : Fl) : ByteArray × List Int × Int := (x.n, x.b, x.s)
def CM (l m : List Fl) : Prop := l.map core = m.map core
theorem core_n {x y : Fl} (h : core x = core y) : x.n = y.n := by injection h
theorem core_b {x y : Fl} (h : core x = core y) : x.b = y.b := by injection h with _ h; injection h
theorem core_s {x y : Fl} (h : core x = core y) : x.s = y.s := by injection h with _ h; injection h
theorem core_mk {x y : Fl} (h1 : x.n = y.n) (h2 : x.b = y.b) (h3 : x.s = y.s) : core x = core y := by unfold core; rw [h1, h2, h3]
theorem CM.refl (l : List Fl) : CM l l := rfl
theorem CM.symm {l m : List Fl} (h : CM l m) : CM m l := Eq.symm h
theorem CM.trans {l m k : List Fl} (h : CM l m) (h2 : CM m k) : CM l k := Eq.trans h h2
theorem CM.len {l m : List Fl} (h : CM l m) : l.length = m.length := by
  have := congrArg List.length h
  simpa using this
theorem CM.get {l m : List Fl} (h : CM l m) {i : Nat} {x : Fl} (hx : l[i]? = some x) : ∃ y, m[i]? = some y ∧ core x = core y := by
  have e : (l.map core)[i]? = (m.map core)[i]? := by rw [show l.map core = m.map core from h]
  rw [List.getElem?_map, List.getElem?_map, hx] at e
  cases hm : m[i]? with
  | none => rw [hm] at e; cases e
  | some y => rw [hm] at e; injection e with e; exact ⟨y, rfl, e⟩
theorem CM.cons {x y : Fl} {l m : List Fl} (h1 : core x = core y) (h2 : CM l m) : CM (x :: l) (y :: m) := by
  unfold CM; rw [List.map_cons, List.map_cons, h1, show l.map core = m.map core from h2]
theorem CM.nil_r {l : List Fl} (h : CM l []) : l = [] := by unfold CM at h; simpa using h
theorem CM.un {x y : Fl} {l m : List Fl} (h : CM (x :: l) (y :: m)) : core x = core y ∧ CM l m := by
  unfold CM at h; rw [List.map_cons, List.map_cons] at h; injection h with h1 h2; exact ⟨h1, h2⟩
theorem CM.nil_l {y : Fl} {l : List Fl} (h : CM [] (y :: l)) : False := by unfold CM at h; cases h
theorem CM.nil_l' {y : Fl} {l : List Fl} (h : CM (y :: l) []) : False := by unfold CM at h; cases h
theorem CM.drop : ∀ {l m : List Fl} (h : CM l m) (nm : ByteArray), CM (dropF l nm) (dropF m nm)
  | [], [], _, _ => rfl
  | [], _ :: _, h, _ => (CM.nil_l h).elim
  | _ :: _, [], h, _ => (CM.nil_l' h).elim
  | x :: l, y :: m, h, nm => by
    obtain ⟨h1, h2⟩ := h.un
    have ih := CM.drop h2 nm
    unfold dropF at ih ⊢
    rw [List.filter_cons, List.filter_cons]
    have e : isN nm x = isN nm y := by unfold isN; rw [core_n h1]
    rw [e]
    split
    · exact ih.cons h1
    · exact ih
theorem CM.ins {f g : Fl} (hf : core f = core g) : ∀ {l m : List Fl} (_ : CM l m), CM (ins f l) (ins g m)
  | [], [], _ => (CM.refl []).cons hf
  | [], _ :: _, h => (CM.nil_l h).elim
  | _ :: _, [], h => (CM.nil_l' h).elim
  | x :: l, y :: m, h => by
    obtain ⟨h1, h2⟩ := h.un
    have ih := CM.ins hf h2
    unfold Go.Proofs.Ytoddofcmdbifpaa.ins
    have e : ltF f x = ltF g y := by unfold ltF; rw [core_n h1, core_n hf]
    rw [e]
    split
    · exact (h2.cons h1).cons hf
    · exact ih.cons h1
/-- What with makes, of two lists alike. -/
theorem CM.set {l m : List Fl} (h : CM l m) (hr : Rise l) {f g : Fl} (hf : core f = core g) : CM (setF l f) (Go.Proofs.Ytoddofcmdbifpaa.ins g (dropF m g.n)) := by
  rw [← ins_setF hr, core_n hf]
  exact CM.ins hf (h.drop _)
theorem CM.used : ∀ {l m : List Fl}, CM l m → usedF l = usedF m
  | [], [], _ => rfl
  | [], _ :: _, h => (CM.nil_l h).elim
  | _ :: _, [], h => (CM.nil_l' h).elim
  | x :: l, y :: m, h => by
    obtain ⟨h1, h2⟩ := h.un
    rw [usedF_cons, usedF_cons, core_b h1, CM.used h2]
theorem core_bt {x y : Fl} (h : core x = core y) (keep : List Int) (i : Nat) : core (bt keep i x) = core (bt keep i y) := by
  have e : btN x (moreK keep i) = btN y (moreK keep i) := by unfold btN; rw [core_b h, core_s h]
  have e0 := core_n h
  refine core_mk e0 ?_ ?_
  · show x.b.take _ = y.b.take _
    rw [e, core_b h]
  · show ((btN x _ : Nat) : Int) = ((btN y _ : Nat) : Int)
    rw [e]
theorem CM.ext {l m : List Fl} (hl : l.length = m.length) (h : ∀ (i : Nat) x y, l[i]? = some x → m[i]? = some y → core x = core y) : CM l m := by
  unfold CM
  apply List.ext_getElem?
  intro i
  rw [List.getElem?_map, List.getElem?_map]
  cases hx : l[i]? with
  | none => rw [List.getElem?_eq_none (by have := List.getElem?_eq_none_iff.1 hx; omega)]
  | some x =>
    have hi := (List.getElem?_eq_some_iff.1 hx).1
    have hy : m[i]? = some (m[i]'(by omega)) := List.getElem?_eq_getElem _
    rw [hy, Option.map_some, Option.map_some, h i x _ hx hy]
theorem CM.bt {l m : List Fl} (h : CM l m) (keep : List Int) (k : Nat) : CM (btL keep k l) (btL keep k m) := by
  refine CM.ext (by rw [btL_len, btL_len, h.len]) (fun i x y hx hy => ?_)
  rw [btL_get] at hx hy
  cases hx2 : l[i]? with
  | none => rw [hx2] at hx; cases hx
  | some x2 =>
    obtain ⟨y2, hy2, e⟩ := h.get hx2
    rw [hx2, Option.map_some] at hx
    rw [hy2, Option.map_some] at hy
    injection hx with hx
    injection hy with hy
    subst hx hy
    split
    · exact core_bt e keep i
    · exact e
/-- The reference finds what the disk finds. -/
theorem at_cases (m : List Fl) (nm : ByteArray) : (atF m nm = -1 ∧ getF m nm = none) ∨ ∃ (i : Nat) (x : Fl), atF m nm = (i : Int) ∧ m[i]? = some x ∧ getF m nm = some x ∧ x.n = nm := by
  unfold atF
  cases h : m.findIdx? (isN nm) with
  | none =>
    refine .inl ⟨rfl, ?_⟩
    unfold getF
    rw [List.find?_eq_none]
    intro x hx
    have := (List.findIdx?_eq_none_iff.1 h) x hx
    simpa using this
  | some i =>
    obtain ⟨hi, h1, h2⟩ := List.findIdx?_eq_some_iff_getElem.1 h
    refine .inr ⟨i, m[i], rfl, List.getElem?_eq_getElem hi, ?_, by unfold isN at h1; simpa using h1⟩
    unfold getF
    rw [List.find?_eq_some_iff_getElem]
    exact ⟨h1, i, hi, rfl, fun j hj => by simpa using h2 j hj⟩
theorem CM.getF : ∀ {l m : List Fl} (_ : CM l m) (nm : ByteArray), (getF l nm = none ∧ getF m nm = none) ∨ ∃ x y, Go.Proofs.Ytoddofcmdbifpaa.getF l nm = some x ∧ Go.Proofs.Ytoddofcmdbifpaa.getF m nm = some y ∧ core x = core y
  | [], [], _, _ => .inl ⟨rfl, rfl⟩
  | [], _ :: _, h, _ => (CM.nil_l h).elim
  | _ :: _, [], h, _ => (CM.nil_l' h).elim
  | x :: l, y :: m, h, nm => by
    obtain ⟨h1, h2⟩ := h.un
    have e : isN nm x = isN nm y := by unfold isN; rw [core_n h1]
    unfold Go.Proofs.Ytoddofcmdbifpaa.getF
    rw [List.find?_cons, List.find?_cons, e]
    cases isN nm y with
    | true => exact .inr ⟨x, y, rfl, rfl, h1⟩
    | false => exact CM.getF h2 nm
end Go.Proofs.Ytoddofcmdbifpaa
