/- A disk: a file cut; files cut one behind the other (Boot's), plain. -/
import Derived.Test.YtgbihpfpiaacfaaGreatDoorDL
set_option linter.unusedVariables false
set_option linter.unusedSimpArgs false
set_option maxRecDepth 100000
namespace Go.Proofs.YtgbihpfpiaacfaaGreatDoor
open Go.RowKit Go.WideMaps Go.Maps

def cutF (x : Fl) (m : Nat) : Fl := ⟨x.n, x.a, x.c, x.b.take m, (m : Int)⟩
theorem cut_len {x : Fl} {m : Nat} (h : m ≤ x.b.length) : (cutF x m).b.length = m := by
  unfold cutF
  rw [List.length_take]
  omega
theorem usedF_less {l : List Fl} {x y : Fl} (hx : x ∈ l) (hn : x.n = y.n) (hb : y.b.length ≤ x.b.length) : usedF (setF l y) ≤ usedF l := by
  rw [usedF_set]
  obtain ⟨p, q, e⟩ := List.append_of_mem hx
  have hp : l.Perm (x :: (p ++ q)) := by rw [e]; exact List.perm_middle
  have hs : sameN x y = true := by unfold sameN; simp [hn]
  have e2 : usedF (l.filter (fun z => !sameN z y)) ≤ usedF (p ++ q) := by
    rw [usedF_perm (hp.filter _), List.filter_cons, hs]
    simp only [Bool.not_true, Bool.false_eq_true, if_false]
    exact usedF_filter _ _
  have e3 := usedF_perm hp
  rw [usedF_cons] at e3
  omega
theorem own_prefix {w : World} {B : Nat} {a : Option Addr} {L c : Nat} {xs : List Int} (h : w.ownsRow B 5 1 (.slice a L c) L (xs.flatMap encB)) (hL : xs.length = L) {m : Nat} (hm : m ≤ L) : w.ownsRow B 5 1 (.slice a m c) m ((xs.take m).flatMap encB) := by
  have hl : (xs.take m).length = m := by rw [List.length_take]; omega
  refine ⟨by rw [flat_len encB_len, hl], ?_⟩
  rcases h.2 with ⟨e, h0⟩ | ⟨g, cap, cur, e, hB, hb, h1, h2, h3, h4⟩
  · injection e with e1 e2 e3
    subst e1 e3
    exact .inl ⟨by rw [show m = 0 by omega], by omega⟩
  · injection e with e1 e2 e3
    subst e1 e3
    refine .inr ⟨g, c, cur, rfl, hB, hb, by omega, h2, h3, ?_⟩
    have hx : (xs.take m).flatMap encB = (xs.flatMap encB).take (m * 1) := by
      have hf : ∀ l : List Int, l.flatMap encB = l.map (fun n => u8v n) := fun l => by
        induction l with
        | nil => rfl
        | cons a l ih => rw [List.flatMap_cons, ih]; rfl
      rw [hf, hf, Nat.mul_one, List.map_take]
    rw [hx, ← h4, List.take_take]
    congr 1
    omega
/-- A file cut to its first bytes, all of them sure. -/
theorem Out.cut {w w2 : World} {B d b : Nat} {s : DS} (h : DK w B d s) (hm : s.m = some b) {x : Fl} (hx : x ∈ s.l) {m : Nat} (hmb : m ≤ x.b.length) (hd : DM w2 b (setF s.l (cutF x m))) (hg : w.grownBy w2 (some b)) : Out B d s { s with l := setF s.l (cutF x m) } w w2 := by
  have f7 : Far (fun k => k = b) w w2 := Far.of_grown hg (fun k e => by injection e with e; exact e.symm)
  have hv : (cutF x m).v = .slice x.a m x.c := by unfold Fl.v; rw [cut_len hmb]; rfl
  refine Out.put h hm (cutF x m) ⟨f7.os, f7.tape, f7.output, f7.size, fun k hk q => f7.block k hk (fun e => q (.inl e))⟩ hd ?_ (fun k e => ?_) ?_ ⟨by unfold cutF; simp, by rw [cut_len hmb]; exact Int.le_refl _⟩
  · rw [hv, cut_len hmb]
    exact own_prefix (f7.row (h.rows x hx) (fun j e q => by subst q; exact h.nm hm x hx e)) rfl hmb
  · refine .inr ⟨x, hx, rfl, ?_⟩
    rw [hv] at e
    rw [show x.v = .slice x.a x.b.length x.c from rfl]
    cases ha : x.a with
    | none => rw [ha] at e; cases e
    | some g => rw [ha] at e; exact e
  · have := usedF_less (y := cutF x m) hx rfl (by rw [cut_len hmb]; exact hmb)
    have := h.fits
    omega
theorem ltF_name {x y z : Fl} (h : y.n = x.n) : ltF z y = ltF z x ∧ ltF y z = ltF x z := by unfold ltF; rw [h]; exact ⟨rfl, rfl⟩
theorem set_at {l : List Fl} (h : Rise l) {i : Nat} {x y : Fl} (hx : l[i]? = some x) (hy : y.n = x.n) : setF l y = l.set i y := by
  have hi := (List.getElem?_eq_some_iff.1 hx).1
  have hxe := (List.getElem?_eq_some_iff.1 hx).2
  have e : l = l.take i ++ x :: l.drop (i + 1) := by rw [← hxe]; simp
  have hs : l.set i y = l.take i ++ y :: l.drop (i + 1) := List.set_eq_take_append_cons_drop.trans (by rw [if_pos hi])
  rw [hs]
  unfold setF
  have h' := h
  rw [e] at h'
  obtain ⟨h1, h2, h3⟩ := List.pairwise_append.1 h'
  obtain ⟨h4, h5⟩ := List.pairwise_cons.1 h2
  have f1 : l.filter (fun z => ltF z y) = l.take i := by
    conv => lhs; rw [e]
    rw [List.filter_append, List.filter_cons]
    rw [List.filter_eq_self.2 (fun z hz => by rw [(ltF_name hy).1]; exact h3 z hz x (List.mem_cons_self ..))]
    rw [(ltF_name hy).1, irrF]
    rw [List.filter_eq_nil_iff.2 (fun z hz => by
      rw [(ltF_name hy).1]
      have := h4 z hz
      rcases lt_tri x z with ⟨a, b, c⟩ | ⟨a, b, c⟩ | ⟨a, b, c⟩
      · rw [c]; simp
      · rw [a] at this; cases this
      · rw [a] at this; cases this)]
    simp
  have f2 : l.filter (fun z => ltF y z) = l.drop (i + 1) := by
    conv => lhs; rw [e]
    rw [List.filter_append, List.filter_cons]
    rw [List.filter_eq_nil_iff.2 (fun z hz => by
      rw [(ltF_name hy).2]
      have := h3 z hz x (List.mem_cons_self ..)
      rcases lt_tri z x with ⟨a, b, c⟩ | ⟨a, b, c⟩ | ⟨a, b, c⟩
      · rw [c]; simp
      · rw [a] at this; cases this
      · rw [a] at this; cases this)]
    rw [(ltF_name hy).2, irrF]
    rw [List.filter_eq_self.2 (fun z hz => by rw [(ltF_name hy).2]; exact h4 z hz)]
    simp
  rw [f1, f2]
def moreK (keep : List Int) (i : Nat) : Int := match keep[i]? with | some k => max k 0 | none => 0
def btN (x : Fl) (more : Int) : Nat := (x.s + min more ((x.b.length : Int) - x.s)).toNat
def bt (keep : List Int) (i : Nat) (x : Fl) : Fl := cutF x (btN x (moreK keep i))
def btL (keep : List Int) (k : Nat) (l : List Fl) : List Fl := l.mapIdx (fun j x => if j < k then bt keep j x else x)
theorem moreK_nn (keep : List Int) (i : Nat) : 0 ≤ moreK keep i := by
  unfold moreK
  split
  · omega
  · omega
theorem btL_zero (keep : List Int) (l : List Fl) : btL keep 0 l = l := by
  unfold btL
  apply List.ext_getElem?
  intro i
  rw [List.getElem?_mapIdx]
  cases l[i]? <;> simp
theorem btL_len (keep : List Int) (k : Nat) (l : List Fl) : (btL keep k l).length = l.length := by unfold btL; simp
theorem btL_get (keep : List Int) (k : Nat) (l : List Fl) (i : Nat) : (btL keep k l)[i]? = (l[i]?).map (fun x => if i < k then bt keep i x else x) := by unfold btL; rw [List.getElem?_mapIdx]
theorem btL_set (keep : List Int) (k : Nat) (l : List Fl) {x : Fl} (hx : l[k]? = some x) : (btL keep k l).set k (bt keep k x) = btL keep (k + 1) l := by
  apply List.ext_getElem?
  intro i
  rw [List.getElem?_set, btL_get, btL_get, btL_len]
  have hk := (List.getElem?_eq_some_iff.1 hx).1
  by_cases e : k = i
  · subst e
    rw [if_pos rfl, if_pos hk, hx]
    simp
  · rw [if_neg e]
    cases hl : l[i]? with
    | none => rfl
    | some z =>
      simp only [Option.map_some]
      by_cases q : i < k
      · rw [if_pos q, if_pos (by omega)]
      · rw [if_neg q, if_neg (by omega)]
theorem btN_le {x : Fl} (h : 0 ≤ x.s ∧ x.s ≤ (x.b.length : Int)) {more : Int} (hm : 0 ≤ more) : btN x more ≤ x.b.length ∧ (x.s + min more ((x.b.length : Int) - x.s)) = (btN x more : Int) := by
  unfold btN
  constructor <;> omega
end Go.Proofs.YtgbihpfpiaacfaaGreatDoor

