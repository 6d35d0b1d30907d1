/- Merged by tools/merge.py: TI, TJ, TK, TL, TM, TN, TO, TP, TQ. -/
import Derived.Test.YtbeodechhneeeaaGreatDoorMS
import Derived.RangeFuncFrom
import Derived.Sort.MapsRangeIn
import Derived.RegionIn
import Derived.LoopNIn
import Derived.LoopIn
import Derived.TacticsInMore
import Derived.RangeFuncNested
import Derived.RangeFuncBound
import Derived.RangeFuncCalls
import Derived.RangeFuncLeaves
import Derived.Shelf.Abstract
import Derived.Shelf.RegionOpen
set_option linter.unusedVariables false
set_option maxRecDepth 100000
namespace Go.Proofs.YtbeodechhneeeaaGreatDoor.Tb
open Go.RowKit Go.WideMaps Go.Maps

abbrev kd (done : List Rw) (pt pr : Int) : List Sp := (done.filter (atP pt pr)).map stOf
/-- Kids, between two rounds. -/
structure KI (w W : World) (b r : Nat) (l : List Rw) (pt pr : Int) (v : Value) (done : List Rw) : Prop where
  rg : TRg W b r l done
  own : W.ownsRow (w.heap.size + 1) 31 2 v (kd done pt pr).length ((kd done pt pr).flatMap encS)
  box : StAt W w.heap.size pt pr
  bel : Below w.heap.size w W
  big : w.heap.size + 1 ≤ r
theorem KI.len {w W : World} {b r : Nat} {l : List Rw} {pt pr : Int} {v : Value} {done : List Rw} (h : KI w W b r l pt pr v done) : done.length ≤ l.length := by
  obtain ⟨es, left, cnt, _, _, _, h4, _, h6, h7⟩ := h.rg
  exact List.Nodup.length_le_of_subset h6 h7
theorem KI.step {w W W' : World} {b r : Nat} {l : List Rw} {pt pr : Int} {v : Value} {done : List Rw} (h : KI w W b r l pt pr v done) (hb : Below W.heap.size W W') : KI w W' b r l pt pr v done ∧ W'.rangeLeft b r = W.rangeLeft b r := by
  have hg := below_grown hb none
  have k := h.rg.kept hg (by simp) (by simp)
  exact ⟨⟨k.1, own_belowK h.own hb, h.box.step hb, h.bel.trans (hb.mono h.bel.size), h.big⟩, k.2⟩
end Go.Proofs.YtbeodechhneeeaaGreatDoor.Tb


set_option linter.unusedVariables false
set_option maxRecDepth 100000
namespace Go.Proofs.YtbeodechhneeeaaGreatDoor.Tb
open Go.RowKit Go.WideMaps Go.Maps

section
variable {F : Fence} {n : Nat} {w : World} {ops : Array Oper} {rest : List Oper} {o : Oper} {a : Act} {Q : Exit → Act → World → Prop}
end
theorem TRg.len {w : World} {b r : Nat} {l done : List Rw} (h : TRg w b r l done) : done.length ≤ l.length := by
  obtain ⟨es, left, cnt, _, _, _, h4, _, h6, h7⟩ := h
  exact List.Nodup.length_le_of_subset h6 h7
end Go.Proofs.YtbeodechhneeeaaGreatDoor.Tb


set_option linter.unusedVariables false
set_option maxRecDepth 100000
namespace Go.Proofs.YtbeodechhneeeaaGreatDoor.Tb
open Go.RowKit Go.WideMaps Go.Maps

/-- AppendSeq, between two rounds. -/
def AI (w : World) (pre : List Rw) (W : World) : Prop := (∃ v, W.heap[w.heap.size]? = some (.cells #[v] 34 (0, 0)) ∧ W.ownsRow (w.heap.size + 1) 31 2 v (pre.map stOf).length ((pre.map stOf).flatMap encS)) ∧ Below w.heap.size w W
theorem own_kept {W W' : World} {row : Option Nat} {base : Nat} {e : TypeId} {size : Nat} {v : Value} {m : Nat} {xs : List Value} (h : W.ownsRow base e size v m xs) (hg : W.grownBy W' row) (hr : ∀ r, row = some r → ∃ o : Obj, W.heap[r]? = some o ∧ o.isCells = false) : W'.ownsRow base e size v m xs := by
  refine h.kept hg ?_
  rcases h.2 with ⟨rfl, _⟩ | ⟨g, cap, cur, rfl, _, hb, _⟩
  · exact .inl rfl
  · refine .inr (fun e1 => ?_)
    obtain ⟨o, ho, hc⟩ := hr g e1.symm
    rw [hb] at ho
    cases ho
    cases hc
theorem AI.own (w : World) (B : Nat) (hB : w.heap.size ≤ B) : OwnFrom B (AI w) := by
  intro s W W' row h hg hr
  obtain ⟨⟨v, h1, h2⟩, h3⟩ := h
  refine ⟨⟨v, (hg.block _ (lt_of_block h1) (fun e => ?_)).trans h1, own_kept h2 hg (fun r e => (hr r e).2)⟩, h3.grown hg h3.size (fun k e => Nat.le_trans hB (hr k e).1)⟩
  obtain ⟨o, ho, hc⟩ := (hr _ e.symm).2
  rw [h1] at ho
  cases ho
  cases hc
end Go.Proofs.YtbeodechhneeeaaGreatDoor.Tb


set_option linter.unusedVariables false
set_option maxRecDepth 100000
namespace Go.Proofs.YtbeodechhneeeaaGreatDoor.Tb
open Go.RowKit Go.WideMaps Go.Maps

theorem below_drewN (w : World) : ∀ n, Below w.heap.size w (w.drewN n) := fun n => ⟨rfl, rfl, rfl, Nat.le_refl _, fun _ _ => rfl⟩
set_option maxHeartbeats 800000 in
theorem less_any (w : World) (a b c d : Int) : Calls Tryz.prog 78 #[.agg #[.int .i64 a, .int .i64 b], .agg #[.int .i64 c, .int .i64 d]] w fun e w' => e = .returned (.bool (ltS a b c d)) ∧ Below w.heap.size w w' := by
  have BB := Lib.hid ((vstep w (.cells #[.int .i64 a, .int .i64 b] 31)).trans ((vstep (w.alloc (.cells #[.int .i64 a, .int .i64 b] 31)) (.cells #[.int .i64 c, .int .i64 d] 31)).mono (vstep w _).size))
  unfold ltS
  by_cases h : a = c
  · rw [if_pos h]
    have t1 : (a != c) = false := by simp [h]
    clear h
    go_enter Tryz.func78, Tryz.ntmps78
    go_wp2
    go_returns
    exact ⟨rfl, BB.out⟩
  · rw [if_neg h]
    have t1 : (a != c) = true := by simp [h]
    clear h
    go_enter Tryz.func78, Tryz.ntmps78
    go_wp2
    go_returns
    exact ⟨rfl, BB.out⟩
theorem list_ext_get {α : Type} {l m : List α} (hl : l.length = m.length) (h : ∀ j : Nat, j < l.length → l[j]? = m[j]?) : l = m := by
  apply List.ext_getElem?
  intro j
  by_cases hj : j < l.length
  · exact h j hj
  · rw [List.getElem?_eq_none (by omega), List.getElem?_eq_none (by omega)]
set_option maxHeartbeats 3200000 in
theorem same_any (w : World) (v1 v2 : Value) (l m : List Sp) (h1 : LiesK encS 2 w v1 l) (h2 : LiesK encS 2 w v2 m) :
    Calls Tryz.prog 26 #[v1, v2] w fun e w' => e = .returned (.bool (decide (l = m))) ∧ Below w.heap.size w w' := by
  have hl1 := h1.len
  have hl2 := h2.len
  have H1 := Lib.hid h1
  have H2 := Lib.hid h2
  obtain ⟨a1, c1, rfl⟩ := h1.shape
  obtain ⟨a2, c2, rfl⟩ := h2.shape
  clear h1 h2
  by_cases hne : l.length = m.length
  · have HN := Lib.hid hne
    have t0 : ((l.length : Int) != (m.length : Int)) = false := by simp [hne]
    go_enter Tryz.func26, Tryz.ntmps26
    clear hne
    go_wp2
    clear t0
    go_loopw [5] (fun kv wr => ∃ i : Nat, kv = .int .i64 i ∧ i ≤ l.length ∧ Hid (∀ j : Nat, j < i → l[j]? = m[j]?) ∧ ∃ n, wr = w.drewN n) (fun kv _ => l.length - (intOf kv).toNat)
    case atStart => exact ⟨0, rfl, Nat.zero_le _, Lib.hid (fun j h => absurd h (Nat.not_lt_zero _)), 0, rfl⟩
    case round =>
      obtain ⟨i, rfl, hi, hJ, n, rfl⟩ := hrel
      by_cases hlt : i < l.length
      · obtain ⟨k, o, p, rfl, hp, hg, hc⟩ := H1.out.at' hlt
        have hmlt : i < m.length := by have := HN.out; omega
        obtain ⟨k', o', p', rfl, hp', hg', hc'⟩ := H2.out.at' hmlt
        have d0 := hc 0 _ rfl
        have d1 := hc 1 _ rfl
        have e0 := hc' 0 _ rfl
        have e1 := hc' 1 _ rfl
        rw [Nat.add_zero] at d0 e0
        clear hg hg' hc hc'
        obtain ⟨p1, p2⟩ := p
        obtain ⟨q1, q2⟩ := p'
        dsimp only at d0 d1 e0 e1
        by_cases hpp : p1 = q1 ∧ p2 = q2
        · obtain ⟨rfl, rfl⟩ := hpp
          have HJ2 := Lib.hid (show ∀ j : Nat, j < i + 1 → l[j]? = m[j]? from fun j hj => by
            by_cases e : j = i
            · subst e; rw [hp, hp']
            · exact hJ.out j (by omega))
          clear hp hp' hJ
          go_wp2
          go_quiet (fail)
          go_wp2
          go_roundw
          case rel => exact ⟨i + 1, by go_num, by omega, HJ2, _, rfl⟩
          case measure => simp [intOf]; omega
        · have HE := Lib.hid (show decide (l = m) = false from decide_eq_false (fun e => hpp (by subst e; rw [hp] at hp'; injection hp' with hp'; injection hp' with a b; exact ⟨a, b⟩)))
          clear hp hp' hJ
          rcases no2 hpp with x0 | ⟨x0, x1⟩
          all_goals
            clear hpp
            go_wp2
            go_quiet (fail)
            go_wp2
            go_returns
            exact ⟨ret_b' HE.out, by first | exact below_drewN _ _ | exact (below_drewN w n).trans ((below_drewN _ _).mono (below_drewN w n).size)⟩
      · have HE := Lib.hid (show decide (l = m) = true from decide_eq_true (list_ext_get HN.out (fun j hj => hJ.out j (by omega))))
        clear hJ
        go_wp2
        go_returns
        exact ⟨ret_b' HE.out, by first | exact below_drewN _ _ | exact (below_drewN w n).trans ((below_drewN _ _).mono (below_drewN w n).size)⟩
  · have HE := Lib.hid (show decide (l = m) = false from decide_eq_false (fun e => hne (by rw [e])))
    have t0 : ((l.length : Int) != (m.length : Int)) = true := by simp; omega
    clear hne
    go_enter Tryz.func26, Tryz.ntmps26
    go_wp2
    go_returns
    exact ⟨ret_b' HE.out, Below.refl _ _⟩
end Go.Proofs.YtbeodechhneeeaaGreatDoor.Tb


set_option linter.unusedVariables false
set_option maxRecDepth 100000
namespace Go.Proofs.YtbeodechhneeeaaGreatDoor.Tb
open Go.RowKit Go.WideMaps Go.Maps

def enc6 (x : Rw) : List Value := [.int .i64 x.t, .int .i64 x.r, .int .i64 x.pt, .int .i64 x.pr, .string x.nm, .bool x.d]
theorem enc6_len (x : Rw) : (enc6 x).length = 6 := rfl
theorem enc6_one (x : Rw) : ∀ v ∈ enc6 x, v.oneCell' = true := by
  intro v hv
  simp [enc6] at hv
  rcases hv with rfl | rfl | rfl | rfl | rfl | rfl <;> rfl
abbrev LiesR (w : World) (v : Value) (l : List Rw) : Prop := LiesK enc6 6 w v l
theorem LiesK.row {w : World} {ao : Option Addr} {n cap : Nat} {l : List Rw} (h : LiesR w (.slice ao n cap) l) {i : Nat} (hi : i < n) : ∃ g o x, ao = some ⟨g, o, none⟩ ∧ l[i]? = some x ∧ g < w.heap.size ∧ w.cell? ⟨g, o + i * 6, none⟩ = some (.int .i64 x.t) ∧ w.cell? ⟨g, o + i * 6 + 1, none⟩ = some (.int .i64 x.r) ∧ w.cell? ⟨g, o + i * 6 + 2, none⟩ = some (.int .i64 x.pt) ∧ w.cell? ⟨g, o + i * 6 + 3, none⟩ = some (.int .i64 x.pr) ∧ w.cell? ⟨g, o + i * 6 + 4, none⟩ = some (.string x.nm) ∧ w.cell? ⟨g, o + i * 6 + 5, none⟩ = some (.bool x.d) := by
  obtain ⟨g, o, x, rfl, hx, hg, hc⟩ := h.at' hi
  exact ⟨g, o, x, rfl, hx, hg, hc 0 _ rfl, hc 1 _ rfl, hc 2 _ rfl, hc 3 _ rfl, hc 4 _ rfl, hc 5 _ rfl⟩
theorem fit_at {l : List Rw} {t r : Int} {i : Nat} {x : Rw} (hx : l[i]? = some x) (h : x.t = t ∧ x.r = r) (hn : ∀ (j : Nat) y, j < i → l[j]? = some y → ¬ (y.t = t ∧ y.r = r)) : getF l t r = some x := by
  unfold getF
  obtain ⟨hl, he⟩ := List.getElem?_eq_some_iff.1 hx
  rw [List.find?_eq_some_iff_getElem]
  refine ⟨decide_eq_true h, i, hl, he, fun j hj => ?_⟩
  have := hn j l[j] hj (List.getElem?_eq_getElem (by omega))
  show (!decide (l[j].t = t ∧ l[j].r = r)) = true
  rw [decide_eq_false this]
  rfl
theorem fit_none {l : List Rw} {t r : Int} (hn : ∀ (j : Nat) y, j < l.length → l[j]? = some y → ¬ (y.t = t ∧ y.r = r)) : getF l t r = none := by
  rw [get_none]
  intro x hx
  obtain ⟨j, hj⟩ := List.mem_iff_getElem?.1 hx
  exact hn j x (List.getElem?_eq_some_iff.1 hj).1 hj
/-! ### Set, step by step -/
def stS (x : Rw) (s : List Rw × Bool) (y : Rw) : List Rw × Bool :=
  (if sameN y x then (if !s.2 && !ltR y x then (s.1 ++ [x], true) else s).1 else (if !s.2 && !ltR y x then (s.1 ++ [x], true) else s).1 ++ [y], (if !s.2 && !ltR y x then (s.1 ++ [x], true) else s).2)
def SI (l : List Rw) (x : Rw) (i : Nat) : List Rw × Bool := if (l.take i).all (fun y => ltR y x) = true then (l.take i, false) else (setF (l.take i) x, true)
theorem all_lt {l : List Rw} {x : Rw} (h : l.all (fun y => ltR y x) = true) : l.filter (fun y => ltR y x) = l ∧ l.filter (fun y => ltR x y) = [] := by
  rw [List.all_eq_true] at h
  refine ⟨List.filter_eq_self.2 h, List.filter_eq_nil_iff.2 (fun y hy => ?_)⟩
  rcases lt_tri y x with ⟨a, b, c⟩ | ⟨a, b, c⟩ | ⟨a, b, c⟩
  · rw [c]; simp
  · rw [h y hy] at a; cases a
  · rw [h y hy] at a; cases a
theorem SI_step {l : List Rw} (hr : Rise l) (x : Rw) {i : Nat} {y : Rw} (hy : l[i]? = some y) : stS x (SI l x i) y = SI l x (i + 1) := by
  obtain ⟨hl, he⟩ := List.getElem?_eq_some_iff.1 hy
  have ht : l.take (i + 1) = l.take i ++ [y] := by rw [List.take_succ_eq_append_getElem hl, he]
  have hlt : ∀ z ∈ l.take i, ltR z y = true := by
    have hp : (l.take i ++ [y]).Pairwise (fun x y => ltR x y = true) := by rw [← ht]; exact hr.sublist (List.take_sublist _ _)
    intro z hz
    exact (List.pairwise_append.1 hp).2.2 z hz y (by simp)
  unfold SI
  rw [ht, List.all_append]
  by_cases hall : (l.take i).all (fun y => ltR y x) = true
  · rw [if_pos hall, hall]
    obtain ⟨f1, f2⟩ := all_lt hall
    rcases lt_tri y x with ⟨a, b, c⟩ | ⟨a, b, c⟩ | ⟨a, b, c⟩
    · simp [stS, a, b]
    · simp [stS, a, b, setF, c, f1, f2, List.filter_append]
    · simp [stS, a, b, setF, c, f1, f2, List.filter_append]
  · rw [if_neg hall]
    have hall' : (l.take i).all (fun y => ltR y x) = false := by cases h : (l.take i).all (fun y => ltR y x) <;> simp_all
    obtain ⟨z, hz, hzx⟩ : ∃ z ∈ l.take i, ltR z x = false := by
      rw [List.all_eq_false] at hall'
      obtain ⟨z, hz, hzx⟩ := hall'
      exact ⟨z, hz, by simpa using hzx⟩
    have hxy : ltR x y = true := by
      rcases lt_tri z x with ⟨a, b, c⟩ | ⟨a, b, c⟩ | ⟨a, b, c⟩
      · rw [a] at hzx; cases hzx
      · have := hlt z hz
        unfold sameN at b
        have b := of_decide_eq_true b
        unfold ltR at this ⊢
        rw [← b.1, ← b.2]
        exact this
      · exact lt_trans' c (hlt z hz)
    rcases lt_tri x y with ⟨a, b, c⟩ | ⟨a, b, c⟩ | ⟨a, b, c⟩
    · have b' : sameN y x = false := by
        rcases lt_tri y x with ⟨q1, q2, q3⟩ | ⟨q1, q2, q3⟩ | ⟨q1, q2, q3⟩
        · exact q2
        · rw [a] at q3; cases q3
        · exact q2
      rw [hall']
      simp [stS, setF, b', a, c, List.filter_append]
    · rw [a] at hxy; cases hxy
    · rw [a] at hxy; cases hxy
theorem SI_end (l : List Rw) (x : Rw) : (if (SI l x l.length).2 then (SI l x l.length).1 else (SI l x l.length).1 ++ [x]) = setF l x := by
  unfold SI
  rw [List.take_length]
  by_cases h : l.all (fun y => ltR y x) = true
  · rw [if_pos h]
    obtain ⟨f1, f2⟩ := all_lt h
    simp [setF, f1, f2]
  · rw [if_neg h]
    simp
theorem SI_len (l : List Rw) (x : Rw) (i : Nat) : (SI l x i).1.length ≤ l.length + 1 := by
  unfold SI
  split
  · simp; omega
  · have := (set_perm (l := l.take i) x).length_eq
    have h2 := List.length_filter_le (fun y => !sameN y x) (l.take i)
    rw [this, List.length_cons]
    rw [List.length_take] at h2
    omega
end Go.Proofs.YtbeodechhneeeaaGreatDoor.Tb


set_option linter.unusedVariables false
set_option maxRecDepth 100000
namespace Go.Proofs.YtbeodechhneeeaaGreatDoor.Tb
open Go.RowKit Go.WideMaps Go.Maps

def EnB (T : TypeId) (w : World) (g : Nat) (pt pr : Int) (nm : ByteArray) (d : Bool) : Prop := w.heap[g]? = some (.cells #[.int .i64 pt, .int .i64 pr, .string nm, .bool d] T (0, 0))
theorem EnB.step {T : TypeId} {w w' : World} {g : Nat} {pt pr : Int} {nm : ByteArray} {d : Bool} (h : EnB T w g pt pr nm d) (hb : Below w.heap.size w w') : EnB T w' g pt pr nm d := (hb.block g (lt_of_block h)).trans h
theorem EnB.cells {T : TypeId} {w : World} {g : Nat} {pt pr : Int} {nm : ByteArray} {d : Bool} (h : EnB T w g pt pr nm d) : w.cell? ⟨g, 0, none⟩ = some (.int .i64 pt) ∧ w.cell? ⟨g, 1, none⟩ = some (.int .i64 pr) ∧ w.cell? ⟨g, 2, none⟩ = some (.string nm) ∧ w.cell? ⟨g, 3, none⟩ = some (.bool d) := by
  refine ⟨?_, ?_, ?_, ?_⟩ <;> (rw [cell_of_row _ _ _ _ _ _ h]; rfl)
theorem EnB.free {T : TypeId} {w : World} {g : Nat} {pt pr : Int} {nm : ByteArray} {d : Bool} (h : EnB T w g pt pr nm d) : w.frozen? ⟨g, 0, none⟩ = false ∧ w.frozen? ⟨g, 1, none⟩ = false ∧ w.frozen? ⟨g, 2, none⟩ = false ∧ w.frozen? ⟨g, 3, none⟩ = false :=
  ⟨frozen_of_row _ _ _ _ _ h, frozen_of_row _ _ _ _ _ h, frozen_of_row _ _ _ _ _ h, frozen_of_row _ _ _ _ _ h⟩
theorem EnB.sets {T : TypeId} {w : World} {b : Nat} {pt pr : Int} {nm : ByteArray} {d : Bool} (h : EnB T w b pt pr nm d) (pt' pr' : Int) (nm' : ByteArray) (d' : Bool) : EnB T (sets4 w b (.int .i64 pt') (.int .i64 pr') (.string nm') (.bool d')) b pt' pr' nm' d' := by
  unfold sets4
  exact row_setC (j := 3) (u := .bool d') (row_setC (j := 2) (u := .string nm') (row_setC (j := 1) (u := .int .i64 pr') (row_setC (j := 0) (u := .int .i64 pt') h)))
end Go.Proofs.YtbeodechhneeeaaGreatDoor.Tb


set_option linter.unusedVariables false
set_option maxRecDepth 100000
namespace Go.Proofs.YtbeodechhneeeaaGreatDoor.Tb
open Go.RowKit Go.WideMaps Go.Maps

theorem SI_ne {l : List Rw} (hr : Rise l) (x : Rw) {i : Nat} {y : Rw} (hy : l[i]? = some y) (h : (SI l x i).2 = true) : sameN y x = false := by
  obtain ⟨hl, he⟩ := List.getElem?_eq_some_iff.1 hy
  have ht : l.take (i + 1) = l.take i ++ [y] := by rw [List.take_succ_eq_append_getElem hl, he]
  have hlt : ∀ z ∈ l.take i, ltR z y = true := by
    have hp : (l.take i ++ [y]).Pairwise (fun x y => ltR x y = true) := by rw [← ht]; exact hr.sublist (List.take_sublist _ _)
    intro z hz
    exact (List.pairwise_append.1 hp).2.2 z hz y (by simp)
  unfold SI at h
  split at h
  · cases h
  · rename_i hall
    have hall' : (l.take i).all (fun y => ltR y x) = false := by cases h : (l.take i).all (fun y => ltR y x) <;> simp_all
    rw [List.all_eq_false] at hall'
    obtain ⟨z, hz, hzx⟩ := hall'
    have hzx : ltR z x = false := by simpa using hzx
    cases hs : sameN y x with
    | false => rfl
    | true =>
      unfold sameN at hs
      have hs := of_decide_eq_true hs
      have := hlt z hz
      unfold ltR at this hzx
      rw [hs.1, hs.2] at this
      rw [this] at hzx
      cases hzx
theorem stS_cases (l : List Rw) (hr : Rise l) (x : Rw) {i : Nat} {y : Rw} (hy : l[i]? = some y) :
    ((SI l x i).2 = true ∧ sameN y x = false ∧ SI l x (i + 1) = ((SI l x i).1 ++ [y], true)) ∨
    ((SI l x i).2 = false ∧ ltR y x = true ∧ sameN y x = false ∧ SI l x (i + 1) = ((SI l x i).1 ++ [y], false)) ∨
    ((SI l x i).2 = false ∧ ltR y x = false ∧ sameN y x = true ∧ SI l x (i + 1) = ((SI l x i).1 ++ [x], true)) ∨
    ((SI l x i).2 = false ∧ ltR y x = false ∧ sameN y x = false ∧ SI l x (i + 1) = (((SI l x i).1 ++ [x]) ++ [y], true)) := by
  have hs := SI_step hr x hy
  have hne := SI_ne hr x hy
  cases hd : (SI l x i).2 with
  | true =>
    have := hne hd
    left
    refine ⟨rfl, this, ?_⟩
    rw [← hs]
    simp [stS, hd, this]
  | false =>
    right
    rcases lt_tri y x with ⟨q1, q2, q3⟩ | ⟨q1, q2, q3⟩ | ⟨q1, q2, q3⟩
    · left
      refine ⟨rfl, q1, q2, ?_⟩
      rw [← hs]
      simp [stS, hd, q1, q2]
    · right; left
      refine ⟨rfl, q1, q2, ?_⟩
      rw [← hs]
      simp [stS, hd, q1, q2]
    · right; right
      refine ⟨rfl, q1, q2, ?_⟩
      rw [← hs]
      simp [stS, hd, q1, q2]
theorem same_split {a b c d : Int} {sb : Bool} (h : decide (a = c ∧ b = d) = sb) : (sb = true ∧ ∃ q1 : (a == c) = true, (b == d) = true) ∨ (sb = false ∧ ((a == c) = false ∨ ((a == c) = true ∧ (b == d) = false))) := by
  subst h
  by_cases q : a = c ∧ b = d
  · exact .inl ⟨decide_eq_true q, beqb_ _ _ q.1, beqb_ _ _ q.2⟩
  · exact .inr ⟨decide_eq_false q, no2 q⟩
end Go.Proofs.YtbeodechhneeeaaGreatDoor.Tb


set_option linter.unusedVariables false
set_option maxRecDepth 100000
namespace Go.Proofs.YtbeodechhneeeaaGreatDoor.Tb
open Go.RowKit Go.WideMaps Go.Maps

theorem setF_len (l : List Rw) (x : Rw) : (setF l x).length ≤ l.length + 1 := by
  rw [(set_perm x).length_eq, List.length_cons]
  have := List.length_filter_le (fun y => !sameN y x) l
  omega
end Go.Proofs.YtbeodechhneeeaaGreatDoor.Tb


set_option linter.unusedVariables false
set_option maxRecDepth 100000
namespace Go.Proofs.YtbeodechhneeeaaGreatDoor.Tb
open Go.RowKit Go.WideMaps Go.Maps

structure UpR (w W : World) (nt nr t r : Int) : Prop where
  bel : Below w.heap.size w W
  one : StAt W w.heap.size nt nr
  two : StAt W (w.heap.size + 2) t r
theorem UpR.step {w W W' : World} {nt nr t r : Int} (h : UpR w W nt nr t r) (hb : Below W.heap.size W W') : UpR w W' nt nr t r := ⟨h.bel.trans (hb.mono h.bel.size), h.one.step hb, h.two.step hb⟩
theorem UpR.set {w W : World} {nt nr t r : Int} (h : UpR w W nt nr t r) (t' r' : Int) : UpR w (sets2 W (w.heap.size + 2) (.int .i64 t') (.int .i64 r')) nt nr t' r' := by
  have k : Below (w.heap.size + 2) W (sets2 W (w.heap.size + 2) (.int .i64 t') (.int .i64 r')) := ((Below.refl _ W).setCell (p := ⟨w.heap.size + 2, 0, none⟩) (Nat.le_refl _) _).setCell (p := ⟨w.heap.size + 2, 1, none⟩) (Nat.le_refl _) _
  refine ⟨h.bel.trans (k.mono (by omega)), (k.block _ (by omega)).trans h.one, ?_⟩
  exact row_setC (j := 1) (u := .int .i64 r') (row_setC (j := 0) (u := .int .i64 t') h.two)
end Go.Proofs.YtbeodechhneeeaaGreatDoor.Tb



