/- Merged by tools/merge.py: TI, TJ, TK, TL, TM, TN, TO, TP, TQ. -/
import Derived.Test.YtbeodechhneeeaaDoorMS
import Derived.RangeFuncFrom
import Derived.Sort.MapsRangeIn
import Derived.RegionIn
import Derived.LoopNIn
import Derived.LoopIn
import Derived.TacticsInMore
import Derived.RangeFuncNested
import Derived.RangeFuncBound
import Derived.RangeFuncCalls
import Derived.RangeFuncLeaves
import Derived.Shelf.Abstract
import Derived.Shelf.RegionOpen
set_option linter.unusedVariables false
set_option maxRecDepth 100000
namespace Go.Proofs.YtbeodechhneeeaaDoor.Tb
open Go.RowKit Go.WideMaps Go.Maps

abbrev kd (done : List Rw) (pt pr : Int) : List Sp := (done.filter (atP pt pr)).map stOf
/-- Kids, between two rounds. -/
structure KI (w W : World) (b r : Nat) (l : List Rw) (pt pr : Int) (v : Value) (done : List Rw) : Prop where
  rg : TRg W b r l done
  own : W.ownsRow (w.heap.size + 1) 46 2 v (kd done pt pr).length ((kd done pt pr).flatMap encS)
  box : StAt W w.heap.size pt pr
  bel : Below w.heap.size w W
  big : w.heap.size + 1 ≤ r
theorem KI.len {w W : World} {b r : Nat} {l : List Rw} {pt pr : Int} {v : Value} {done : List Rw} (h : KI w W b r l pt pr v done) : done.length ≤ l.length := by
  obtain ⟨es, left, cnt, _, _, _, h4, _, h6, h7⟩ := h.rg
  exact List.Nodup.length_le_of_subset h6 h7
theorem KI.step {w W W' : World} {b r : Nat} {l : List Rw} {pt pr : Int} {v : Value} {done : List Rw} (h : KI w W b r l pt pr v done) (hb : Below W.heap.size W W') : KI w W' b r l pt pr v done ∧ W'.rangeLeft b r = W.rangeLeft b r := by
  have hg := below_grown hb none
  have k := h.rg.kept hg (by simp) (by simp)
  exact ⟨⟨k.1, own_belowK h.own hb, h.box.step hb, h.bel.trans (hb.mono h.bel.size), h.big⟩, k.2⟩
end Go.Proofs.YtbeodechhneeeaaDoor.Tb


set_option linter.unusedVariables false
set_option maxRecDepth 100000
namespace Go.Proofs.YtbeodechhneeeaaDoor.Tb
open Go.RowKit Go.WideMaps Go.Maps

section
variable {F : Fence} {n : Nat} {w : World} {ops : Array Oper} {rest : List Oper} {o : Oper} {a : Act} {Q : Exit → Act → World → Prop}
end
theorem TRg.len {w : World} {b r : Nat} {l done : List Rw} (h : TRg w b r l done) : done.length ≤ l.length := by
  obtain ⟨es, left, cnt, _, _, _, h4, _, h6, h7⟩ := h
  exact List.Nodup.length_le_of_subset h6 h7
end Go.Proofs.YtbeodechhneeeaaDoor.Tb


set_option linter.unusedVariables false
set_option maxRecDepth 100000
namespace Go.Proofs.YtbeodechhneeeaaDoor.Tb
open Go.RowKit Go.WideMaps Go.Maps

/-- AppendSeq, between two rounds. -/
def AI (w : World) (pre : List Rw) (W : World) : Prop := (∃ v, W.heap[w.heap.size]? = some (.cells #[v] 43 (0, 0)) ∧ W.ownsRow (w.heap.size + 1) 46 2 v (pre.map stOf).length ((pre.map stOf).flatMap encS)) ∧ Below w.heap.size w W
theorem own_kept {W W' : World} {row : Option Nat} {base : Nat} {e : TypeId} {size : Nat} {v : Value} {m : Nat} {xs : List Value} (h : W.ownsRow base e size v m xs) (hg : W.grownBy W' row) (hr : ∀ r, row = some r → ∃ o : Obj, W.heap[r]? = some o ∧ o.isCells = false) : W'.ownsRow base e size v m xs := by
  refine h.kept hg ?_
  rcases h.2 with ⟨rfl, _⟩ | ⟨g, cap, cur, rfl, _, hb, _⟩
  · exact .inl rfl
  · refine .inr (fun e1 => ?_)
    obtain ⟨o, ho, hc⟩ := hr g e1.symm
    rw [hb] at ho
    cases ho
    cases hc
theorem AI.own (w : World) (B : Nat) (hB : w.heap.size ≤ B) : OwnFrom B (AI w) := by
  intro s W W' row h hg hr
  obtain ⟨⟨v, h1, h2⟩, h3⟩ := h
  refine ⟨⟨v, (hg.block _ (lt_of_block h1) (fun e => ?_)).trans h1, own_kept h2 hg (fun r e => (hr r e).2)⟩, h3.grown hg h3.size (fun k e => Nat.le_trans hB (hr k e).1)⟩
  obtain ⟨o, ho, hc⟩ := (hr _ e.symm).2
  rw [h1] at ho
  cases ho
  cases hc
end Go.Proofs.YtbeodechhneeeaaDoor.Tb


set_option linter.unusedVariables false
set_option maxRecDepth 100000
namespace Go.Proofs.YtbeodechhneeeaaDoor.Tb
open Go.RowKit Go.WideMaps Go.Maps

theorem below_drewN (w : World) : ∀ n, Below w.heap.size w (w.drewN n) := fun n => ⟨rfl, rfl, rfl, Nat.le_refl _, fun _ _ => rfl⟩
set_option maxHeartbeats 800000 in
theorem less_any (w : World) (a b c d : Int) : Calls Tryd.prog 57 #[.agg #[.int .i64 a, .int .i64 b], .agg #[.int .i64 c, .int .i64 d]] w fun e w' => e = .returned (.bool (ltS a b c d)) ∧ Below w.heap.size w w' := by
  have BB := Lib.hid ((vstep w (.cells #[.int .i64 a, .int .i64 b] 46)).trans ((vstep (w.alloc (.cells #[.int .i64 a, .int .i64 b] 46)) (.cells #[.int .i64 c, .int .i64 d] 46)).mono (vstep w _).size))
  unfold ltS
  by_cases h : a = c
  · rw [if_pos h]
    have t1 : (a != c) = false := by simp [h]
    clear h
    go_enter Tryd.func57, Tryd.ntmps57
    go_wp2
    go_returns
    exact ⟨rfl, BB.out⟩
  · rw [if_neg h]
    have t1 : (a != c) = true := by simp [h]
    clear h
    go_enter Tryd.func57, Tryd.ntmps57
    go_wp2
    go_returns
    exact ⟨rfl, BB.out⟩
theorem list_ext_get {α : Type} {l m : List α} (hl : l.length = m.length) (h : ∀ j : Nat, j < l.length → l[j]? = m[j]?) : l = m := by
  apply List.ext_getElem?
  intro j
  by_cases hj : j < l.length
  · exact h j hj
  · rw [List.getElem?_eq_none (by omega), List.getElem?_eq_none (by omega)]
set_option maxHeartbeats 3200000 in
theorem same_any (w : World) (v1 v2 : Value) (l m : List Sp) (h1 : LiesK encS 2 w v1 l) (h2 : LiesK encS 2 w v2 m) :
    Calls Tryd.prog 22 #[v1, v2] w fun e w' => e = .returned (.bool (decide (l = m))) ∧ Below w.heap.size w w' := by
  have hl1 := h1.len
  have hl2 := h2.len
  have H1 := Lib.hid h1
  have H2 := Lib.hid h2
  obtain ⟨a1, c1, rfl⟩ := h1.shape
  obtain ⟨a2, c2, rfl⟩ := h2.shape
  clear h1 h2
  by_cases hne : l.length = m.length
  · have HN := Lib.hid hne
    have t0 : ((l.length : Int) != (m.length : Int)) = false := by simp [hne]
    go_enter Tryd.func22, Tryd.ntmps22
    clear hne
    go_wp2
    clear t0
    go_loopw [5] (fun kv wr => ∃ i : Nat, kv = .int .i64 i ∧ i ≤ l.length ∧ Hid (∀ j : Nat, j < i → l[j]? = m[j]?) ∧ ∃ n, wr = w.drewN n) (fun kv _ => l.length - (intOf kv).toNat)
    case atStart => exact ⟨0, rfl, Nat.zero_le _, Lib.hid (fun j h => absurd h (Nat.not_lt_zero _)), 0, rfl⟩
    case round =>
      obtain ⟨i, rfl, hi, hJ, n, rfl⟩ := hrel
      by_cases hlt : i < l.length
      · obtain ⟨k, o, p, rfl, hp, hg, hc⟩ := H1.out.at' hlt
        have hmlt : i < m.length := by have := HN.out; omega
        obtain ⟨k', o', p', rfl, hp', hg', hc'⟩ := H2.out.at' hmlt
        have d0 := hc 0 _ rfl
        have d1 := hc 1 _ rfl
        have e0 := hc' 0 _ rfl
        have e1 := hc' 1 _ rfl
        rw [Nat.add_zero] at d0 e0
        clear hg hg' hc hc'
        obtain ⟨p1, p2⟩ := p
        obtain ⟨q1, q2⟩ := p'
        dsimp only at d0 d1 e0 e1
        by_cases hpp : p1 = q1 ∧ p2 = q2
        · obtain ⟨rfl, rfl⟩ := hpp
          have HJ2 := Lib.hid (show ∀ j : Nat, j < i + 1 → l[j]? = m[j]? from fun j hj => by
            by_cases e : j = i
            · subst e; rw [hp, hp']
            · exact hJ.out j (by omega))
          clear hp hp' hJ
          go_wp2
          go_quiet (fail)
          go_wp2
          go_roundw
          case rel => exact ⟨i + 1, by go_num, by omega, HJ2, _, rfl⟩
          case measure => simp [intOf]; omega
        · have HE := Lib.hid (show decide (l = m) = false from decide_eq_false (fun e => hpp (by subst e; rw [hp] at hp'; injection hp' with hp'; injection hp' with a b; exact ⟨a, b⟩)))
          clear hp hp' hJ
          rcases no2 hpp with x0 | ⟨x0, x1⟩
          all_goals
            clear hpp
            go_wp2
            go_quiet (fail)
            go_wp2
            go_returns
            exact ⟨ret_b' HE.out, by first | exact below_drewN _ _ | exact (below_drewN w n).trans ((below_drewN _ _).mono (below_drewN w n).size)⟩
      · have HE := Lib.hid (show decide (l = m) = true from decide_eq_true (list_ext_get HN.out (fun j hj => hJ.out j (by omega))))
        clear hJ
        go_wp2
        go_returns
        exact ⟨ret_b' HE.out, by first | exact below_drewN _ _ | exact (below_drewN w n).trans ((below_drewN _ _).mono (below_drewN w n).size)⟩
  · have HE := Lib.hid (show decide (l = m) = false from decide_eq_false (fun e => hne (by rw [e])))
    have t0 : ((l.length : Int) != (m.length : Int)) = true := by simp; omega
    clear hne
    go_enter Tryd.func22, Tryd.ntmps22
    go_wp2
    go_returns
    exact ⟨ret_b' HE.out, Below.refl _ _⟩
end Go.Proofs.YtbeodechhneeeaaDoor.Tb


set_option linter.unusedVariables false
set_option maxRecDepth 100000
namespace Go.Proofs.YtbeodechhneeeaaDoor.Tb
open Go.RowKit Go.WideMaps Go.Maps

def enc6 (x : Rw) : List Value := [.int .i64 x.t, .int .i64 x.r, .int .i64 x.pt, .int .i64 x.pr, .string x.nm, .bool x.d]
theorem enc6_len (x : Rw) : (enc6 x).length = 6 := rfl
theorem enc6_one (x : Rw) : ∀ v ∈ enc6 x, v.oneCell' = true := by
  intro v hv
  simp [enc6] at hv
  rcases hv with rfl | rfl | rfl | rfl | rfl | rfl <;> rfl
theorem info75 : (Tryd.prog.info? 72).map (fun i => (i.zero, i.size, i.bytes)) = some (some (.agg #[.int .i64 0, .int .i64 0, .int .i64 0, .int .i64 0, .string ⟨#[]⟩, .bool false]), 6, 56) := by kernel_rfl
theorem Tryd.u27 : Tryd.prog.underlying 40 = some (.slice 72) := by kernel_rfl
abbrev LiesR (w : World) (v : Value) (l : List Rw) : Prop := LiesK enc6 6 w v l
theorem LiesK.row {w : World} {ao : Option Addr} {n cap : Nat} {l : List Rw} (h : LiesR w (.slice ao n cap) l) {i : Nat} (hi : i < n) : ∃ g o x, ao = some ⟨g, o, none⟩ ∧ l[i]? = some x ∧ g < w.heap.size ∧ w.cell? ⟨g, o + i * 6, none⟩ = some (.int .i64 x.t) ∧ w.cell? ⟨g, o + i * 6 + 1, none⟩ = some (.int .i64 x.r) ∧ w.cell? ⟨g, o + i * 6 + 2, none⟩ = some (.int .i64 x.pt) ∧ w.cell? ⟨g, o + i * 6 + 3, none⟩ = some (.int .i64 x.pr) ∧ w.cell? ⟨g, o + i * 6 + 4, none⟩ = some (.string x.nm) ∧ w.cell? ⟨g, o + i * 6 + 5, none⟩ = some (.bool x.d) := by
  obtain ⟨g, o, x, rfl, hx, hg, hc⟩ := h.at' hi
  exact ⟨g, o, x, rfl, hx, hg, hc 0 _ rfl, hc 1 _ rfl, hc 2 _ rfl, hc 3 _ rfl, hc 4 _ rfl, hc 5 _ rfl⟩
theorem fit_at {l : List Rw} {t r : Int} {i : Nat} {x : Rw} (hx : l[i]? = some x) (h : x.t = t ∧ x.r = r) (hn : ∀ (j : Nat) y, j < i → l[j]? = some y → ¬ (y.t = t ∧ y.r = r)) : getF l t r = some x := by
  unfold getF
  obtain ⟨hl, he⟩ := List.getElem?_eq_some_iff.1 hx
  rw [List.find?_eq_some_iff_getElem]
  refine ⟨decide_eq_true h, i, hl, he, fun j hj => ?_⟩
  have := hn j l[j] hj (List.getElem?_eq_getElem (by omega))
  show (!decide (l[j].t = t ∧ l[j].r = r)) = true
  rw [decide_eq_false this]
  rfl
theorem fit_none {l : List Rw} {t r : Int} (hn : ∀ (j : Nat) y, j < l.length → l[j]? = some y → ¬ (y.t = t ∧ y.r = r)) : getF l t r = none := by
  rw [get_none]
  intro x hx
  obtain ⟨j, hj⟩ := List.mem_iff_getElem?.1 hx
  exact hn j x (List.getElem?_eq_some_iff.1 hj).1 hj
/-! ### Set, step by step -/
def stS (x : Rw) (s : List Rw × Bool) (y : Rw) : List Rw × Bool :=
  (if sameN y x then (if !s.2 && !ltR y x then (s.1 ++ [x], true) else s).1 else (if !s.2 && !ltR y x then (s.1 ++ [x], true) else s).1 ++ [y], (if !s.2 && !ltR y x then (s.1 ++ [x], true) else s).2)
def SI (l : List Rw) (x : Rw) (i : Nat) : List Rw × Bool := if (l.take i).all (fun y => ltR y x) = true then (l.take i, false) else (setF (l.take i) x, true)
theorem all_lt {l : List Rw} {x : Rw} (h : l.all (fun y => ltR y x) = true) : l.filter (fun y => ltR y x) = l ∧ l.filter (fun y => ltR x y) = [] := by
  rw [List.all_eq_true] at h
  refine ⟨List.filter_eq_self.2 h, List.filter_eq_nil_iff.2 (fun y hy => ?_)⟩
  rcases lt_tri y x with ⟨a, b, c⟩ | ⟨a, b, c⟩ | ⟨a, b, c⟩
  · rw [c]; simp
  · rw [h y hy] at a; cases a
  · rw [h y hy] at a; cases a
theorem SI_step {l : List Rw} (hr : Rise l) (x : Rw) {i : Nat} {y : Rw} (hy : l[i]? = some y) : stS x (SI l x i) y = SI l x (i + 1) := by
  obtain ⟨hl, he⟩ := List.getElem?_eq_some_iff.1 hy
  have ht : l.take (i + 1) = l.take i ++ [y] := by rw [List.take_succ_eq_append_getElem hl, he]
  have hlt : ∀ z ∈ l.take i, ltR z y = true := by
    have hp : (l.take i ++ [y]).Pairwise (fun x y => ltR x y = true) := by rw [← ht]; exact hr.sublist (List.take_sublist _ _)
    intro z hz
    exact (List.pairwise_append.1 hp).2.2 z hz y (by simp)
  unfold SI
  rw [ht, List.all_append]
  by_cases hall : (l.take i).all (fun y => ltR y x) = true
  · rw [if_pos hall, hall]
    obtain ⟨f1, f2⟩ := all_lt hall
    rcases lt_tri y x with ⟨a, b, c⟩ | ⟨a, b, c⟩ | ⟨a, b, c⟩
    · simp [stS, a, b]
    · simp [stS, a, b, setF, c, f1, f2, List.filter_append]
    · simp [stS, a, b, setF, c, f1, f2, List.filter_append]
  · rw [if_neg hall]
    have hall' : (l.take i).all (fun y => ltR y x) = false := by cases h : (l.take i).all (fun y => ltR y x) <;> simp_all
    obtain ⟨z, hz, hzx⟩ : ∃ z ∈ l.take i, ltR z x = false := by
      rw [List.all_eq_false] at hall'
      obtain ⟨z, hz, hzx⟩ := hall'
      exact ⟨z, hz, by simpa using hzx⟩
    have hxy : ltR x y = true := by
      rcases lt_tri z x with ⟨a, b, c⟩ | ⟨a, b, c⟩ | ⟨a, b, c⟩
      · rw [a] at hzx; cases hzx
      · have := hlt z hz
        unfold sameN at b
        have b := of_decide_eq_true b
        unfold ltR at this ⊢
        rw [← b.1, ← b.2]
        exact this
      · exact lt_trans' c (hlt z hz)
    rcases lt_tri x y with ⟨a, b, c⟩ | ⟨a, b, c⟩ | ⟨a, b, c⟩
    · have b' : sameN y x = false := by
        rcases lt_tri y x with ⟨q1, q2, q3⟩ | ⟨q1, q2, q3⟩ | ⟨q1, q2, q3⟩
        · exact q2
        · rw [a] at q3; cases q3
        · exact q2
      rw [hall']
      simp [stS, setF, b', a, c, List.filter_append]
    · rw [a] at hxy; cases hxy
    · rw [a] at hxy; cases hxy
theorem SI_end (l : List Rw) (x : Rw) : (if (SI l x l.length).2 then (SI l x l.length).1 else (SI l x l.length).1 ++ [x]) = setF l x := by
  unfold SI
  rw [List.take_length]
  by_cases h : l.all (fun y => ltR y x) = true
  · rw [if_pos h]
    obtain ⟨f1, f2⟩ := all_lt h
    simp [setF, f1, f2]
  · rw [if_neg h]
    simp
theorem SI_len (l : List Rw) (x : Rw) (i : Nat) : (SI l x i).1.length ≤ l.length + 1 := by
  unfold SI
  split
  · simp; omega
  · have := (set_perm (l := l.take i) x).length_eq
    have h2 := List.length_filter_le (fun y => !sameN y x) (l.take i)
    rw [this, List.length_cons]
    rw [List.length_take] at h2
    omega
end Go.Proofs.YtbeodechhneeeaaDoor.Tb


set_option linter.unusedVariables false
set_option maxRecDepth 100000
namespace Go.Proofs.YtbeodechhneeeaaDoor.Tb
open Go.RowKit Go.WideMaps Go.Maps

def EnB (T : TypeId) (w : World) (g : Nat) (pt pr : Int) (nm : ByteArray) (d : Bool) : Prop := w.heap[g]? = some (.cells #[.int .i64 pt, .int .i64 pr, .string nm, .bool d] T (0, 0))
theorem EnB.step {T : TypeId} {w w' : World} {g : Nat} {pt pr : Int} {nm : ByteArray} {d : Bool} (h : EnB T w g pt pr nm d) (hb : Below w.heap.size w w') : EnB T w' g pt pr nm d := (hb.block g (lt_of_block h)).trans h
theorem EnB.cells {T : TypeId} {w : World} {g : Nat} {pt pr : Int} {nm : ByteArray} {d : Bool} (h : EnB T w g pt pr nm d) : w.cell? ⟨g, 0, none⟩ = some (.int .i64 pt) ∧ w.cell? ⟨g, 1, none⟩ = some (.int .i64 pr) ∧ w.cell? ⟨g, 2, none⟩ = some (.string nm) ∧ w.cell? ⟨g, 3, none⟩ = some (.bool d) := by
  refine ⟨?_, ?_, ?_, ?_⟩ <;> (rw [cell_of_row _ _ _ _ _ _ h]; rfl)
theorem EnB.free {T : TypeId} {w : World} {g : Nat} {pt pr : Int} {nm : ByteArray} {d : Bool} (h : EnB T w g pt pr nm d) : w.frozen? ⟨g, 0, none⟩ = false ∧ w.frozen? ⟨g, 1, none⟩ = false ∧ w.frozen? ⟨g, 2, none⟩ = false ∧ w.frozen? ⟨g, 3, none⟩ = false :=
  ⟨frozen_of_row _ _ _ _ _ h, frozen_of_row _ _ _ _ _ h, frozen_of_row _ _ _ _ _ h, frozen_of_row _ _ _ _ _ h⟩
theorem EnB.sets {T : TypeId} {w : World} {b : Nat} {pt pr : Int} {nm : ByteArray} {d : Bool} (h : EnB T w b pt pr nm d) (pt' pr' : Int) (nm' : ByteArray) (d' : Bool) : EnB T (sets4 w b (.int .i64 pt') (.int .i64 pr') (.string nm') (.bool d')) b pt' pr' nm' d' := by
  unfold sets4
  exact row_setC (j := 3) (u := .bool d') (row_setC (j := 2) (u := .string nm') (row_setC (j := 1) (u := .int .i64 pr') (row_setC (j := 0) (u := .int .i64 pt') h)))
set_option maxHeartbeats 3200000 in
theorem rget_any (w : World) (v : Value) (l : List Rw) (h : LiesR w v l) (t r : Int) :
    Calls Tryd.prog 85 #[v, .agg #[.int .i64 t, .int .i64 r]] w fun e w' => e = .returned (.tuple #[gv l t r, .bool (getF l t r).isSome]) ∧ Below w.heap.size w w' := by
  have hlm := h.len
  have B1 := vstep w (.cells #[.int .i64 t, .int .i64 r] 46)
  have B2 := vstep (w.alloc (.cells #[.int .i64 t, .int .i64 r] 46)) (.cells #[.int .i64 0, .int .i64 0, .string ⟨#[]⟩, .bool false] 70)
  have B := Lib.hid (B1.trans (B2.mono B1.size))
  have L := Lib.hid (h.step B.out)
  have S2 := Lib.hid ((StAt.new w t r).step B2)
  obtain ⟨W0, hW0⟩ : ∃ y, (w.alloc (.cells #[.int .i64 t, .int .i64 r] 46)).alloc (.cells #[.int .i64 0, .int .i64 0, .string ⟨#[]⟩, .bool false] 70) = y := ⟨_, rfl⟩
  rw [hW0] at B L S2
  have E2 := Lib.hid (show EnB 70 W0 (w.heap.size + 1) 0 0 ⟨#[]⟩ false from by
    rw [← hW0]
    have := heap_alloc_new (w.alloc (.cells #[.int .i64 t, .int .i64 r] 46)) (.cells #[.int .i64 0, .int .i64 0, .string ⟨#[]⟩, .bool false] 70)
    rwa [World.size_alloc] at this)
  have HW := Lib.hid hW0
  have CL := Lib.hid (fun m x1 x2 x3 x4 => (show EnB 70 (sets4 (W0.drewN m) (w.heap.size + 1) (.int .i64 x1) (.int .i64 x2) (.string x3) (.bool x4)) (w.heap.size + 1) x1 x2 x3 x4 ∧ Below w.heap.size w (sets4 (W0.drewN m) (w.heap.size + 1) (.int .i64 x1) (.int .i64 x2) (.string x3) (.bool x4)) from ⟨(E2.out.step (below_drewN W0 m)).sets _ _ _ _, sets4_below (B.out.trans ((below_drewN W0 m).mono B.out.size)) (Nat.le_succ _)⟩))
  obtain ⟨ao, cap, rfl⟩ := h.shape
  clear B1 B2 hW0 h
  go_enter Tryd.func85, Tryd.ntmps85
  go_upto_region 1 with (fail)
  rw [HW.out]
  go_wp2_with fail
  go_loopw [6] (fun kv wr => ∃ i : Nat, kv = .int .i64 i ∧ i ≤ l.length ∧ Hid (∀ (j : Nat) y, j < i → l[j]? = some y → ¬ (y.t = t ∧ y.r = r)) ∧ ∃ n, wr = W0.drewN n) (fun kv _ => l.length - (intOf kv).toNat)
  case atStart => exact ⟨0, rfl, Nat.zero_le _, Lib.hid (fun j y h => absurd h (Nat.not_lt_zero _)), 0, rfl⟩
  case round =>
    obtain ⟨i, rfl, hi, hJ, n, rfl⟩ := hrel
    by_cases hlt : i < l.length
    · obtain ⟨g, o, x, rfl, hx, hg, a0, a1, a2, a3, a4, a5⟩ := L.out.row hlt
      obtain ⟨c1, c2⟩ := S2.out.cells
      clear hg
      by_cases hq : x.t = t ∧ x.r = r
      · have EQ := Lib.hid (fit_at hx hq hJ.out)
        have t1 := beqb_ _ _ hq.1
        have t2 := beqb_ _ _ hq.2
        obtain ⟨d0, d1, d2, d3⟩ := E2.out.cells
        obtain ⟨f0, f1, f2, f3⟩ := E2.out.free
        clear hJ hq hx
        go_wp2
        go_quiet (fail)
        go_wp2
        have K5 := CL.out (n + nq) x.pt x.pr x.nm x.d
        obtain ⟨w5, hW5⟩ : ∃ w5, sets4 (W0.drewN (n + nq)) (w.heap.size + 1) (.int .i64 x.pt) (.int .i64 x.pr) (.string x.nm) (.bool x.d) = w5 := ⟨_, rfl⟩
        rw [hW5] at K5
        unfold sets4 at hW5
        rw [hW5]
        clear hW5 d0 d1 d2 d3 f0 f1 f2 f3
        obtain ⟨d0, d1, d2, d3⟩ := K5.1.cells
        have HB5 := Lib.hid K5.2
        clear K5
        refine bodyPost_ret (by simp [results, Tryd.results85, go_sem, d0, d1, d2, d3]; try rfl) rfl ?_
        refine ⟨?_, HB5.out⟩
        unfold gv
        rw [EQ.out]
        rfl
      · have HJ2 := Lib.hid (show ∀ (j : Nat) y, j < i + 1 → l[j]? = some y → ¬ (y.t = t ∧ y.r = r) from fun j y hj hy => by
          by_cases e : j = i
          · subst e; rw [hx] at hy; injection hy with hy; subst hy; exact hq
          · exact hJ.out j y (by omega) hy)
        rcases no2 hq with x0 | ⟨x0, x1⟩
        all_goals
          clear hq hJ hx
          go_wp2
          go_quiet (fail)
          go_wp2
          go_roundw
          case rel => exact ⟨i + 1, by go_num, by omega, HJ2, _, rfl⟩
          case measure => simp [intOf]; omega
    · have EQ := Lib.hid (fit_none (t := t) (r := r) (fun j y hj => hJ.out j y (by omega)))
      obtain ⟨d0, d1, d2, d3⟩ := E2.out.cells
      obtain ⟨f0, f1, f2, f3⟩ := E2.out.free
      clear hJ
      go_wp2
      have K5 := CL.out (n) 0 0 ⟨#[]⟩ false
      obtain ⟨w5, hW5⟩ : ∃ w5, sets4 (W0.drewN (n)) (w.heap.size + 1) (.int .i64 0) (.int .i64 0) (.string ⟨#[]⟩) (.bool false) = w5 := ⟨_, rfl⟩
      rw [hW5] at K5
      unfold sets4 at hW5
      rw [hW5]
      clear hW5 d0 d1 d2 d3 f0 f1 f2 f3
      obtain ⟨d0, d1, d2, d3⟩ := K5.1.cells
      have HB5 := Lib.hid K5.2
      clear K5
      refine bodyPost_ret (by simp [results, Tryd.results85, go_sem, d0, d1, d2, d3]; try rfl) rfl ?_
      refine ⟨?_, HB5.out⟩
      unfold gv
      rw [EQ.out]
      rfl
end Go.Proofs.YtbeodechhneeeaaDoor.Tb


set_option linter.unusedVariables false
set_option maxRecDepth 100000
namespace Go.Proofs.YtbeodechhneeeaaDoor.Tb
open Go.RowKit Go.WideMaps Go.Maps

theorem SI_ne {l : List Rw} (hr : Rise l) (x : Rw) {i : Nat} {y : Rw} (hy : l[i]? = some y) (h : (SI l x i).2 = true) : sameN y x = false := by
  obtain ⟨hl, he⟩ := List.getElem?_eq_some_iff.1 hy
  have ht : l.take (i + 1) = l.take i ++ [y] := by rw [List.take_succ_eq_append_getElem hl, he]
  have hlt : ∀ z ∈ l.take i, ltR z y = true := by
    have hp : (l.take i ++ [y]).Pairwise (fun x y => ltR x y = true) := by rw [← ht]; exact hr.sublist (List.take_sublist _ _)
    intro z hz
    exact (List.pairwise_append.1 hp).2.2 z hz y (by simp)
  unfold SI at h
  split at h
  · cases h
  · rename_i hall
    have hall' : (l.take i).all (fun y => ltR y x) = false := by cases h : (l.take i).all (fun y => ltR y x) <;> simp_all
    rw [List.all_eq_false] at hall'
    obtain ⟨z, hz, hzx⟩ := hall'
    have hzx : ltR z x = false := by simpa using hzx
    cases hs : sameN y x with
    | false => rfl
    | true =>
      unfold sameN at hs
      have hs := of_decide_eq_true hs
      have := hlt z hz
      unfold ltR at this hzx
      rw [hs.1, hs.2] at this
      rw [this] at hzx
      cases hzx
theorem stS_cases (l : List Rw) (hr : Rise l) (x : Rw) {i : Nat} {y : Rw} (hy : l[i]? = some y) :
    ((SI l x i).2 = true ∧ sameN y x = false ∧ SI l x (i + 1) = ((SI l x i).1 ++ [y], true)) ∨
    ((SI l x i).2 = false ∧ ltR y x = true ∧ sameN y x = false ∧ SI l x (i + 1) = ((SI l x i).1 ++ [y], false)) ∨
    ((SI l x i).2 = false ∧ ltR y x = false ∧ sameN y x = true ∧ SI l x (i + 1) = ((SI l x i).1 ++ [x], true)) ∨
    ((SI l x i).2 = false ∧ ltR y x = false ∧ sameN y x = false ∧ SI l x (i + 1) = (((SI l x i).1 ++ [x]) ++ [y], true)) := by
  have hs := SI_step hr x hy
  have hne := SI_ne hr x hy
  cases hd : (SI l x i).2 with
  | true =>
    have := hne hd
    left
    refine ⟨rfl, this, ?_⟩
    rw [← hs]
    simp [stS, hd, this]
  | false =>
    right
    rcases lt_tri y x with ⟨q1, q2, q3⟩ | ⟨q1, q2, q3⟩ | ⟨q1, q2, q3⟩
    · left
      refine ⟨rfl, q1, q2, ?_⟩
      rw [← hs]
      simp [stS, hd, q1, q2]
    · right; left
      refine ⟨rfl, q1, q2, ?_⟩
      rw [← hs]
      simp [stS, hd, q1, q2]
    · right; right
      refine ⟨rfl, q1, q2, ?_⟩
      rw [← hs]
      simp [stS, hd, q1, q2]
theorem same_split {a b c d : Int} {sb : Bool} (h : decide (a = c ∧ b = d) = sb) : (sb = true ∧ ∃ q1 : (a == c) = true, (b == d) = true) ∨ (sb = false ∧ ((a == c) = false ∨ ((a == c) = true ∧ (b == d) = false))) := by
  subst h
  by_cases q : a = c ∧ b = d
  · exact .inl ⟨decide_eq_true q, beqb_ _ _ q.1, beqb_ _ _ q.2⟩
  · exact .inr ⟨decide_eq_false q, no2 q⟩
theorem push_ok {W W' : World} {E : Nat} {v : Value} {m : List Rw} {ob : Obj} {W0 : World} (hB : Below W0.heap.size W0 W) (ho : W.ownsRow E 72 6 v m.length (m.flatMap enc6)) (hE : W0.heap.size ≤ E) (hg : (W.alloc ob).grownBy W' v.ownBlock) : Below W0.heap.size W0 W' :=
  (hB.trans ((vstep W ob).mono hB.size)).grown hg (by have := hB.size; simp; omega) (fun k e => by have := (ho.lt k e).1; omega)
set_option maxHeartbeats 12800000 in
theorem rset_any (w : World) (v : Value) (l : List Rw) (x : Rw) (h : LiesR w v l) (hl : l.length ≤ 1000) (hr : Rise l) :
    Calls Tryd.prog 70 #[v, .agg #[.int .i64 x.t, .int .i64 x.r], .agg #[.int .i64 x.pt, .int .i64 x.pr, .string x.nm, .bool x.d]] w fun e w' => ∃ r, e = .returned r ∧ w'.ownsRow w.heap.size 72 6 r (setF l x).length ((setF l x).flatMap enc6) ∧ Below w.heap.size w w' := by
  obtain ⟨i0, hi9, hz0, hz1, hz2⟩ := info_parts info75
  have B1 := vstep w (.cells #[.int .i64 x.t, .int .i64 x.r] 46)
  have B2 := vstep (w.alloc (.cells #[.int .i64 x.t, .int .i64 x.r] 46)) (.cells #[.int .i64 x.pt, .int .i64 x.pr, .string x.nm, .bool x.d] 70)
  have B := Lib.hid (B1.trans (B2.mono B1.size))
  have L := Lib.hid (h.step B.out)
  have S0 := Lib.hid ((StAt.new w x.t x.r).step B2)
  have E0 := Lib.hid (show EnB 70 ((w.alloc (.cells #[.int .i64 x.t, .int .i64 x.r] 46)).alloc (.cells #[.int .i64 x.pt, .int .i64 x.pr, .string x.nm, .bool x.d] 70)) (w.heap.size + 1) x.pt x.pr x.nm x.d from by
    have := heap_alloc_new (w.alloc (.cells #[.int .i64 x.t, .int .i64 x.r] 46)) (.cells #[.int .i64 x.pt, .int .i64 x.pr, .string x.nm, .bool x.d] 70)
    rwa [World.size_alloc] at this)
  obtain ⟨W0, hW0⟩ : ∃ y, (w.alloc (.cells #[.int .i64 x.t, .int .i64 x.r] 46)).alloc (.cells #[.int .i64 x.pt, .int .i64 x.pr, .string x.nm, .bool x.d] 70) = y := ⟨_, rfl⟩
  rw [hW0] at B L S0 E0
  have HW := Lib.hid hW0
  have SF := Lib.hid (fun W (hb : Below W0.heap.size W0 W) => (S0.out.step hb).cells)
  have EF := Lib.hid (fun W (hb : Below W0.heap.size W0 W) => (E0.out.step hb).cells)
  have HR := Lib.hid hr
  obtain ⟨ao, cap, rfl⟩ := h.shape
  clear B1 B2 hW0 h hr S0 E0
  go_enter Tryd.func70, Tryd.ntmps70
  go_upto_region 1 with (fail)
  rw [HW.out]
  go_wp2_with fail
  go_loopw [7, 8, 9] (fun ov dv kv wr => ∃ i : Nat, kv = .int .i64 i ∧ i ≤ l.length ∧ dv = .bool (SI l x i).2 ∧ Hid (wr.ownsRow W0.heap.size 72 6 ov (SI l x i).1.length ((SI l x i).1.flatMap enc6) ∧ Below W0.heap.size W0 wr)) (fun _ _ kv _ => l.length - (intOf kv).toNat)
  case atStart => exact ⟨0, rfl, Nat.zero_le _, rfl, Lib.hid ⟨World.ownsRow_nil _ _ _ _, Below.refl _ _⟩⟩
  case round =>
    obtain ⟨i, rfl, hi, rfl, hK⟩ := hrel
    obtain ⟨oa, oc, rfl⟩ := own_shapeK hK.out.1
    have O0 := Lib.hid hK.out.1
    have K0 := Lib.hid hK.out.2
    have LN := Lib.hid (SI_len l x i)
    clear hK
    by_cases hlt : i < l.length
    · obtain ⟨g, o, y, rfl, hy, hg, a0, a1, a2, a3, a4, a5⟩ := L.out.row hlt
      have AF := Lib.hid (fun W (hb : Below W0.heap.size W0 W) => (show W.cell? ⟨g, o + i * 6, none⟩ = some (.int .i64 y.t) ∧ W.cell? ⟨g, o + i * 6 + 1, none⟩ = some (.int .i64 y.r) ∧ W.cell? ⟨g, o + i * 6 + 2, none⟩ = some (.int .i64 y.pt) ∧ W.cell? ⟨g, o + i * 6 + 3, none⟩ = some (.int .i64 y.pr) ∧ W.cell? ⟨g, o + i * 6 + 4, none⟩ = some (.string y.nm) ∧ W.cell? ⟨g, o + i * 6 + 5, none⟩ = some (.bool y.d) from ⟨(hb.cell (p := ⟨g, o + i * 6, none⟩) hg).trans a0, (hb.cell (p := ⟨g, o + i * 6 + 1, none⟩) hg).trans a1, (hb.cell (p := ⟨g, o + i * 6 + 2, none⟩) hg).trans a2, (hb.cell (p := ⟨g, o + i * 6 + 3, none⟩) hg).trans a3, (hb.cell (p := ⟨g, o + i * 6 + 4, none⟩) hg).trans a4, (hb.cell (p := ⟨g, o + i * 6 + 5, none⟩) hg).trans a5⟩))
      have CS := stS_cases l HR.out x hy
      clear a0 a1 a2 a3 a4 a5 hg hy
      have LS := Lib.hid (fun z : Later wr => less_any z.w y.t y.r x.t x.r)
      rw [show ltS y.t y.r x.t x.r = ltR y x from rfl] at LS
      obtain ⟨S, hS⟩ : ∃ S, SI l x i = S := ⟨_, rfl⟩
      rw [hS] at CS O0 LN ⊢
      clear hS
      obtain ⟨m, dn⟩ := S
      dsimp only at CS O0 LN ⊢
      have l0 := fun z : Later wr => (AF.out z.w (K0.out.trans (z.below.mono K0.out.size))).1
      have l1 := fun z : Later wr => (AF.out z.w (K0.out.trans (z.below.mono K0.out.size))).2.1
      have m0 := fun z : Later wr => (SF.out z.w (K0.out.trans (z.below.mono K0.out.size))).1
      have m1 := fun z : Later wr => (SF.out z.w (K0.out.trans (z.below.mono K0.out.size))).2
      generalize hlr : ltR y x = lr at *
      have hsn : decide (y.t = x.t ∧ y.r = x.r) = sameN y x := rfl
      rcases CS with ⟨rfl, q2, q3⟩ | ⟨rfl, rfl, q2, q3⟩ | ⟨rfl, rfl, q2, q3⟩ | ⟨rfl, rfl, q2, q3⟩
      · rw [← hsn] at q2
        have Q3 := Lib.hid q3
        have Q2 := same_split q2
        clear q3 q2 hsn hlr
        rcases Q2 with ⟨c, _⟩ | ⟨_, t1 | ⟨t1, t2⟩⟩
        · cases c
        all_goals
          go_upto_region 6 with (fail)
          refine wp_region_later (by kernel_rfl) (by kernel_rfl) ?_
          repeat (go_big_quiet_step (first | (go_at_call 57; with_reducible exact later_call (LS.out _))))
          refine wpQuiet_nil ?_
          rintro _ ⟨xl1, rfl⟩
          have K1 := Lib.hid (K0.out.trans (xl1.below.mono K0.out.size))
          have O1 := Lib.hid (own_belowK O0.out xl1.below)
          generalize xl1.w = w1 at *
          clear l0 l1 m0 m1 LS
          go_upto_region 9 with (fail)
          have r0 := fun z : Later w1 => (AF.out z.w (K1.out.trans (z.below.mono K1.out.size))).1
          have r1 := fun z : Later w1 => (AF.out z.w (K1.out.trans (z.below.mono K1.out.size))).2.1
          have s0 := fun z : Later w1 => (SF.out z.w (K1.out.trans (z.below.mono K1.out.size))).1
          have s1 := fun z : Later w1 => (SF.out z.w (K1.out.trans (z.below.mono K1.out.size))).2
          refine wp_region_later (by kernel_rfl) (by kernel_rfl) ?_
          repeat (go_big_quiet_step (fail))
          refine wpQuiet_nil ?_
          rintro _ ⟨xl3, rfl⟩
          have K3 := Lib.hid (K1.out.trans (xl3.below.mono K1.out.size))
          have O3 := Lib.hid (own_belowK O1.out xl3.below)
          generalize xl3.w = w3 at *
          clear r0 r1 s0 s1
          obtain ⟨e0, e1, e2, e3, e4, e5⟩ := AF.out _ K3.out
          obtain ⟨ms4, hms4⟩ : ∃ ms, (m) ++ [y] = ms := ⟨_, rfl⟩
          have MS4 := Lib.hid hms4
          clear hms4
          have OX4 := Lib.hid (own_belowK O3.out (vstep w3 (.cells #[.int .i64 y.t, .int .i64 y.r, .int .i64 y.pt, .int .i64 y.pr, .string y.nm, .bool y.d] 72)))
          have HX4 := Lib.hid (show (w3.alloc (.cells #[.int .i64 y.t, .int .i64 y.r, .int .i64 y.pt, .int .i64 y.pr, .string y.nm, .bool y.d] 72)).heap[w3.heap.size]? = some (.cells (enc6 y).toArray 72 (0, 0)) from heap_alloc_new w3 _)
          have QX4 := Lib.hid (And.intro (show (m).length + 1 ≤ maxLen from by have := LN.out;  unfold maxLen; (try simp only [List.length_append, List.length_cons, List.length_nil]); omega) (And.intro (show ((m).length + 1) * 56 ≤ 140737488355328 from by have := LN.out;  (try simp only [List.length_append, List.length_cons, List.length_nil]); omega) (show W0.heap.size ≤ (w3.alloc (.cells #[.int .i64 y.t, .int .i64 y.r, .int .i64 y.pt, .int .i64 y.pr, .string y.nm, .bool y.d] 72)).heap.size from by have := K3.out.size; simp; omega)))
          go_wp2_with (at_builtin; refine wpList_pushK rfl (.tmp 41) (.tmp 46) 40 rfl enc6_len (by decide) enc6_one W0.heap.size 72 i0 (.agg #[.int .i64 0, .int .i64 0, .int .i64 0, .int .i64 0, .string ⟨#[]⟩, .bool false]) 56 Tryd.u27 hi9 hz0 hz1 hz2 rfl _ (m) y w3.heap.size rfl rfl HX4.out OX4.out QX4.out.1 QX4.out.2.1 QX4.out.2.2 ?_; intro v4 w4 hown hgr; rw [MS4.out] at hown; obtain ⟨va4, vc4, rfl⟩ := own_shapeK hown; have O4 := Lib.hid hown; have K4 := Lib.hid (push_ok K3.out O3.out (Nat.le_refl _) hgr); clear hown hgr)
          clear e0 e1 e2 e3 e4 e5
          go_wp2
          go_roundw
          case rel => exact ⟨i + 1, by go_num, by omega, by rw [Q3.out], Lib.hid (by rw [Q3.out]; dsimp only; rw [MS4.out]; exact ⟨O4.out, K4.out⟩)⟩
          case measure => simp [intOf]; omega
      · rw [← hsn] at q2
        have Q3 := Lib.hid q3
        have Q2 := same_split q2
        clear q3 q2 hsn hlr
        rcases Q2 with ⟨c, _⟩ | ⟨_, t1 | ⟨t1, t2⟩⟩
        · cases c
        all_goals
          go_upto_region 6 with (fail)
          refine wp_region_later (by kernel_rfl) (by kernel_rfl) ?_
          repeat (go_big_quiet_step (first | (go_at_call 57; with_reducible exact later_call (LS.out _))))
          refine wpQuiet_nil ?_
          rintro _ ⟨xl1, rfl⟩
          have K1 := Lib.hid (K0.out.trans (xl1.below.mono K0.out.size))
          have O1 := Lib.hid (own_belowK O0.out xl1.below)
          generalize xl1.w = w1 at *
          clear l0 l1 m0 m1 LS
          go_upto_region 9 with (fail)
          have r0 := fun z : Later w1 => (AF.out z.w (K1.out.trans (z.below.mono K1.out.size))).1
          have r1 := fun z : Later w1 => (AF.out z.w (K1.out.trans (z.below.mono K1.out.size))).2.1
          have s0 := fun z : Later w1 => (SF.out z.w (K1.out.trans (z.below.mono K1.out.size))).1
          have s1 := fun z : Later w1 => (SF.out z.w (K1.out.trans (z.below.mono K1.out.size))).2
          refine wp_region_later (by kernel_rfl) (by kernel_rfl) ?_
          repeat (go_big_quiet_step (fail))
          refine wpQuiet_nil ?_
          rintro _ ⟨xl3, rfl⟩
          have K3 := Lib.hid (K1.out.trans (xl3.below.mono K1.out.size))
          have O3 := Lib.hid (own_belowK O1.out xl3.below)
          generalize xl3.w = w3 at *
          clear r0 r1 s0 s1
          obtain ⟨e0, e1, e2, e3, e4, e5⟩ := AF.out _ K3.out
          obtain ⟨ms4, hms4⟩ : ∃ ms, (m) ++ [y] = ms := ⟨_, rfl⟩
          have MS4 := Lib.hid hms4
          clear hms4
          have OX4 := Lib.hid (own_belowK O3.out (vstep w3 (.cells #[.int .i64 y.t, .int .i64 y.r, .int .i64 y.pt, .int .i64 y.pr, .string y.nm, .bool y.d] 72)))
          have HX4 := Lib.hid (show (w3.alloc (.cells #[.int .i64 y.t, .int .i64 y.r, .int .i64 y.pt, .int .i64 y.pr, .string y.nm, .bool y.d] 72)).heap[w3.heap.size]? = some (.cells (enc6 y).toArray 72 (0, 0)) from heap_alloc_new w3 _)
          have QX4 := Lib.hid (And.intro (show (m).length + 1 ≤ maxLen from by have := LN.out;  unfold maxLen; (try simp only [List.length_append, List.length_cons, List.length_nil]); omega) (And.intro (show ((m).length + 1) * 56 ≤ 140737488355328 from by have := LN.out;  (try simp only [List.length_append, List.length_cons, List.length_nil]); omega) (show W0.heap.size ≤ (w3.alloc (.cells #[.int .i64 y.t, .int .i64 y.r, .int .i64 y.pt, .int .i64 y.pr, .string y.nm, .bool y.d] 72)).heap.size from by have := K3.out.size; simp; omega)))
          go_wp2_with (at_builtin; refine wpList_pushK rfl (.tmp 41) (.tmp 46) 40 rfl enc6_len (by decide) enc6_one W0.heap.size 72 i0 (.agg #[.int .i64 0, .int .i64 0, .int .i64 0, .int .i64 0, .string ⟨#[]⟩, .bool false]) 56 Tryd.u27 hi9 hz0 hz1 hz2 rfl _ (m) y w3.heap.size rfl rfl HX4.out OX4.out QX4.out.1 QX4.out.2.1 QX4.out.2.2 ?_; intro v4 w4 hown hgr; rw [MS4.out] at hown; obtain ⟨va4, vc4, rfl⟩ := own_shapeK hown; have O4 := Lib.hid hown; have K4 := Lib.hid (push_ok K3.out O3.out (Nat.le_refl _) hgr); clear hown hgr)
          clear e0 e1 e2 e3 e4 e5
          go_wp2
          go_roundw
          case rel => exact ⟨i + 1, by go_num, by omega, by rw [Q3.out], Lib.hid (by rw [Q3.out]; dsimp only; rw [MS4.out]; exact ⟨O4.out, K4.out⟩)⟩
          case measure => simp [intOf]; omega
      · rw [← hsn] at q2
        have Q3 := Lib.hid q3
        have Q2 := same_split q2
        clear q3 q2 hsn hlr
        rcases Q2 with ⟨_, t1, t2⟩ | ⟨c, _⟩
        rotate_left 1
        · cases c
        go_upto_region 6 with (fail)
        refine wp_region_later (by kernel_rfl) (by kernel_rfl) ?_
        repeat (go_big_quiet_step (first | (go_at_call 57; with_reducible exact later_call (LS.out _))))
        refine wpQuiet_nil ?_
        rintro _ ⟨xl1, rfl⟩
        have K1 := Lib.hid (K0.out.trans (xl1.below.mono K0.out.size))
        have O1 := Lib.hid (own_belowK O0.out xl1.below)
        generalize xl1.w = w1 at *
        clear l0 l1 m0 m1 LS
        obtain ⟨e1, e2⟩ := SF.out _ K1.out
        obtain ⟨e3, e4, e5, e6⟩ := EF.out _ K1.out
        obtain ⟨ms2, hms2⟩ : ∃ ms, (m) ++ [x] = ms := ⟨_, rfl⟩
        have MS2 := Lib.hid hms2
        clear hms2
        have OX2 := Lib.hid (own_belowK O1.out (vstep w1 (.cells #[.int .i64 x.t, .int .i64 x.r, .int .i64 x.pt, .int .i64 x.pr, .string x.nm, .bool x.d] 72)))
        have HX2 := Lib.hid (show (w1.alloc (.cells #[.int .i64 x.t, .int .i64 x.r, .int .i64 x.pt, .int .i64 x.pr, .string x.nm, .bool x.d] 72)).heap[w1.heap.size]? = some (.cells (enc6 x).toArray 72 (0, 0)) from heap_alloc_new w1 _)
        have QX2 := Lib.hid (And.intro (show (m).length + 1 ≤ maxLen from by have := LN.out;  unfold maxLen; (try simp only [List.length_append, List.length_cons, List.length_nil]); omega) (And.intro (show ((m).length + 1) * 56 ≤ 140737488355328 from by have := LN.out;  (try simp only [List.length_append, List.length_cons, List.length_nil]); omega) (show W0.heap.size ≤ (w1.alloc (.cells #[.int .i64 x.t, .int .i64 x.r, .int .i64 x.pt, .int .i64 x.pr, .string x.nm, .bool x.d] 72)).heap.size from by have := K1.out.size; simp; omega)))
        go_wp2_with (at_builtin; refine wpList_pushK rfl (.tmp 28) (.tmp 32) 40 rfl enc6_len (by decide) enc6_one W0.heap.size 72 i0 (.agg #[.int .i64 0, .int .i64 0, .int .i64 0, .int .i64 0, .string ⟨#[]⟩, .bool false]) 56 Tryd.u27 hi9 hz0 hz1 hz2 rfl _ (m) x w1.heap.size rfl rfl HX2.out OX2.out QX2.out.1 QX2.out.2.1 QX2.out.2.2 ?_; intro v2 w2 hown hgr; rw [MS2.out] at hown; obtain ⟨va2, vc2, rfl⟩ := own_shapeK hown; have O2 := Lib.hid hown; have K2 := Lib.hid (push_ok K1.out O1.out (Nat.le_refl _) hgr); clear hown hgr)
        clear e1 e2 e3 e4 e5 e6
        go_upto_region 9 with (fail)
        have r0 := fun z : Later w2 => (AF.out z.w (K2.out.trans (z.below.mono K2.out.size))).1
        have r1 := fun z : Later w2 => (AF.out z.w (K2.out.trans (z.below.mono K2.out.size))).2.1
        have s0 := fun z : Later w2 => (SF.out z.w (K2.out.trans (z.below.mono K2.out.size))).1
        have s1 := fun z : Later w2 => (SF.out z.w (K2.out.trans (z.below.mono K2.out.size))).2
        refine wp_region_later (by kernel_rfl) (by kernel_rfl) ?_
        repeat (go_big_quiet_step (fail))
        refine wpQuiet_nil ?_
        rintro _ ⟨xl3, rfl⟩
        have K3 := Lib.hid (K2.out.trans (xl3.below.mono K2.out.size))
        have O3 := Lib.hid (own_belowK O2.out xl3.below)
        generalize xl3.w = w3 at *
        clear r0 r1 s0 s1
        go_wp2
        go_roundw
        case rel => exact ⟨i + 1, by go_num, by omega, by rw [Q3.out], Lib.hid (by rw [Q3.out]; dsimp only; rw [MS2.out]; exact ⟨O3.out, K3.out⟩)⟩
        case measure => simp [intOf]; omega
      · rw [← hsn] at q2
        have Q3 := Lib.hid q3
        have Q2 := same_split q2
        clear q3 q2 hsn hlr
        rcases Q2 with ⟨c, _⟩ | ⟨_, t1 | ⟨t1, t2⟩⟩
        · cases c
        all_goals
          go_upto_region 6 with (fail)
          refine wp_region_later (by kernel_rfl) (by kernel_rfl) ?_
          repeat (go_big_quiet_step (first | (go_at_call 57; with_reducible exact later_call (LS.out _))))
          refine wpQuiet_nil ?_
          rintro _ ⟨xl1, rfl⟩
          have K1 := Lib.hid (K0.out.trans (xl1.below.mono K0.out.size))
          have O1 := Lib.hid (own_belowK O0.out xl1.below)
          generalize xl1.w = w1 at *
          clear l0 l1 m0 m1 LS
          obtain ⟨e1, e2⟩ := SF.out _ K1.out
          obtain ⟨e3, e4, e5, e6⟩ := EF.out _ K1.out
          obtain ⟨ms2, hms2⟩ : ∃ ms, (m) ++ [x] = ms := ⟨_, rfl⟩
          have MS2 := Lib.hid hms2
          clear hms2
          have OX2 := Lib.hid (own_belowK O1.out (vstep w1 (.cells #[.int .i64 x.t, .int .i64 x.r, .int .i64 x.pt, .int .i64 x.pr, .string x.nm, .bool x.d] 72)))
          have HX2 := Lib.hid (show (w1.alloc (.cells #[.int .i64 x.t, .int .i64 x.r, .int .i64 x.pt, .int .i64 x.pr, .string x.nm, .bool x.d] 72)).heap[w1.heap.size]? = some (.cells (enc6 x).toArray 72 (0, 0)) from heap_alloc_new w1 _)
          have QX2 := Lib.hid (And.intro (show (m).length + 1 ≤ maxLen from by have := LN.out;  unfold maxLen; (try simp only [List.length_append, List.length_cons, List.length_nil]); omega) (And.intro (show ((m).length + 1) * 56 ≤ 140737488355328 from by have := LN.out;  (try simp only [List.length_append, List.length_cons, List.length_nil]); omega) (show W0.heap.size ≤ (w1.alloc (.cells #[.int .i64 x.t, .int .i64 x.r, .int .i64 x.pt, .int .i64 x.pr, .string x.nm, .bool x.d] 72)).heap.size from by have := K1.out.size; simp; omega)))
          go_wp2_with (at_builtin; refine wpList_pushK rfl (.tmp 28) (.tmp 32) 40 rfl enc6_len (by decide) enc6_one W0.heap.size 72 i0 (.agg #[.int .i64 0, .int .i64 0, .int .i64 0, .int .i64 0, .string ⟨#[]⟩, .bool false]) 56 Tryd.u27 hi9 hz0 hz1 hz2 rfl _ (m) x w1.heap.size rfl rfl HX2.out OX2.out QX2.out.1 QX2.out.2.1 QX2.out.2.2 ?_; intro v2 w2 hown hgr; rw [MS2.out] at hown; obtain ⟨va2, vc2, rfl⟩ := own_shapeK hown; have O2 := Lib.hid hown; have K2 := Lib.hid (push_ok K1.out O1.out (Nat.le_refl _) hgr); clear hown hgr)
          clear e1 e2 e3 e4 e5 e6
          go_upto_region 9 with (fail)
          have r0 := fun z : Later w2 => (AF.out z.w (K2.out.trans (z.below.mono K2.out.size))).1
          have r1 := fun z : Later w2 => (AF.out z.w (K2.out.trans (z.below.mono K2.out.size))).2.1
          have s0 := fun z : Later w2 => (SF.out z.w (K2.out.trans (z.below.mono K2.out.size))).1
          have s1 := fun z : Later w2 => (SF.out z.w (K2.out.trans (z.below.mono K2.out.size))).2
          refine wp_region_later (by kernel_rfl) (by kernel_rfl) ?_
          repeat (go_big_quiet_step (fail))
          refine wpQuiet_nil ?_
          rintro _ ⟨xl3, rfl⟩
          have K3 := Lib.hid (K2.out.trans (xl3.below.mono K2.out.size))
          have O3 := Lib.hid (own_belowK O2.out xl3.below)
          generalize xl3.w = w3 at *
          clear r0 r1 s0 s1
          obtain ⟨e0, e1, e2, e3, e4, e5⟩ := AF.out _ K3.out
          obtain ⟨ms4, hms4⟩ : ∃ ms, (ms2) ++ [y] = ms := ⟨_, rfl⟩
          have MS4 := Lib.hid hms4
          clear hms4
          have OX4 := Lib.hid (own_belowK O3.out (vstep w3 (.cells #[.int .i64 y.t, .int .i64 y.r, .int .i64 y.pt, .int .i64 y.pr, .string y.nm, .bool y.d] 72)))
          have HX4 := Lib.hid (show (w3.alloc (.cells #[.int .i64 y.t, .int .i64 y.r, .int .i64 y.pt, .int .i64 y.pr, .string y.nm, .bool y.d] 72)).heap[w3.heap.size]? = some (.cells (enc6 y).toArray 72 (0, 0)) from heap_alloc_new w3 _)
          have QX4 := Lib.hid (And.intro (show (ms2).length + 1 ≤ maxLen from by have := LN.out; have e := congrArg List.length MS2.out; rw [List.length_append] at e; simp only [List.length_cons, List.length_nil] at e; unfold maxLen; (try simp only [List.length_append, List.length_cons, List.length_nil]); omega) (And.intro (show ((ms2).length + 1) * 56 ≤ 140737488355328 from by have := LN.out; have e := congrArg List.length MS2.out; rw [List.length_append] at e; simp only [List.length_cons, List.length_nil] at e; (try simp only [List.length_append, List.length_cons, List.length_nil]); omega) (show W0.heap.size ≤ (w3.alloc (.cells #[.int .i64 y.t, .int .i64 y.r, .int .i64 y.pt, .int .i64 y.pr, .string y.nm, .bool y.d] 72)).heap.size from by have := K3.out.size; simp; omega)))
          go_wp2_with (at_builtin; refine wpList_pushK rfl (.tmp 41) (.tmp 46) 40 rfl enc6_len (by decide) enc6_one W0.heap.size 72 i0 (.agg #[.int .i64 0, .int .i64 0, .int .i64 0, .int .i64 0, .string ⟨#[]⟩, .bool false]) 56 Tryd.u27 hi9 hz0 hz1 hz2 rfl _ (ms2) y w3.heap.size rfl rfl HX4.out OX4.out QX4.out.1 QX4.out.2.1 QX4.out.2.2 ?_; intro v4 w4 hown hgr; rw [MS4.out] at hown; obtain ⟨va4, vc4, rfl⟩ := own_shapeK hown; have O4 := Lib.hid hown; have K4 := Lib.hid (push_ok K3.out O3.out (Nat.le_refl _) hgr); clear hown hgr)
          clear e0 e1 e2 e3 e4 e5
          go_wp2
          go_roundw
          case rel => exact ⟨i + 1, by go_num, by omega, by rw [Q3.out], Lib.hid (by rw [Q3.out]; dsimp only; rw [MS2.out]; rw [MS4.out]; exact ⟨O4.out, K4.out⟩)⟩
          case measure => simp [intOf]; omega
    · have EN := SI_end l x
      rw [show l.length = i by omega] at EN
      obtain ⟨S, hS⟩ : ∃ S, SI l x i = S := ⟨_, rfl⟩
      rw [hS] at EN O0 LN ⊢
      clear hS
      obtain ⟨m, dn⟩ := S
      dsimp only at EN O0 LN ⊢
      generalize wr = w0 at *
      cases dn with
      | true =>
        rw [if_pos rfl] at EN
        subst EN
        have FIN := Lib.hid (show w0.ownsRow w.heap.size 72 6 (.slice oa (setF l x).length oc) (setF l x).length ((setF l x).flatMap enc6) ∧ Below w.heap.size w w0 from ⟨⟨O0.out.1, O0.out.2.imp id fun ⟨g, cap, cur, h1, h2, h3⟩ => ⟨g, cap, cur, h1, by have := B.out.size; omega, h3⟩⟩, B.out.trans (K0.out.mono B.out.size)⟩)
        go_wp2
        go_returns
        exact ⟨_, rfl, FIN.out.1, FIN.out.2⟩
      | false =>
        rw [if_neg (by decide)] at EN
        obtain ⟨e1, e2⟩ := SF.out _ K0.out
        obtain ⟨e3, e4, e5, e6⟩ := EF.out _ K0.out
        obtain ⟨ms2, hms2⟩ : ∃ ms, (m) ++ [x] = ms := ⟨_, rfl⟩
        have MS2 := Lib.hid hms2
        clear hms2
        have OX2 := Lib.hid (own_belowK O0.out (vstep w0 (.cells #[.int .i64 x.t, .int .i64 x.r, .int .i64 x.pt, .int .i64 x.pr, .string x.nm, .bool x.d] 72)))
        have HX2 := Lib.hid (show (w0.alloc (.cells #[.int .i64 x.t, .int .i64 x.r, .int .i64 x.pt, .int .i64 x.pr, .string x.nm, .bool x.d] 72)).heap[w0.heap.size]? = some (.cells (enc6 x).toArray 72 (0, 0)) from heap_alloc_new w0 _)
        have QX2 := Lib.hid (And.intro (show (m).length + 1 ≤ maxLen from by have := LN.out;  unfold maxLen; (try simp only [List.length_append, List.length_cons, List.length_nil]); omega) (And.intro (show ((m).length + 1) * 56 ≤ 140737488355328 from by have := LN.out;  (try simp only [List.length_append, List.length_cons, List.length_nil]); omega) (show W0.heap.size ≤ (w0.alloc (.cells #[.int .i64 x.t, .int .i64 x.r, .int .i64 x.pt, .int .i64 x.pr, .string x.nm, .bool x.d] 72)).heap.size from by have := K0.out.size; simp; omega)))
        go_wp2_with (at_builtin; refine wpList_pushK rfl (.tmp 50) (.tmp 54) 40 rfl enc6_len (by decide) enc6_one W0.heap.size 72 i0 (.agg #[.int .i64 0, .int .i64 0, .int .i64 0, .int .i64 0, .string ⟨#[]⟩, .bool false]) 56 Tryd.u27 hi9 hz0 hz1 hz2 rfl _ (m) x w0.heap.size rfl rfl HX2.out OX2.out QX2.out.1 QX2.out.2.1 QX2.out.2.2 ?_; intro v2 w2 hown hgr; rw [MS2.out] at hown; obtain ⟨va2, vc2, rfl⟩ := own_shapeK hown; have O2 := Lib.hid hown; have K2 := Lib.hid (push_ok K0.out O0.out (Nat.le_refl _) hgr); clear hown hgr)
        have FIN := Lib.hid (show w2.ownsRow w.heap.size 72 6 (.slice va2 ms2.length vc2) (setF l x).length ((setF l x).flatMap enc6) ∧ Below w.heap.size w w2 from by
          rw [← EN, MS2.out]
          exact ⟨⟨O2.out.1, O2.out.2.imp id fun ⟨g, cap, cur, h1, h2, h3⟩ => ⟨g, cap, cur, h1, by have := B.out.size; omega, h3⟩⟩, B.out.trans (K2.out.mono B.out.size)⟩)
        clear e1 e2 e3 e4 e5 e6
        go_wp2
        go_returns
        exact ⟨_, rfl, FIN.out.1, FIN.out.2⟩
end Go.Proofs.YtbeodechhneeeaaDoor.Tb


set_option linter.unusedVariables false
set_option maxRecDepth 100000
namespace Go.Proofs.YtbeodechhneeeaaDoor.Tb
open Go.RowKit Go.WideMaps Go.Maps

theorem setF_len (l : List Rw) (x : Rw) : (setF l x).length ≤ l.length + 1 := by
  rw [(set_perm x).length_eq, List.length_cons]
  have := List.length_filter_le (fun y => !sameN y x) l
  omega
end Go.Proofs.YtbeodechhneeeaaDoor.Tb


set_option linter.unusedVariables false
set_option maxRecDepth 100000
namespace Go.Proofs.YtbeodechhneeeaaDoor.Tb
open Go.RowKit Go.WideMaps Go.Maps

structure UpR (w W : World) (nt nr t r : Int) : Prop where
  bel : Below w.heap.size w W
  one : StAt W w.heap.size nt nr
  two : StAt W (w.heap.size + 2) t r
theorem UpR.step {w W W' : World} {nt nr t r : Int} (h : UpR w W nt nr t r) (hb : Below W.heap.size W W') : UpR w W' nt nr t r := ⟨h.bel.trans (hb.mono h.bel.size), h.one.step hb, h.two.step hb⟩
theorem UpR.set {w W : World} {nt nr t r : Int} (h : UpR w W nt nr t r) (t' r' : Int) : UpR w (sets2 W (w.heap.size + 2) (.int .i64 t') (.int .i64 r')) nt nr t' r' := by
  have k : Below (w.heap.size + 2) W (sets2 W (w.heap.size + 2) (.int .i64 t') (.int .i64 r')) := ((Below.refl _ W).setCell (p := ⟨w.heap.size + 2, 0, none⟩) (Nat.le_refl _) _).setCell (p := ⟨w.heap.size + 2, 1, none⟩) (Nat.le_refl _) _
  refine ⟨h.bel.trans (k.mono (by omega)), (k.block _ (by omega)).trans h.one, ?_⟩
  exact row_setC (j := 1) (u := .int .i64 r') (row_setC (j := 0) (u := .int .i64 t') h.two)
set_option maxHeartbeats 3200000 in
theorem rabove_any (w : World) (v : Value) (l : List Rw) (h : LiesR w v l) (nt nr t r : Int) :
    Calls Tryd.prog 69 #[v, .agg #[.int .i64 nt, .int .i64 nr], .agg #[.int .i64 t, .int .i64 r]] w fun e w' => e = .returned (.bool (aboveF l nt nr l.length t r)) ∧ Below w.heap.size w w' := by
  have hlm := h.len
  have B1 := vstep w (.cells #[.int .i64 nt, .int .i64 nr] 46)
  have B2 := vstep (w.alloc (.cells #[.int .i64 nt, .int .i64 nr] 46)) (.cells #[.int .i64 t, .int .i64 r] 46)
  have B3 := vstep ((w.alloc (.cells #[.int .i64 nt, .int .i64 nr] 46)).alloc (.cells #[.int .i64 t, .int .i64 r] 46)) (.cells #[.int .i64 t, .int .i64 r] 46)
  have E1 : ((w.alloc (.cells #[.int .i64 nt, .int .i64 nr] 46)).alloc (.cells #[.int .i64 t, .int .i64 r] 46)).heap.size = w.heap.size + 2 := by simp
  have U0 := Lib.hid (show UpR w (((w.alloc (.cells #[.int .i64 nt, .int .i64 nr] 46)).alloc (.cells #[.int .i64 t, .int .i64 r] 46)).alloc (.cells #[.int .i64 t, .int .i64 r] 46)) nt nr t r from ⟨(B1.trans (B2.mono B1.size)).trans (B3.mono (by simp; omega)), ((StAt.new w nt nr).step B2).step B3, by have := StAt.new ((w.alloc (.cells #[.int .i64 nt, .int .i64 nr] 46)).alloc (.cells #[.int .i64 t, .int .i64 r] 46)) t r; rwa [E1] at this⟩)
  have B12 := Lib.hid (show Below w.heap.size w ((w.alloc (.cells #[.int .i64 nt, .int .i64 nr] 46)).alloc (.cells #[.int .i64 t, .int .i64 r] 46)) from B1.trans (B2.mono B1.size))
  have S12 := Lib.hid (show StAt ((w.alloc (.cells #[.int .i64 nt, .int .i64 nr] 46)).alloc (.cells #[.int .i64 t, .int .i64 r] 46)) (w.heap.size + 1) t r from by have := StAt.new (w.alloc (.cells #[.int .i64 nt, .int .i64 nr] 46)) t r; rwa [World.size_alloc] at this)
  have Z12 := Lib.hid E1
  obtain ⟨W1, hW1⟩ : ∃ y, (w.alloc (.cells #[.int .i64 nt, .int .i64 nr] 46)).alloc (.cells #[.int .i64 t, .int .i64 r] 46) = y := ⟨_, rfl⟩
  rw [hW1] at U0 S12 B12 Z12
  have HW := Lib.hid hW1
  obtain ⟨W0, hW0⟩ : ∃ y, W1.alloc (.cells #[.int .i64 t, .int .i64 r] 46) = y := ⟨_, rfl⟩
  rw [hW0] at U0
  have HW2 := Lib.hid hW0
  have L := Lib.hid h
  obtain ⟨ao, cap, rfl⟩ := h.shape
  clear B1 B2 B3 hW0 hW1 h E1
  obtain ⟨res, hres⟩ : ∃ x, aboveF l nt nr l.length t r = x := ⟨_, rfl⟩
  rw [hres]
  have HR := Lib.hid hres
  clear hres
  go_enter Tryd.func69, Tryd.ntmps69
  go_upto_region 1 with (fail)
  rw [HW.out]
  obtain ⟨c1, c2⟩ := S12.out.cells
  go_upto_region 2 with (fail)
  rw [Z12.out, HW2.out]
  clear c1 c2
  go_wp2_with fail
  go_loopw [8] (fun kv wr => ∃ (i : Nat) (t' r' : Int), kv = .int .i64 i ∧ i ≤ l.length ∧ Hid (UpR w wr nt nr t' r' ∧ aboveF l nt nr (l.length - i) t' r' = res)) (fun kv _ => l.length - (intOf kv).toNat)
  case atStart => exact ⟨0, t, r, rfl, Nat.zero_le _, Lib.hid ⟨U0.out, HR.out⟩⟩
  case round =>
    obtain ⟨i, t', r', rfl, hi, hJ⟩ := hrel
    have UJ := Lib.hid hJ.out.1
    have EJ := Lib.hid hJ.out.2
    clear hJ
    by_cases hlt : i < l.length
    · have GT := Lib.hid (rget_any wr _ l (L.out.step UJ.out.bel) t' r')
      obtain ⟨x1, x2, x3, x4, hx⟩ := gv_form l t' r'
      rw [hx] at GT
      have HX := Lib.hid hx
      clear hx
      have EJ := Lib.hid (show (match getF l t' r' with | none => false | some x => if x.pt = nt ∧ x.pr = nr then true else aboveF l nt nr (l.length - (i + 1)) x.pt x.pr) = res from by have := EJ.out; rw [show l.length - i = (l.length - (i + 1)) + 1 by omega] at this; exact this)
      cases hg : getF l t' r' with
      | none =>
        rw [hg] at GT EJ
        have EJ := Lib.hid (show false = res from EJ.out)
        clear hg HX
        obtain ⟨c1, c2⟩ := UJ.out.two.cells
        go_wp2_with fail
        refine GT.out.mono ?_
        rintro e w2 ⟨rfl, hb⟩
        have U2 := Lib.hid (UJ.out.step hb)
        clear hb c1 c2
        go_wp2
        go_returns
        exact ⟨ret_b' EJ.out.symm, (U2.out.step (vstep w2 _)).bel⟩
      | some x =>
        have hgv : gv l t' r' = .agg #[.int .i64 x.pt, .int .i64 x.pr, .string x.nm, .bool x.d] := by unfold gv; rw [hg]
        rw [HX.out] at hgv
        injection hgv with hgv
        simp only [Array.mk.injEq, List.cons.injEq, Value.int.injEq, Value.string.injEq, Value.bool.injEq, true_and, and_true] at hgv
        obtain ⟨rfl, rfl, rfl, rfl⟩ := hgv
        rw [hg] at GT EJ
        have EJ := Lib.hid (show (if x.pt = nt ∧ x.pr = nr then true else aboveF l nt nr (l.length - (i + 1)) x.pt x.pr) = res from EJ.out)
        clear hg HX
        have hc : (∃ q1 : (x.pt == nt) = true, (x.pr == nr) = true ∧ res = true) ∨ (((x.pt == nt) = false ∨ ((x.pt == nt) = true ∧ (x.pr == nr) = false)) ∧ aboveF l nt nr (l.length - (i + 1)) x.pt x.pr = res) := by
          by_cases q : x.pt = nt ∧ x.pr = nr
          · have e := EJ.out
            rw [if_pos q] at e
            exact .inl ⟨beqb_ _ _ q.1, beqb_ _ _ q.2, e.symm⟩
          · have e := EJ.out
            rw [if_neg q] at e
            exact .inr ⟨no2 q, e⟩
        have HC := Lib.hid hc
        clear hc EJ
        obtain ⟨c1, c2⟩ := UJ.out.two.cells
        go_wp2_with fail
        refine GT.out.mono ?_
        rintro e w2 ⟨rfl, hb⟩
        have U2 := Lib.hid ((UJ.out.step hb).step (vstep w2 (.cells #[.int .i64 x.pt, .int .i64 x.pr, .string x.nm, .bool x.d] 70)))
        have N2 := Lib.hid (show EnB 70 (w2.alloc (.cells #[.int .i64 x.pt, .int .i64 x.pr, .string x.nm, .bool x.d] 70)) w2.heap.size x.pt x.pr x.nm x.d from heap_alloc_new w2 _)
        have NE := Lib.hid (show w2.heap.size ≠ w.heap.size + 2 from by have := (UJ.out.step hb).two; have := lt_of_block this; omega)
        clear hb c1 c2
        go_upto_region 8 with (fail)
        obtain ⟨w3, hw3⟩ : ∃ y, w2.alloc (.cells #[.int .i64 x.pt, .int .i64 x.pr, .string x.nm, .bool x.d] 70) = y := ⟨_, rfl⟩
        rw [hw3] at U2 N2 ⊢
        clear hw3
        obtain ⟨d0, d1, d2, d3⟩ := N2.out.cells
        obtain ⟨c1, c2⟩ := U2.out.two.cells
        obtain ⟨f1, f2⟩ := U2.out.two.free
        go_upto_region 9 with (fail)
        obtain ⟨w4, hw4⟩ : ∃ y, sets2 w3 (w.heap.size + 2) (.int .i64 x.pt) (.int .i64 x.pr) = y := ⟨_, rfl⟩
        have U4 := Lib.hid (show UpR w w4 nt nr x.pt x.pr from by rw [← hw4]; exact U2.out.set _ _)
        unfold sets2 at hw4
        rw [hw4]
        clear hw4 d0 d1 d2 d3 c1 c2 f1 f2
        obtain ⟨c1, c2⟩ := U4.out.two.cells
        obtain ⟨g1, g2⟩ := U4.out.one.cells
        rcases HC.out with ⟨q1, q2, q3⟩ | ⟨q1 | ⟨q1, q2⟩, q3⟩
        · have Q3 := Lib.hid q3
          clear q3 HC HR
          go_wp2
          go_returns
          exact ⟨ret_b' Q3.out, U4.out.bel⟩
        all_goals
          have Q3 := Lib.hid q3
          clear q3 HC
          go_wp2
          go_roundw
          case rel => exact ⟨i + 1, x.pt, x.pr, by go_num, by omega, Lib.hid ⟨U4.out, Q3.out⟩⟩
          case measure => simp [intOf]; omega
    · have EJ := Lib.hid (show false = res from by have := EJ.out; rw [show l.length - i = 0 by omega] at this; exact this)
      go_wp2
      go_returns
      exact ⟨ret_b' EJ.out.symm, UJ.out.bel⟩
end Go.Proofs.YtbeodechhneeeaaDoor.Tb


