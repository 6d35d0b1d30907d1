/- A hold: its box, its lists of ops, what a call turns. -/
import Derived.Test.YtgnnpfainoppeaaDoorHD
import Derived.Test.YtgnnpfainoppeaaDoorHM
import Derived.Laws.OwnMore
set_option linter.unusedVariables false
set_option linter.unusedSimpArgs false
set_option maxRecDepth 100000
namespace Go.Proofs.YtgnnpfainoppeaaDoor
open Go.RowKit
open Ve

def sv (S : Nat → Value) : List Value := (List.range 64).map S
theorem sv_len (S : Nat → Value) : (sv S).length = 64 := by simp [sv]
theorem sv_get (S : Nat → Value) (i : Nat) (hi : i < 64) : (sv S)[i]? = some (S i) := by unfold sv; rw [List.getElem?_map, List.getElem?_range hi]; rfl
def sup (S : Nat → Value) (i : Nat) (v : Value) : Nat → Value := fun k => if k = i then v else S k
theorem sup_same (S : Nat → Value) (i : Nat) (v : Value) : sup S i v i = v := if_pos rfl
theorem sup_other (S : Nat → Value) (i k : Nat) (v : Value) (h : k ≠ i) : sup S i v k = S k := if_neg h
theorem sv_set (S : Nat → Value) (i : Nat) (hi : i < 64) (v : Value) : (sv S).set i v = sv (sup S i v) := by
  apply List.ext_getElem?
  intro j
  by_cases hj : j < 64
  · rw [sv_get _ j hj, List.getElem?_set]
    by_cases e : i = j
    · subst e; rw [if_pos rfl, if_pos (by rw [sv_len]; exact hi), sup_same]
    · rw [if_neg e, sv_get _ j hj, sup_other _ _ _ _ (fun h => e h.symm)]
  · rw [List.getElem?_eq_none (by rw [List.length_set, sv_len]; omega), List.getElem?_eq_none (by rw [sv_len]; omega)]
structure HS where
  md : Bool
  bs : List Int
  S : Nat → Value
  L : Nat → List O
def hcl (s : HS) : List Value := .bool s.md :: (s.bs.map (Value.int .i64) ++ sv s.S)
def hca (s : HS) : Array Value := (hcl s).toArray
structure HK (w : World) (B b : Nat) (s : HS) : Prop where
  box : w.heap[b]? = some (.cells (hca s) 66 (0, 0))
  bd : B ≤ b
  len : s.bs.length = 64
  rows : ∀ i, i < 64 → w.ownsRow B 40 9 (s.S i) (s.L i).length (cs9 (s.L i))
  far : ∀ i j, i < 64 → j < 64 → i ≠ j → ∀ k, (s.S i).ownBlock = some k → (s.S j).ownBlock ≠ some k
def HasH (b : Nat) (s : HS) (k : Nat) : Prop := k = b ∨ ∃ i, i < 64 ∧ (s.S i).ownBlock = some k
/-- Only blocks of P turn. -/
structure Far (P : Nat → Prop) (w w' : World) : Prop where
  os : w'.os = w.os
  tape : w'.tape = w.tape
  output : w'.output = w.output
  size : w.heap.size ≤ w'.heap.size
  block : ∀ k, k < w.heap.size → ¬ P k → w'.heap[k]? = w.heap[k]?
theorem Far.of_grown {P : Nat → Prop} {w w' : World} {row : Option Nat} (h : w.grownBy w' row) (hr : ∀ k, row = some k → P k) : Far P w w' :=
  ⟨h.os, h.tape, h.output, h.size, fun k hk hn => h.block k hk (fun e => hn (hr k e.symm))⟩
theorem Far.of_below {P : Nat → Prop} {w w' : World} (h : Below w.heap.size w w') : Far P w w' := ⟨h.os, h.tape, h.output, h.size, fun k hk _ => h.block k hk⟩
theorem Far.refl (P : Nat → Prop) (w : World) : Far P w w := ⟨rfl, rfl, rfl, Nat.le_refl _, fun _ _ _ => rfl⟩
theorem Far.trans {P Q : Nat → Prop} {w w1 w2 : World} (h1 : Far P w w1) (h2 : Far Q w1 w2) (hq : ∀ k, k < w.heap.size → Q k → P k) : Far P w w2 :=
  ⟨h2.os.trans h1.os, h2.tape.trans h1.tape, h2.output.trans h1.output, Nat.le_trans h1.size h2.size, fun k hk hn => (h2.block k (Nat.lt_of_lt_of_le hk h1.size) (fun q => hn (hq k hk q))).trans (h1.block k hk hn)⟩
theorem Far.below {P : Nat → Prop} {w w' : World} {B : Nat} (h : Far P w w') (hB : B ≤ w.heap.size) (hp : ∀ k, P k → B ≤ k) : Below B w w' :=
  (⟨h.os, h.tape, h.output, h.size, fun k hk => h.block k (Nat.lt_of_lt_of_le hk hB) (fun q => by have := hp k q; omega)⟩)
theorem Far.row {P : Nat → Prop} {w w' : World} (h : Far P w w') {B e k n : Nat} {v : Value} {xs : List Value} (ho : w.ownsRow B e k v n xs) (hn : ∀ j, v.ownBlock = some j → ¬ P j) : w'.ownsRow B e k v n xs := by
  refine ⟨ho.1, ?_⟩
  rcases ho.2 with h0 | ⟨g, cap, cur, rfl, hB, hb, h1⟩
  · exact .inl h0
  · exact .inr ⟨g, cap, cur, rfl, hB, (h.block g (lt_of_block hb) (hn g rfl)).trans hb, h1⟩
theorem own_lt {w : World} {B e k n : Nat} {v : Value} {xs : List Value} (h : w.ownsRow B e k v n xs) : ∀ j, v.ownBlock = some j → B ≤ j ∧ j < w.heap.size := by
  intro j hj
  rcases h.2 with ⟨rfl, _⟩ | ⟨g, cap, cur, rfl, hB, hb, h1⟩
  · cases hj
  · have : g = j := by simpa [Value.ownBlock] using hj
    subst this
    exact ⟨hB, lt_of_block hb⟩
section
variable {w w' : World} {B b : Nat} {s : HS}
theorem HK.blt (h : HK w B b s) : b < w.heap.size := lt_of_block h.box
theorem HK.nb (h : HK w B b s) : ∀ i, i < 64 → (s.S i).ownBlock ≠ some b := by
  intro i hi e
  rcases (h.rows i hi).2 with ⟨h0, _⟩ | ⟨g, cap, cur, h0, hB, hb, h1⟩
  · rw [h0] at e; cases e
  · rw [h0] at e
    have : g = b := by simpa [Value.ownBlock] using e
    subst this
    rw [h.box] at hb
    injection hb with hb
    injection hb with _ hb
    exact absurd hb (by decide)
theorem HK.base (h : HK w B b s) : ∀ k, HasH b s k → B ≤ k ∧ k < w.heap.size := by
  rintro k (rfl | ⟨i, hi, e⟩)
  · exact ⟨h.bd, h.blt⟩
  · exact own_lt (h.rows i hi) k e
theorem HK.still (h : HK w B b s) {P : Nat → Prop} (hf : Far P w w') (hn : ∀ k, HasH b s k → ¬ P k) : HK w' B b s :=
  ⟨(hf.block b h.blt (hn b (.inl rfl))).trans h.box, h.bd, h.len, fun i hi => hf.row (h.rows i hi) (fun j e => hn j (.inr ⟨i, hi, e⟩)), h.far⟩
theorem HK.step (h : HK w B b s) (hb : Below w.heap.size w w') : HK w' B b s := h.still (P := fun _ => False) (Far.of_below hb) (fun _ _ q => q)
theorem HK.keep {E : Nat} (h : HK w B b s) (hb : Below E w w') (hE : w.heap.size ≤ E) : HK w' B b s := h.step ⟨hb.os, hb.tape, hb.output, hb.size, fun k hk => hb.block k (Nat.lt_of_lt_of_le hk hE)⟩
theorem hcl_b (s : HS) (hl : s.bs.length = 64) (i : Nat) (x : Int) (hx : s.bs[i]? = some x) : (hcl s)[1 + i]? = some (.int .i64 x) := by
  have hi := (List.getElem?_eq_some_iff.1 hx).1
  unfold hcl
  rw [Nat.add_comm, List.getElem?_cons_succ, List.getElem?_append_left (by rw [List.length_map]; exact hi), List.getElem?_map, hx]; rfl
theorem hcl_s (s : HS) (hl : s.bs.length = 64) (i : Nat) (hi : i < 64) : (hcl s)[65 + i]? = some (s.S i) := by
  unfold hcl
  rw [show 65 + i = (64 + i) + 1 by omega, List.getElem?_cons_succ, List.getElem?_append_right (by rw [List.length_map, hl]; omega), List.length_map, hl, Nat.add_sub_cancel_left, sv_get _ i hi]
theorem hcl_len (s : HS) (hl : s.bs.length = 64) : (hcl s).length = 129 := by unfold hcl; rw [List.length_cons, List.length_append, List.length_map, hl, sv_len]
theorem hcl_setb (s : HS) (hl : s.bs.length = 64) (i : Nat) (hi : i < 64) (x : Int) : (hcl s).set (1 + i) (.int .i64 x) = hcl { s with bs := s.bs.set i x } := by
  unfold hcl
  rw [Nat.add_comm, List.set_cons_succ, List.set_append_left _ _ (by rw [List.length_map, hl]; exact hi), List.map_set]
theorem hcl_sets (s : HS) (hl : s.bs.length = 64) (i : Nat) (hi : i < 64) (v : Value) (l : List O) : (hcl s).set (65 + i) v = hcl { s with S := sup s.S i v, L := fup s.L i l } := by
  unfold hcl
  rw [show 65 + i = (64 + i) + 1 by omega, List.set_cons_succ, List.set_append_right _ _ (by rw [List.length_map, hl]; omega), List.length_map, hl, Nat.add_sub_cancel_left, sv_set _ i hi]
theorem HK.c0 (h : HK w B b s) : w.cell? ⟨b, 0, none⟩ = some (.bool s.md) := by rw [cell_of_row _ _ _ _ _ _ h.box]; rfl
theorem HK.cb (h : HK w B b s) (i : Nat) (x : Int) (hx : s.bs[i]? = some x) : w.cell? ⟨b, 1 + i, none⟩ = some (.int .i64 x) := by
  rw [cell_of_row _ _ _ _ _ _ h.box, hca, List.getElem?_toArray, hcl_b s h.len i x hx]
theorem HK.cs (h : HK w B b s) (i : Nat) (hi : i < 64) : w.cell? ⟨b, 65 + i, none⟩ = some (s.S i) := by
  rw [cell_of_row _ _ _ _ _ _ h.box, hca, List.getElem?_toArray, hcl_s s h.len i hi]
theorem HK.free (h : HK w B b s) : ∀ j, w.frozen? ⟨b, j, none⟩ = false := fun j => frozen_of_row _ _ _ _ _ h.box
theorem HK.bx (h : HK w B b s) (i : Nat) (hi : i < 64) : ∃ x, s.bs[i]? = some x := ⟨s.bs[i]'(by rw [h.len]; exact hi), List.getElem?_eq_getElem _⟩
theorem HK.olies (h : HK w B b s) (i : Nat) (hi : i < 64) : OLies w (s.S i) (s.L i) := own_olies (h.rows i hi)
theorem HK.loadB (h : HK w B b s) : (Instr.loadAt 27 (.pointer (some ⟨b, 1, none⟩))).run Tryd.prog w = .ok (.agg (va s.bs)) w := by
  obtain ⟨⟨t, ht⟩, hs⟩ := v24
  refine run_loadAt_mid w b 1 27 (s.bs.map (Value.int .i64)) (.array 64 t) ?_ ht rfl (by rw [hs, List.length_map, h.len])
  intro j v hv
  rw [List.getElem?_map] at hv
  cases hx : s.bs[j]? with
  | none => rw [hx] at hv; cases hv
  | some x => rw [hx] at hv; injection hv with hv; rw [← hv]; exact h.cb j x hx
theorem und_ta : ∃ t, Tryd.prog.underlying 64 = some (.array 64 t) := ⟨34, by kernel_rfl⟩
theorem siz_ta : (Tryd.prog.info? 64).map (·.size) = some 64 := by kernel_rfl
theorem HK.loadS (h : HK w B b s) : (Instr.loadAt 64 (.pointer (some ⟨b, 65, none⟩))).run Tryd.prog w = .ok (.agg (sv s.S).toArray) w := by
  obtain ⟨t, ht⟩ := und_ta
  refine run_loadAt_mid w b 65 64 (sv s.S) (.array 64 t) ?_ ht rfl (by rw [siz_ta, sv_len])
  intro j v hv
  have hj : j < 64 := by have := (List.getElem?_eq_some_iff.1 hv).1; rwa [sv_len] at this
  rw [sv_get _ j hj] at hv
  injection hv with hv
  rw [← hv]
  exact h.cs j hj
theorem index_sv (W : World) (A : Array Value) (hA : A.size = 64) (i : Nat) (hi : i < 64) (v : Value) (hu : A[i]? = some v) : (Instr.index 64 (.agg A) (.int .i64 (i : Int))).run Tryd.prog W = .ok v W := by
  have hp : (0 : Int) ≤ (i : Int) ∧ (i : Int) < ((64 : Nat) : Int) := by omega
  have ht : Tryd.prog.underlying 64 = some (.array 64 34) := by kernel_rfl
  cases hq : Tryd.prog.info? 34 with
  | none => have := (show (Tryd.prog.info? 34).map (·.size) = some 1 by kernel_rfl); rw [hq] at this; simp at this
  | some j =>
    have hs : j.size = 1 := by have := (show (Tryd.prog.info? 34).map (·.size) = some 1 by kernel_rfl); rw [hq] at this; simpa using this
    simp [Instr.index, run_underlying ht, asIntOf, hp, sizeOf, typeInfo, hq, hs, go_sem]
    rw [if_pos hi, hu]
    rfl
end
/-- What a call does to a hold. -/
structure HOut (B b : Nat) (s t : HS) (w w' : World) : Prop where
  hk : HK w' B b t
  far : Far (HasH b s) w w'
  sub : ∀ k, HasH b t k → HasH b s k ∨ w.heap.size ≤ k
section
variable {w w1 w2 w' : World} {B b : Nat} {s t u : HS}
theorem HOut.refl (h : HK w B b s) : HOut B b s s w w := ⟨h, Far.refl _ _, fun k q => .inl q⟩
theorem HOut.still (h : HK w B b s) (hb : Below w.heap.size w w') : HOut B b s s w w' := ⟨h.step hb, Far.of_below hb, fun k q => .inl q⟩
theorem HOut.trans (h1 : HOut B b s t w w1) (h2 : HOut B b t u w1 w2) : HOut B b s u w w2 :=
  ⟨h2.hk, h1.far.trans h2.far (fun k hk q => (h1.sub k q).resolve_right (by omega)), fun k q => by
    rcases h2.sub k q with q | q
    · exact h1.sub k q
    · exact .inr (Nat.le_trans h1.far.size q)⟩
theorem HOut.of_below (hb : Below w.heap.size w w1) (h2 : HOut B b s t w1 w2) : HOut B b s t w w2 :=
  ⟨h2.hk, (Far.of_below hb).trans h2.far (fun k hk q => q), fun k q => by
    rcases h2.sub k q with q | q
    · exact .inl q
    · exact .inr (Nat.le_trans hb.size q)⟩
theorem HOut.then_below (h1 : HOut B b s t w w1) (hb : Below w1.heap.size w1 w2) : HOut B b s t w w2 := h1.trans (HOut.still h1.hk hb)
theorem HOut.below (h : HOut B b s t w w') (hs : HK w B b s) (hB : B ≤ w.heap.size) : Below B w w' := h.far.below hB (fun k q => (hs.base k q).1)
/-- A number behind which ops are held is another one. -/
theorem HOut.setb (h : HK w B b s) (i : Nat) (hi : i < 64) (x : Int) : HOut B b s { s with bs := s.bs.set i x } w (w.setCell ⟨b, 1 + i, none⟩ (.int .i64 x)) := by
  have hf : Far (fun k => k = b) w (w.setCell ⟨b, 1 + i, none⟩ (.int .i64 x)) := ⟨rfl, rfl, rfl, by simp [World.setCell], fun k hk hn => heap_setCell_other w ⟨b, 1 + i, none⟩ k _ (fun e => hn (by rw [e]))⟩
  refine ⟨⟨?_, h.bd, by simp [h.len], fun j hj => hf.row (h.rows j hj) (fun k e e2 => h.nb j hj (by rw [e, e2])), h.far⟩, ⟨hf.os, hf.tape, hf.output, hf.size, fun k hk hn => hf.block k hk (fun e => hn (.inl e))⟩, fun k q => .inl q⟩
  rw [row_setC h.box, hca, List.setIfInBounds_toArray, hcl_setb s h.len i hi]
  rfl
/-- The ops of a replica are other ones. -/
theorem HOut.sets (h : HK w B b s) (i : Nat) (hi : i < 64) {P : Nat → Prop} (hf1 : Far P w w1) (hP : ∀ k, P k → (s.S i).ownBlock = some k) (v : Value) (l : List O) (hv : w1.ownsRow B 40 9 v l.length (cs9 l))
    (hs : ∀ k, v.ownBlock = some k → (s.S i).ownBlock = some k ∨ w.heap.size ≤ k) : HOut B b s { s with S := sup s.S i v, L := fup s.L i l } w (w1.setCell ⟨b, 65 + i, none⟩ v) := by
  have nb := h.nb
  have hb1 : w1.heap[b]? = some (.cells (hca s) 66 (0, 0)) := (hf1.block b h.blt (fun q => nb i hi (hP b q))).trans h.box
  have hf : Far (fun k => k = b) w1 (w1.setCell ⟨b, 65 + i, none⟩ v) := ⟨rfl, rfl, rfl, by simp [World.setCell], fun k hk hn => heap_setCell_other w1 ⟨b, 65 + i, none⟩ k _ (fun e => hn (by rw [e]))⟩
  have nv : v.ownBlock ≠ some b := fun e => by
    rcases hs b e with e | e
    · exact nb i hi e
    · have := h.blt; omega
  have hc : ∀ k, k = i ∨ (k ≠ i ∧ sup s.S i v k = s.S k ∧ fup s.L i l k = s.L k) := fun k => by
    by_cases e : k = i
    · exact .inl e
    · exact .inr ⟨e, sup_other _ _ _ _ e, fup_other _ _ _ _ e⟩
  refine ⟨⟨?_, h.bd, h.len, fun j hj => ?_, fun j k hj hk hne m e => ?_⟩, ⟨hf.os.trans hf1.os, hf.tape.trans hf1.tape, hf.output.trans hf1.output, Nat.le_trans hf1.size hf.size, fun k hk hn => ?_⟩, fun k q => ?_⟩
  · rw [row_setC hb1, hca, List.setIfInBounds_toArray, hcl_sets s h.len i hi v l]
    rfl
  · show (w1.setCell _ _).ownsRow B 40 9 (sup s.S i v j) (fup s.L i l j).length (cs9 (fup s.L i l j))
    rcases hc j with rfl | ⟨hne, e1, e2⟩
    · rw [sup_same, fup_same]
      exact hf.row hv (fun k e e2 => nv (by rw [e, e2]))
    · rw [e1, e2]
      exact hf.row (hf1.row (h.rows j hj) (fun k e q => h.far i j hi hj (fun e => hne e.symm) k (hP k q) e)) (fun k e e2 => nb j hj (by rw [e, e2]))
  · show (sup s.S i v k).ownBlock ≠ some m
    replace e : (sup s.S i v j).ownBlock = some m := e
    rcases hc j with rfl | ⟨hnj, e1, _⟩
    · rcases hc k with rfl | ⟨hnk, e2, _⟩
      · exact absurd rfl hne
      · rw [sup_same] at e
        rw [e2]
        intro e3
        rcases hs m e with e4 | e4
        · exact h.far k j hk hj hnk m e3 e4
        · have := (own_lt (h.rows k hk) m e3).2; omega
    · rw [e1] at e
      rcases hc k with rfl | ⟨hnk, e2, _⟩
      · rw [sup_same]
        intro e3
        rcases hs m e3 with e4 | e4
        · exact h.far j k hj hk hne m e e4
        · have := (own_lt (h.rows j hj) m e).2; omega
      · rw [e2]; exact h.far j k hj hk hne m e
  · rw [hf.block k (Nat.lt_of_lt_of_le hk hf1.size) (fun e => hn (.inl e))]
    exact hf1.block k hk (fun q => hn (.inr ⟨i, hi, hP k q⟩))
  · rcases q with q | ⟨j, hj, e⟩
    · exact .inl (.inl q)
    · have e : (sup s.S i v j).ownBlock = some k := e
      rcases hc j with rfl | ⟨hne, e1, _⟩
      · rw [sup_same] at e
        rcases hs k e with e | e
        · exact .inl (.inr ⟨j, hj, e⟩)
        · exact .inr e
      · rw [e1] at e; exact .inl (.inr ⟨j, hj, e⟩)
end
end Go.Proofs.YtgnnpfainoppeaaDoor
