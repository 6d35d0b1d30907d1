/- Add of a tree. Made by geneg14.py. -/
import Derived.Test.YtkmeceoilighiaaEF
set_option linter.unusedVariables false
set_option linter.unusedSimpArgs false
set_option maxRecDepth 100000
namespace Go.Proofs.Ytkmeceoilighiaa
open Go.RowKit Go.Shelf Go.Lib
open Tb (Rw setF dropF getF aboveF Rise TabI TM LiesK TOut Sprung)

/-- Add's first two boxes. -/
structure AB (w W : World) (k : Nat) (o : O) (q : Nat) (ft fr : Int) (a : Option Addr) (n c : Nat) : Prop where
  bel : Below w.heap.size w W
  b3 : W.heap[w.heap.size]? = some (.cells (oCells o) 34 (0, 0))
  b6 : W.heap[k]? = some (.cells #[pv q, .int .i64 ft, .int .i64 fr, .slice a n c] 77 (0, 0))
theorem AB.step {w W W' : World} {k : Nat} {o : O} {q : Nat} {ft fr : Int} {a : Option Addr} {n c : Nat} (h : AB w W k o q ft fr a n c) (hb : Below W.heap.size W W') : AB w W' k o q ft fr a n c :=
  ⟨h.bel.trans (hb.mono h.bel.size), (hb.block _ (pl_lt h.b3)).trans h.b3, (hb.block _ (pl_lt h.b6)).trans h.b6⟩
theorem AB.new {w w1 : World} {o : O} {q : Nat} {ft fr : Int} {a : Option Addr} {n c : Nat} (hb : Below (w.alloc (.cells (oCells o) 34)).heap.size (w.alloc (.cells (oCells o) 34)) w1) :
    AB w (w1.alloc (.cells #[pv q, .int .i64 ft, .int .i64 fr, .slice a n c] 77)) w1.heap.size o q ft fr a n c := by
  have b1 := pl_vstep w (.cells (oCells o) 34)
  have n1 := heap_alloc_new w (.cells (oCells o) 34)
  have b2 := pl_vstep w1 (.cells #[pv q, .int .i64 ft, .int .i64 fr, .slice a n c] 77)
  have n2 := (hb.block _ (pl_lt n1)).trans n1
  exact ⟨(b1.trans (hb.mono b1.size)).trans (b2.mono (b1.trans (hb.mono b1.size)).size), (b2.block _ (pl_lt n2)).trans n2, heap_alloc_new w1 _⟩
theorem cell9 {W : World} {k : Nat} {t r q nt nr pt pr : Int} {nm : ByteArray} {d : Bool} (h : W.heap[k]? = some (.cells (oCells ⟨t, r, q, nt, nr, pt, pr, nm, d⟩) 34 (0, 0))) :
    W.cell? ⟨k, 0, none⟩ = some (.int .i64 t) ∧ W.cell? ⟨k, 1, none⟩ = some (.int .i64 r) ∧ W.cell? ⟨k, 2, none⟩ = some (.int .i64 q) ∧ W.cell? ⟨k, 3, none⟩ = some (.int .i64 nt) ∧ W.cell? ⟨k, 4, none⟩ = some (.int .i64 nr) ∧ W.cell? ⟨k, 5, none⟩ = some (.int .i64 pt) ∧ W.cell? ⟨k, 6, none⟩ = some (.int .i64 pr) ∧ W.cell? ⟨k, 7, none⟩ = some (.string nm) ∧ W.cell? ⟨k, 8, none⟩ = some (.bool d) := by
  refine ⟨?_, ?_, ?_, ?_, ?_, ?_, ?_, ?_, ?_⟩ <;> (rw [cell_of_row _ _ _ _ _ _ h]; rfl)
theorem build89 (W : World) (o : O) : (Instr.build 89 #[(0, oV o)]).run Try.prog W = .ok (stV (S0 o)) W := by kernel_rfl
theorem bs89 (W : World) (s : Stp) : (Instr.buildSlice 75 1 #[(0, stV s)]).run Try.prog W = .ok (.slice (some ⟨W.heap.size, 0, none⟩) 1 1) (W.alloc (.cells (stCells s) 89)) := by kernel_rfl
noncomputable def addE (ft fr : Int) (L : List O) (o : O) : Int := if rO o = false then 2 else if St.cmpS o.t o.r ft fr ≤ 0 then 11 else if hasO L o.t o.r = true then 9 else 0
noncomputable def addN (ft fr : Int) (L : List O) (o : O) : Int := if addE ft fr L o = 0 then ((L.length - posF L o.t o.r : Nat) : Int) else 0
structure AC (w W : World) (B p q mb k6 : Nat) (T : List Rw) (ft fr : Int) (la : Option Addr) (n lc : Nat) (xs : List Value) (o : O) : Prop where
  far : Far (HasT p mb la) w W
  b3 : W.heap[w.heap.size]? = some (.cells (oCells o) 34 (0, 0))
  b6 : W.heap[k6]? = some (.cells #[pv q, .int .i64 ft, .int .i64 fr, .slice la n lc] 77 (0, 0))
  box : W.heap[p]? = some (.cells #[pv q, .int .i64 ft, .int .i64 fr, .slice la n lc] 79 (0, 0))
  tab : TabI W q mb T
  log : W.ownsRow B 89 15 (.slice la n lc) n xs
theorem AC.step {w W W' : World} {B p q mb k6 : Nat} {T : List Rw} {ft fr : Int} {la : Option Addr} {n lc : Nat} {xs : List Value} {o : O} (h : AC w W B p q mb k6 T ft fr la n lc xs o) (hb : Below W.heap.size W W') : AC w W' B p q mb k6 T ft fr la n lc xs o :=
  ⟨h.far.trans (Far.of_below (P := fun _ => False) hb) (fun _ _ q => q.elim), (hb.block _ (pl_lt h.b3)).trans h.b3, (hb.block _ (pl_lt h.b6)).trans h.b6, (hb.block _ (pl_lt h.box)).trans h.box, h.tab.step hb, own_keep h.log hb⟩
theorem own_map_ne {W : World} {B e k n m : Nat} {v : Value} {xs : List Value} {l : List Rw} (ho : W.ownsRow B e k v n xs) (hm : TM W m l) : v.ownBlock ≠ some m := fun e => by
  rcases ho.2 with ⟨rfl, _⟩ | ⟨g, cap, cur, rfl, hB, hb, h1⟩
  · cases e
  · have : g = m := by simpa [Value.ownBlock] using e
    exact map_ne hb hm this
theorem own_cell_ne {W : World} {B e k n m : Nat} {v : Value} {xs : List Value} {c : Array Value} {t : TypeId} {f : Nat × Nat} (ho : W.ownsRow B e k v n xs) (hm : W.heap[m]? = some (.cells c t f)) (ht : t ≠ e) : v.ownBlock ≠ some m := fun e1 => by
  rcases ho.2 with ⟨rfl, _⟩ | ⟨g, cap, cur, rfl, hB, hb, h1⟩
  · cases e1
  · have : g = m := by simpa [Value.ownBlock] using e1
    exact cell_ne hm hb ht this.symm
theorem AC.of {w W W' : World} {B p q mb k : Nat} {T0 : List Rw} {T' : List Rw} {ft fr : Int} {L : List O} {la : Option Addr} {lc : Nat} {o : O} (ht : TreeI w B p q mb T0 ft fr L la lc) (h : AB w W k o q ft fr la L.length lc) (ho : TOut W W' q mb T') : AC w W' B p q mb k T' ft fr la L.length lc (stc (stepsF T0 L)) o := by
  have t1 := ht.step h.bel
  have hm := t1.tab.map
  refine ⟨(Far.of_below h.bel).trans (Far.of_grown (P := fun k => k = mb) ho.grow (fun k e => by injection e with e; exact e.symm)) (fun _ _ e => .inr (.inl e)), (ho.grow.block _ (pl_lt h.b3) (fun e => map_ne h.b3 hm (by injection e))).trans h.b3, (ho.grow.block _ (pl_lt h.b6) (fun e => map_ne h.b6 hm (by injection e))).trans h.b6, (ho.grow.block _ (pl_lt t1.box) (fun e => map_ne t1.box hm (by injection e))).trans t1.box, ho.tab, ?_⟩
  exact t1.log.kept ho.grow (.inr (own_map_ne t1.log hm))
theorem AC.ins {w W W' : World} {B p q mb k6 : Nat} {T : List Rw} {ft fr : Int} {la : Option Addr} {n lc : Nat} {xs : List Value} {o : O} {v' : Value} {R : List Stp} (h : AC w W B p q mb k6 T ft fr la n lc xs o) (hv : W'.ownsRow B 89 15 v' (n + 1) (stc R)) (hg : W.grownBy W' (Value.slice la n lc).ownBlock) (hs : Sprung W (.slice la n lc) v') (hR : R.length = n + 1) (hp : p < w.heap.size) :
    ∃ g cap, v' = .slice (some ⟨g, 0, none⟩) (n + 1) cap ∧ W'.heap[p]? = some (.cells #[pv q, .int .i64 ft, .int .i64 fr, .slice la n lc] 79 (0, 0)) ∧ AddI w (W'.setCell ⟨p, 3, none⟩ v') B p q mb k6 g cap T ft fr la n lc R o := by
  rcases hv.2 with ⟨_, h0⟩ | ⟨g, cap, cur, rfl, hBg, hgc, hnc, hcm, hcs, htake⟩
  · omega
  have fb : ∀ {k : Nat} {c : Array Value} {t : TypeId}, W.heap[k]? = some (.cells c t (0, 0)) → t ≠ 89 → W'.heap[k]? = some (.cells c t (0, 0)) := fun hk ht => (hg.block _ (pl_lt hk) (fun e => own_cell_ne h.log hk ht e.symm)).trans hk
  have hbox := fb h.box (by decide)
  have htab : TabI W' q mb T := ⟨fb h.tab.box (by decide), h.tab.map.grown hg (fun e => own_map_ne h.log h.tab.map e.symm)⟩
  have hf : Far (HasT p mb la) w W' := h.far.trans (Far.of_grown (P := fun k => (lgV la 0 0).ownBlock = some k) hg (fun k e => by rw [← e]; exact ownB _ _ _ _ _)) (fun _ _ e => .inr (.inr e))
  refine ⟨g, cap, rfl, hbox, ?_⟩
  have hS := setc_far (w := W') (p := p) (j := 3) (.slice (some ⟨g, 0, none⟩) (n + 1) cap)
  have b3 := fb h.b3 (by decide)
  have b6 := fb h.b6 (by decide)
  refine ⟨hf.trans (Far.of_grown (P := fun k => k = p) hS (fun k e => by injection e with e; exact e.symm)) (fun _ _ e => .inl e), (hS.block _ (pl_lt b3) (fun e => cell_ne b3 hbox (by decide) (by injection e))).trans b3, (hS.block _ (pl_lt b6) (fun e => cell_ne b6 hbox (by decide) (by injection e))).trans b6, Ve.row_setC (j := 3) (u := .slice (some ⟨g, 0, none⟩) (n + 1) cap) hbox, htab.grown hS (fun e => cell_ne htab.box hbox (by decide) (by injection e)) (fun e => map_ne hbox htab.map (by injection e with e; exact e.symm)), ⟨cur.toList.drop ((n + 1) * 15), ?_, ?_⟩, ⟨hR, hnc, hcm, hBg⟩, ?_⟩
  · rw [← htake, List.take_append_drop, Array.toArray_toList]
    exact (hS.block _ (pl_lt hgc) (fun e => cell_ne hgc hbox (by decide) (by injection e))).trans hgc
  · rw [← htake, List.take_append_drop, Array.length_toList, hcs]
  · rcases hs with hs | ⟨j, hs, hj⟩
    · left
      rw [ownB la 0 0 n lc]
      exact hs.symm
    · right
      injection hs with hs
      have : g = j := hs
      have := h.far.size
      omega
/-- The tree behind Add. -/
theorem AddI.done {w W : World} {B p q mb k6 g cap : Nat} {T0 : List Rw} {ft fr : Int} {L : List O} {la : Option Addr} {lc : Nat} {o : O} (ht : TreeI w B p q mb T0 ft fr L la lc) (h : AddI w W B p q mb k6 g cap (playF T0 (putO L o)) ft fr la L.length lc (stepsF T0 (putO L o)) o) : TreeI W B p q mb T0 ft fr (putO L o) (some ⟨g, 0, none⟩) cap := by
  obtain ⟨Z, h1, h2⟩ := h.row
  have hl := h.len
  refine ⟨by rw [put_len]; exact h.box, h.tab, ⟨by rw [stc_len, steps_len], .inr ⟨g, cap, _, by rw [put_len], hl.2.2.2, h1, by rw [put_len]; exact hl.2.1, hl.2.2.1, by simpa using h2, ?_⟩⟩, ht.lo, ht.r0⟩
  rw [List.toList_toArray, ← steps_len (putO L o) T0, ← stc_len, List.take_left]
end Go.Proofs.Ytkmeceoilighiaa
