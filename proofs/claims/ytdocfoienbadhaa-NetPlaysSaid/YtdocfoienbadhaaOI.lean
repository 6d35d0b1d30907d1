/- A net of the program and one of the reference side by side. -/
import Derived.Test.YtdocfoienbadhaaOH
import Derived.Test.YtdocfoienbadhaaNView
set_option linter.unusedVariables false
namespace Go.Proofs.Ytdocfoienbadhaa
open Go.RowKit

def pu (f : Fl) : Int × List Nat × Bool := (f.dst, f.bs, f.hurt)
structure DS (w0 W : World) (p q : Nat) (fv rv : Value) (fl rl : List Fl) (lost : Int) : Prop where
  net : NetAt w0.heap.size W p fv fl lost
  bel : Below w0.heap.size w0 W
  box : W.heap[q]? = some (.cells #[rv, .int .i64 lost] 29 (0, 0))
  qB : w0.heap.size ≤ q
  qn : ¬ NOwn p fv fl q
  rows : RowsN (Or1 (NOwn p fv fl) q) W rv rl
  pure : fl.map pu = rl.map pu
theorem DS.step {w0 W W' : World} {p q : Nat} {fv rv : Value} {fl rl : List Fl} {lost : Int} (h : DS w0 W p q fv rv fl rl lost) (hb : Below W.heap.size W W') : DS w0 W' p q fv rv fl rl lost :=
  ⟨h.net.step hb, h.bel.trans (hb.mono h.bel.size), (hb.block _ (lt_of_block h.box)).trans h.box, h.qB, h.qn, h.rows.step hb, h.pure⟩
/-- What lies there once the reference's net has been written back. -/
structure DM (w0 W : World) (p q : Nat) (fv rv : Value) (fl rl : List Fl) (lost lost' : Int) : Prop where
  net : NetAt w0.heap.size W p fv fl lost
  bel : Below w0.heap.size w0 W
  box : W.heap[q]? = some (.cells #[rv, .int .i64 lost'] 29 (0, 0))
  qB : w0.heap.size ≤ q
  qn : ¬ NOwn p fv fl q
  rows : RowsN (Or1 (NOwn p fv fl) q) W rv rl
theorem DM.step {w0 W W' : World} {p q : Nat} {fv rv : Value} {fl rl : List Fl} {lost lost' : Int} (h : DM w0 W p q fv rv fl rl lost lost') (hb : Below W.heap.size W W') : DM w0 W' p q fv rv fl rl lost lost' :=
  ⟨h.net.step hb, h.bel.trans (hb.mono h.bel.size), (hb.block _ (lt_of_block h.box)).trans h.box, h.qB, h.qn, h.rows.step hb⟩
theorem DS.put {w0 W W5 : World} {p q : Nat} {fv rv rv' : Value} {fl rl rl' : List Fl} {lost lost' : Int} (h : DS w0 W p q fv rv fl rl lost) (hb : Below W.heap.size W W5) (hr : RowsN (Or1 (NOwn p fv fl) q) W5 rv' rl') :
    DM w0 (set2 W5 q rv' (.int .i64 lost')) p q fv rv' fl rl' lost lost' := by
  have h5 := h.step hb
  have hp : p ≠ q := fun e => h.qn (.inl e.symm)
  have hv : fv.ownBlock ≠ some q := fun e => h.qn (.inr (.inl e))
  have hf : ∀ f ∈ fl, f.bv.ownBlock ≠ some q := fun f hf e => h.qn (.inr (.inr ⟨f, hf, e⟩))
  exact ⟨net_set (net_set h5.net q 0 rv' hp hv hf) q 1 (.int .i64 lost') hp hv hf, below_set2 h5.bel h.qB _ _, set2_row h5.box _ _, h.qB, h.qn,
    hr.move (by unfold set2; simp) fun k hk hn => ⟨set2_other (fun e => hn (.inr e)), hn⟩⟩
theorem DM.fin {w0 W W9 : World} {p q : Nat} {fv rv fv' : Value} {fl rl fl' : List Fl} {lost lost' : Int} (h : DM w0 W p q fv rv fl rl lost lost') (hn : NetAt w0.heap.size W9 p fv' fl' lost') (hb : Below w0.heap.size w0 W9) (k : Kp W W9 p fv fl fv' fl') (hp : fl'.map pu = rl.map pu) :
    DS w0 W9 p q fv' rv fl' rl lost' := by
  have hlt := lt_of_block h.box
  have hq : ¬ NOwn p fv' fl' q := fun e => (k.own q e).elim h.qn (fun x => by omega)
  refine ⟨hn, hb, (k.keep q hlt h.qn).trans h.box, h.qB, hq, h.rows.move k.size fun j hj hnj => ⟨k.keep j hj (fun e => hnj (.inl e)), fun e => e.elim (fun e => (k.own j e).elim (fun e => hnj (.inl e)) (fun x => by omega)) (fun e => hnj (.inr e))⟩, hp⟩
theorem alloc29 (W : World) : (Instr.alloc 29 true (.tuple #[])).run Try.prog W = .ok (.pointer (some ⟨W.heap.size, 0, none⟩)) (W.alloc (.cells #[.slice none 0 0, .int .i64 0] 29)) := by go_simp
theorem alloc32 (W : World) : (Instr.alloc 32 true (.tuple #[])).run Try.prog W = .ok (.pointer (some ⟨W.heap.size, 0, none⟩)) (W.alloc (.cells #[.int .i64 0, .slice none 0 0, .bool false] 32)) := by go_simp
theorem load3 (W : World) (p : Addr) (x : Int) (h : W.cell? p = some (.int .i64 x)) : (Instr.loadAt 3 (.pointer (some p))).run Try.prog W = .ok (.int .i64 x) W := by go_simp
theorem DS.own_lt {w0 W : World} {p q : Nat} {fv rv : Value} {fl rl : List Fl} {lost : Int} (h : DS w0 W p q fv rv fl rl lost) : ∀ k, Or1 (NOwn p fv fl) q k → k < W.heap.size :=
  fun k hk => hk.elim (fun hk => (h.net.own_lt hk).2) (fun e => by rw [e]; exact lt_of_block h.box)
/-- An act's cells. -/
def ac7 (kd k m b d : Int) (a : Option Addr) (n c : Nat) (hu : Bool) : Array Value := #[.int .i64 kd, .int .i64 k, .int .i64 m, .int .i64 b, .int .i64 d, .slice a n c, .bool hu]
theorem pu_len {fl rl : List Fl} (h : fl.map pu = rl.map pu) : fl.length = rl.length := by
  have := congrArg List.length h
  simpa using this
theorem pu_at {fl rl : List Fl} (h : fl.map pu = rl.map pu) {i : Nat} {f : Fl} (hf : fl[i]? = some f) : ∃ g, rl[i]? = some g ∧ g.dst = f.dst ∧ g.bs = f.bs ∧ g.hurt = f.hurt := by
  have h1 : (rl.map pu)[i]? = some (pu f) := by rw [← h, List.getElem?_map, hf]; rfl
  rw [List.getElem?_map] at h1
  cases hg : rl[i]? with
  | none => rw [hg] at h1; cases h1
  | some g =>
    rw [hg] at h1
    injection h1 with h1
    unfold pu at h1
    injection h1 with e1 e2
    injection e2 with e2 e3
    exact ⟨g, rfl, e1, e2, e3⟩
theorem pu_snoc {fl rl : List Fl} (h : fl.map pu = rl.map pu) {f g : Fl} (hfg : pu f = pu g) : (fl ++ [f]).map pu = (rl ++ [g]).map pu := by
  rw [List.map_append, List.map_append, h, List.map_singleton, List.map_singleton, hfg]
theorem pu_set {fl rl : List Fl} (h : fl.map pu = rl.map pu) {i : Nat} {f g : Fl} (hfg : pu f = pu g) : (fl.set i f).map pu = (rl.set i g).map pu := by
  rw [List.map_set, List.map_set, h, hfg]
theorem pu_left {goes goes' : Nat → Fl → Bool} {fl rl : List Fl} (h : fl.map pu = rl.map pu) (hg : ∀ i f g, pu f = pu g → goes i f = goes' i g) : ∀ i, (leftN goes fl i).map pu = (leftN goes' rl i).map pu
  | 0 => rfl
  | i + 1 => by
    unfold leftN
    rw [List.map_append, List.map_append, pu_left h hg i]
    congr 1
    have e : (fl.map pu)[i]? = (rl.map pu)[i]? := by rw [h]
    rw [List.getElem?_map, List.getElem?_map] at e
    cases hf : fl[i]? with
    | none =>
      cases hr : rl[i]? with
      | none => rfl
      | some g => rw [hf, hr] at e; cases e
    | some f =>
      cases hr : rl[i]? with
      | none => rw [hf, hr] at e; cases e
      | some g =>
        rw [hf, hr] at e
        injection e with e
        have e' : pu f = pu g := e
        show List.map pu (if goes i f = true then [] else [f]) = List.map pu (if goes' i g = true then [] else [g])
        rw [hg i f g e']
        by_cases hc : goes' i g = true
        · rw [if_pos hc, if_pos hc]
        · rw [if_neg hc, if_neg hc]
          show [pu f] = [pu g]
          rw [e']
theorem pu_take {fl rl : List Fl} (h : fl.map pu = rl.map pu) (k : Int) : (takeL fl k).map pu = (takeL rl k).map pu := by
  unfold takeL
  rw [pu_len h]
  exact pu_left (goes := goesK k) (goes' := goesK k) h (fun i f g _ => rfl) _
theorem pu_clear {fl rl : List Fl} (h : fl.map pu = rl.map pu) (k : Int) : (clearL fl k).map pu = (clearL rl k).map pu := by
  unfold clearL
  rw [pu_len h]
  exact pu_left h (fun i f g e => by
    have : f.dst = g.dst := congrArg (fun x => x.1) e
    unfold goesT
    rw [this]) _
theorem pu_swap {fl rl : List Fl} (h : fl.map pu = rl.map pu) {i j : Nat} {fi fj gi gj : Fl} (hi : pu fi = pu gi) (hj : pu fj = pu gj) : (swapL fl i j fi fj).map pu = (swapL rl i j gi gj).map pu := by
  unfold swapL
  exact pu_set (pu_set h hj) hi
end Go.Proofs.Ytdocfoienbadhaa
