/- A loop over All whose body always goes on: what is owed for it. -/
import Derived.Test.YtgbihpfpiaacfaaGreatDoorCReP
set_option linter.unusedVariables false
set_option maxRecDepth 100000
namespace Go.Proofs.YtgbihpfpiaacfaaGreatDoor.Rc
open Go.RowKit Go.Shelf

/-- How the body of such a loop is left: at its end. -/
def goesOn (lo hi : Nat) (I : Nat → World → Prop) (i : Nat) (W : World) : Exit → Act → World → Prop
  | .normal, _, W' => KeepsOthers W W' ∧ KeepRow lo hi W W' ∧ I (i + 1) W'
  | _, _, _ => False

theorem range_all {g : Operand} {ps : Array Tmp} {assign body : Code} {Q : Exit → Act → World → Prop} {a : Act} {w : World} {n : Nat} (hn : 2 ≤ n) {lo hi bx : Nat} {bs : List Nat} (hb : Byt bs) (hl : bs.length ≤ 200000)
    (hg : a.eval g = .func (.func 72) #[] #[.pointer (some ⟨bx, 0, none⟩)]) (hR : Rd lo hi bx bs w) (hps : ps.size = 2)
    (I : Nat → World → Prop) (hI : OwnFrom w.heap.size I) (h0 : I 0 w) (a₁ : Nat → Value → Act)
    (hassign : ∀ (l k : Nat) (v : Value) (W : World) (K : Act → World → Prop), K (a₁ k v) W →
      assign.wpIn (Fence.wide.inRound l) (n - 1 - 1) Tryz.prog (Exit.then K (fun _ _ _ => False)) { tmps := (ps.zip #[.int .i64 (k : Int), v]).foldl (fun t (p, v) => t.setIfInBounds p v) a.tmps, defers := [] } W)
    (hbody : ∀ (l i : Nat) (p : Nat × List Nat) (ao : Option Addr) (c : Nat) (W0 W : World), I i W0 → (∀ (k : Nat) (o : Obj), W0.heap[k]? = some o → o.isCells = true → W.heap[k]? = some o) → (∀ ad, ao = some ad → W0.heap.size ≤ ad.block) → I i W → (recs bs)[i]? = some p → Lies W (.slice ao p.2.length c) p.2 →
      body.wpIn (Fence.wide.inRound l) (n - 1 - 1) Tryz.prog (goesOn lo hi I i W) (a₁ p.1 (.slice ao p.2.length c)) W)
    (hdone : ∀ (D : Nat) (W : World), w.heap.size ≤ D → I (recs bs).length W → W.heap[D]? = some (.deferred (some [])) → Q .normal { a with defers := { target := .collected D, args := #[] } :: a.defers } W) :
    (Code.rangeFunc g ps assign body).wpIn Fence.wide n Tryz.prog Q a w := by
  have hro : Fence.wide.round = none := rfl
  have eg : ∀ (args : Array Value) (W : World), (callFunc 72 args).run Tryz.prog W = .ok (.enter 72 args) W := enters_of Tryz.func72 (by kernel_rfl) rfl
  refine wpIn_rangeFunc fun fn hfn => ?_
  rw [hro]
  -- the loop's own record, in whatever state
  obtain ⟨lp, hlp⟩ : ∃ lp : LoopState → Option Code → Loop, lp = fun st jump => { state := st, pending := jump, fn, tmps := a.tmps, params := ps, assign, body, defers := w.heap.size } := ⟨_, rfl⟩
  obtain ⟨Ws, hWs⟩ : ∃ Ws, Ws = (w.alloc (.deferred (some []))).alloc (.loop (lp .ready none)) := ⟨_, rfl⟩
  have sLoop : Ws.heap[w.heap.size + 1]? = some (.loop (lp .ready none)) := by
    have := World.alloc_heap_new (w.alloc (.deferred (some []))) (.loop (lp .ready none))
    rw [World.size_alloc] at this
    rw [hWs]; exact this
  have sDef : Ws.heap[w.heap.size]? = some (.deferred (some [])) := by
    rw [hWs]; exact (Below.heap_alloc _ _ _ (by simp)).trans (World.alloc_heap_new w _)
  have sB : Below w.heap.size w Ws := by rw [hWs]; exact ((Below.refl _ w).alloc (Nat.le_refl _) _).alloc (by simp) _
  have sI : I 0 Ws := by rw [hWs]; exact hI.alloc _ (hI.alloc _ h0)
  have sz : Ws.heap.size = w.heap.size + 2 := by rw [hWs]; simp
  refine ⟨w.heap.size + 1, [{ target := .collected w.heap.size, args := #[] }], Ws, { target := .fn (.func 72) #[.pointer (some ⟨bx, 0, none⟩)], args := #[.func (.yield (w.heap.size + 1)) #[] #[]] }, Ws, 72,
    #[.func (.yield (w.heap.size + 1)) #[] #[], .pointer (some ⟨bx, 0, none⟩)], Ws, ?enter, ?who, (fun f' _ => trivial), ?into, (fun _ => by omega), ?run⟩
  case enter => rw [hWs, hlp]; exact run_enterLoop_outer _ _ _ _ _
  case who =>
    simp only [resolve, hg]
    simp [go_sem]
  case into => simp [invoke, go_sem, eg]
  case run =>
    -- what stands between two rounds: the caller's word, and the loop's record at rest
    have still : ∀ {A B : World} {row : Option Nat}, A.grownBy B row → (∀ r, row = some r → Ws.heap.size ≤ r ∧ ∃ o : Obj, A.heap[r]? = some o ∧ o.isWalk = true) → ∀ (k : Nat) (o : Obj), A.heap[k]? = some o → o.isWalk = false → B.heap[k]? = some o := fun hg' hr k o ho hw =>
      (grownBy_keeps hg' (fun r e => (hr r e).2) ho hw).trans ho
    refine (told_in (n - 1) (by omega) (w.heap.size + 1) lo hi bx Ws.heap.size bs hb hl
      (fun i W => I i W ∧ W.heap[w.heap.size + 1]? = some (.loop (lp .ready none)) ∧ W.heap[w.heap.size]? = some (.deferred (some [])))
      (fun i A B row hs hg' hr => ⟨hI i A B row hs.1 hg' (fun r e => by obtain ⟨hr1, o, ho, hw⟩ := hr r e; exact ⟨by omega, o, ho, Obj.not_cells_of_walk hw⟩), still hg' hr _ _ hs.2.1 rfl, still hg' hr _ _ hs.2.2 rfl⟩)
      ?round Ws (hR.later sB) ⟨sI, sLoop, sDef⟩).mono ?after
    case round =>
      rintro i p ao c W00 W ⟨hii0, _, _⟩ hbl hfr ⟨hii, hloop, hdef⟩ hget hL
      have hlt : w.heap.size + 1 < W.heap.size := (Array.getElem?_eq_some_iff.1 hloop).1
      obtain ⟨Wb, hWb⟩ : ∃ Wb, Wb = W.putObj (w.heap.size + 1) (.loop { lp .ready none with state := .busy }) := ⟨_, rfl⟩
      have hy := run_yield (P := Tryz.prog) (args := #[.int .i64 (p.1 : Int), .slice ao p.2.length c]) hloop (by rw [hlp]; exact hps.symm)
      rw [hlp] at hy
      refine ⟨fn, _, assign, body, hy, roundIn_of_wpIn hfn (hassign _ p.1 _ W _ ⟨_, run_beginRound hloop (by rw [hlp]), ?_⟩)⟩
      have bLoop : Wb.heap[w.heap.size + 1]? = some (.loop { lp .ready none with state := .busy }) := by rw [hWb]; exact World.putObj_heap_same hlt
      have bDef : Wb.heap[w.heap.size]? = some (.deferred (some [])) := by rw [hWb]; exact (World.putObj_heap_other (by omega)).trans hdef
      have bRow : KeepRow lo hi W Wb := by rw [hWb]; exact KeepRow.putObj W _ _ _ hloop rfl
      have bI : I i Wb := by rw [hWb]; exact hI.putObj _ hii (by omega) hloop rfl
      have bK : ∀ (k : Nat) (o : Obj), W00.heap[k]? = some o → o.isCells = true → Wb.heap[k]? = some o := fun k o ho hc => by
        have h1 := (hbl.block k (Array.getElem?_eq_some_iff.1 ho).1).trans ho
        rw [hWb]
        exact (World.putObj_heap_other (fun e => by subst e; rw [hloop] at h1; cases h1; cases hc)).trans h1
      have bL : Lies Wb (.slice ao p.2.length c) p.2 := by rw [hWb]; exact lies_putObj hL hloop rfl
      rw [← hWb]
      refine wpIn_mono (hbody _ i p ao c W00 Wb hii0 bK hfr bI hget bL) fun ex a3 W3 hp => ?_
      cases ex with
      | normal =>
        obtain ⟨k1, k2, k3⟩ := hp
        have eLoop := k1.same _ _ bLoop rfl
        have hend := run_endRound (P := Tryz.prog) none eLoop
        rw [hlp] at hend eLoop ⊢
        have hl3 := (Array.getElem?_eq_some_iff.1 eLoop).1
        exact ⟨_, _, hend, rfl, ⟨hI.putObj _ k3 (by omega) eLoop rfl, World.putObj_heap_same hl3, (World.putObj_heap_other (by omega)).trans (k1.same _ _ bDef rfl)⟩, (bRow.trans k2).trans (KeepRow.putObj W3 _ _ _ eLoop rfl)⟩
      | ret => exact hp.elim
      | exit id => exact hp.elim
      | goto t => exact hp.elim
      | panic ch => exact hp.elim
      | outgrown => exact hp.elim
    case after =>
      rintro e W2 ⟨⟨v, rfl⟩, hii, hloop, hdef⟩
      have hend := run_endLoop (P := Tryz.prog) hloop (by rw [hlp]; simp)
      rw [hlp] at hend
      exact ⟨none, _, hend, hdone _ _ (Nat.le_refl _) (hI.putObj _ hii (by omega) hloop rfl) ((World.putObj_heap_other (by omega)).trans hdef)⟩
end Go.Proofs.YtgbihpfpiaacfaaGreatDoor.Rc

