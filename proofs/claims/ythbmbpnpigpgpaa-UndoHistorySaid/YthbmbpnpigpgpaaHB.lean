/- slices.Backward over changes: its closure, told what each round is handed; a loop over it whose body always goes on. -/
import Derived.Test.YthbmbpnpigpgpaaHP
import Derived.RangeFuncFrom
import Derived.RegionIn
import Derived.LoopNIn
import Derived.LoopIn
import Derived.TacticsInMore
import Derived.RangeFuncNested
import Derived.RangeFuncBound
import Derived.RangeFuncCalls
import Derived.RangeFuncLeaves
import Derived.Shelf.Abstract
import Derived.Shelf.RegionOpen
set_option linter.unusedVariables false
set_option maxRecDepth 100000
namespace Go.Proofs.Ythbmbpnpigpgpaa
open Go.RowKit Go.Shelf
attribute [local go_sem] Oper.semAt_some

theorem lies_eltH {w : World} {ao : Option Addr} {n cap : Nat} {l : List Ch} (h : LiesK encH 7 w (.slice ao n cap) l) {i : Nat} (hi : i < n) : ∃ g o x, ao = some ⟨g, o, none⟩ ∧ l[i]? = some x ∧ g < w.heap.size ∧ ∀ r u, (encH x)[r]? = some u → w.cell? ⟨g, o + i * 7 + r, none⟩ = some u := by
  obtain ⟨g, o, p, e1, e2, e3, e4⟩ := h.at' hi
  exact ⟨g, o, p, e1, e2, e3, e4⟩
set_option maxHeartbeats 1600000 in
theorem told_bk (n : Nat) (hn : 1 ≤ n) (l bx : Nat) (v : Value) (L : List Ch) (hl : L.length ≤ 100000) (J : Nat → World → Prop)
    (hR : ∀ i W, J i W → W.cell? ⟨bx, 0, none⟩ = some v ∧ LiesK encH 7 W v L)
    (hY : ∀ (i k : Nat) (s : Ch) (W : World), J i W → i < L.length → k = L.length - 1 - i → L[k]? = some s → YieldAt Fence.wide (n - 1) Try.prog l #[.int .i64 (k : Int), chV s] W fun e W' => e = .returned (.bool true) ∧ J (i + 1) W')
    (W : World) (h0 : J 0 W) :
    CallsIn Fence.wide n Try.prog 50 #[.func (.yield l) #[] #[], .pointer (some ⟨bx, 0, none⟩)] W fun e W' => (∃ v, e = .returned v) ∧ J L.length W' := by
  have hY := Lib.hid hY
  have hR := Lib.hid hR
  have hro : Fence.wide.round = none := rfl
  obtain ⟨c0, hL0⟩ := hR.out 0 W h0
  obtain ⟨ao, cap, rfl⟩ := hL0.shape
  have J0 := Lib.hid h0
  clear h0 hL0
  refine callsIn_of_wp Try.func50 rfl trivial ?_ hro
  simp only [Try.ntmps50, List.size_toArray, List.length_cons, List.length_nil, Nat.reduceAdd, Nat.reduceSub, Array.replicate_succ, Array.replicate_zero, List.push_toArray, List.append_toArray, List.nil_append, List.cons_append]
  have hw0 : wrap64 ((L.length : Int) - 1) = (L.length : Int) - 1 := by unfold wrap64; omega
  gi_wp2
  clear c0
  gi_loopw [3] (fun p wr => ∃ (i : Nat), p = .int .i64 ((L.length : Int) - 1 - (i : Int)) ∧ i ≤ L.length ∧ Hid (J i wr)) (fun p wr => (intOf p + 1).toNat)
  case atStart => exact ⟨0, by simp, Nat.zero_le _, J0⟩
  case round =>
    obtain ⟨i, rfl, hi, hI⟩ := hrel
    obtain ⟨c0, hL⟩ := hR.out i wr hI.out
    by_cases hlt : i < L.length
    · obtain ⟨k, hk⟩ : ∃ k, k = L.length - 1 - i := ⟨_, rfl⟩
      have hkk : (L.length : Int) - 1 - (i : Int) = (k : Int) := by omega
      rw [hkk]
      obtain ⟨g, o, s, rfl, hs, hg, hc⟩ := lies_eltH hL (i := k) (by omega)
      have d0 := hc 0 _ rfl; have d1 := hc 1 _ rfl; have d2 := hc 2 _ rfl; have d3 := hc 3 _ rfl; have d4 := hc 4 _ rfl; have d5 := hc 5 _ rfl; have d6 := hc 6 _ rfl
      rw [Nat.add_zero] at d0
      obtain ⟨fn, tmps, assign, body, hy, hRr⟩ := hY.out i k s wr hI.out hlt hk hs
      unfold chV chC at hy
      have hRr := Lib.hid hRr
      have hk0 : (0 : Int) ≤ (k : Int) := by omega
      have hk1 : (k : Int) < (L.length : Int) := by omega
      have HKK := Lib.hid hkk
      have HK0 := Lib.hid hk0
      clear hL hc hs hk hkk
      gi_wp2_with fail
      refine hRr.out.mono ?_
      rintro e W3 ⟨rfl, hJ3⟩
      have J3 := Lib.hid hJ3
      clear hJ3 hy c0 d0 d1 d2 d3 d4 d5 d6
      gi_wp2
      go_roundw
      case rel => exact ⟨i + 1, by have := HKK.out; congr 1; push_cast; omega, by omega, J3⟩
      case measure => have := HKK.out; have := HK0.out; simp [intOf]; try omega
    · have he : i = L.length := by omega
      subst he
      have hneg : decide ((0 : Int) ≤ (L.length : Int) - 1 - (L.length : Int)) = false := decide_eq_false (by omega)
      have hn1 : ((L.length : Int) - 1 - (L.length : Int)) = -1 := by omega
      rw [hn1]
      clear hL c0
      gi_wp2
      go_end0
      exact ⟨⟨_, rfl⟩, hI.out⟩
/-- How the body of such a loop is left: at its end; the two blocks of the loop are as they were. -/
def goesOnH (w : World) (I : Nat → World → Prop) (i : Nat) (W : World) : Exit → Act → World → Prop
  | .normal, _, W' => W'.heap[w.heap.size]? = W.heap[w.heap.size]? ∧ W'.heap[w.heap.size + 1]? = W.heap[w.heap.size + 1]? ∧ I (i + 1) W'
  | _, _, _ => False
theorem range_bk {g : Operand} {ps : Array Tmp} {assign body : Code} {Q : Exit → Act → World → Prop} {a : Act} {w : World} {n : Nat} (hn : 2 ≤ n) {bx : Nat} {v : Value} {L : List Ch} (hl : L.length ≤ 100000)
    (hg : a.eval g = .func (.func 50) #[] #[.pointer (some ⟨bx, 0, none⟩)]) (hps : ps.size = 2)
    (I : Nat → World → Prop) (hI : OwnFrom w.heap.size I) (h0 : I 0 w) (hR : ∀ i W, I i W → W.cell? ⟨bx, 0, none⟩ = some v ∧ LiesK encH 7 W v L) (a₁ : Nat → Ch → Nat → Act)
    (hassign : ∀ (l k : Nat) (s : Ch) (W : World) (K : Act → World → Prop), K (a₁ k s W.heap.size) (W.alloc (.cells (chC s) 71)) →
      assign.wpIn (Fence.wide.inRound l) (n - 1 - 1) Try.prog (Exit.then K (fun _ _ _ => False)) { tmps := (ps.zip #[.int .i64 (k : Int), chV s]).foldl (fun t (p, v) => t.setIfInBounds p v) a.tmps, defers := [] } W)
    (hbody : ∀ (l i k b : Nat) (s : Ch) (W : World), I i W → i < L.length → k = L.length - 1 - i → L[k]? = some s → w.heap.size + 1 < b → b < W.heap.size → W.heap[b]? = some (.cells (chC s) 71 (0, 0)) →
      body.wpIn (Fence.wide.inRound l) (n - 1 - 1) Try.prog (goesOnH w I i W) (a₁ k s b) W)
    (hdone : ∀ (D : Nat) (W : World), w.heap.size ≤ D → I L.length W → W.heap[D]? = some (.deferred (some [])) → Q .normal { a with defers := { target := .collected D, args := #[] } :: a.defers } W) :
    (Code.rangeFunc g ps assign body).wpIn Fence.wide n Try.prog Q a w := by
  have hro : Fence.wide.round = none := rfl
  have eg : ∀ (args : Array Value) (W : World), (callFunc 50 args).run Try.prog W = .ok (.enter 50 args) W := enters_of Try.func50 (by kernel_rfl) rfl
  refine wpIn_rangeFunc fun fn hfn => ?_
  rw [hro]
  obtain ⟨lp, hlp⟩ : ∃ lp : LoopState → Option Code → Loop, lp = fun st jump => { state := st, pending := jump, fn, tmps := a.tmps, params := ps, assign, body, defers := w.heap.size } := ⟨_, rfl⟩
  obtain ⟨Ws, hWs⟩ : ∃ Ws, Ws = (w.alloc (.deferred (some []))).alloc (.loop (lp .ready none)) := ⟨_, rfl⟩
  have sLoop : Ws.heap[w.heap.size + 1]? = some (.loop (lp .ready none)) := by
    have := World.alloc_heap_new (w.alloc (.deferred (some []))) (.loop (lp .ready none))
    rw [World.size_alloc] at this
    rw [hWs]; exact this
  have sDef : Ws.heap[w.heap.size]? = some (.deferred (some [])) := by
    rw [hWs]; exact (Below.heap_alloc _ _ _ (by simp)).trans (World.alloc_heap_new w _)
  have sB : Below w.heap.size w Ws := by rw [hWs]; exact ((Below.refl _ w).alloc (Nat.le_refl _) _).alloc (by simp) _
  have sI : I 0 Ws := by rw [hWs]; exact hI.alloc _ (hI.alloc _ h0)
  refine ⟨w.heap.size + 1, [{ target := .collected w.heap.size, args := #[] }], Ws, { target := .fn (.func 50) #[.pointer (some ⟨bx, 0, none⟩)], args := #[.func (.yield (w.heap.size + 1)) #[] #[]] }, Ws, 50,
    #[.func (.yield (w.heap.size + 1)) #[] #[], .pointer (some ⟨bx, 0, none⟩)], Ws, ?enter, ?who, (fun f' _ => trivial), ?into, (fun _ => by omega), ?run⟩
  case enter => rw [hWs, hlp]; exact run_enterLoop_outer _ _ _ _ _
  case who =>
    simp only [resolve, hg]
    simp [go_sem]
  case into => simp [invoke, go_sem, eg]
  case run =>
    refine (told_bk (n - 1) (by omega) (w.heap.size + 1) bx v L hl
      (fun i W => I i W ∧ W.heap[w.heap.size + 1]? = some (.loop (lp .ready none)) ∧ W.heap[w.heap.size]? = some (.deferred (some [])))
      (fun i W h => hR i W h.1) ?round Ws ⟨sI, sLoop, sDef⟩).mono ?after
    case round =>
      rintro i k s W ⟨hii, hloop, hdef⟩ hil hk hget
      have hlt : w.heap.size + 1 < W.heap.size := (Array.getElem?_eq_some_iff.1 hloop).1
      have hy := run_yield (P := Try.prog) (args := #[.int .i64 (k : Int), chV s]) hloop (by rw [hlp]; exact hps.symm)
      obtain ⟨Wa, hWa⟩ : ∃ z, z = W.alloc (.cells (chC s) 71) := ⟨_, rfl⟩
      have aLoop : Wa.heap[w.heap.size + 1]? = some (.loop (lp .ready none)) := by rw [hWa]; exact (Below.heap_alloc _ _ _ hlt).trans hloop
      have aDef : Wa.heap[w.heap.size]? = some (.deferred (some [])) := by rw [hWa]; exact (Below.heap_alloc _ _ _ (by omega)).trans hdef
      have aI : I i Wa := by rw [hWa]; exact hI.alloc _ hii
      have aBox : Wa.heap[W.heap.size]? = some (.cells (chC s) 71 (0, 0)) := by rw [hWa]; exact World.alloc_heap_new W _
      have aLt : w.heap.size + 1 < Wa.heap.size := (Array.getElem?_eq_some_iff.1 aLoop).1
      obtain ⟨Wb, hWb⟩ : ∃ Wb, Wb = Wa.putObj (w.heap.size + 1) (.loop { lp .ready none with state := .busy }) := ⟨_, rfl⟩
      rw [hlp] at hy
      refine ⟨fn, _, assign, body, hy, roundIn_of_wpIn hfn (hassign _ k s W _ ⟨_, run_beginRound (by rw [← hWa]; exact aLoop) (by rw [hlp]), ?_⟩)⟩
      have bLoop : Wb.heap[w.heap.size + 1]? = some (.loop { lp .ready none with state := .busy }) := by rw [hWb]; exact World.putObj_heap_same aLt
      have bDef : Wb.heap[w.heap.size]? = some (.deferred (some [])) := by rw [hWb]; exact (World.putObj_heap_other (by omega)).trans aDef
      have bI : I i Wb := by rw [hWb]; exact hI.putObj _ aI (by omega) aLoop rfl
      have bBox : Wb.heap[W.heap.size]? = some (.cells (chC s) 71 (0, 0)) := by rw [hWb]; exact (World.putObj_heap_other (by omega)).trans aBox
      rw [← hWa, ← hWb]
      refine wpIn_mono (hbody _ i k W.heap.size s Wb bI hil hk hget hlt (Array.getElem?_eq_some_iff.1 bBox).1 bBox) fun ex a3 W3 hp => ?_
      cases ex with
      | normal =>
        obtain ⟨k1, k2, k3⟩ := hp
        have eLoop := k2.trans bLoop
        have hend := run_endRound (P := Try.prog) none eLoop
        rw [hlp] at hend eLoop ⊢
        have hl3 := (Array.getElem?_eq_some_iff.1 eLoop).1
        exact ⟨_, _, hend, rfl, hI.putObj _ k3 (by omega) eLoop rfl, World.putObj_heap_same hl3, (World.putObj_heap_other (by omega)).trans (k1.trans bDef)⟩
      | ret => exact hp.elim
      | exit id => exact hp.elim
      | goto t => exact hp.elim
      | panic ch => exact hp.elim
      | outgrown => exact hp.elim
    case after =>
      rintro e W2 ⟨⟨v, rfl⟩, hii, hloop, hdef⟩
      have hend := run_endLoop (P := Try.prog) hloop (by rw [hlp]; simp)
      rw [hlp] at hend
      exact ⟨none, _, hend, hdone _ _ (Nat.le_refl _) (hI.putObj _ hii (by omega) hloop rfl) ((World.putObj_heap_other (by omega)).trans hdef)⟩
end Go.Proofs.Ythbmbpnpigpgpaa
