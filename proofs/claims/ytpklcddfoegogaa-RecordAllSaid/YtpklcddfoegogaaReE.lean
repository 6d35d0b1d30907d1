/- All's closure goes through the records. -/
import Derived.Test.YtpklcddfoegogaaReD
set_option linter.unusedVariables false
namespace Go.Proofs.Ytpklcddfoegogaa
open Go.RowKit Go.Shelf
attribute [local go_sem] Oper.semAt_some

/-- What is handed to a round: where a record begins, and a slice of so many bytes. -/
abbrev It := { x : Nat × Option Addr × Nat × Nat // x.1 ≤ 200000 ∧ x.2.2.1 ≤ 65536 }
abbrev encs (x : It) : Array Value := #[.int .i64 (x.1.1 : Int), .slice x.1.2.1 x.1.2.2.1 x.1.2.2.2]
def sh (x : It) : Nat × Nat := (x.1.1, x.1.2.2.1)
def shr (l : List (Nat × List Nat)) : List (Nat × Nat) := l.map fun p => (p.1, p.2.length)

theorem recsAt_count (at_ : Nat) (bs : List Nat) : (recsAt at_ bs).length ≤ bs.length := by
  have h : ∀ l : List (Nat × List Nat), l.length ≤ takes l := by
    intro l
    induction l with
    | nil => exact Nat.le_refl _
    | cons p l ih => show l.length + 1 ≤ p.2.length + 8 + takes l; omega
  exact Nat.le_trans (h _) (recsAt_takes _ _ _ (Nat.le_refl _))

/-- What is read between two rounds. -/
def Rd (lo hi bx : Nat) (bs : List Nat) (W : World) : Prop := lo ≤ bx ∧ bx < hi ∧ ∃ r, W.cell? ⟨bx, 0, none⟩ = some r ∧ LiesIn lo hi W r bs
theorem Rd.keep {lo hi bx : Nat} {bs : List Nat} {W W' : World} (h : Rd lo hi bx bs W) (hk : KeepRow lo hi W W') : Rd lo hi bx bs W' := by
  obtain ⟨h1, h2, r, hc, hl⟩ := h
  exact ⟨h1, h2, r, hk.cell h1 h2 hc, hl.keep hk⟩
theorem Rd.later {lo hi bx : Nat} {bs : List Nat} {W W' : World} (h : Rd lo hi bx bs W) (hb : Below W.heap.size W W') : Rd lo hi bx bs W' := by
  obtain ⟨h1, h2, r, hc, hl⟩ := h
  exact ⟨h1, h2, r, (hb.cell (p := ⟨bx, 0, none⟩) (World.block_lt_of_cell? W _ hc)).trans hc, hl.later hb⟩

theorem slice_tail {w : World} {ra : Option Addr} {n rc at_ : Nat} {bs : List Nat} (h : Lies w (.slice ra n rc) bs) (hat : at_ ≤ n) :
    ∃ A, (∀ W, (Instr.slice 22 (.slice ra n rc) (some (.int .i64 (at_ : Int))) none none).run Try.prog W = .ok (.slice A (n - at_) (rc - at_)) W) ∧ Lies w (.slice A (n - at_) (rc - at_)) (bs.drop at_) := by
  refine ⟨if rc = at_ then ra else ra.map (·.add (at_ * 1)), fun W => ?_, ?_⟩
  · rw [run_slice_l (P := Try.prog) (ht := Try.underlying22) (h0 := by omega) (h1 := by omega)]
    show _ = Result.ok (Value.slice (if rc = at_ then ra else ra.map (·.add (at_ * 1))) (n - at_) (rc - at_)) W
    rfl
  · obtain ⟨ao, cap, e, h1, h2, h3, h4⟩ := id h
    injection e with e1 e2 e3
    subst e1 e2 e3
    split
    · rename_i e
      have e0 : bs.drop at_ = [] := List.eq_nil_of_length_eq_zero (by rw [List.length_drop]; omega)
      rw [e0]
      exact ⟨_, _, by rw [show bs.length - at_ = 0 by omega]; rfl, Nat.zero_le _, by omega, (fun e => ⟨rfl, by omega⟩), fun b hb hne => absurd rfl hne⟩
    · cases ra with
      | none => have := (h3 rfl).2; have := (h3 rfl).1; subst this; simp at hat; omega
      | some b =>
        by_cases hne : bs = []
        · subst hne
          simp at hat
          subst hat
          exact ⟨_, _, rfl, Nat.zero_le _, by omega, (fun e => by cases e), fun b hb hne => absurd rfl hne⟩
        · obtain ⟨g, o, rfl, _⟩ := h4 b rfl hne
          have := h.drop at_ hat
          rw [Nat.mul_one]
          show Lies w (.slice (some ((⟨g, o, none⟩ : Addr).add at_)) _ _) _
          rw [add_addr]
          exact this

set_option maxRecDepth 100000 in
set_option maxHeartbeats 1600000 in
theorem all1_in (n : Nat) (hn : 1 ≤ n) (l lo hi bx B : Nat) (bs : List Nat) (hb : Byt bs) (hl : bs.length ≤ 200000) (J Jx : List It → World → Prop) (hJ : AbidesFrom B J)
    (hY : ∀ pre x W, J pre W → pre.length < bs.length → YieldAt Fence.wide (n - 1) Try.prog l (encs x) W fun e W' =>
      (e = .returned (.bool true) ∧ J (pre ++ [x]) W' ∧ KeepRow lo hi W W') ∨ (e = .returned (.bool false) ∧ Jx (pre ++ [x]) W'))
    (W : World) (hR : Rd lo hi bx bs W) (h0 : J [] W) :
    CallsIn Fence.wide n Try.prog 22 #[.func (.yield l) #[] #[], .pointer (some ⟨bx, 0, none⟩)] W fun e W' => (∃ v, e = .returned v) ∧
      ((∃ ys, ys.map sh = shr (recs bs) ∧ J ys W') ∨ (∃ pre, True ∧ Jx pre W')) := by
  have hJ := Lib.hid hJ
  have hY := Lib.hid hY
  have hb := Lib.hid hb
  have hro : Fence.wide.round = none := rfl
  refine callsIn_of_wp Try.func22 rfl trivial ?_ hro
  simp only [Try.ntmps22, List.size_toArray, List.length_cons, List.length_nil, Nat.reduceAdd, Nat.reduceSub, Array.replicate_succ, Array.replicate_zero, List.push_toArray, List.append_toArray, List.nil_append, List.cons_append]
  gi_wp2
  gi_loopw [3] (fun p wr => ∃ (at_ : Nat) (pre : List It), p = .int .i64 (at_ : Int) ∧ at_ ≤ bs.length ∧ Hid (shr (recs bs) = pre.map sh ++ shr (recsAt at_ (bs.drop at_)) ∧ J pre wr ∧ Rd lo hi bx bs wr)) (fun p wr => bs.length - (intOf p).toNat)
  case atStart =>
    exact ⟨0, [], rfl, Nat.zero_le _, Lib.hid ⟨rfl, h0, hR⟩⟩
  case round =>
    obtain ⟨at_, pre, rfl, hat, hI⟩ := hrel
    obtain ⟨_, _, r, hc, hL⟩ := hI.out.2.2
    obtain ⟨ra, rc, rfl⟩ := lies_shape hL.1
    obtain ⟨A, hsl, hT⟩ := slice_tail hL.1 hat
    have hi2 : (at_ : Int) ≤ (bs.length : Int) := by omega
    have hfl : (fst (bs.drop at_)).2.2 = 0 → (fst (bs.drop at_)).2.1 = (fst (bs.drop at_)).1.length + 8 ∧ (fst (bs.drop at_)).2.1 ≤ bs.length - at_ ∧ (fst (bs.drop at_)).1.length ≤ 65536 := fun h => by
      have := fst_len h
      rw [List.length_drop] at this
      exact this
    have hok := fun h => recsAt_ok (at_ := at_) (bs := bs.drop at_) h
    have hno := fun h => recsAt_no (at_ := at_) (bs := bs.drop at_) h
    have HF := Lib.hid (callsIn_wide (n := n - 1).2 (first_any wr _ (bs.drop at_) hT (hb.out.drop _) (by rw [List.length_drop]; omega)))
    generalize fst (bs.drop at_) = q at *
    obtain ⟨x, c, er⟩ := q
    dsimp only at hfl hok hno HF
    have hfl := Lib.hid hfl
    have hok := Lib.hid hok
    have hno := Lib.hid hno
    clear hT hL hR
    gi_wp2_with fail
    refine ⟨trivial, ?_⟩
    refine HF.out.mono ?_
    rintro e w2 ⟨r2, rfl, hr2, hb2⟩
    have hJ2 := hJ.out pre wr w2 none hI.out.2.1 ⟨hb2.os, hb2.tape, hb2.output, hb2.size, fun k hk _ => hb2.block k hk⟩ (fun r e => by cases e)
    have R2 := Lib.hid (hI.out.2.2.later hb2)
    have HS := Lib.hid hI.out.1
    obtain ⟨a2, c2, rfl⟩ := lies_shape hr2
    clear hb2 hr2 hI
    by_cases he : er = 0
    · have f1 := hfl.out he
      have f2 := hok.out he
      subst he
      obtain ⟨fc, f3, f4⟩ := f1
      have HFC := Lib.hid fc
      have hc9 : 8 ≤ c := by omega
      have hcl : c ≤ 65544 := by omega
      have hpl : pre.length < bs.length := by
        have h1 := congrArg List.length HS.out
        have h2 := recsAt_count 0 bs
        rw [f2] at h1
        unfold shr at h1
        simp only [List.length_map, List.length_append, List.length_cons] at h1
        have h3 : recs bs = recsAt 0 bs := rfl
        rw [h3] at h1
        omega
      have f2 := Lib.hid f2
      obtain ⟨fn, tmps, assign, body, hy, hR⟩ := hY.out pre ⟨(at_, a2, x.length, c2), by omega, f4⟩ w2 hJ2 hpl
      dsimp only [encs] at hy
      have hR := Lib.hid hR
      clear hfl hok hno hJ2 fc hpl
      gi_wp2_with fail
      refine hR.out.mono ?_
      rintro e W3 (⟨rfl, hJ3, hk3⟩ | ⟨rfl, hJx3⟩)
      · have HN : Hid (shr (recs bs) = (pre ++ [(⟨(at_, a2, x.length, c2), by omega, f4⟩ : It)]).map sh ++ shr (recsAt (at_ + c) (bs.drop (at_ + c))) ∧ J (pre ++ [(⟨(at_, a2, x.length, c2), by omega, f4⟩ : It)]) W3 ∧ Rd lo hi bx bs W3) := Lib.hid ⟨by
          rw [HS.out, f2.out, List.map_append, List.append_assoc, List.drop_drop]
          rfl, hJ3, R2.out.keep hk3⟩
        have hac : at_ + c ≤ bs.length := by omega
        clear hJ3 hk3 hy
        gi_wp2
        go_roundw
        case rel => exact ⟨at_ + c, _, by rw [HFC.out]; go_num, hac, HN⟩
        case measure => simp [intOf]; omega
      · clear hy
        gi_wp2
        refine bodyPost_ret (results_none rfl _ _ _) rfl ?_
        exact ⟨⟨_, rfl⟩, .inr ⟨_, trivial, hJx3⟩⟩
    · have t1 := neb_ (er : Int) 0 (by omega)
      have f2 := hno.out he
      have HE : Hid (pre.map sh = shr (recs bs)) := Lib.hid (by rw [HS.out, f2]; exact (List.append_nil _).symm)
      clear hfl hok hno f2 he
      gi_wp2
      refine ⟨fun _ h => (by cases h), ?_⟩
      gi_wp2
      refine bodyPost_ret (results_none rfl _ _ _) rfl ?_
      exact ⟨⟨_, rfl⟩, .inl ⟨pre, HE.out, hJ2⟩⟩

theorem all_stops (n : Nat) (hn : 1 ≤ n) (lo hi bx : Nat) (bs : List Nat) (hb : Byt bs) (hl : bs.length ≤ 200000) (w : World) (hR : Rd lo hi bx bs w) :
    SeqStopsK Fence.wide n Try.prog 22 #[.pointer (some ⟨bx, 0, none⟩)] encs (KeepRow lo hi) (fun ys => ys.map sh = shr (recs bs)) (fun _ => True) bs.length w := fun l J Jx W hW hJ _ hY h0 =>
  all1_in n hn l lo hi bx W.heap.size bs hb hl J Jx hJ hY W (hR.later hW) h0
end Go.Proofs.Ytpklcddfoegogaa
