/- All's closure, told what each round is handed; a loop over it whose body always goes on. -/
import Derived.Test.YtgbihpfpiaacfaaGreatDoorCReF
set_option linter.unusedVariables false
set_option maxRecDepth 100000
namespace Go.Proofs.YtgbihpfpiaacfaaGreatDoor.Rc
open Go.RowKit Go.Shelf
attribute [local go_sem] Oper.semAt_some

theorem lies_putObj {W : World} {v : Value} {bs : List Nat} {l : Nat} {o o' : Obj} (h : Lies W v bs) (ho : W.heap[l]? = some o) (hc : o.isCells = false) : Lies (W.putObj l o') v bs := by
  obtain ⟨ao, cap, rfl, h1, h2, h3, h4⟩ := h
  refine ⟨ao, cap, rfl, h1, h2, h3, fun b hb hne => ?_⟩
  obtain ⟨k, j, rfl, hk, hcs⟩ := h4 b hb hne
  have hkr : KeepRow 0 W.heap.size W (W.putObj l o') := KeepRow.putObj W l o o' ho hc
  have hp : 0 < bs.length := by cases bs with | nil => exact absurd rfl hne | cons => simp
  have hcell : ∀ (i x : Nat), bs[i]? = some x → (W.putObj l o').cell? ⟨k, j + i, none⟩ = some (.int .u8 (x : Int)) := fun i x hx => hkr.cell (Nat.zero_le _) hk (hcs i x hx)
  exact ⟨k, j, rfl, World.block_lt_of_cell? _ _ (hcell 0 bs[0] (List.getElem?_eq_getElem hp)), hcell⟩

set_option maxRecDepth 100000 in
set_option maxHeartbeats 1600000 in
theorem told_in (n : Nat) (hn : 1 ≤ n) (l lo hi bx B : Nat) (bs : List Nat) (hb : Byt bs) (hl : bs.length ≤ 200000) (J : Nat → World → Prop) (hJ : AbidesFrom B J)
    (hY : ∀ (i : Nat) (p : Nat × List Nat) (a : Option Addr) (c : Nat) (W0 W : World), J i W0 → Below W0.heap.size W0 W → (∀ ad, a = some ad → W0.heap.size ≤ ad.block) → J i W → (recs bs)[i]? = some p → Lies W (.slice a p.2.length c) p.2 → YieldAt Fence.wide (n - 1) Tryz.prog l #[.int .i64 (p.1 : Int), .slice a p.2.length c] W fun e W' =>
      e = .returned (.bool true) ∧ J (i + 1) W' ∧ KeepRow lo hi W W')
    (W : World) (hR : Rd lo hi bx bs W) (h0 : J 0 W) :
    CallsIn Fence.wide n Tryz.prog 72 #[.func (.yield l) #[] #[], .pointer (some ⟨bx, 0, none⟩)] W fun e W' => (∃ v, e = .returned v) ∧ J (recs bs).length W' := by
  have hJ := Lib.hid hJ
  have hY := Lib.hid hY
  have hb := Lib.hid hb
  have hro : Fence.wide.round = none := rfl
  refine callsIn_of_wp Tryz.func72 rfl trivial ?_ hro
  simp only [Tryz.ntmps72, List.size_toArray, List.length_cons, List.length_nil, Nat.reduceAdd, Nat.reduceSub, Array.replicate_succ, Array.replicate_zero, List.push_toArray, List.append_toArray, List.nil_append, List.cons_append]
  gi_wp2
  gi_loopw [3] (fun p wr => ∃ (at_ : Nat) (pre : List (Nat × List Nat)), p = .int .i64 (at_ : Int) ∧ at_ ≤ bs.length ∧ Hid (recs bs = pre ++ recsAt at_ (bs.drop at_) ∧ J pre.length wr ∧ Rd lo hi bx bs wr)) (fun p wr => bs.length - (intOf p).toNat)
  case atStart =>
    exact ⟨0, [], rfl, Nat.zero_le _, Lib.hid ⟨rfl, h0, hR⟩⟩
  case round =>
    obtain ⟨at_, pre, rfl, hat, hI⟩ := hrel
    obtain ⟨_, _, r, hc, hL⟩ := hI.out.2.2
    obtain ⟨ra, rc, rfl⟩ := lies_shape hL.1
    obtain ⟨A, hsl, hT⟩ := slice_tail hL.1 hat
    have hi2 : (at_ : Int) ≤ (bs.length : Int) := by omega
    have hfl : (fst (bs.drop at_)).2.2 = 0 → (fst (bs.drop at_)).2.1 = (fst (bs.drop at_)).1.length + 8 ∧ (fst (bs.drop at_)).2.1 ≤ bs.length - at_ ∧ (fst (bs.drop at_)).1.length ≤ 65536 := fun h => by
      have := fst_len h
      rw [List.length_drop] at this
      exact this
    have hok := fun h => recsAt_ok (at_ := at_) (bs := bs.drop at_) h
    have hno := fun h => recsAt_no (at_ := at_) (bs := bs.drop at_) h
    have HF := Lib.hid (callsIn_wide (n := n - 1).2 (first_any wr _ (bs.drop at_) hT (hb.out.drop _) (by rw [List.length_drop]; omega)))
    generalize fst (bs.drop at_) = q at *
    obtain ⟨x, c, er⟩ := q
    dsimp only at hfl hok hno HF
    have hfl := Lib.hid hfl
    have hok := Lib.hid hok
    have hno := Lib.hid hno
    clear hT hL hR
    gi_wp2_with fail
    refine ⟨trivial, ?_⟩
    refine HF.out.mono ?_
    rintro e w2 ⟨r2, rfl, hr2, hb2, hfr⟩
    have hJ2 := hJ.out pre.length wr w2 none hI.out.2.1 ⟨hb2.os, hb2.tape, hb2.output, hb2.size, fun k hk _ => hb2.block k hk⟩ (fun r e => by cases e)
    have R2 := Lib.hid (hI.out.2.2.later hb2)
    have HS := Lib.hid hI.out.1
    have HL2 := Lib.hid hr2
    have HJ0 := Lib.hid (And.intro hI.out.2.1 hb2)
    obtain ⟨a2, c2, rfl⟩ := lies_shape hr2
    have HFR := Lib.hid (fun ad (e : a2 = some ad) => (show wr.heap.size ≤ ad.block from hfr ad _ _ (by rw [e])))
    clear hb2 hr2 hI hfr
    by_cases he : er = 0
    · have f1 := hfl.out he
      have f2 := hok.out he
      subst he
      obtain ⟨fc, f3, f4⟩ := f1
      have HFC := Lib.hid fc
      have hc9 : 8 ≤ c := by omega
      have hcl : c ≤ 65544 := by omega
      have f2 := Lib.hid f2
      have hget : (recs bs)[pre.length]? = some (at_, x) := by
        rw [HS.out, f2.out, List.getElem?_append_right (Nat.le_refl _), Nat.sub_self]
        rfl
      obtain ⟨fn, tmps, assign, body, hy, hR⟩ := hY.out pre.length (at_, x) a2 c2 wr w2 HJ0.out.1 HJ0.out.2 HFR.out hJ2 hget HL2.out
      dsimp only at hy
      have hR := Lib.hid hR
      clear hfl hok hno hJ2 fc hget
      gi_wp2_with fail
      refine hR.out.mono ?_
      rintro e W3 ⟨rfl, hJ3, hk3⟩
      have HN : Hid (recs bs = (pre ++ [(at_, x)]) ++ recsAt (at_ + c) (bs.drop (at_ + c)) ∧ J (pre ++ [(at_, x)]).length W3 ∧ Rd lo hi bx bs W3) := Lib.hid ⟨by
        rw [HS.out, f2.out, List.append_assoc, List.drop_drop]
        rfl, by rw [List.length_append]; exact hJ3, R2.out.keep hk3⟩
      have hac : at_ + c ≤ bs.length := by omega
      clear hJ3 hk3 hy
      gi_wp2
      go_roundw
      case rel => exact ⟨at_ + c, _, by rw [HFC.out]; go_num, hac, HN⟩
      case measure => simp [intOf]; omega
    · have t1 := neb_ (er : Int) 0 (by omega)
      have f2 := hno.out he
      have HE : Hid (pre.length = (recs bs).length) := Lib.hid (by rw [HS.out, f2, List.append_nil])
      clear hfl hok hno f2 he
      gi_wp2
      refine ⟨fun _ h => (by cases h), ?_⟩
      gi_wp2
      refine bodyPost_ret (results_none rfl _ _ _) rfl ?_
      exact ⟨⟨_, rfl⟩, by rw [← HE.out]; exact hJ2⟩
end Go.Proofs.YtgbihpfpiaacfaaGreatDoor.Rc

