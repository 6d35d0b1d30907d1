/- TreeLoops, plain: no loop; an op that sets its own node stays. -/
import Derived.Test.YtkmeceoilighiaaEW
set_option linter.unusedVariables false
set_option linter.unusedSimpArgs false
set_option maxRecDepth 100000
namespace Go.Proofs.Ytkmeceoilighiaa
open Go.RowKit
open Tb (Rw setF dropF getF aboveF Rise TabI TM LiesK ltS)

theorem rO_par {o : O} (h : rO o = true) : ltS o.pt o.pr o.t o.r = true := by
  unfold rO rB at h
  simp only [Bool.and_eq_true, decide_eq_true_eq] at h
  obtain ⟨h1, _, _, _, _, h6, _⟩ := h
  have ht : 1 ≤ o.t := by
    unfold St.rightB St.rT at h1
    simp only [Bool.and_eq_true, decide_eq_true_eq] at h1
    omega
  unfold rpB at h6
  unfold ltS
  split at h6
  · rename_i e; rw [e.1, if_neg (by omega)]; exact decide_eq_true (by omega)
  · split at h6
    · rename_i e; rw [e.1, if_neg (by omega)]; exact decide_eq_true (by omega)
    · simp only [Bool.and_eq_true, decide_eq_true_eq] at h6
      have h7 := h6.2.1
      unfold St.cmpS Lib.compareInt at h7
      split at h7
      · rename_i e
        rw [if_pos e]
        apply decide_eq_true
        split at h7 <;> first | omega | (split at h7 <;> omega)
      · rename_i e
        rw [if_neg e]
        apply decide_eq_true
        split at h7 <;> first | omega | (split at h7 <;> omega)
theorem play_rows : ∀ (L : List O) (T : List Rw) (x : Rw), x ∈ playF T L → x ∈ T ∨ ∃ o ∈ L, x = rwO o
  | [], _, _, h => .inl h
  | o :: L, T, x, h => by
    rcases play_rows L (doF T o) x h with h | ⟨a, ha, e⟩
    · unfold doF at h
      split at h
      · exact .inl h
      · rcases Tb.mem_set.1 h with h | h
        · exact .inr ⟨o, List.mem_cons_self, h⟩
        · exact .inl h.1
    · exact .inr ⟨a, List.mem_cons_of_mem _ ha, e⟩
theorem anc_last {T : List Rw} (hr : Rise T) {s n : Int × Int} (h : Anc T s n) : ∃ x ∈ T, (x.pt, x.pr) = n := by
  induction h with
  | one h => exact ⟨_, ((Tb.get_some hr).1 h).1, rfl⟩
  | more _ _ ih => exact ih
theorem do_keep {T : List Rw} (hr : Rise T) (o : O) {t r : Int} (h : (getF T t r).isSome = true) : (getF (doF T o) t r).isSome = true := by
  unfold doF
  split
  · exact h
  · rw [get_set hr]
    split
    · rfl
    · exact h
theorem play_keep : ∀ (L : List O) {T : List Rw}, Rise T → ∀ {t r : Int}, (getF T t r).isSome = true → (getF (playF T L) t r).isSome = true
  | [], _, _, _, _, h => h
  | o :: L, _, hr, _, _, h => play_keep L (do_rise hr o) (do_keep hr o h)
theorem skip_own {A : List O} {o : O} (hA : ∀ a ∈ A, rO a = true ∧ ltS a.t a.r o.t o.r = true) (ho : rO o = true) (e : o.nt = o.t ∧ o.nr = o.r) : skipF (playF [] A) o = false := by
  have hr : Rise (playF [] A) := play_rise A List.Pairwise.nil
  cases hs : skipF (playF [] A) o with
  | false => rfl
  | true =>
    exfalso
    unfold skipF at hs
    rcases Bool.or_eq_true_iff.1 hs with hs | hs
    · have hs := of_decide_eq_true hs
      have := rO_par ho
      rw [← e.1, ← e.2, hs.1, hs.2, ltS_irr] at this
      cases this
    · obtain ⟨x, hx, hn⟩ := anc_last hr (above_anc _ _ _ hs)
      rcases play_rows A [] x hx with hx | ⟨a, ha, rfl⟩
      · cases hx
      · injection hn with n1 n2
        have n1 : a.pt = o.nt := n1
        have n2 : a.pr = o.nr := n2
        have h1 := ltS_trans (rO_par (hA a ha).1) (hA a ha).2
        rw [n1, n2, e.1, e.2, ltS_irr] at h1
        cases h1
theorem own_there {L : List O} (hu : RiseO L) (hok : ∀ o ∈ L, rO o = true) {o : O} (ho : o ∈ L) (e : o.nt = o.t ∧ o.nr = o.r) : (getF (playF [] L) o.nt o.nr).isSome = true ∧ didF (stepsF [] L) o.t o.r = true := by
  obtain ⟨A, B, rfl⟩ := List.append_of_mem ho
  obtain ⟨_, h2, h3⟩ := List.pairwise_append.1 hu
  have hA : ∀ a ∈ A, rO a = true ∧ ltS a.t a.r o.t o.r = true := fun a ha => ⟨hok a (by simp [ha]), h3 a ha o (by simp)⟩
  have hs := skip_own hA (hok o ho) e
  have hr : Rise (playF [] A) := play_rise A List.Pairwise.nil
  constructor
  · rw [play_append]
    show (getF (playF (doF (playF [] A) o) B) o.nt o.nr).isSome = true
    refine play_keep B (do_rise hr o) ?_
    unfold doF
    rw [if_neg (by rw [hs]; simp), get_set hr, if_pos ⟨rfl, rfl⟩]
    rfl
  · unfold didF
    rw [steps_o]
    have hh : hasO (A ++ o :: B) o.t o.r = true := List.any_eq_true.2 ⟨o, ho, decide_eq_true ⟨rfl, rfl⟩⟩
    have hp : posF (A ++ o :: B) o.t o.r = A.length := by
      unfold posF
      rw [List.filter_append, show A.filter (fun x => ltO x o.t o.r) = A from List.filter_eq_self.2 (fun a ha => (hA a ha).2), List.filter_cons_of_neg (by show ¬ ltS o.t o.r o.t o.r = true; rw [ltS_irr]; simp),
        List.filter_eq_nil_iff.2 (fun b hb hc => by
          have h4 := ltS_trans ((List.pairwise_cons.1 h2).1 b hb) (show ltS b.t b.r o.t o.r = true from hc)
          rw [ltS_irr] at h4; cases h4), List.append_nil]
    have hg := steps_get (A ++ o :: B) [] A.length o (by simp)
    rw [hh, hp, hg, List.take_left]
    show (true && ((some (stepF (playF [] A) o)).map (·.did)).getD false) = true
    unfold stepF
    rw [if_neg (by rw [hs]; simp)]
    rfl
/-- The log of a law's tree behind so many ops. -/
structure LG (L : List O) (i : Nat) : Prop where
  rise : RiseO L
  ok : OkL L
  right : ∀ o ∈ L, rO o = true
  len : L.length ≤ i
theorem LG.nil : LG [] 0 := ⟨List.Pairwise.nil, fun o h => (List.not_mem_nil h).elim, fun o h => (List.not_mem_nil h).elim, Nat.le_refl _⟩
theorem LG.up {L : List O} {i : Nat} (h : LG L i) : LG L (i + 1) := ⟨h.rise, h.ok, h.right, Nat.le_succ_of_le h.len⟩
theorem addE_zero {ft fr : Int} {L : List O} {o : O} (h : addE ft fr L o = 0) : rO o = true ∧ hasO L o.t o.r = false := by
  unfold addE at h
  cases h1 : rO o with
  | false => rw [if_pos h1] at h; cases h
  | true =>
    rw [if_neg (by rw [h1]; simp)] at h
    refine ⟨rfl, ?_⟩
    split at h
    · cases h
    · cases h2 : hasO L o.t o.r with
      | false => rfl
      | true => rw [if_pos h2] at h; cases h
theorem LG.put {L : List O} {i : Nat} (h : LG L i) {o : O} (ho : OkO o) (he : addE 0 0 L o = 0) : LG (putO L o) (i + 1) := by
  obtain ⟨h1, h2⟩ := addE_zero he
  refine ⟨put_rise h.rise h2, fun a ha => ?_, fun a ha => ?_, ?_⟩
  · rcases put_mem.1 ha with rfl | ha
    · exact ho
    · exact h.ok a ha
  · rcases put_mem.1 ha with rfl | ha
    · exact h1
    · exact h.right a ha
  · rw [put_len]; have := h.len; omega
theorem play_okT : ∀ (L : List O) {T : List Rw}, OkT T → OkL L → OkT (playF T L)
  | [], _, h, _ => h
  | o :: L, _, h, hL => play_okT L (do_okT h (hL o List.mem_cons_self)) (fun a ha => hL a (List.mem_cons_of_mem _ ha))
theorem ix30 {g k n c i : Nat} (hi : i < n) (W : World) : (Instr.indexAt 30 (.slice (some ⟨g, k, none⟩) n c) (.int .i64 (i : Int))).run Try.prog W = .ok (.pointer (some ⟨g, k + i * 9, none⟩)) W := by
  have h0 : (0 : Int) ≤ (i : Int) := by omega
  have h1 : (i : Int) < (n : Int) := by omega
  go_simp
theorem ix52 {g k n c i : Nat} (hi : i < n) (W : World) : (Instr.indexAt 52 (.slice (some ⟨g, k, none⟩) n c) (.int .i64 (i : Int))).run Try.prog W = .ok (.pointer (some ⟨g, k + i * 2, none⟩)) W := by
  have h0 : (0 : Int) ≤ (i : Int) := by omega
  have h1 : (i : Int) < (n : Int) := by omega
  go_simp
theorem ld24 {W : World} {g o : Nat} {a b : Int} (c0 : W.cell? ⟨g, o, none⟩ = some (.int .i64 a)) (c1 : W.cell? ⟨g, o + 1, none⟩ = some (.int .i64 b)) : (Instr.loadAt 24 (.pointer (some ⟨g, o, none⟩))).run Try.prog W = .ok (.agg #[.int .i64 a, .int .i64 b]) W := by
  go_simp
theorem eq24 (a b x y : Int) (W : World) : (binOp .eql 24 (.agg #[.int .i64 a, .int .i64 b]) (.agg #[.int .i64 x, .int .i64 y])).run Try.prog W = .ok (.bool (decide (a = x ∧ b = y))) W := by
  by_cases h : a = x ∧ b = y
  · obtain ⟨u1, u2⟩ := yes2 h
    rw [decide_eq_true h]
    go_simp
  · rw [decide_eq_false h]
    rcases no2 h with u | ⟨u1, u2⟩
    · go_simp
    · go_simp
theorem eq37 {e : Int} (h : e = 0 ∨ e = 2 ∨ e = 9 ∨ e = 11) (W : World) : (binOp .eql 37 (.int .i64 e) (.int .i64 0)).run Try.prog W = .ok (.bool (decide (e = 0))) W := by
  rcases h with rfl | rfl | rfl | rfl <;> kernel_rfl
theorem yields_bin {ops : Array Oper} {S : World → Prop} {op : Oper} {a : Act} (b : BinOp) (x y : Operand) (ty ty' : TypeId) (v u r : Value) (hS : ∀ w, (binOp b ty v u).run Try.prog w = .ok r w) (hG : ∀ w, (eqGuard b ty x y v u).run Try.prog w = .ok () w) (hw : Region.wanted op (yielded ops a.tmps) = true) (ho : op.op = .binOp b ty x y ty')
    (hx : a.eval x = v) (hy : a.eval y = u) : YieldsIf Try.prog ops S op r a :=
  .inl ⟨hw, fun w hw' => by
    unfold execOp
    simp only [ho, hx, hy, hS w, hG w, Sem.run_bind, Sem.run_pure, Result.andThen_ok]⟩
theorem egt24 : (Try.prog.eqGuardType Try.prog.depth 24) = false := by kernel_rfl
theorem g24 (x y : Operand) (a b : Array Value) (w : World) : (eqGuard .eql 24 x y (.agg a) (.agg b)).run Try.prog w = .ok () w := run_eqGuard_agg w .eql 24 x y _ _ egt24
theorem g37 (x y : Operand) (a b : Int) (w : World) : (eqGuard .eql 37 x y (.int .i64 a) (.int .i64 b)).run Try.prog w = .ok () w := rfl
/-- No node is above itself. -/
theorem no_loop (L : List O) (t r : Int) : aboveF (playF [] L) t r (playF [] L).length t r = false := by
  cases h : aboveF (playF [] L) t r (playF [] L).length t r with
  | false => rfl
  | true => exact absurd (above_anc _ _ _ h) (play_acyc L List.Pairwise.nil acyc_nil (t, r))
theorem addE_code (ft fr : Int) (L : List O) (o : O) : addE ft fr L o = 0 ∨ addE ft fr L o = 2 ∨ addE ft fr L o = 9 ∨ addE ft fr L o = 11 := by
  unfold addE
  split
  · exact .inr (.inl rfl)
  · split
    · exact .inr (.inr (.inr rfl))
    · split
      · exact .inr (.inr (.inl rfl))
      · exact .inl rfl
/-- What an addition leaves. -/
theorem after_add {w w' : World} {B p q mb i : Nat} {L : List O} {la : Option Addr} {lc : Nat} (h : TreeI w B p q mb [] 0 0 L la lc) (g : LG L i) (hB : B ≤ w.heap.size) {o : O} (ho : OkO o)
    (hr : (addE 0 0 L o ≠ 0 ∧ Below w.heap.size w w') ∨ (addE 0 0 L o = 0 ∧ Far (HasT p mb la) w w' ∧ ∃ g lc', TreeI w' B p q mb [] 0 0 (putO L o) (some ⟨g, 0, none⟩) lc' ∧ ((lgV la 0 0).ownBlock = some g ∨ w.heap.size ≤ g))) :
    ∃ L' la' lc', TreeI w' B p q mb [] 0 0 L' la' lc' ∧ LG L' (i + 1) ∧ Below B w w' ∧ (addE 0 0 L o = 0 → o ∈ L') := by
  rcases hr with ⟨h0, hb⟩ | ⟨h0, hf, b, lc', ht, _⟩
  · exact ⟨L, la, lc, h.step hb, g.up, hb.mono hB, fun e => absurd e h0⟩
  · exact ⟨_, _, _, ht, g.put ho h0, hf.belowT h, fun _ => put_mem.2 (.inl rfl)⟩
end Go.Proofs.Ytkmeceoilighiaa
