/- GroupOrder. Made by gengv17.py. -/
import Derived.Test.YthbliaohaakbiaaGR
set_option linter.unusedVariables false
set_option linter.unusedSimpArgs false
set_option maxRecDepth 100000
namespace Go.Proofs.Ythbliaohaakbiaa
open Go.RowKit Go.Sort

theorem slice_pre (ra : Option Addr) (n rc k : Nat) (hk : k ≤ rc) (hc : rc ≤ 9223372036854775807) : ∀ W, (Instr.sliceAt 22 (.slice ra n rc) none (some (.int .i64 (k : Int))) none).run Try.prog W = .ok (.slice ra k rc) W := fun W => by
  have h0 : (0 : Int) ≤ (k : Int) := by omega
  have h1 : (k : Int) ≤ (rc : Int) := by omega
  go_simp
theorem slice_tail {w : World} {ra : Option Addr} {n rc k : Nat} {l : List It} (h : LiesK encI 4 w (.slice ra n rc) l) (hk : k ≤ n) :
    ∃ A, (∀ W, (Instr.sliceAt 22 (.slice ra n rc) (some (.int .i64 (k : Int))) none none).run Try.prog W = .ok (.slice A (n - k) (rc - k)) W) ∧ LiesK encI 4 w (.slice A (n - k) (rc - k)) (l.drop k) := by
  refine ⟨if rc = k then ra else ra.map (·.add (k * 4)), fun W => ?_, ?_⟩
  · rw [run_sliceAt_slice (h := Try.underlying22), run_slice_l (P := Try.prog) (ht := Try.underlying22) (h0 := by omega) (h1 := by omega)]
    show _ = Result.ok (Value.slice (if rc = k then ra else ra.map (·.add (k * 4))) (n - k) (rc - k)) W
    rfl
  · obtain ⟨ao, cap, e, h1, h2, h3, h4⟩ := h
    injection e with e1 e2 e3
    subst e1 e2 e3
    have hdl : (l.drop k).length = l.length - k := List.length_drop
    by_cases hrc : rc = k
    · rw [if_pos hrc]
      have e0 : l.drop k = [] := List.eq_nil_of_length_eq_zero (by omega)
      rw [e0]
      exact ⟨_, _, by rw [show l.length - k = 0 by omega]; rfl, Nat.zero_le _, by omega, (fun e => ⟨rfl, by omega⟩), fun b hb hne => absurd rfl hne⟩
    · rw [if_neg hrc]
      refine ⟨_, rc - k, by rw [hdl], by rw [hdl]; omega, by omega, fun e => ?_, fun b hb hne => ?_⟩
      · cases ra with
        | none => have := h3 rfl; exact ⟨by rw [this.1]; simp, by omega⟩
        | some b => cases e
      · cases ra with
        | none => cases hb
        | some b0 =>
          obtain ⟨k', o, rfl, hk', hc⟩ := h4 b0 rfl (fun e => hne (by rw [e]; simp))
          injection hb with hb
          subst hb
          refine ⟨k', o + k * 4, by show (⟨k', o, none⟩ : Addr).add (k * 4) = _; rw [rk_addr], hk', fun j p hj i u hi => ?_⟩
          rw [List.getElem?_drop] at hj
          have := hc _ p hj i u hi
          rw [show o + k * 4 + j * 4 + i = o + (k + j) * 4 + i by omega]
          exact this
def lenOf : Value → Nat
  | .slice _ n _ => n
  | _ => 0
theorem perm_out {left other l : List It} {k : Nat} {x : It} (h : (other ++ left).Perm l) (hx : left[k]? = some x) : ((other ++ [x]) ++ (left.take k ++ left.drop (k + 1))).Perm l := by
  refine List.Perm.trans ?_ h
  rw [List.append_assoc]
  refine List.Perm.append_left _ ?_
  have e : left = left.take k ++ x :: left.drop (k + 1) := by
    conv => lhs; rw [← List.take_append_drop k left]
    rw [List.drop_eq_getElem_cons (List.getElem?_eq_some_iff.1 hx).1, (List.getElem?_eq_some_iff.1 hx).2]
  conv => rhs; rw [e]
  show (x :: (left.take k ++ left.drop (k + 1))).Perm _
  exact List.perm_middle.symm
/-- What is left, what was taken. -/
structure OR (w W : World) (lv ov : Value) (l left other : List It) : Prop where
  lies : LiesK encI 4 W lv left
  own : W.ownsRow w.heap.size 42 4 ov other.length (other.flatMap encI)
  off : ∀ g, ov.ownBlock = some g → ∀ a n c, lv = .slice (some a) n c → a.block ≠ g
  bel : Below w.heap.size w W
  perm : (other ++ left).Perm l
theorem OR.step {w W W' : World} {lv ov : Value} {l left other : List It} (h : OR w W lv ov l left other) (hb : Below W.heap.size W W') : OR w W' lv ov l left other :=
  ⟨h.lies.step hb, own_belowK h.own hb, h.off, h.bel.trans (hb.mono h.bel.size), h.perm⟩
/-- Two appends onto nothing. -/
theorem two_apps (W : World) (B : Nat) (hB : B ≤ W.heap.size) (v1 v2 : Value) (l1 l2 : List It) (h1 : LiesK encI 4 W v1 l1) (h2 : LiesK encI 4 W v2 l2) (hn1 : l1.length ≤ 1000) (hn2 : l2.length ≤ 1000) :
    ∃ u1 W1 u2 W2, (Builtin.append_ #[22, 22] 22 #[.slice none 0 0, v1]).run Try.prog W = .ok u1 W1 ∧ (Builtin.append_ #[22, 22] 22 #[u1, v2]).run Try.prog W1 = .ok u2 W2 ∧ W2.ownsRow W.heap.size 42 4 u2 (l1 ++ l2).length ((l1 ++ l2).flatMap encI) ∧ Below W.heap.size W W2 := by
  obtain ⟨i0, hi9, hz0, hz1, hz2⟩ := info_parts info42
  obtain ⟨u1, W1, r1, o1, g1, s1⟩ := run_append_src_own (P := Try.prog) W W.heap.size 22 22 22 42 i0 (.agg #[.int .i64 0, .int .i64 0, .string ⟨#[]⟩, .bool false]) 4 40 Try.u22 hi9 hz0 hz1 hz2 rfl (by decide) (.slice none 0 0) 0 [] (World.ownsRow_nil _ _ _ _) v1 l1.length (l1.flatMap encI) (h1.src Try.u22 encI_len (by decide) encI_one) (by unfold maxLen; omega) (by omega) (Nat.le_refl _)
  have b1 : Below W.heap.size W W1 := (Below.refl _ _).grown g1 (Nat.le_refl _) (fun k e => by cases e)
  obtain ⟨u2, W2, r2, o2, g2, s2⟩ := run_append_src_own (P := Try.prog) W1 W.heap.size 22 22 22 42 i0 (.agg #[.int .i64 0, .int .i64 0, .string ⟨#[]⟩, .bool false]) 4 40 Try.u22 hi9 hz0 hz1 hz2 rfl (by decide) u1 (0 + l1.length) ([] ++ l1.flatMap encI) o1 v2 l2.length (l2.flatMap encI) ((h2.step b1).src Try.u22 encI_len (by decide) encI_one) (by unfold maxLen; omega) (by omega) b1.size
  refine ⟨u1, W1, u2, W2, r1, r2, ?_, b1.grown g2 b1.size (fun k e => (o1.lt k e).1)⟩
  rw [List.length_append, List.flatMap_append]
  simpa using o2
set_option maxHeartbeats 12800000 in
theorem order_law (w : World) (v0 v1 : Value) (l : List It) (ord : List Int) (h0 : LiesK encI 4 w v0 l) (hok : ∀ x ∈ l, x.n.size ≤ maxLen) (h1 : LiesK (fun x => [Value.int .u8 x]) 1 w v1 ord) (hb : ∀ x ∈ ord, 0 ≤ x ∧ x ≤ 255) :
    Calls Try.prog 5 #[v0, v1] w fun e w' => e = .returned (.bool true) ∧ Below w.heap.size w w' := by
  obtain ⟨i0, hi9, hz0, hz1, hz2⟩ := info_parts info42
  have H0 := Lib.hid h0
  have H1 := Lib.hid h1
  have hl0 := h0.len
  have hl1 := h1.len
  have HOK := Lib.hid hok
  have HBY := Lib.hid hb
  obtain ⟨a0, c0, rfl⟩ := h0.shape
  obtain ⟨a1, c1, rfl⟩ := h1.shape
  have AW := Lib.hid (fun W => awake_any W)
  have MY := Lib.hid (may_any w _ l h0)
  clear h0 hok h1 hb
  by_cases ha : 40 < l.length
  · go_enter Try.func5, Try.ntmps5
    go_wp2_with (go_at_call 8; with_reducible refine (AW.out _).mono ?_; rintro e w' ⟨rfl, hb⟩; have BB := Lib.hid hb; clear hb)
    go_returns
    exact ⟨rfl, BB.out⟩
  · have HL := Lib.hid (show l.length ≤ 1000 by omega)
    cases hun : unlikeB l with
    | false =>
      rw [hun] at MY
      go_enter Try.func5, Try.ntmps5
      go_wp2_with (first
        | (go_at_call 7; with_reducible refine MY.out.mono ?_; rintro e w1 ⟨rfl, hb⟩; have B1 := Lib.hid hb; clear hb)
        | (go_at_call 8; with_reducible refine (AW.out _).mono ?_; rintro e w2 ⟨rfl, hb⟩; have BB := Lib.hid (B1.out.trans (hb.mono B1.out.size)); clear hb))
      go_returns
      exact ⟨rfl, BB.out⟩
    | true =>
      rw [hun] at MY
      have HU := Lib.hid (show Unlike l from of_decide_eq_true (p := (l.map ndI).Nodup) hun)
      clear hun
      go_enter Try.func5, Try.ntmps5
      go_wp2_with fail
      refine MY.out.mono ?_
      rintro e w1 ⟨rfl, b1⟩
      have B1 := Lib.hid b1
      have SR := Lib.hid ((H0.out.step b1).src Try.u22 encI_len (by decide) encI_one)
      have Q1 := Lib.hid (And.intro (show 0 + l.length ≤ maxLen from by unfold maxLen; omega) (And.intro (show (0 + l.length) * 40 ≤ 140737488355328 from by omega) (show w.heap.size ≤ w1.heap.size from b1.size)))
      clear b1 MY
      go_wp2_with (at_builtin; go_loud (refine wpList_append_src_own rfl (.tmp 19) (.tmp 20) 22 22 rfl w.heap.size 42 i0 (.agg #[.int .i64 0, .int .i64 0, .string ⟨#[]⟩, .bool false]) 4 40 Try.u22 hi9 hz0 hz1 hz2 rfl (by decide) (.slice none 0 0) 0 [] rfl (World.ownsRow_nil _ _ _ _) _ l.length (l.flatMap encI) rfl SR.out Q1.out.1 Q1.out.2.1 Q1.out.2.2 ?_; intro v2 w2 hown hgr hsp; have OR0 := Lib.hid (show OR w w2 v2 (.slice none 0 0) l l [] from ⟨own_liesK encI_len (show w2.ownsRow w.heap.size 42 4 v2 l.length (l.flatMap encI) from by simpa using hown), World.ownsRow_nil _ _ _ _, (fun g e => (by cases e)), B1.out.grown hgr B1.out.size (fun k e => by cases e), List.Perm.refl _⟩); clear hown hgr hsp))
      go_loopw [5, 6, 7] (fun lv ov iv wr => ∃ (i : Nat) (left other : List It), iv = .int .i64 i ∧ i + left.length = l.length ∧ Hid (OR w wr lv ov l left other)) (fun lv _ _ _ => lenOf lv)
      case atStart => exact ⟨0, l, [], rfl, by omega, OR0⟩
      case round =>
        obtain ⟨i, left, other, rfl, hil, hO⟩ := hrel
        obtain ⟨la, lc, rfl⟩ := hO.out.lies.shape
        obtain ⟨oa, oc, rfl⟩ := own_shapeK hO.out.own
        have O0 := Lib.hid hO.out
        clear hO OR0
        have hl1000 := HL.out
        by_cases hpos : 0 < left.length
        · have LM := Lib.hid (show other.length + 1 ≤ 1000 from by have := O0.out.perm.length_eq; rw [List.length_append] at this; omega)
          by_cases hio : i < ord.length
          · obtain ⟨g1, o1, b, ha1, hby, hg1, hcb⟩ := (H1.out.step O0.out.bel).at' hio
            have c1b := hcb 0 _ rfl
            simp only [Nat.mul_one, Nat.add_zero] at c1b
            subst ha1
            obtain ⟨hb0, hb1⟩ := HBY.out b (List.mem_of_getElem? hby)
            obtain ⟨k, hk⟩ : ∃ k : Nat, b % (left.length : Int) = (k : Int) := ⟨(b % (left.length : Int)).toNat, by
              have := Int.emod_nonneg b (show (left.length : Int) ≠ 0 by omega)
              omega⟩
            have hkl : k < left.length := by
              have := Int.emod_lt_of_pos b (show (0 : Int) < (left.length : Int) by omega)
              omega
            have hnz : ((left.length : Int) == 0) = false := bneb_ _ _ (by omega)
            have hnz2 : ¬ ((left.length : Int) = 0) := by omega
            have hwb : IntKind.i64.wrap b = b := by rw [IntKind.wrap_i64]; omega
            have hwk : IntKind.i64.wrap (k : Int) = (k : Int) := by rw [IntKind.wrap_i64]; omega
            clear hby hg1 hcb
            go_upto_region 11 with (fail)
            rw [hk]
            clear hk hnz hnz2 hwb hwk c1b hb0 hb1
            obtain ⟨g, o, x, hao, hx, hg, a0_, a1_, a2_, a3_⟩ := O0.out.lies.it hkl
            subst hao
            have LC := Lib.hid (show lc ≤ maxLen ∧ left.length ≤ lc from by obtain ⟨_, _, e, q1, q2, _⟩ := O0.out.lies; injection e with _ _ e3; subst e3; exact ⟨q2, q1⟩)
            have PX := Lib.hid (perm_out O0.out.perm hx)
            have OX := Lib.hid (own_belowK O0.out.own (vstep wr (.cells #[.int .i64 x.t, .int .i64 x.r, .string x.n, .bool x.d] 42)))
            have LX := Lib.hid (O0.out.step (vstep wr (.cells #[.int .i64 x.t, .int .i64 x.r, .string x.n, .bool x.d] 42)))
            have SX := Lib.hid ((one_liesK (p := x) encI_len (show (wr.alloc (.cells #[.int .i64 x.t, .int .i64 x.r, .string x.n, .bool x.d] 42)).heap[wr.heap.size]? = some (.cells (encI x).toArray 42 (0, 0)) from heap_alloc_new wr _)).src Try.u22 encI_len (by decide) encI_one)
            have QX := Lib.hid (And.intro (show other.length + 1 ≤ maxLen from by have := LM.out; unfold maxLen; omega) (And.intro (show (other.length + 1) * 40 ≤ 140737488355328 from by have := LM.out; omega) (show w.heap.size ≤ (wr.alloc (.cells #[.int .i64 x.t, .int .i64 x.r, .string x.n, .bool x.d] 42)).heap.size from LX.out.bel.size)))
            go_upto_region 13 with (at_builtin; refine wpList_append_src_own rfl (.tmp 39) (.tmp 44) 22 22 rfl w.heap.size 42 i0 (.agg #[.int .i64 0, .int .i64 0, .string ⟨#[]⟩, .bool false]) 4 40 Try.u22 hi9 hz0 hz1 hz2 rfl (by decide) (.slice oa other.length oc) other.length (other.flatMap encI) rfl OX.out _ 1 ([x].flatMap encI) rfl SX.out QX.out.1 QX.out.2.1 QX.out.2.2 ?_; intro v3 w3 hown hgr hsp; have OW := Lib.hid (show w3.ownsRow w.heap.size 42 4 v3 (other ++ [x]).length ((other ++ [x]).flatMap encI) from by rw [List.length_append, List.flatMap_append]; exact hown); have GW := Lib.hid (And.intro hgr hsp); clear hown hgr hsp)
            have W3B := Lib.hid (LX.out.bel.grown GW.out.1 LX.out.bel.size (fun k e => (LX.out.own.lt k e).1))
            have L3 := Lib.hid (show LiesK encI 4 w3 (.slice (some ⟨g, o, none⟩) left.length lc) left from by
              cases hob : (Value.slice oa other.length oc).ownBlock with
              | none => have hg3 := GW.out.1; rw [hob] at hg3; exact LX.out.lies.step ⟨hg3.os, hg3.tape, hg3.output, hg3.size, fun k hk => hg3.block k hk (by simp)⟩
              | some gg => have hg3 := GW.out.1; rw [hob] at hg3; exact LX.out.lies.block (g := gg) (fun a n c e => O0.out.off gg hob a n c e) hg3.size (fun kk hk hne => hg3.block kk hk (fun e => hne (by injection e))))
            clear a0_ a1_ a2_ a3_ hx hg OX SX QX LX
            have PR := Lib.hid (slice_pre (some ⟨g, o, none⟩) left.length lc k (by have := LC.out.2; omega) (by have := LC.out.1; unfold maxLen at this; omega))
            obtain ⟨A1, tr, TR⟩ := slice_tail L3.out (show k + 1 ≤ left.length from by omega)
            have TRR := Lib.hid tr
            obtain ⟨wd, hwd⟩ : ∃ zz, w3.drew = zz := ⟨_, rfl⟩
            have BD := Lib.hid (show Below w3.heap.size w3 wd from by rw [← hwd]; exact (Below.refl _ _).drew)
            have HWD := Lib.hid hwd
            obtain ⟨u1, x1, u2, x2, r1, r2, o2, b2⟩ := two_apps wd 0 (Nat.zero_le _) (.slice (some ⟨g, o, none⟩) k lc) (.slice A1 (left.length - (k + 1)) (lc - (k + 1))) (left.take k) (left.drop (k + 1)) ((L3.out.step BD.out).take k (by omega)) (TR.step BD.out) (by rw [List.length_take]; omega) (by rw [List.length_drop]; omega)
            obtain ⟨rest, hrest⟩ : ∃ zz, left.take k ++ left.drop (k + 1) = zz := ⟨_, rfl⟩
            have R1 := Lib.hid r1
            have R2 := Lib.hid r2
            have OLen := Lib.hid (show (left.take k ++ left.drop (k + 1)).length + 1 = left.length from by rw [List.length_append, List.length_take, List.length_drop]; omega)
            rw [hrest] at o2 OLen PX
            clear hrest
            have FIN := Lib.hid (show OR w x2 u2 v3 l rest (other ++ [x]) from
              ⟨own_liesK encI_len o2, own_belowK (own_belowK OW.out BD.out) b2, fun gg e a n c hc q => by
                have h3 := (OW.out.lt gg e).2
                rcases o2.2 with ⟨e1, _⟩ | ⟨g', cap', cur, e1, hB, _⟩
                · rw [e1] at hc; cases hc
                · rw [e1] at hc
                  injection hc with hc
                  injection hc with hc
                  subst hc
                  have := BD.out.size
                  have q : g' = gg := q
                  omega, (W3B.out.trans (BD.out.mono W3B.out.size)).trans (b2.mono (W3B.out.trans (BD.out.mono W3B.out.size)).size), PX.out⟩)
            obtain ⟨ua, uc, rfl⟩ := own_shapeK o2
            clear tr TR hwd r1 r2 o2 b2 L3
            have hwk1 : IntKind.i64.wrap ((k : Int) + 1) = (k : Int) + 1 := by rw [IntKind.wrap_i64]; omega
            refine wp_region_held_drew (S := fun _ => True) (by kernel_rfl) trivial (fun _ => ?_)
            rw [HWD.out]
            refine take_at (i := 0) 46 ?_ rfl rfl (by kernel_rfl) (by kernel_rfl) (by kernel_rfl) (fun _ _ _ h => h) (.inl ⟨rfl, ?_⟩) trivial ?_
            rotate_left 1
            · intro w hSw; go_simp; try with_reducible rfl
            simp only [Act.put, List.setIfInBounds_toArray, List.set_cons_zero, List.set_cons_succ]
            refine take_at (i := 1) 47 ?_ rfl rfl (by kernel_rfl) (by kernel_rfl) (by kernel_rfl) (fun _ _ _ h => h) (.inl ⟨rfl, ?_⟩) trivial ?_
            rotate_left 1
            · intro w hSw; go_simp; try with_reducible rfl
            simp only [Act.put, List.setIfInBounds_toArray, List.set_cons_zero, List.set_cons_succ]
            refine take_at (i := 2) 48 ?_ rfl rfl (by kernel_rfl) (by kernel_rfl) (by kernel_rfl) (fun _ _ _ h => h) (.inl ⟨rfl, ?_⟩) trivial ?_
            rotate_left 1
            · intro w hSw; go_simp; try with_reducible rfl
            simp only [Act.put, List.setIfInBounds_toArray, List.set_cons_zero, List.set_cons_succ]
            refine take_at (i := 3) 49 (.slice (some ⟨g, o, none⟩) k lc) rfl rfl (by kernel_rfl) (by kernel_rfl) (by kernel_rfl) (fun _ _ _ h => h) (yields_slh (.tmp 47) (.tmp 48) 22 (.slice (some ⟨g, o, none⟩) left.length lc) (.int .i64 (k : Int)) _ PR.out rfl rfl rfl rfl) trivial ?_
            simp only [Act.put, List.setIfInBounds_toArray, List.set_cons_zero, List.set_cons_succ]
            refine take_at (i := 5) 51 ?_ rfl rfl (by kernel_rfl) (by kernel_rfl) (by kernel_rfl) (fun _ _ _ h => h) (.inl ⟨rfl, ?_⟩) trivial ?_
            rotate_left 1
            · intro w hSw; go_simp; try with_reducible rfl
            simp only [Act.put, List.setIfInBounds_toArray, List.set_cons_zero, List.set_cons_succ]
            refine take_at (i := 6) 52 ?_ rfl rfl (by kernel_rfl) (by kernel_rfl) (by kernel_rfl) (fun _ _ _ h => h) (.inl ⟨rfl, ?_⟩) trivial ?_
            rotate_left 1
            · intro w hSw; go_simp; try with_reducible rfl
            simp only [Act.put, List.setIfInBounds_toArray, List.set_cons_zero, List.set_cons_succ]
            refine take_at (i := 7) 53 (.int .i64 ((k + 1 : Nat) : Int)) rfl rfl (by kernel_rfl) (by kernel_rfl) (by kernel_rfl) (fun _ _ _ h => h) (.inl ⟨rfl, fun W _ => by go_simp; try rfl⟩) trivial ?_
            simp only [Act.put, List.setIfInBounds_toArray, List.set_cons_zero, List.set_cons_succ]
            refine take_at (i := 8) 54 (.slice A1 (left.length - (k + 1)) (lc - (k + 1))) rfl rfl (by kernel_rfl) (by kernel_rfl) (by kernel_rfl) (fun _ _ _ h => h) (yields_sll (.tmp 51) (.tmp 53) 22 (.slice (some ⟨g, o, none⟩) left.length lc) (.int .i64 ((k + 1 : Nat) : Int)) _ TRR.out rfl rfl rfl rfl) trivial ?_
            simp only [Act.put, List.setIfInBounds_toArray, List.set_cons_zero, List.set_cons_succ]
            refine one_append (i := 4) 50 (.tmp 46) (.tmp 49) 22 22 rfl rfl (by kernel_rfl) rfl rfl _ _ u1 x1 rfl rfl R1.out trivial (fun _ => ?_)
            simp only [Act.put, List.setIfInBounds_toArray, List.set_cons_zero, List.set_cons_succ]
            refine one_append (i := 9) 55 (.tmp 50) (.tmp 54) 22 22 rfl rfl (by kernel_rfl) rfl rfl _ _ _ x2 rfl rfl R2.out trivial (fun _ => ?_)
            simp only [Act.put, List.setIfInBounds_toArray, List.set_cons_zero, List.set_cons_succ]
            refine take_at (i := 10) 9 ?_ rfl rfl (by kernel_rfl) (by kernel_rfl) (by kernel_rfl) (fun _ _ _ h => h) (.inl ⟨rfl, ?_⟩) trivial ?_
            rotate_left 1
            · intro w hSw; go_simp; try with_reducible rfl
            simp only [Act.put, List.setIfInBounds_toArray, List.set_cons_zero, List.set_cons_succ]
            refine wpAnyH_done (by kernel_rfl) ?_ _
            go_wp2
            go_roundw
            case rel => exact ⟨i + 1, rest, other ++ [x], by go_num, by have := OLen.out; omega, FIN⟩
            case measure => simp only [lenOf]; have := OLen.out; simp [lenOf]; omega
          · obtain ⟨k, hk0⟩ : ∃ k : Nat, k = 0 := ⟨0, rfl⟩
            have hkl : k < left.length := by omega
            go_upto_region 11 with (fail)
            have hkz : (0 : Int) = (k : Int) := by omega
            rw [show (Value.int IntKind.i64 0) = Value.int IntKind.i64 (k : Int) from by rw [hkz]]
            clear hkz hk0
            obtain ⟨g, o, x, hao, hx, hg, a0_, a1_, a2_, a3_⟩ := O0.out.lies.it hkl
            subst hao
            have LC := Lib.hid (show lc ≤ maxLen ∧ left.length ≤ lc from by obtain ⟨_, _, e, q1, q2, _⟩ := O0.out.lies; injection e with _ _ e3; subst e3; exact ⟨q2, q1⟩)
            have PX := Lib.hid (perm_out O0.out.perm hx)
            have OX := Lib.hid (own_belowK O0.out.own (vstep wr (.cells #[.int .i64 x.t, .int .i64 x.r, .string x.n, .bool x.d] 42)))
            have LX := Lib.hid (O0.out.step (vstep wr (.cells #[.int .i64 x.t, .int .i64 x.r, .string x.n, .bool x.d] 42)))
            have SX := Lib.hid ((one_liesK (p := x) encI_len (show (wr.alloc (.cells #[.int .i64 x.t, .int .i64 x.r, .string x.n, .bool x.d] 42)).heap[wr.heap.size]? = some (.cells (encI x).toArray 42 (0, 0)) from heap_alloc_new wr _)).src Try.u22 encI_len (by decide) encI_one)
            have QX := Lib.hid (And.intro (show other.length + 1 ≤ maxLen from by have := LM.out; unfold maxLen; omega) (And.intro (show (other.length + 1) * 40 ≤ 140737488355328 from by have := LM.out; omega) (show w.heap.size ≤ (wr.alloc (.cells #[.int .i64 x.t, .int .i64 x.r, .string x.n, .bool x.d] 42)).heap.size from LX.out.bel.size)))
            go_upto_region 13 with (at_builtin; refine wpList_append_src_own rfl (.tmp 39) (.tmp 44) 22 22 rfl w.heap.size 42 i0 (.agg #[.int .i64 0, .int .i64 0, .string ⟨#[]⟩, .bool false]) 4 40 Try.u22 hi9 hz0 hz1 hz2 rfl (by decide) (.slice oa other.length oc) other.length (other.flatMap encI) rfl OX.out _ 1 ([x].flatMap encI) rfl SX.out QX.out.1 QX.out.2.1 QX.out.2.2 ?_; intro v3 w3 hown hgr hsp; have OW := Lib.hid (show w3.ownsRow w.heap.size 42 4 v3 (other ++ [x]).length ((other ++ [x]).flatMap encI) from by rw [List.length_append, List.flatMap_append]; exact hown); have GW := Lib.hid (And.intro hgr hsp); clear hown hgr hsp)
            have W3B := Lib.hid (LX.out.bel.grown GW.out.1 LX.out.bel.size (fun k e => (LX.out.own.lt k e).1))
            have L3 := Lib.hid (show LiesK encI 4 w3 (.slice (some ⟨g, o, none⟩) left.length lc) left from by
              cases hob : (Value.slice oa other.length oc).ownBlock with
              | none => have hg3 := GW.out.1; rw [hob] at hg3; exact LX.out.lies.step ⟨hg3.os, hg3.tape, hg3.output, hg3.size, fun k hk => hg3.block k hk (by simp)⟩
              | some gg => have hg3 := GW.out.1; rw [hob] at hg3; exact LX.out.lies.block (g := gg) (fun a n c e => O0.out.off gg hob a n c e) hg3.size (fun kk hk hne => hg3.block kk hk (fun e => hne (by injection e))))
            clear a0_ a1_ a2_ a3_ hx hg OX SX QX LX
            have PR := Lib.hid (slice_pre (some ⟨g, o, none⟩) left.length lc k (by have := LC.out.2; omega) (by have := LC.out.1; unfold maxLen at this; omega))
            obtain ⟨A1, tr, TR⟩ := slice_tail L3.out (show k + 1 ≤ left.length from by omega)
            have TRR := Lib.hid tr
            obtain ⟨wd, hwd⟩ : ∃ zz, w3.drew = zz := ⟨_, rfl⟩
            have BD := Lib.hid (show Below w3.heap.size w3 wd from by rw [← hwd]; exact (Below.refl _ _).drew)
            have HWD := Lib.hid hwd
            obtain ⟨u1, x1, u2, x2, r1, r2, o2, b2⟩ := two_apps wd 0 (Nat.zero_le _) (.slice (some ⟨g, o, none⟩) k lc) (.slice A1 (left.length - (k + 1)) (lc - (k + 1))) (left.take k) (left.drop (k + 1)) ((L3.out.step BD.out).take k (by omega)) (TR.step BD.out) (by rw [List.length_take]; omega) (by rw [List.length_drop]; omega)
            obtain ⟨rest, hrest⟩ : ∃ zz, left.take k ++ left.drop (k + 1) = zz := ⟨_, rfl⟩
            have R1 := Lib.hid r1
            have R2 := Lib.hid r2
            have OLen := Lib.hid (show (left.take k ++ left.drop (k + 1)).length + 1 = left.length from by rw [List.length_append, List.length_take, List.length_drop]; omega)
            rw [hrest] at o2 OLen PX
            clear hrest
            have FIN := Lib.hid (show OR w x2 u2 v3 l rest (other ++ [x]) from
              ⟨own_liesK encI_len o2, own_belowK (own_belowK OW.out BD.out) b2, fun gg e a n c hc q => by
                have h3 := (OW.out.lt gg e).2
                rcases o2.2 with ⟨e1, _⟩ | ⟨g', cap', cur, e1, hB, _⟩
                · rw [e1] at hc; cases hc
                · rw [e1] at hc
                  injection hc with hc
                  injection hc with hc
                  subst hc
                  have := BD.out.size
                  have q : g' = gg := q
                  omega, (W3B.out.trans (BD.out.mono W3B.out.size)).trans (b2.mono (W3B.out.trans (BD.out.mono W3B.out.size)).size), PX.out⟩)
            obtain ⟨ua, uc, rfl⟩ := own_shapeK o2
            clear tr TR hwd r1 r2 o2 b2 L3
            have hwk1 : IntKind.i64.wrap ((k : Int) + 1) = (k : Int) + 1 := by rw [IntKind.wrap_i64]; omega
            refine wp_region_held_drew (S := fun _ => True) (by kernel_rfl) trivial (fun _ => ?_)
            rw [HWD.out]
            refine take_at (i := 0) 46 ?_ rfl rfl (by kernel_rfl) (by kernel_rfl) (by kernel_rfl) (fun _ _ _ h => h) (.inl ⟨rfl, ?_⟩) trivial ?_
            rotate_left 1
            · intro w hSw; go_simp; try with_reducible rfl
            simp only [Act.put, List.setIfInBounds_toArray, List.set_cons_zero, List.set_cons_succ]
            refine take_at (i := 1) 47 ?_ rfl rfl (by kernel_rfl) (by kernel_rfl) (by kernel_rfl) (fun _ _ _ h => h) (.inl ⟨rfl, ?_⟩) trivial ?_
            rotate_left 1
            · intro w hSw; go_simp; try with_reducible rfl
            simp only [Act.put, List.setIfInBounds_toArray, List.set_cons_zero, List.set_cons_succ]
            refine take_at (i := 2) 48 ?_ rfl rfl (by kernel_rfl) (by kernel_rfl) (by kernel_rfl) (fun _ _ _ h => h) (.inl ⟨rfl, ?_⟩) trivial ?_
            rotate_left 1
            · intro w hSw; go_simp; try with_reducible rfl
            simp only [Act.put, List.setIfInBounds_toArray, List.set_cons_zero, List.set_cons_succ]
            refine take_at (i := 3) 49 (.slice (some ⟨g, o, none⟩) k lc) rfl rfl (by kernel_rfl) (by kernel_rfl) (by kernel_rfl) (fun _ _ _ h => h) (yields_slh (.tmp 47) (.tmp 48) 22 (.slice (some ⟨g, o, none⟩) left.length lc) (.int .i64 (k : Int)) _ PR.out rfl rfl rfl rfl) trivial ?_
            simp only [Act.put, List.setIfInBounds_toArray, List.set_cons_zero, List.set_cons_succ]
            refine take_at (i := 5) 51 ?_ rfl rfl (by kernel_rfl) (by kernel_rfl) (by kernel_rfl) (fun _ _ _ h => h) (.inl ⟨rfl, ?_⟩) trivial ?_
            rotate_left 1
            · intro w hSw; go_simp; try with_reducible rfl
            simp only [Act.put, List.setIfInBounds_toArray, List.set_cons_zero, List.set_cons_succ]
            refine take_at (i := 6) 52 ?_ rfl rfl (by kernel_rfl) (by kernel_rfl) (by kernel_rfl) (fun _ _ _ h => h) (.inl ⟨rfl, ?_⟩) trivial ?_
            rotate_left 1
            · intro w hSw; go_simp; try with_reducible rfl
            simp only [Act.put, List.setIfInBounds_toArray, List.set_cons_zero, List.set_cons_succ]
            refine take_at (i := 7) 53 (.int .i64 ((k + 1 : Nat) : Int)) rfl rfl (by kernel_rfl) (by kernel_rfl) (by kernel_rfl) (fun _ _ _ h => h) (.inl ⟨rfl, fun W _ => by go_simp; try rfl⟩) trivial ?_
            simp only [Act.put, List.setIfInBounds_toArray, List.set_cons_zero, List.set_cons_succ]
            refine take_at (i := 8) 54 (.slice A1 (left.length - (k + 1)) (lc - (k + 1))) rfl rfl (by kernel_rfl) (by kernel_rfl) (by kernel_rfl) (fun _ _ _ h => h) (yields_sll (.tmp 51) (.tmp 53) 22 (.slice (some ⟨g, o, none⟩) left.length lc) (.int .i64 ((k + 1 : Nat) : Int)) _ TRR.out rfl rfl rfl rfl) trivial ?_
            simp only [Act.put, List.setIfInBounds_toArray, List.set_cons_zero, List.set_cons_succ]
            refine one_append (i := 4) 50 (.tmp 46) (.tmp 49) 22 22 rfl rfl (by kernel_rfl) rfl rfl _ _ u1 x1 rfl rfl R1.out trivial (fun _ => ?_)
            simp only [Act.put, List.setIfInBounds_toArray, List.set_cons_zero, List.set_cons_succ]
            refine one_append (i := 9) 55 (.tmp 50) (.tmp 54) 22 22 rfl rfl (by kernel_rfl) rfl rfl _ _ _ x2 rfl rfl R2.out trivial (fun _ => ?_)
            simp only [Act.put, List.setIfInBounds_toArray, List.set_cons_zero, List.set_cons_succ]
            refine take_at (i := 10) 9 ?_ rfl rfl (by kernel_rfl) (by kernel_rfl) (by kernel_rfl) (fun _ _ _ h => h) (.inl ⟨rfl, ?_⟩) trivial ?_
            rotate_left 1
            · intro w hSw; go_simp; try with_reducible rfl
            simp only [Act.put, List.setIfInBounds_toArray, List.set_cons_zero, List.set_cons_succ]
            refine wpAnyH_done (by kernel_rfl) ?_ _
            go_wp2
            go_roundw
            case rel => exact ⟨i + 1, rest, other ++ [x], by go_num, by have := OLen.out; omega, FIN⟩
            case measure => simp only [lenOf]; have := OLen.out; simp [lenOf]; omega
        · have hl0_ : left = [] := List.eq_nil_of_length_eq_zero (by omega)
          subst hl0_
          have PM := Lib.hid (show other.Perm l from by have := O0.out.perm; simpa using this)
          have M1 := Lib.hid (mine_any wr _ l (H0.out.step O0.out.bel) HL.out)
          have BR := Lib.hid O0.out.bel
          have LO := Lib.hid (own_liesK encI_len O0.out.own)
          clear O0
          go_wp2_with fail
          refine M1.out.mono ?_
          rintro e w3 ⟨r3, rfl, l3, b3⟩
          have B3 := Lib.hid (BR.out.trans (b3.mono BR.out.size))
          have OF := Lib.hid (of_any w3 r3 l l3 HL.out HU.out HOK.out)
          have L3 := Lib.hid (LO.out.step b3)
          clear l3 b3 M1 LO
          go_wp2_with fail
          refine OF.out.mono ?_
          rintro e w4 ⟨r4, gs4, rfl, g4, i4, b4⟩
          have B4 := Lib.hid (B3.out.trans (b4.mono B3.out.size))
          have G4 := Lib.hid g4
          have I4 := Lib.hid i4
          have L4 := Lib.hid (L3.out.step b4)
          have M2 := Lib.hid (mine_any w4 _ other L4.out (by rw [PM.out.length_eq]; exact HL.out))
          clear g4 i4 b4 OF L3
          go_wp2_with fail
          refine M2.out.mono ?_
          rintro e w5 ⟨r5, rfl, l5, b5⟩
          have B5 := Lib.hid (B4.out.trans (b5.mono B4.out.size))
          have OF2 := Lib.hid (of_any w5 r5 other l5 (by rw [PM.out.length_eq]; exact HL.out) ((PM.out.map ndI).nodup_iff.2 HU.out) (fun x hx => HOK.out x (PM.out.mem_iff.1 hx)))
          have G5 := Lib.hid (G4.out.step b5)
          clear l5 b5 M2 G4 L4
          go_wp2_with fail
          refine OF2.out.mono ?_
          rintro e w6 ⟨r6, gs6, rfl, g6, i6, b6⟩
          have B6 := Lib.hid (B5.out.trans (b6.mono B5.out.size))
          have SM := Lib.hid (same_any w6 _ _ gs4 gs6 (G5.out.step b6) g6)
          rw [sameG_t (of_perm PM.out.symm I4.out i6)] at SM
          clear g6 i6 b6 OF2 G5
          go_wp2_with fail
          refine SM.out.mono ?_
          rintro e w7 ⟨rfl, b7⟩
          have B7 := Lib.hid (B6.out.trans (b7.mono B6.out.size))
          clear b7 SM
          go_wp2_with fail
          refine (AW.out _).mono ?_
          rintro e w8 ⟨rfl, b8⟩
          have B8 := Lib.hid (B7.out.trans (b8.mono B7.out.size))
          clear b8
          go_wp2
          go_returns
          exact ⟨rfl, B8.out⟩
end Go.Proofs.Ythbliaohaakbiaa
