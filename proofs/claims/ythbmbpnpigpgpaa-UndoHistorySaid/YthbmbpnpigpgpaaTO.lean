/- The reference's Set of rows, walked. Made by gento13.py. -/
import Derived.Test.YthbmbpnpigpgpaaTN
set_option linter.unusedVariables false
set_option maxRecDepth 100000
namespace Go.Proofs.Ythbmbpnpigpgpaa
open Go.RowKit Go.WideMaps Go.Maps

theorem SI_ne {l : List Rw} (hr : Rise l) (x : Rw) {i : Nat} {y : Rw} (hy : l[i]? = some y) (h : (SI l x i).2 = true) : sameN y x = false := by
  obtain ⟨hl, he⟩ := List.getElem?_eq_some_iff.1 hy
  have ht : l.take (i + 1) = l.take i ++ [y] := by rw [List.take_succ_eq_append_getElem hl, he]
  have hlt : ∀ z ∈ l.take i, ltR z y = true := by
    have hp : (l.take i ++ [y]).Pairwise (fun x y => ltR x y = true) := by rw [← ht]; exact hr.sublist (List.take_sublist _ _)
    intro z hz
    exact (List.pairwise_append.1 hp).2.2 z hz y (by simp)
  unfold SI at h
  split at h
  · cases h
  · rename_i hall
    have hall' : (l.take i).all (fun y => ltR y x) = false := by cases h : (l.take i).all (fun y => ltR y x) <;> simp_all
    rw [List.all_eq_false] at hall'
    obtain ⟨z, hz, hzx⟩ := hall'
    have hzx : ltR z x = false := by simpa using hzx
    cases hs : sameN y x with
    | false => rfl
    | true =>
      unfold sameN at hs
      have hs := of_decide_eq_true hs
      have := hlt z hz
      unfold ltR at this hzx
      rw [hs.1, hs.2] at this
      rw [this] at hzx
      cases hzx
theorem stS_cases (l : List Rw) (hr : Rise l) (x : Rw) {i : Nat} {y : Rw} (hy : l[i]? = some y) :
    ((SI l x i).2 = true ∧ sameN y x = false ∧ SI l x (i + 1) = ((SI l x i).1 ++ [y], true)) ∨
    ((SI l x i).2 = false ∧ ltR y x = true ∧ sameN y x = false ∧ SI l x (i + 1) = ((SI l x i).1 ++ [y], false)) ∨
    ((SI l x i).2 = false ∧ ltR y x = false ∧ sameN y x = true ∧ SI l x (i + 1) = ((SI l x i).1 ++ [x], true)) ∨
    ((SI l x i).2 = false ∧ ltR y x = false ∧ sameN y x = false ∧ SI l x (i + 1) = (((SI l x i).1 ++ [x]) ++ [y], true)) := by
  have hs := SI_step hr x hy
  have hne := SI_ne hr x hy
  cases hd : (SI l x i).2 with
  | true =>
    have := hne hd
    left
    refine ⟨rfl, this, ?_⟩
    rw [← hs]
    simp [stS, hd, this]
  | false =>
    right
    rcases lt_tri y x with ⟨q1, q2, q3⟩ | ⟨q1, q2, q3⟩ | ⟨q1, q2, q3⟩
    · left
      refine ⟨rfl, q1, q2, ?_⟩
      rw [← hs]
      simp [stS, hd, q1, q2]
    · right; left
      refine ⟨rfl, q1, q2, ?_⟩
      rw [← hs]
      simp [stS, hd, q1, q2]
    · right; right
      refine ⟨rfl, q1, q2, ?_⟩
      rw [← hs]
      simp [stS, hd, q1, q2]
theorem same_split {a b c d : Int} {sb : Bool} (h : decide (a = c ∧ b = d) = sb) : (sb = true ∧ ∃ q1 : (a == c) = true, (b == d) = true) ∨ (sb = false ∧ ((a == c) = false ∨ ((a == c) = true ∧ (b == d) = false))) := by
  subst h
  by_cases q : a = c ∧ b = d
  · exact .inl ⟨decide_eq_true q, beqb_ _ _ q.1, beqb_ _ _ q.2⟩
  · exact .inr ⟨decide_eq_false q, no2 q⟩
theorem push_ok {W W' : World} {E : Nat} {v : Value} {m : List Rw} {ob : Obj} {W0 : World} (hB : Below W0.heap.size W0 W) (ho : W.ownsRow E 68 6 v m.length (m.flatMap enc6)) (hE : W0.heap.size ≤ E) (hg : (W.alloc ob).grownBy W' v.ownBlock) : Below W0.heap.size W0 W' :=
  (hB.trans ((vstep W ob).mono hB.size)).grown hg (by have := hB.size; simp; omega) (fun k e => by have := (ho.lt k e).1; omega)
set_option maxHeartbeats 12800000 in
theorem rset_any (w : World) (v : Value) (l : List Rw) (x : Rw) (h : LiesR w v l) (hl : l.length ≤ 1000) (hr : Rise l) :
    Calls Try.prog 29 #[v, .agg #[.int .i64 x.t, .int .i64 x.r], .agg #[.int .i64 x.pt, .int .i64 x.pr, .string x.nm, .bool x.d]] w fun e w' => ∃ r, e = .returned r ∧ w'.ownsRow w.heap.size 68 6 r (setF l x).length ((setF l x).flatMap enc6) ∧ Below w.heap.size w w' := by
  obtain ⟨i0, hi9, hz0, hz1, hz2⟩ := info_parts info75
  have B1 := vstep w (.cells #[.int .i64 x.t, .int .i64 x.r] 61)
  have B2 := vstep (w.alloc (.cells #[.int .i64 x.t, .int .i64 x.r] 61)) (.cells #[.int .i64 x.pt, .int .i64 x.pr, .string x.nm, .bool x.d] 66)
  have B := Lib.hid (B1.trans (B2.mono B1.size))
  have L := Lib.hid (h.step B.out)
  have S0 := Lib.hid ((StAt.new w x.t x.r).step B2)
  have E0 := Lib.hid (show EnB 66 ((w.alloc (.cells #[.int .i64 x.t, .int .i64 x.r] 61)).alloc (.cells #[.int .i64 x.pt, .int .i64 x.pr, .string x.nm, .bool x.d] 66)) (w.heap.size + 1) x.pt x.pr x.nm x.d from by
    have := heap_alloc_new (w.alloc (.cells #[.int .i64 x.t, .int .i64 x.r] 61)) (.cells #[.int .i64 x.pt, .int .i64 x.pr, .string x.nm, .bool x.d] 66)
    rwa [World.size_alloc] at this)
  obtain ⟨W0, hW0⟩ : ∃ y, (w.alloc (.cells #[.int .i64 x.t, .int .i64 x.r] 61)).alloc (.cells #[.int .i64 x.pt, .int .i64 x.pr, .string x.nm, .bool x.d] 66) = y := ⟨_, rfl⟩
  rw [hW0] at B L S0 E0
  have HW := Lib.hid hW0
  have SF := Lib.hid (fun W (hb : Below W0.heap.size W0 W) => (S0.out.step hb).cells)
  have EF := Lib.hid (fun W (hb : Below W0.heap.size W0 W) => (E0.out.step hb).cells)
  have HR := Lib.hid hr
  obtain ⟨ao, cap, rfl⟩ := h.shape
  clear B1 B2 hW0 h hr S0 E0
  go_enter Try.func29, Try.ntmps29
  go_upto_region 1 with (fail)
  rw [HW.out]
  go_wp2_with fail
  go_loopw [7, 8, 9] (fun ov dv kv wr => ∃ i : Nat, kv = .int .i64 i ∧ i ≤ l.length ∧ dv = .bool (SI l x i).2 ∧ Hid (wr.ownsRow W0.heap.size 68 6 ov (SI l x i).1.length ((SI l x i).1.flatMap enc6) ∧ Below W0.heap.size W0 wr)) (fun _ _ kv _ => l.length - (intOf kv).toNat)
  case atStart => exact ⟨0, rfl, Nat.zero_le _, rfl, Lib.hid ⟨World.ownsRow_nil _ _ _ _, Below.refl _ _⟩⟩
  case round =>
    obtain ⟨i, rfl, hi, rfl, hK⟩ := hrel
    obtain ⟨oa, oc, rfl⟩ := own_shapeK hK.out.1
    have O0 := Lib.hid hK.out.1
    have K0 := Lib.hid hK.out.2
    have LN := Lib.hid (SI_len l x i)
    clear hK
    by_cases hlt : i < l.length
    · obtain ⟨g, o, y, rfl, hy, hg, a0, a1, a2, a3, a4, a5⟩ := L.out.row hlt
      have AF := Lib.hid (fun W (hb : Below W0.heap.size W0 W) => (show W.cell? ⟨g, o + i * 6, none⟩ = some (.int .i64 y.t) ∧ W.cell? ⟨g, o + i * 6 + 1, none⟩ = some (.int .i64 y.r) ∧ W.cell? ⟨g, o + i * 6 + 2, none⟩ = some (.int .i64 y.pt) ∧ W.cell? ⟨g, o + i * 6 + 3, none⟩ = some (.int .i64 y.pr) ∧ W.cell? ⟨g, o + i * 6 + 4, none⟩ = some (.string y.nm) ∧ W.cell? ⟨g, o + i * 6 + 5, none⟩ = some (.bool y.d) from ⟨(hb.cell (p := ⟨g, o + i * 6, none⟩) hg).trans a0, (hb.cell (p := ⟨g, o + i * 6 + 1, none⟩) hg).trans a1, (hb.cell (p := ⟨g, o + i * 6 + 2, none⟩) hg).trans a2, (hb.cell (p := ⟨g, o + i * 6 + 3, none⟩) hg).trans a3, (hb.cell (p := ⟨g, o + i * 6 + 4, none⟩) hg).trans a4, (hb.cell (p := ⟨g, o + i * 6 + 5, none⟩) hg).trans a5⟩))
      have CS := stS_cases l HR.out x hy
      clear a0 a1 a2 a3 a4 a5 hg hy
      have LS := Lib.hid (fun z : Later wr => less_any z.w y.t y.r x.t x.r)
      rw [show ltS y.t y.r x.t x.r = ltR y x from rfl] at LS
      obtain ⟨S, hS⟩ : ∃ S, SI l x i = S := ⟨_, rfl⟩
      rw [hS] at CS O0 LN ⊢
      clear hS
      obtain ⟨m, dn⟩ := S
      dsimp only at CS O0 LN ⊢
      have l0 := fun z : Later wr => (AF.out z.w (K0.out.trans (z.below.mono K0.out.size))).1
      have l1 := fun z : Later wr => (AF.out z.w (K0.out.trans (z.below.mono K0.out.size))).2.1
      have m0 := fun z : Later wr => (SF.out z.w (K0.out.trans (z.below.mono K0.out.size))).1
      have m1 := fun z : Later wr => (SF.out z.w (K0.out.trans (z.below.mono K0.out.size))).2
      generalize hlr : ltR y x = lr at *
      have hsn : decide (y.t = x.t ∧ y.r = x.r) = sameN y x := rfl
      rcases CS with ⟨rfl, q2, q3⟩ | ⟨rfl, rfl, q2, q3⟩ | ⟨rfl, rfl, q2, q3⟩ | ⟨rfl, rfl, q2, q3⟩
      · rw [← hsn] at q2
        have Q3 := Lib.hid q3
        have Q2 := same_split q2
        clear q3 q2 hsn hlr
        rcases Q2 with ⟨c, _⟩ | ⟨_, t1 | ⟨t1, t2⟩⟩
        · cases c
        all_goals
          go_upto_region 6 with (fail)
          refine wp_region_later (by kernel_rfl) (by kernel_rfl) ?_
          repeat (go_big_quiet_step (first | (go_at_call 47; with_reducible exact later_call (LS.out _))))
          refine wpQuiet_nil ?_
          rintro _ ⟨xl1, rfl⟩
          have K1 := Lib.hid (K0.out.trans (xl1.below.mono K0.out.size))
          have O1 := Lib.hid (own_belowK O0.out xl1.below)
          generalize xl1.w = w1 at *
          clear l0 l1 m0 m1 LS
          go_upto_region 9 with (fail)
          have r0 := fun z : Later w1 => (AF.out z.w (K1.out.trans (z.below.mono K1.out.size))).1
          have r1 := fun z : Later w1 => (AF.out z.w (K1.out.trans (z.below.mono K1.out.size))).2.1
          have s0 := fun z : Later w1 => (SF.out z.w (K1.out.trans (z.below.mono K1.out.size))).1
          have s1 := fun z : Later w1 => (SF.out z.w (K1.out.trans (z.below.mono K1.out.size))).2
          refine wp_region_later (by kernel_rfl) (by kernel_rfl) ?_
          repeat (go_big_quiet_step (fail))
          refine wpQuiet_nil ?_
          rintro _ ⟨xl3, rfl⟩
          have K3 := Lib.hid (K1.out.trans (xl3.below.mono K1.out.size))
          have O3 := Lib.hid (own_belowK O1.out xl3.below)
          generalize xl3.w = w3 at *
          clear r0 r1 s0 s1
          obtain ⟨e0, e1, e2, e3, e4, e5⟩ := AF.out _ K3.out
          obtain ⟨ms4, hms4⟩ : ∃ ms, (m) ++ [y] = ms := ⟨_, rfl⟩
          have MS4 := Lib.hid hms4
          clear hms4
          have OX4 := Lib.hid (own_belowK O3.out (vstep w3 (.cells #[.int .i64 y.t, .int .i64 y.r, .int .i64 y.pt, .int .i64 y.pr, .string y.nm, .bool y.d] 68)))
          have HX4 := Lib.hid (show (w3.alloc (.cells #[.int .i64 y.t, .int .i64 y.r, .int .i64 y.pt, .int .i64 y.pr, .string y.nm, .bool y.d] 68)).heap[w3.heap.size]? = some (.cells (enc6 y).toArray 68 (0, 0)) from heap_alloc_new w3 _)
          have QX4 := Lib.hid (And.intro (show (m).length + 1 ≤ maxLen from by have := LN.out;  unfold maxLen; (try simp only [List.length_append, List.length_cons, List.length_nil]); omega) (And.intro (show ((m).length + 1) * 56 ≤ 140737488355328 from by have := LN.out;  (try simp only [List.length_append, List.length_cons, List.length_nil]); omega) (show W0.heap.size ≤ (w3.alloc (.cells #[.int .i64 y.t, .int .i64 y.r, .int .i64 y.pt, .int .i64 y.pr, .string y.nm, .bool y.d] 68)).heap.size from by have := K3.out.size; simp; omega)))
          go_wp2_with (at_builtin; refine wpList_pushK rfl (.tmp 41) (.tmp 46) 22 rfl enc6_len (by decide) enc6_one W0.heap.size 68 i0 (.agg #[.int .i64 0, .int .i64 0, .int .i64 0, .int .i64 0, .string ⟨#[]⟩, .bool false]) 56 Try.u27 hi9 hz0 hz1 hz2 rfl _ (m) y w3.heap.size rfl rfl HX4.out OX4.out QX4.out.1 QX4.out.2.1 QX4.out.2.2 ?_; intro v4 w4 hown hgr; rw [MS4.out] at hown; obtain ⟨va4, vc4, rfl⟩ := own_shapeK hown; have O4 := Lib.hid hown; have K4 := Lib.hid (push_ok K3.out O3.out (Nat.le_refl _) hgr); clear hown hgr)
          clear e0 e1 e2 e3 e4 e5
          go_wp2
          go_roundw
          case rel => exact ⟨i + 1, by go_num, by omega, by rw [Q3.out], Lib.hid (by rw [Q3.out]; dsimp only; rw [MS4.out]; exact ⟨O4.out, K4.out⟩)⟩
          case measure => simp [intOf]; omega
      · rw [← hsn] at q2
        have Q3 := Lib.hid q3
        have Q2 := same_split q2
        clear q3 q2 hsn hlr
        rcases Q2 with ⟨c, _⟩ | ⟨_, t1 | ⟨t1, t2⟩⟩
        · cases c
        all_goals
          go_upto_region 6 with (fail)
          refine wp_region_later (by kernel_rfl) (by kernel_rfl) ?_
          repeat (go_big_quiet_step (first | (go_at_call 47; with_reducible exact later_call (LS.out _))))
          refine wpQuiet_nil ?_
          rintro _ ⟨xl1, rfl⟩
          have K1 := Lib.hid (K0.out.trans (xl1.below.mono K0.out.size))
          have O1 := Lib.hid (own_belowK O0.out xl1.below)
          generalize xl1.w = w1 at *
          clear l0 l1 m0 m1 LS
          go_upto_region 9 with (fail)
          have r0 := fun z : Later w1 => (AF.out z.w (K1.out.trans (z.below.mono K1.out.size))).1
          have r1 := fun z : Later w1 => (AF.out z.w (K1.out.trans (z.below.mono K1.out.size))).2.1
          have s0 := fun z : Later w1 => (SF.out z.w (K1.out.trans (z.below.mono K1.out.size))).1
          have s1 := fun z : Later w1 => (SF.out z.w (K1.out.trans (z.below.mono K1.out.size))).2
          refine wp_region_later (by kernel_rfl) (by kernel_rfl) ?_
          repeat (go_big_quiet_step (fail))
          refine wpQuiet_nil ?_
          rintro _ ⟨xl3, rfl⟩
          have K3 := Lib.hid (K1.out.trans (xl3.below.mono K1.out.size))
          have O3 := Lib.hid (own_belowK O1.out xl3.below)
          generalize xl3.w = w3 at *
          clear r0 r1 s0 s1
          obtain ⟨e0, e1, e2, e3, e4, e5⟩ := AF.out _ K3.out
          obtain ⟨ms4, hms4⟩ : ∃ ms, (m) ++ [y] = ms := ⟨_, rfl⟩
          have MS4 := Lib.hid hms4
          clear hms4
          have OX4 := Lib.hid (own_belowK O3.out (vstep w3 (.cells #[.int .i64 y.t, .int .i64 y.r, .int .i64 y.pt, .int .i64 y.pr, .string y.nm, .bool y.d] 68)))
          have HX4 := Lib.hid (show (w3.alloc (.cells #[.int .i64 y.t, .int .i64 y.r, .int .i64 y.pt, .int .i64 y.pr, .string y.nm, .bool y.d] 68)).heap[w3.heap.size]? = some (.cells (enc6 y).toArray 68 (0, 0)) from heap_alloc_new w3 _)
          have QX4 := Lib.hid (And.intro (show (m).length + 1 ≤ maxLen from by have := LN.out;  unfold maxLen; (try simp only [List.length_append, List.length_cons, List.length_nil]); omega) (And.intro (show ((m).length + 1) * 56 ≤ 140737488355328 from by have := LN.out;  (try simp only [List.length_append, List.length_cons, List.length_nil]); omega) (show W0.heap.size ≤ (w3.alloc (.cells #[.int .i64 y.t, .int .i64 y.r, .int .i64 y.pt, .int .i64 y.pr, .string y.nm, .bool y.d] 68)).heap.size from by have := K3.out.size; simp; omega)))
          go_wp2_with (at_builtin; refine wpList_pushK rfl (.tmp 41) (.tmp 46) 22 rfl enc6_len (by decide) enc6_one W0.heap.size 68 i0 (.agg #[.int .i64 0, .int .i64 0, .int .i64 0, .int .i64 0, .string ⟨#[]⟩, .bool false]) 56 Try.u27 hi9 hz0 hz1 hz2 rfl _ (m) y w3.heap.size rfl rfl HX4.out OX4.out QX4.out.1 QX4.out.2.1 QX4.out.2.2 ?_; intro v4 w4 hown hgr; rw [MS4.out] at hown; obtain ⟨va4, vc4, rfl⟩ := own_shapeK hown; have O4 := Lib.hid hown; have K4 := Lib.hid (push_ok K3.out O3.out (Nat.le_refl _) hgr); clear hown hgr)
          clear e0 e1 e2 e3 e4 e5
          go_wp2
          go_roundw
          case rel => exact ⟨i + 1, by go_num, by omega, by rw [Q3.out], Lib.hid (by rw [Q3.out]; dsimp only; rw [MS4.out]; exact ⟨O4.out, K4.out⟩)⟩
          case measure => simp [intOf]; omega
      · rw [← hsn] at q2
        have Q3 := Lib.hid q3
        have Q2 := same_split q2
        clear q3 q2 hsn hlr
        rcases Q2 with ⟨_, t1, t2⟩ | ⟨c, _⟩
        rotate_left 1
        · cases c
        go_upto_region 6 with (fail)
        refine wp_region_later (by kernel_rfl) (by kernel_rfl) ?_
        repeat (go_big_quiet_step (first | (go_at_call 47; with_reducible exact later_call (LS.out _))))
        refine wpQuiet_nil ?_
        rintro _ ⟨xl1, rfl⟩
        have K1 := Lib.hid (K0.out.trans (xl1.below.mono K0.out.size))
        have O1 := Lib.hid (own_belowK O0.out xl1.below)
        generalize xl1.w = w1 at *
        clear l0 l1 m0 m1 LS
        obtain ⟨e1, e2⟩ := SF.out _ K1.out
        obtain ⟨e3, e4, e5, e6⟩ := EF.out _ K1.out
        obtain ⟨ms2, hms2⟩ : ∃ ms, (m) ++ [x] = ms := ⟨_, rfl⟩
        have MS2 := Lib.hid hms2
        clear hms2
        have OX2 := Lib.hid (own_belowK O1.out (vstep w1 (.cells #[.int .i64 x.t, .int .i64 x.r, .int .i64 x.pt, .int .i64 x.pr, .string x.nm, .bool x.d] 68)))
        have HX2 := Lib.hid (show (w1.alloc (.cells #[.int .i64 x.t, .int .i64 x.r, .int .i64 x.pt, .int .i64 x.pr, .string x.nm, .bool x.d] 68)).heap[w1.heap.size]? = some (.cells (enc6 x).toArray 68 (0, 0)) from heap_alloc_new w1 _)
        have QX2 := Lib.hid (And.intro (show (m).length + 1 ≤ maxLen from by have := LN.out;  unfold maxLen; (try simp only [List.length_append, List.length_cons, List.length_nil]); omega) (And.intro (show ((m).length + 1) * 56 ≤ 140737488355328 from by have := LN.out;  (try simp only [List.length_append, List.length_cons, List.length_nil]); omega) (show W0.heap.size ≤ (w1.alloc (.cells #[.int .i64 x.t, .int .i64 x.r, .int .i64 x.pt, .int .i64 x.pr, .string x.nm, .bool x.d] 68)).heap.size from by have := K1.out.size; simp; omega)))
        go_wp2_with (at_builtin; refine wpList_pushK rfl (.tmp 28) (.tmp 32) 22 rfl enc6_len (by decide) enc6_one W0.heap.size 68 i0 (.agg #[.int .i64 0, .int .i64 0, .int .i64 0, .int .i64 0, .string ⟨#[]⟩, .bool false]) 56 Try.u27 hi9 hz0 hz1 hz2 rfl _ (m) x w1.heap.size rfl rfl HX2.out OX2.out QX2.out.1 QX2.out.2.1 QX2.out.2.2 ?_; intro v2 w2 hown hgr; rw [MS2.out] at hown; obtain ⟨va2, vc2, rfl⟩ := own_shapeK hown; have O2 := Lib.hid hown; have K2 := Lib.hid (push_ok K1.out O1.out (Nat.le_refl _) hgr); clear hown hgr)
        clear e1 e2 e3 e4 e5 e6
        go_upto_region 9 with (fail)
        have r0 := fun z : Later w2 => (AF.out z.w (K2.out.trans (z.below.mono K2.out.size))).1
        have r1 := fun z : Later w2 => (AF.out z.w (K2.out.trans (z.below.mono K2.out.size))).2.1
        have s0 := fun z : Later w2 => (SF.out z.w (K2.out.trans (z.below.mono K2.out.size))).1
        have s1 := fun z : Later w2 => (SF.out z.w (K2.out.trans (z.below.mono K2.out.size))).2
        refine wp_region_later (by kernel_rfl) (by kernel_rfl) ?_
        repeat (go_big_quiet_step (fail))
        refine wpQuiet_nil ?_
        rintro _ ⟨xl3, rfl⟩
        have K3 := Lib.hid (K2.out.trans (xl3.below.mono K2.out.size))
        have O3 := Lib.hid (own_belowK O2.out xl3.below)
        generalize xl3.w = w3 at *
        clear r0 r1 s0 s1
        go_wp2
        go_roundw
        case rel => exact ⟨i + 1, by go_num, by omega, by rw [Q3.out], Lib.hid (by rw [Q3.out]; dsimp only; rw [MS2.out]; exact ⟨O3.out, K3.out⟩)⟩
        case measure => simp [intOf]; omega
      · rw [← hsn] at q2
        have Q3 := Lib.hid q3
        have Q2 := same_split q2
        clear q3 q2 hsn hlr
        rcases Q2 with ⟨c, _⟩ | ⟨_, t1 | ⟨t1, t2⟩⟩
        · cases c
        all_goals
          go_upto_region 6 with (fail)
          refine wp_region_later (by kernel_rfl) (by kernel_rfl) ?_
          repeat (go_big_quiet_step (first | (go_at_call 47; with_reducible exact later_call (LS.out _))))
          refine wpQuiet_nil ?_
          rintro _ ⟨xl1, rfl⟩
          have K1 := Lib.hid (K0.out.trans (xl1.below.mono K0.out.size))
          have O1 := Lib.hid (own_belowK O0.out xl1.below)
          generalize xl1.w = w1 at *
          clear l0 l1 m0 m1 LS
          obtain ⟨e1, e2⟩ := SF.out _ K1.out
          obtain ⟨e3, e4, e5, e6⟩ := EF.out _ K1.out
          obtain ⟨ms2, hms2⟩ : ∃ ms, (m) ++ [x] = ms := ⟨_, rfl⟩
          have MS2 := Lib.hid hms2
          clear hms2
          have OX2 := Lib.hid (own_belowK O1.out (vstep w1 (.cells #[.int .i64 x.t, .int .i64 x.r, .int .i64 x.pt, .int .i64 x.pr, .string x.nm, .bool x.d] 68)))
          have HX2 := Lib.hid (show (w1.alloc (.cells #[.int .i64 x.t, .int .i64 x.r, .int .i64 x.pt, .int .i64 x.pr, .string x.nm, .bool x.d] 68)).heap[w1.heap.size]? = some (.cells (enc6 x).toArray 68 (0, 0)) from heap_alloc_new w1 _)
          have QX2 := Lib.hid (And.intro (show (m).length + 1 ≤ maxLen from by have := LN.out;  unfold maxLen; (try simp only [List.length_append, List.length_cons, List.length_nil]); omega) (And.intro (show ((m).length + 1) * 56 ≤ 140737488355328 from by have := LN.out;  (try simp only [List.length_append, List.length_cons, List.length_nil]); omega) (show W0.heap.size ≤ (w1.alloc (.cells #[.int .i64 x.t, .int .i64 x.r, .int .i64 x.pt, .int .i64 x.pr, .string x.nm, .bool x.d] 68)).heap.size from by have := K1.out.size; simp; omega)))
          go_wp2_with (at_builtin; refine wpList_pushK rfl (.tmp 28) (.tmp 32) 22 rfl enc6_len (by decide) enc6_one W0.heap.size 68 i0 (.agg #[.int .i64 0, .int .i64 0, .int .i64 0, .int .i64 0, .string ⟨#[]⟩, .bool false]) 56 Try.u27 hi9 hz0 hz1 hz2 rfl _ (m) x w1.heap.size rfl rfl HX2.out OX2.out QX2.out.1 QX2.out.2.1 QX2.out.2.2 ?_; intro v2 w2 hown hgr; rw [MS2.out] at hown; obtain ⟨va2, vc2, rfl⟩ := own_shapeK hown; have O2 := Lib.hid hown; have K2 := Lib.hid (push_ok K1.out O1.out (Nat.le_refl _) hgr); clear hown hgr)
          clear e1 e2 e3 e4 e5 e6
          go_upto_region 9 with (fail)
          have r0 := fun z : Later w2 => (AF.out z.w (K2.out.trans (z.below.mono K2.out.size))).1
          have r1 := fun z : Later w2 => (AF.out z.w (K2.out.trans (z.below.mono K2.out.size))).2.1
          have s0 := fun z : Later w2 => (SF.out z.w (K2.out.trans (z.below.mono K2.out.size))).1
          have s1 := fun z : Later w2 => (SF.out z.w (K2.out.trans (z.below.mono K2.out.size))).2
          refine wp_region_later (by kernel_rfl) (by kernel_rfl) ?_
          repeat (go_big_quiet_step (fail))
          refine wpQuiet_nil ?_
          rintro _ ⟨xl3, rfl⟩
          have K3 := Lib.hid (K2.out.trans (xl3.below.mono K2.out.size))
          have O3 := Lib.hid (own_belowK O2.out xl3.below)
          generalize xl3.w = w3 at *
          clear r0 r1 s0 s1
          obtain ⟨e0, e1, e2, e3, e4, e5⟩ := AF.out _ K3.out
          obtain ⟨ms4, hms4⟩ : ∃ ms, (ms2) ++ [y] = ms := ⟨_, rfl⟩
          have MS4 := Lib.hid hms4
          clear hms4
          have OX4 := Lib.hid (own_belowK O3.out (vstep w3 (.cells #[.int .i64 y.t, .int .i64 y.r, .int .i64 y.pt, .int .i64 y.pr, .string y.nm, .bool y.d] 68)))
          have HX4 := Lib.hid (show (w3.alloc (.cells #[.int .i64 y.t, .int .i64 y.r, .int .i64 y.pt, .int .i64 y.pr, .string y.nm, .bool y.d] 68)).heap[w3.heap.size]? = some (.cells (enc6 y).toArray 68 (0, 0)) from heap_alloc_new w3 _)
          have QX4 := Lib.hid (And.intro (show (ms2).length + 1 ≤ maxLen from by have := LN.out; have e := congrArg List.length MS2.out; rw [List.length_append] at e; simp only [List.length_cons, List.length_nil] at e; unfold maxLen; (try simp only [List.length_append, List.length_cons, List.length_nil]); omega) (And.intro (show ((ms2).length + 1) * 56 ≤ 140737488355328 from by have := LN.out; have e := congrArg List.length MS2.out; rw [List.length_append] at e; simp only [List.length_cons, List.length_nil] at e; (try simp only [List.length_append, List.length_cons, List.length_nil]); omega) (show W0.heap.size ≤ (w3.alloc (.cells #[.int .i64 y.t, .int .i64 y.r, .int .i64 y.pt, .int .i64 y.pr, .string y.nm, .bool y.d] 68)).heap.size from by have := K3.out.size; simp; omega)))
          go_wp2_with (at_builtin; refine wpList_pushK rfl (.tmp 41) (.tmp 46) 22 rfl enc6_len (by decide) enc6_one W0.heap.size 68 i0 (.agg #[.int .i64 0, .int .i64 0, .int .i64 0, .int .i64 0, .string ⟨#[]⟩, .bool false]) 56 Try.u27 hi9 hz0 hz1 hz2 rfl _ (ms2) y w3.heap.size rfl rfl HX4.out OX4.out QX4.out.1 QX4.out.2.1 QX4.out.2.2 ?_; intro v4 w4 hown hgr; rw [MS4.out] at hown; obtain ⟨va4, vc4, rfl⟩ := own_shapeK hown; have O4 := Lib.hid hown; have K4 := Lib.hid (push_ok K3.out O3.out (Nat.le_refl _) hgr); clear hown hgr)
          clear e0 e1 e2 e3 e4 e5
          go_wp2
          go_roundw
          case rel => exact ⟨i + 1, by go_num, by omega, by rw [Q3.out], Lib.hid (by rw [Q3.out]; dsimp only; rw [MS2.out]; rw [MS4.out]; exact ⟨O4.out, K4.out⟩)⟩
          case measure => simp [intOf]; omega
    · have EN := SI_end l x
      rw [show l.length = i by omega] at EN
      obtain ⟨S, hS⟩ : ∃ S, SI l x i = S := ⟨_, rfl⟩
      rw [hS] at EN O0 LN ⊢
      clear hS
      obtain ⟨m, dn⟩ := S
      dsimp only at EN O0 LN ⊢
      generalize wr = w0 at *
      cases dn with
      | true =>
        rw [if_pos rfl] at EN
        subst EN
        have FIN := Lib.hid (show w0.ownsRow w.heap.size 68 6 (.slice oa (setF l x).length oc) (setF l x).length ((setF l x).flatMap enc6) ∧ Below w.heap.size w w0 from ⟨⟨O0.out.1, O0.out.2.imp id fun ⟨g, cap, cur, h1, h2, h3⟩ => ⟨g, cap, cur, h1, by have := B.out.size; omega, h3⟩⟩, B.out.trans (K0.out.mono B.out.size)⟩)
        go_wp2
        go_returns
        exact ⟨_, rfl, FIN.out.1, FIN.out.2⟩
      | false =>
        rw [if_neg (by decide)] at EN
        obtain ⟨e1, e2⟩ := SF.out _ K0.out
        obtain ⟨e3, e4, e5, e6⟩ := EF.out _ K0.out
        obtain ⟨ms2, hms2⟩ : ∃ ms, (m) ++ [x] = ms := ⟨_, rfl⟩
        have MS2 := Lib.hid hms2
        clear hms2
        have OX2 := Lib.hid (own_belowK O0.out (vstep w0 (.cells #[.int .i64 x.t, .int .i64 x.r, .int .i64 x.pt, .int .i64 x.pr, .string x.nm, .bool x.d] 68)))
        have HX2 := Lib.hid (show (w0.alloc (.cells #[.int .i64 x.t, .int .i64 x.r, .int .i64 x.pt, .int .i64 x.pr, .string x.nm, .bool x.d] 68)).heap[w0.heap.size]? = some (.cells (enc6 x).toArray 68 (0, 0)) from heap_alloc_new w0 _)
        have QX2 := Lib.hid (And.intro (show (m).length + 1 ≤ maxLen from by have := LN.out;  unfold maxLen; (try simp only [List.length_append, List.length_cons, List.length_nil]); omega) (And.intro (show ((m).length + 1) * 56 ≤ 140737488355328 from by have := LN.out;  (try simp only [List.length_append, List.length_cons, List.length_nil]); omega) (show W0.heap.size ≤ (w0.alloc (.cells #[.int .i64 x.t, .int .i64 x.r, .int .i64 x.pt, .int .i64 x.pr, .string x.nm, .bool x.d] 68)).heap.size from by have := K0.out.size; simp; omega)))
        go_wp2_with (at_builtin; refine wpList_pushK rfl (.tmp 50) (.tmp 54) 22 rfl enc6_len (by decide) enc6_one W0.heap.size 68 i0 (.agg #[.int .i64 0, .int .i64 0, .int .i64 0, .int .i64 0, .string ⟨#[]⟩, .bool false]) 56 Try.u27 hi9 hz0 hz1 hz2 rfl _ (m) x w0.heap.size rfl rfl HX2.out OX2.out QX2.out.1 QX2.out.2.1 QX2.out.2.2 ?_; intro v2 w2 hown hgr; rw [MS2.out] at hown; obtain ⟨va2, vc2, rfl⟩ := own_shapeK hown; have O2 := Lib.hid hown; have K2 := Lib.hid (push_ok K0.out O0.out (Nat.le_refl _) hgr); clear hown hgr)
        have FIN := Lib.hid (show w2.ownsRow w.heap.size 68 6 (.slice va2 ms2.length vc2) (setF l x).length ((setF l x).flatMap enc6) ∧ Below w.heap.size w w2 from by
          rw [← EN, MS2.out]
          exact ⟨⟨O2.out.1, O2.out.2.imp id fun ⟨g, cap, cur, h1, h2, h3⟩ => ⟨g, cap, cur, h1, by have := B.out.size; omega, h3⟩⟩, B.out.trans (K2.out.mono B.out.size)⟩)
        clear e1 e2 e3 e4 e5 e6
        go_wp2
        go_returns
        exact ⟨_, rfl, FIN.out.1, FIN.out.2⟩
end Go.Proofs.Ythbmbpnpigpgpaa

