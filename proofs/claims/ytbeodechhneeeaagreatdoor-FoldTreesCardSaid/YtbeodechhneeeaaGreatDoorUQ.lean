/- The reference's has and Unique, walked. Made by genuq14.py. -/
import Derived.Test.YtbeodechhneeeaaGreatDoorLF
set_option linter.unusedVariables false
set_option linter.unusedSimpArgs false
set_option maxRecDepth 100000
namespace Go.Proofs.YtbeodechhneeeaaGreatDoor
open Go.RowKit Go.Shelf
open Tb (Rw TabI TM LiesK)

set_option maxHeartbeats 3200000 in
theorem hasO_any (w : World) (v : Value) (l : List O) (h : OLies w v l) (t r : Int) (hl : l.length ≤ 100000) :
    Calls Tryz.prog 81 #[v, .agg #[.int .i64 t, .int .i64 r]] w fun e w' => e = .returned (.bool (hasO l t r)) ∧ Below w.heap.size w w' := by
  have hb := pl_vstep w (.cells #[.int .i64 t, .int .i64 r] 31)
  have hn := heap_alloc_new w (.cells #[.int .i64 t, .int .i64 r] 31)
  obtain ⟨w0, hw0⟩ : ∃ z, w.alloc (.cells #[.int .i64 t, .int .i64 r] 31) = z := ⟨_, rfl⟩
  rw [hw0] at hb hn
  have HW := Lib.hid hw0
  have H := Lib.hid (h.step hb)
  have B0 := Lib.hid hb
  have BX := Lib.hid (fun W (hb : Below w0.heap.size w0 W) => ldSt ((hb.block _ (pl_lt hn)).trans hn))
  obtain ⟨ao, cap, rfl⟩ := h.shape
  clear hw0 hb hn h
  go_enter Tryz.func81, Tryz.ntmps81
  go_upto_region 1 with (fail)
  rw [HW.out]
  go_wp2_with fail
  go_loopw [5] (fun iv wr => ∃ i : Nat, iv = .int .i64 i ∧ i ≤ l.length ∧ Hid (Below w0.heap.size w0 wr ∧ hasO (l.take i) t r = false)) (fun iv _ => l.length - (intOf iv).toNat)
  case atStart => exact ⟨0, rfl, by omega, Lib.hid ⟨Below.refl _ _, rfl⟩⟩
  case round =>
    obtain ⟨i, rfl, hi, K⟩ := hrel
    by_cases hlt : i < l.length
    · have hi0 : (0 : Int) ≤ (i : Int) := by omega
      have hi1 : (i : Int) < (l.length : Int) := by omega
      have hd : decide ((i : Int) < (l.length : Int)) = true := decide_eq_true hi1
      have HLS := Lib.hid (show i + 1 ≤ l.length from hlt)
      have HW9 := Lib.hid (wrap_nat hlt hl)
      have HMS := Lib.hid (meas_nat hlt)
      obtain ⟨g, k, x, rfl, hx, hg, hc⟩ := (H.out.step K.out.1).atK hlt
      have LA := Lib.hid (fun W (hb : Below wr.heap.size wr W) => @ld24 W g (k + i * 9) x.t x.r ((hb.cell (p := ⟨g, k + i * 9 + 0, none⟩) hg).trans (hc 0 _ rfl)) ((hb.cell (p := ⟨g, k + i * 9 + 1, none⟩) hg).trans (hc 1 _ rfl)))
      have LB := Lib.hid (fun W (hb : Below wr.heap.size wr W) => BX.out W (K.out.1.trans (hb.mono K.out.1.size)))
      have IX := Lib.hid (fun W => @ix30 g k l.length cap i hlt W)
      have TS := Lib.hid (show l.take (i + 1) = l.take i ++ [x] from by
        obtain ⟨h1, h2⟩ := List.getElem?_eq_some_iff.1 hx
        rw [List.take_succ_eq_append_getElem h1, h2])
      have MX := Lib.hid (List.mem_of_getElem? hx)
      clear hx hg hc
      by_cases he : x.t = t ∧ x.r = r
      · have E24 := Lib.hid (fun W => (eq24 x.t x.r t r W).trans (by rw [decide_eq_true he]))
        have HR := Lib.hid (show hasO l t r = true from List.any_eq_true.2 ⟨x, MX.out, decide_eq_true he⟩)
        clear he
        go_upto_region 4 with (fail)
        refine wp_region_held_drew (S := fun w' => Below wr.heap.size wr w') (by kernel_rfl) (Below.refl _ _).drew (fun hHeld => ?_)
        have BV := Lib.hid (show Below wr.heap.size wr wr.drew from (Below.refl _ _).drew)
        clear hHeld
        refine take_at (i := 0) 12 ?_ rfl rfl (by kernel_rfl) (by kernel_rfl) (by kernel_rfl) (fun _ _ _ h => h) (.inl ⟨rfl, ?_⟩) BV.out ?_
        rotate_left 1
        · intro w hSw; go_simp; try with_reducible rfl
        simp only [Act.put, List.setIfInBounds_toArray, List.set_cons_zero, List.set_cons_succ]
        refine take_at (i := 1) 13 ?_ rfl rfl (by kernel_rfl) (by kernel_rfl) (by kernel_rfl) (fun _ _ _ h => h) (.inl ⟨rfl, ?_⟩) BV.out ?_
        rotate_left 1
        · intro w hSw; go_simp; try with_reducible rfl
        simp only [Act.put, List.setIfInBounds_toArray, List.set_cons_zero, List.set_cons_succ]
        refine take_at (i := 2) 14 (.pointer (some ⟨g, k + i * 9, none⟩)) rfl rfl (by kernel_rfl) (by kernel_rfl) (by kernel_rfl) (fun _ _ _ h => h) (yields_ix (.tmp 12) (.tmp 13) 22 (.slice (some ⟨g, k, none⟩) l.length cap) (.int .i64 (i : Int)) _ IX.out rfl rfl rfl rfl) BV.out ?_
        simp only [Act.put, List.setIfInBounds_toArray, List.set_cons_zero, List.set_cons_succ]
        refine take_at (i := 3) 15 ?_ rfl rfl (by kernel_rfl) (by kernel_rfl) (by kernel_rfl) (fun _ _ _ h => h) (.inl ⟨rfl, ?_⟩) BV.out ?_
        rotate_left 1
        · intro w hSw; go_simp; try with_reducible rfl
        simp only [Act.put, List.setIfInBounds_toArray, List.set_cons_zero, List.set_cons_succ]
        refine take_at (i := 4) 16 (.agg #[.int .i64 x.t, .int .i64 x.r]) rfl rfl (by kernel_rfl) (by kernel_rfl) (by kernel_rfl) (fun _ _ _ h => h) (yields_ld (.tmp 15) 31 (.pointer (some ⟨g, k + i * 9, none⟩)) _ LA.out rfl rfl rfl) BV.out ?_
        simp only [Act.put, List.setIfInBounds_toArray, List.set_cons_zero, List.set_cons_succ]
        refine take_at (i := 5) 17 (.agg #[.int .i64 t, .int .i64 r]) rfl rfl (by kernel_rfl) (by kernel_rfl) (by kernel_rfl) (fun _ _ _ h => h) (yields_ld (.tmp 3) 31 (.pointer (some ⟨w.heap.size, 0, none⟩)) _ LB.out rfl rfl rfl) BV.out ?_
        simp only [Act.put, List.setIfInBounds_toArray, List.set_cons_zero, List.set_cons_succ]
        refine take_at (i := 6) 18 (.bool true) rfl rfl (by kernel_rfl) (by kernel_rfl) (by kernel_rfl) (fun _ _ _ h => h) (yields_bin .eql (.tmp 16) (.tmp 17) 31 31 (.agg #[.int .i64 x.t, .int .i64 x.r]) (.agg #[.int .i64 t, .int .i64 r]) _ E24.out (g24 _ _ _ _) rfl rfl rfl rfl) BV.out ?_
        simp only [Act.put, List.setIfInBounds_toArray, List.set_cons_zero, List.set_cons_succ]
        refine wpAnyH_done (by kernel_rfl) ?_ _
        have FB := Lib.hid (B0.out.trans ((K.out.1.trans (BV.out.mono K.out.1.size)).mono B0.out.size))
        clear BV
        go_wp2
        go_returns
        exact ⟨by rw [HR.out]; rfl, FB.out⟩
      · have E24 := Lib.hid (fun W => (eq24 x.t x.r t r W).trans (by rw [decide_eq_false he]))
        have HR := Lib.hid (show hasO (l.take (i + 1)) t r = false from by
          have h1 := K.out.2
          unfold hasO at *
          rw [TS.out, List.any_append, h1]
          show (false || (decide (x.t = t ∧ x.r = r) || false)) = false
          rw [decide_eq_false he]
          rfl)
        clear he
        go_upto_region 4 with (fail)
        refine wp_region_held_drew (S := fun w' => Below wr.heap.size wr w') (by kernel_rfl) (Below.refl _ _).drew (fun hHeld => ?_)
        have BV := Lib.hid (show Below wr.heap.size wr wr.drew from (Below.refl _ _).drew)
        clear hHeld
        refine take_at (i := 0) 12 ?_ rfl rfl (by kernel_rfl) (by kernel_rfl) (by kernel_rfl) (fun _ _ _ h => h) (.inl ⟨rfl, ?_⟩) BV.out ?_
        rotate_left 1
        · intro w hSw; go_simp; try with_reducible rfl
        simp only [Act.put, List.setIfInBounds_toArray, List.set_cons_zero, List.set_cons_succ]
        refine take_at (i := 1) 13 ?_ rfl rfl (by kernel_rfl) (by kernel_rfl) (by kernel_rfl) (fun _ _ _ h => h) (.inl ⟨rfl, ?_⟩) BV.out ?_
        rotate_left 1
        · intro w hSw; go_simp; try with_reducible rfl
        simp only [Act.put, List.setIfInBounds_toArray, List.set_cons_zero, List.set_cons_succ]
        refine take_at (i := 2) 14 (.pointer (some ⟨g, k + i * 9, none⟩)) rfl rfl (by kernel_rfl) (by kernel_rfl) (by kernel_rfl) (fun _ _ _ h => h) (yields_ix (.tmp 12) (.tmp 13) 22 (.slice (some ⟨g, k, none⟩) l.length cap) (.int .i64 (i : Int)) _ IX.out rfl rfl rfl rfl) BV.out ?_
        simp only [Act.put, List.setIfInBounds_toArray, List.set_cons_zero, List.set_cons_succ]
        refine take_at (i := 3) 15 ?_ rfl rfl (by kernel_rfl) (by kernel_rfl) (by kernel_rfl) (fun _ _ _ h => h) (.inl ⟨rfl, ?_⟩) BV.out ?_
        rotate_left 1
        · intro w hSw; go_simp; try with_reducible rfl
        simp only [Act.put, List.setIfInBounds_toArray, List.set_cons_zero, List.set_cons_succ]
        refine take_at (i := 4) 16 (.agg #[.int .i64 x.t, .int .i64 x.r]) rfl rfl (by kernel_rfl) (by kernel_rfl) (by kernel_rfl) (fun _ _ _ h => h) (yields_ld (.tmp 15) 31 (.pointer (some ⟨g, k + i * 9, none⟩)) _ LA.out rfl rfl rfl) BV.out ?_
        simp only [Act.put, List.setIfInBounds_toArray, List.set_cons_zero, List.set_cons_succ]
        refine take_at (i := 5) 17 (.agg #[.int .i64 t, .int .i64 r]) rfl rfl (by kernel_rfl) (by kernel_rfl) (by kernel_rfl) (fun _ _ _ h => h) (yields_ld (.tmp 3) 31 (.pointer (some ⟨w.heap.size, 0, none⟩)) _ LB.out rfl rfl rfl) BV.out ?_
        simp only [Act.put, List.setIfInBounds_toArray, List.set_cons_zero, List.set_cons_succ]
        refine take_at (i := 6) 18 (.bool false) rfl rfl (by kernel_rfl) (by kernel_rfl) (by kernel_rfl) (fun _ _ _ h => h) (yields_bin .eql (.tmp 16) (.tmp 17) 31 31 (.agg #[.int .i64 x.t, .int .i64 x.r]) (.agg #[.int .i64 t, .int .i64 r]) _ E24.out (g24 _ _ _ _) rfl rfl rfl rfl) BV.out ?_
        simp only [Act.put, List.setIfInBounds_toArray, List.set_cons_zero, List.set_cons_succ]
        refine wpAnyH_done (by kernel_rfl) ?_ _
        have KF := Lib.hid (And.intro (K.out.1.trans (BV.out.mono K.out.1.size)) HR.out)
        clear BV
        go_wp2
        go_roundw
        case rel => exact ⟨i + 1, by first | (rw [HW9.out]; rfl) | go_num, HLS.out, KF⟩
        case measure => first | (rw [HW9.out]; exact HMS.out) | exact HMS.out
    · have ei : i = l.length := by omega
      subst ei
      have HR := Lib.hid (show hasO l t r = false from by have := K.out.2; rwa [List.take_length] at this)
      have FB := Lib.hid (B0.out.trans (K.out.1.mono B0.out.size))
      go_wp2
      go_returns
      exact ⟨by rw [HR.out]; rfl, FB.out⟩

noncomputable def uqO (u : List O) (o : O) : List O := if rO o = true ∧ hasO u o.t o.r = false then u ++ [o] else u
noncomputable def uniqF (l : List O) : List O := l.foldl uqO []
theorem uniq_snoc (l : List O) (i : Nat) (x : O) (h : l[i]? = some x) : uniqF (l.take (i + 1)) = uqO (uniqF (l.take i)) x := by
  obtain ⟨hlt, e⟩ := List.getElem?_eq_some_iff.1 h
  unfold uniqF
  rw [List.take_succ_eq_append_getElem hlt, List.foldl_append, e]
  rfl
/-- What Unique gives. -/
structure UQ (l u : List O) : Prop where
  len : u.length ≤ l.length
  mem : ∀ o ∈ u, o ∈ l
  right : ∀ o ∈ u, rO o = true
  one : u.Pairwise (fun a b => ¬ (a.t = b.t ∧ a.r = b.r))
theorem uq_step {l u : List O} (h : UQ l u) (o : O) : UQ (l ++ [o]) (uqO u o) := by
  obtain ⟨h1, h2, h3, h4⟩ := h
  unfold uqO
  split
  · rename_i hq
    refine ⟨by simp; omega, fun a ha => ?_, fun a ha => ?_, ?_⟩
    · rcases List.mem_append.1 ha with ha | ha
      · exact List.mem_append_left _ (h2 a ha)
      · exact List.mem_append_right _ ha
    · rcases List.mem_append.1 ha with ha | ha
      · exact h3 a ha
      · rw [List.mem_singleton.1 ha]; exact hq.1
    · refine List.pairwise_append.2 ⟨h4, List.pairwise_singleton _ _, fun a ha b hb hc => ?_⟩
      rw [List.mem_singleton.1 hb] at hc
      have := hq.2
      unfold hasO at this
      have h5 := List.any_eq_false.1 this a ha
      exact h5 (decide_eq_true hc)
  · exact ⟨by simp; omega, fun a ha => List.mem_append_left _ (h2 a ha), h3, h4⟩
theorem uq_fold : ∀ (m l u : List O), UQ l u → UQ (l ++ m) (m.foldl uqO u)
  | [], l, u, h => by rw [List.append_nil]; exact h
  | o :: m, l, u, h => by
    have := uq_fold m (l ++ [o]) (uqO u o) (uq_step h o)
    rwa [List.append_assoc] at this
theorem uniq_is (l : List O) : UQ l (uniqF l) := by
  have := uq_fold l [] [] ⟨Nat.le_refl _, fun o h => h, fun o h => (List.not_mem_nil h).elim, List.Pairwise.nil⟩
  exact this
set_option maxHeartbeats 6400000 in
theorem uniq_any (w : World) (v : Value) (l : List O) (h : OLies w v l) (hsz : ∀ o ∈ l, o.nm.size ≤ 9223372036854775807) (hl : l.length ≤ 1000) :
    Calls Tryz.prog 51 #[v] w fun e w' => ∃ r, e = .returned r ∧ w'.ownsRow w.heap.size 33 9 r (uniqF l).length (cs9 (uniqF l)) ∧ Below w.heap.size w w' := by
  obtain ⟨i0, hi9, hz0, hz1, hz2⟩ := info_parts info25
  have H := Lib.hid h
  have HSZ := Lib.hid hsz
  obtain ⟨ao, cap, rfl⟩ := h.shape
  clear h hsz
  go_enter Tryz.func51, Tryz.ntmps51
  go_wp2
  go_loopw [3, 4] (fun ov iv wr => ∃ i : Nat, iv = .int .i64 i ∧ i ≤ l.length ∧ Hid (wr.ownsRow w.heap.size 33 9 ov (uniqF (l.take i)).length (cs9 (uniqF (l.take i))) ∧ Below w.heap.size w wr)) (fun _ iv _ => l.length - (intOf iv).toNat)
  case atStart => exact ⟨0, rfl, Nat.zero_le _, Lib.hid ⟨by simpa [uniqF, cs9] using World.ownsRow_nil _ _ _ _, Below.refl _ _⟩⟩
  case round =>
    obtain ⟨i, rfl, hi, K⟩ := hrel
    obtain ⟨oa, oc, hov⟩ := Ve.own_shape K.out.1
    subst hov
    by_cases hlt : i < l.length
    · have hi0 : (0 : Int) ≤ (i : Int) := by omega
      have hi1 : (i : Int) < (l.length : Int) := by omega
      have hd : decide ((i : Int) < (l.length : Int)) = true := decide_eq_true hi1
      have HLS := Lib.hid (show i + 1 ≤ l.length from hlt)
      have HW9 := Lib.hid (wrap_nat hlt (show l.length ≤ 100000 by omega))
      have HMS := Lib.hid (meas_nat hlt)
      obtain ⟨g, k, x, rfl, hx, hg, hc⟩ := H.out.atK hlt
      have OW := Lib.hid K.out.1
      have BW := Lib.hid K.out.2
      have OC := Lib.hid (fun W (hb : Below w.heap.size w W) => (show (Instr.loadAt 33 (.pointer (some ⟨g, k + i * 9, none⟩))).run Tryz.prog W = .ok (.agg #[.int .i64 x.t, .int .i64 x.r, .int .i64 x.q, .int .i64 x.nt, .int .i64 x.nr, .int .i64 x.pt, .int .i64 x.pr, .string x.nm, .bool x.d]) W from @ldO W g (k + i * 9) x (fun j u hu => (hb.cell (p := ⟨g, k + i * 9 + j, none⟩) hg).trans (hc j u hu))))
      have CS := Lib.hid (fun W (hb : Below w.heap.size w W) => (show W.cell? ⟨g, k + i * 9, none⟩ = some (.int .i64 x.t) ∧ W.cell? ⟨g, k + i * 9 + 1, none⟩ = some (.int .i64 x.r) from ⟨(hb.cell (p := ⟨g, k + i * 9 + 0, none⟩) hg).trans (hc 0 _ rfl), (hb.cell (p := ⟨g, k + i * 9 + 1, none⟩) hg).trans (hc 1 _ rfl)⟩))
      have SN := Lib.hid (uniq_snoc l i x hx)
      have RT := Lib.hid (rright_big wr x.t x.r x.q x.nt x.nr x.pt x.pr x.nm x.d (HSZ.out x (List.mem_of_getElem? hx)))
      have LU := Lib.hid (show (uniqF (l.take i)).length ≤ 1000 from by have := (uniq_is (l.take i)).len; rw [List.length_take] at this; omega)
      obtain ⟨u, hu⟩ : ∃ z, uniqF (l.take i) = z := ⟨_, rfl⟩
      rw [hu] at OW SN LU
      have UE : uqO u x = if rO x = true ∧ hasO u x.t x.r = false then u ++ [x] else u := rfl
      have RB : rO x = rB x.t x.r x.q x.nt x.nr x.pt x.pr x.nm := rfl
      rw [← RB] at RT
      try rw [hu]
      obtain ⟨rb, hrb⟩ : ∃ z, rO x = z := ⟨_, rfl⟩
      rw [hrb] at RT UE
      clear hx hg hc K hu RB hrb
      go_wp2_with (first | (refine Ve.wpList_load_arr rfl (.tmp 13) 33 rfl (.pointer (some ⟨g, k + i * 9, none⟩)) (.agg #[.int .i64 x.t, .int .i64 x.r, .int .i64 x.q, .int .i64 x.nt, .int .i64 x.nr, .int .i64 x.pt, .int .i64 x.pr, .string x.nm, .bool x.d]) rfl (OC.out wr BW.out) ?_))
      refine RT.out.mono ?_
      rintro e w5 ⟨rfl, hb⟩
      have OW5 := Lib.hid (own_below OW.out hb)
      have BW5 := Lib.hid (BW.out.trans (hb.mono BW.out.size))
      clear hb OW BW RT
      cases rb with
      | false =>
        have FIN := Lib.hid (show w5.ownsRow w.heap.size 33 9 (.slice oa u.length oc) (uniqF (l.take (i + 1))).length (cs9 (uniqF (l.take (i + 1)))) ∧ Below w.heap.size w w5 from by
          rw [SN.out, UE, if_neg (by simp)]
          exact ⟨OW5.out, BW5.out⟩)
        clear UE
        go_wp2
        go_roundw
        case rel => exact ⟨i + 1, by first | (rw [HW9.out]; rfl) | go_num, HLS.out, FIN⟩
        case measure => first | (rw [HW9.out]; exact HMS.out) | exact HMS.out
      | true =>
        have HA := Lib.hid (hasO_any w5 (.slice oa u.length oc) u (own_olies OW5.out) x.t x.r (by have := LU.out; omega))
        obtain ⟨hs, hhs⟩ : ∃ z, hasO u x.t x.r = z := ⟨_, rfl⟩
        rw [hhs] at HA UE
        clear hhs
        obtain ⟨c0, c1⟩ := CS.out w5 BW5.out
        go_wp2_with fail
        refine HA.out.mono ?_
        rintro e w6 ⟨rfl, hb⟩
        have OW6 := Lib.hid (own_below OW5.out hb)
        have BW6 := Lib.hid (BW5.out.trans (hb.mono BW5.out.size))
        clear hb OW5 BW5 HA c0 c1
        cases hs with
        | true =>
          have FIN := Lib.hid (show w6.ownsRow w.heap.size 33 9 (.slice oa u.length oc) (uniqF (l.take (i + 1))).length (cs9 (uniqF (l.take (i + 1)))) ∧ Below w.heap.size w w6 from by
            rw [SN.out, UE, if_neg (by simp)]
            exact ⟨OW6.out, BW6.out⟩)
          clear UE
          go_wp2
          go_roundw
          case rel => exact ⟨i + 1, by first | (rw [HW9.out]; rfl) | go_num, HLS.out, FIN⟩
          case measure => first | (rw [HW9.out]; exact HMS.out) | exact HMS.out
        | false =>
          have EQ := Lib.hid (show uniqF (l.take (i + 1)) = u ++ [x] from by rw [SN.out, UE, if_pos (by simp)])
          clear UE SN
          have OX7 := Lib.hid (own_below OW6.out (vstep w6 (.cells #[.int .i64 x.t, .int .i64 x.r, .int .i64 x.q, .int .i64 x.nt, .int .i64 x.nr, .int .i64 x.pt, .int .i64 x.pr, .string x.nm, .bool x.d] 33)))
          have bso7 := bs_op w6 x
          have SR7 := Lib.hid (one_op w6 x).src
          have Q7 := Lib.hid (And.intro (show u.length + 1 ≤ maxLen from by have := LU.out; unfold maxLen; omega) (And.intro (show (u.length + 1) * 80 ≤ 140737488355328 from by have := LU.out; omega) (show w.heap.size ≤ (w6.alloc (.cells #[.int .i64 x.t, .int .i64 x.r, .int .i64 x.q, .int .i64 x.nt, .int .i64 x.nr, .int .i64 x.pt, .int .i64 x.pr, .string x.nm, .bool x.d] 33)).heap.size from Nat.le_trans BW6.out.size (vstep w6 (.cells #[.int .i64 x.t, .int .i64 x.r, .int .i64 x.q, .int .i64 x.nt, .int .i64 x.nr, .int .i64 x.pt, .int .i64 x.pr, .string x.nm, .bool x.d] 33)).size)))
          have L6 := Lib.hid (OC.out w6 BW6.out)
          go_wp2_with (first
            | (refine Ve.wpList_load_arr rfl (.tmp 29) 33 rfl (.pointer (some ⟨g, k + i * 9, none⟩)) (.agg #[.int .i64 x.t, .int .i64 x.r, .int .i64 x.q, .int .i64 x.nt, .int .i64 x.nr, .int .i64 x.pt, .int .i64 x.pr, .string x.nm, .bool x.d]) rfl L6.out ?_)
            | (at_builtin; refine Wi.wpList_append_src_own rfl (.tmp 26) (.tmp 31) 22 22 rfl w.heap.size 33 i0 (oV O0) 9 80 Tryz.u27 hi9 hz0 hz1 hz2 rfl (by decide) _ _ _ rfl OX7.out _ 1 (cs9 [x]) rfl SR7.out Q7.out.1 Q7.out.2.1 Q7.out.2.2 ?_; intro v8 w8 hown hgr hsp; obtain ⟨va8, vc8, rfl⟩ := Ve.own_shape hown; have P8 := Lib.hid (push_own OW6.out BW6.out.size hown hgr); clear hown hgr hsp))
          have FIN := Lib.hid (show w8.ownsRow w.heap.size 33 9 (.slice va8 (u.length + 1) vc8) (uniqF (l.take (i + 1))).length (cs9 (uniqF (l.take (i + 1)))) ∧ Below w.heap.size w w8 from by
            rw [EQ.out]
            exact ⟨P8.out.1, BW6.out.trans P8.out.2⟩)
          go_roundw
          case rel => exact ⟨i + 1, by first | (rw [HW9.out]; rfl) | go_num, HLS.out, FIN⟩
          case measure => first | (rw [HW9.out]; exact HMS.out) | exact HMS.out
    · have ei : i = l.length := by omega
      subst ei
      have FIN := Lib.hid K.out
      simp only [List.take_length] at FIN ⊢
      clear K
      go_wp2
      go_returns
      exact ⟨_, rfl, FIN.out.1, FIN.out.2⟩
end Go.Proofs.YtbeodechhneeeaaGreatDoor


