/- The reference's Ready. Made by gengp28.py. -/
import Derived.Test.YtgnnpfainoppeaaGO
set_option linter.unusedVariables false
set_option linter.unusedSimpArgs false
set_option maxRecDepth 100000
namespace Go.Proofs.Ytgnnpfainoppeaa
open Go.RowKit Go.WideMaps Go.Maps
open Ve (zs zs_len vw va RightP cs3 cs3_append)

/-- The reference's Ready, its list gone through: two rows. -/
structure RK2 (w wr : World) (ks : List Int) (p1 : Value) (c1 : List O) (p2 : Value) (c2 : List O) : Prop where
  bel : Below w.heap.size w wr
  vb : wr.heap[w.heap.size]? = some (.cells (va ks) 28 (0, 0))
  r1 : wr.ownsRow (w.heap.size + 1) 35 9 p1 c1.length (cs9 c1)
  r2 : wr.ownsRow (w.heap.size + 1) 35 9 p2 c2.length (cs9 c2)
  ap : ∀ m, p1.ownBlock = some m → p2.ownBlock ≠ some m
  big : w.heap.size + 1 ≤ wr.heap.size
theorem RK2.swap {w wr : World} {ks : List Int} {p1 p2 : Value} {c1 c2 : List O} (h : RK2 w wr ks p1 c1 p2 c2) : RK2 w wr ks p2 c2 p1 c1 := ⟨h.bel, h.vb, h.r2, h.r1, fun m e q => h.ap m q e, h.big⟩
theorem RK2.step {w wr w' : World} {ks : List Int} {p1 p2 : Value} {c1 c2 : List O} (h : RK2 w wr ks p1 c1 p2 c2) (hb : Below wr.heap.size wr w') : RK2 w w' ks p1 c1 p2 c2 :=
  ⟨h.bel.trans (hb.mono h.bel.size), (hb.block _ (lt_of_block h.vb)).trans h.vb, own_keep h.r1 hb, own_keep h.r2 hb, h.ap, Nat.le_trans h.big hb.size⟩
theorem RK2.push {w W : World} {ks : List Int} {p1 p2 : Value} {c1 c2 : List O} (h : RK2 w W ks p1 c1 p2 c2) (hl : c1.length ≤ 1000000) (k : Nat) (x : O) (hk : W.heap[k]? = some (.cells (oCells x) 35 (0, 0))) :
    ∃ a c W1, (Builtin.append_ #[27, 27] 27 #[p1, .slice (some ⟨k, 0, none⟩) 1 1]).run Try.prog W = .ok (.slice a (c1.length + 1) c) W1 ∧ RK2 w W1 ks (.slice a (c1.length + 1) c) (c1 ++ [x]) p2 c2 := by
  obtain ⟨i0, hi0, hz0, hz1, hz2⟩ := Ve.info_parts info35
  obtain ⟨v', W1, hr, ho, hgr, hsp⟩ := Wi.run_append_src_own (P := Try.prog) W (w.heap.size + 1) 27 27 27 35 i0 (oV O0) 9 80 Try.u27' hi0 hz0 hz1 hz2 rfl (by decide) p1 c1.length (cs9 c1) h.r1 (.slice (some ⟨k, 0, none⟩) 1 1) 1 (cs9 [x]) (one_olies hk).src (by unfold maxLen; omega) (by omega) h.big
  obtain ⟨a, c, rfl⟩ := Ve.own_shape ho
  have hlt := own_lt h.r1
  have hf : Far (fun k => p1.ownBlock = some k) W W1 := Far.of_grown hgr (fun k e => e)
  refine ⟨a, c, W1, hr, h.bel.grown hgr h.bel.size (fun m e => by have := (hlt m e).1; omega), (hf.block _ (lt_of_block h.vb) (fun e => by have := (hlt _ e).1; omega)).trans h.vb, ?_, hf.row h.r2 (fun m e q => h.ap m q e), fun m e q => ?_, Nat.le_trans h.big hgr.size⟩
  · rw [List.length_append, cs9_append]
    exact ho
  · rcases hsp with hs | ⟨k', hs, hk'⟩
    · rw [hs] at e; exact h.ap m e q
    · rw [hs] at e; injection e with e; have := (own_lt h.r2 m q).2; omega
theorem whole_step {l : List O} {k r n : Int} : (∀ m, k < m → m < n + 1 → atG l r m = true) ↔ (∀ m, k < m → m < n → atG l r m = true) ∧ (k < n → atG l r n = true) := by
  constructor
  · exact fun h => ⟨fun m h1 h2 => h m h1 (by omega), fun h1 => h n h1 (by omega)⟩
  · rintro ⟨h1, h2⟩ m h3 h4
    by_cases e : m = n
    · rw [e] at h3 ⊢; exact h2 h3
    · exact h1 m h3 (by omega)
theorem rdyR_take (l : List O) (k : Int → Int) (most : Int) {i : Nat} {x : O} (h : l[i]? = some x) : (l.take (i + 1)).foldl (rdyS l k most) ([], []) = rdyS l k most ((l.take i).foldl (rdyS l k most) ([], [])) x := by
  rw [Ve.take_snoc' l i x h, List.foldl_append]
  rfl
theorem rdyS_len (l : List O) (k : Int → Int) (most : Int) (s : List O × List O) (o : O) : (rdyS l k most s o).1.length ≤ s.1.length + 1 ∧ (rdyS l k most s o).2.length ≤ s.2.length + 1 := by
  unfold rdyS
  split
  · omega
  · split
    · simp
    · simp
set_option maxHeartbeats 12800000 in
theorem rready_any (w : World) (v : Value) (l : List O) (hv : OLies w v l) (hl : l.length ≤ 100000) (hr : OkO l) (ks : List Int) (hk : ks.length = 64) (hp : RightP ks) (most : Int) :
    Calls Try.prog 13 #[v, vw ks, .int .i64 most] w fun e w' => ∃ v1 v2, e = .returned (.tuple #[v1, v2]) ∧ Below w.heap.size w w' ∧ w'.ownsRow w.heap.size 35 9 v1 (rdyR l (knw ks) most).1.length (cs9 (rdyR l (knw ks) most).1) ∧ w'.ownsRow w.heap.size 35 9 v2 (rdyR l (knw ks) most).2.length (cs9 (rdyR l (knw ks) most).2) := by
  have B1 := vstep w (.cells (va ks) 28)
  have N1 := heap_alloc_new w (.cells (va ks) 28)
  have s1 : (w.alloc (.cells (va ks) 28)).heap.size = w.heap.size + 1 := by simp
  obtain ⟨w0, hw0⟩ : ∃ z, w.alloc (.cells (va ks) 28) = z := ⟨_, rfl⟩
  rw [hw0] at N1 B1 s1
  have K0 := Lib.hid (show RK2 w w0 ks (.slice none 0 0) [] (.slice none 0 0) [] from ⟨B1, N1, World.ownsRow_nil _ _ _ _, World.ownsRow_nil _ _ _ _, (fun m e => by cases e), by omega⟩)
  have V := Lib.hid (fun W (hb : Below w.heap.size w W) => OLies.step hv hb)
  have HR := Lib.hid hr
  have HK := Lib.hid hk
  have HP := Lib.hid hp
  have hlen := hv.len
  have AT := Lib.hid (fun W (hb : Below w.heap.size w W) r q => at_any W v l (hv.step hb) r q)
  have BX := Lib.hid (fun (W : World) (x : O) => bsO W x)
  obtain ⟨ao, cap, rfl⟩ := hv.shape
  have HVW := Lib.hid (show vw ks = .agg (va ks) from rfl)
  rw [HVW.out]
  obtain ⟨VA, hVA⟩ : ∃ z, va ks = z := ⟨_, rfl⟩
  rw [hVA] at hw0 ⊢
  clear hVA N1 B1 s1 hv hr hk hp
  go_enter Try.func13, Try.ntmps13
  go_wp2
  clear hw0
  go_loopw [8, 9, 10] (fun p1 p2 iv wr => ∃ (i : Nat) (c1 c2 : List O) (a1 a2 : Option Addr) (d1 d2 : Nat), iv = .int .i64 i ∧ i ≤ l.length ∧ p1 = .slice a1 c1.length d1 ∧ p2 = .slice a2 c2.length d2 ∧ c1.length ≤ i ∧ c2.length ≤ i ∧ Hid ((l.take i).foldl (rdyS l (knw ks) most) ([], []) = (c1, c2)) ∧ Hid (RK2 w wr ks (.slice a1 c1.length d1) c1 (.slice a2 c2.length d2) c2)) (fun _ _ iv _ => l.length - (intOf iv).toNat)
  case atStart => exact ⟨0, [], [], none, none, 0, 0, rfl, Nat.zero_le _, rfl, rfl, Nat.zero_le _, Nat.zero_le _, Lib.hid rfl, K0⟩
  case round =>
    obtain ⟨i, c1, c2, a1, a2, d1, d2, rfl, hi, rfl, rfl, hc1, hc2, HF, K⟩ := hrel
    by_cases hlt : i < l.length
    · obtain ⟨g, off, x, rfl, hx, hg, hcx⟩ := (V.out wr K.out.bel).atK hlt
      have hxm := HR.out x (List.mem_of_getElem? hx)
      obtain ⟨j, hj, hj64, hkx⟩ := knw_at HK.out hxm.1
      have hks := knw_small HK.out HP.out hxm.1
      have HN := Lib.hid (show (l.take (i + 1)).foldl (rdyS l (knw ks) most) ([], []) = rdyS l (knw ks) most (c1, c2) x by rw [rdyR_take l _ most hx, HF.out])
      have LX := Lib.hid (ldO hcx)
      obtain ⟨a4, w4, s4, b4, r4⟩ := box40 wr x
      have K4 := Lib.hid (K.out.step b4)
      obtain ⟨_, e1, e2⟩ := box3 r4
      have e3 := Ve.cell_va K4.out.vb hkx
      have A4 := Lib.hid a4
      have S4 := Lib.hid s4
      have Q4 := Lib.hid r4
      have TI := Lib.hid (show turn l (knw ks) x = true ↔ knw ks x.r < x.q ∧ whole l (knw ks x.r) x.r x.q from turn_iff)
      have RS := Lib.hid (show rdyS l (knw ks) most (c1, c2) x = (if x.q ≤ knw ks x.r then (c1, c2) else if turn l (knw ks) x = true ∧ (c2.length : Int) < most then (c1, c2 ++ [x]) else (c1 ++ [x], c2)) from rfl)
      obtain ⟨tn, htn⟩ : ∃ z, turn l (knw ks) x = z := ⟨_, rfl⟩
      rw [htn] at TI RS
      obtain ⟨kl, hkl⟩ : ∃ z, knw ks x.r = z := ⟨_, rfl⟩
      rw [hkl] at hks e3 TI RS
      obtain ⟨xr, hxr⟩ : ∃ z, x.r = z := ⟨_, rfl⟩
      obtain ⟨xq, hxq⟩ : ∃ z, x.q = z := ⟨_, rfl⟩
      rw [hxr, hxq] at hxm TI
      rw [hxq] at RS e2
      rw [hxr] at e1 hj
      rw [hj] at e1 TI
      obtain ⟨XV, hXV⟩ : ∃ z, oV x = z := ⟨_, rfl⟩
      rw [hXV] at LX S4
      have HXV := Lib.hid hXV
      have LB := Lib.hid (ldBox Q4.out)
      rw [hXV] at LB
      have hi0 : (0 : Int) ≤ (i : Int) := by omega
      have hi1 : (i : Int) < (l.length : Int) := by omega
      have hj0 : (0 : Int) ≤ (j : Int) := by omega
      have hj1 : (j : Int) < 64 := by omega
      obtain ⟨q1, q2⟩ := hxm.2
      obtain ⟨k0, k1⟩ := hks
      have hw1 : wrap64 (kl + 1) = kl + 1 := by unfold wrap64; omega
      obtain ⟨g4, hg4⟩ : ∃ z, wr.heap.size = z := ⟨_, rfl⟩
      rw [hg4] at A4 S4 Q4 e1 e2 LB
      clear hx hg hcx hxm hkx a4 s4 b4 r4 htn hkl hxr hxq hj hXV K HF
      go_wp2_with (first | (refine wpList_ld rfl (.tmp 22) 35 rfl (pvo g (off + i * 9)) XV rfl LX.out ?_; simp only [Act.put, List.setIfInBounds_toArray, List.set_cons_zero, List.set_cons_succ]) | (refine Ve.wpList_alloc_arr rfl 35 rfl _ _ A4.out ?_; simp only [Act.put, List.setIfInBounds_toArray, List.set_cons_zero, List.set_cons_succ]) | (refine Ve.wpList_store_arr rfl (.tmp 11) (.tmp 23) 35 rfl (pvo g4 0) XV rfl rfl _ S4.out ?_; simp only [Act.put, List.setIfInBounds_toArray, List.set_cons_zero, List.set_cons_succ]))
      clear hg4 A4 S4 LX
      go_loop [12, 13] (fun bv nv => ∃ (n : Int) (bb : Bool), nv = .int .i64 n ∧ bv = .bool bb ∧ kl + 1 ≤ n ∧ (n = kl + 1 ∨ n ≤ xq) ∧ Hid (bb = true ↔ ∀ m, kl < m → m < n → atG l (j : Int) m = true) ∧ Hid (bb = false → n ≤ xq)) (fun _ nv => (xq - intOf nv).toNat)
      case atStart => exact ⟨kl + 1, true, by first | rfl | rw [hw1], rfl, Int.le_refl _, .inl rfl, Lib.hid ⟨fun _ m h1 h2 => by omega, fun _ => rfl⟩, Lib.hid (fun h => by cases h)⟩
      case round =>
        obtain ⟨n, bb, rfl, rfl, hn1, hn2, HBB, HBF⟩ := hrel
        by_cases hnq : n < xq
        · cases bb with
          | true =>
            have A1 := Lib.hid (AT.out w4 K4.out.bel (j : Int) n)
            obtain ⟨ga, hga⟩ : ∃ z, atG l (j : Int) n = z := ⟨_, rfl⟩
            have HGA := Lib.hid hga
            rw [hga] at A1
            have hw3 : wrap64 (n + 1) = n + 1 := by unfold wrap64; omega
            clear hga
            go_wp2_with fail
            refine A1.out.mono ?_
            rintro e w5 ⟨rfl, rfl⟩
            have HB2 := Lib.hid (show ga = true ↔ ∀ m, kl < m → m < n + 1 → atG l (j : Int) m = true by
              rw [whole_step, HGA.out]
              exact ⟨fun h => ⟨HBB.out.1 (by first | rfl | trivial), fun _ => h⟩, fun h => h.2 (by omega)⟩)
            go_wp2
            go_round
            case rel => exact ⟨n + 1, ga, by first | rfl | rw [hw3], rfl, by omega, .inr (by omega), HB2, Lib.hid (fun _ => by omega)⟩
            case measure => simp [intOf]; omega
          | false =>
            have TB := Lib.hid (show kl < xq → tn = false from fun _ => by
              cases h : tn with
              | false => rfl
              | true =>
                have h2 := (TI.out.1 h).2
                have h3 := HBB.out.2 (fun m m1 m2 => h2 m m1 (by omega))
                first | cases h3 | exact absurd h3 (by simp))
            clear TI HBB HBF
            go_upto_region 12 with fail
            go_quiet (fail)
            have K5 := Lib.hid (K4.out.step (below_drewN w4 nq))
            have LB5 := Lib.hid (show (Instr.loadAt 35 (pvo g4 0)).run Try.prog (w4.drewN nq) = .ok XV (w4.drewN nq) from by rw [← HXV.out]; exact ldBox (((below_drewN w4 nq).block _ (lt_of_block Q4.out)).trans Q4.out))
            obtain ⟨w5, hw5⟩ : ∃ z, w4.drewN nq = z := ⟨_, rfl⟩
            rw [hw5] at K5 LB5 ⊢
            clear hw5 K4 LB e1 e2 e3
            have hq : ¬ (xq ≤ kl) := by omega
            have TE := Lib.hid (TB.out (by omega))
            have HN2 := Lib.hid (show (l.take (i + 1)).foldl (rdyS l (knw ks) most) ([], []) = (c1 ++ [x], c2) by rw [HN.out, RS.out, if_neg hq, if_neg (by rw [TE.out]; simp)])
            have BS := Lib.hid (BX.out w5 x)
            have VB := vstep w5 (.cells (oCells x) 35)
            have NB := heap_alloc_new w5 (.cells (oCells x) 35)
            have KE := K5.out.step VB
            obtain ⟨we, hwe⟩ : ∃ z, w5.alloc (.cells (oCells x) 35) = z := ⟨_, rfl⟩
            rw [hwe] at VB NB KE BS
            obtain ⟨kb, hkb⟩ : ∃ z, w5.heap.size = z := ⟨_, rfl⟩
            rw [hkb] at NB BS
            obtain ⟨a6, c6, w6, r6, k6⟩ := KE.push (by omega) kb x NB
            have R6 := Lib.hid r6
            have LN := Lib.hid (show (c1 ++ [x]).length = c1.length + 1 by rw [List.length_append]; rfl)
            rw [← LN.out] at k6
            have K6 := Lib.hid k6
            rw [HXV.out] at BS
            clear r6 k6 hkb hwe NB KE VB hq
            go_wp2_with (first | (refine wpList_ld rfl (.tmp 11) 35 rfl (pvo g4 0) XV rfl LB5.out ?_; simp only [Act.put, List.setIfInBounds_toArray, List.set_cons_zero, List.set_cons_succ]) | (refine wpList_bs rfl 27 (.tmp 65) rfl XV rfl (.slice (some ⟨kb, 0, none⟩) 1 1) _ BS.out ?_; simp only [Act.put, List.setIfInBounds_toArray, List.set_cons_zero, List.set_cons_succ]) | (at_builtin; refine Lib.wpList_append_run _ rfl (.tmp 64) (.tmp 66) 27 27 rfl (.slice a1 c1.length d1) (.slice (some ⟨kb, 0, none⟩) 1 1) rfl rfl _ _ R6.out ?_; simp only [Act.put, List.setIfInBounds_toArray, List.set_cons_zero, List.set_cons_succ]))
            go_roundw
            case rel => exact ⟨i + 1, c1 ++ [x], c2, a6, a2, c6, d2, by go_num, by omega, by first | rfl | rw [LN.out], by first | rfl | rw [LN.out], by first | omega | (rw [LN.out]; omega), by first | omega | (rw [LN.out]; omega), HN2, K6⟩
            case measure => simp [intOf]; omega
        · cases bb with
          | true =>
            have TB := Lib.hid (show kl < xq → tn = true from fun h1 => TI.out.2 ⟨h1, fun m m1 m2 => HBB.out.1 (by first | rfl | trivial) m m1 (by omega)⟩)
            clear TI HBB HBF
            go_upto_region 12 with fail
            go_quiet (fail)
            have K5 := Lib.hid (K4.out.step (below_drewN w4 nq))
            have LB5 := Lib.hid (show (Instr.loadAt 35 (pvo g4 0)).run Try.prog (w4.drewN nq) = .ok XV (w4.drewN nq) from by rw [← HXV.out]; exact ldBox (((below_drewN w4 nq).block _ (lt_of_block Q4.out)).trans Q4.out))
            obtain ⟨w5, hw5⟩ : ∃ z, w4.drewN nq = z := ⟨_, rfl⟩
            rw [hw5] at K5 LB5 ⊢
            clear hw5 K4 LB e1 e2 e3
            by_cases hq : xq ≤ kl
            · have HN2 := Lib.hid (show (l.take (i + 1)).foldl (rdyS l (knw ks) most) ([], []) = (c1, c2) by rw [HN.out, RS.out, if_pos hq])
              go_wp2
              go_roundw
              case rel => exact ⟨i + 1, c1, c2, a1, a2, d1, d2, by go_num, by omega, rfl, rfl, by omega, by omega, HN2, K5⟩
              case measure => simp [intOf]; omega
            · have hq2 : ¬ (xq ≤ kl) := hq
              have TE := Lib.hid (TB.out (by omega))
              by_cases hm : (c2.length : Int) < most
              · have HN2 := Lib.hid (show (l.take (i + 1)).foldl (rdyS l (knw ks) most) ([], []) = (c1, c2 ++ [x]) by rw [HN.out, RS.out, if_neg hq, if_pos ⟨TE.out, hm⟩])
                have BS := Lib.hid (BX.out w5 x)
                have VB := vstep w5 (.cells (oCells x) 35)
                have NB := heap_alloc_new w5 (.cells (oCells x) 35)
                have KE := K5.out.swap.step VB
                obtain ⟨we, hwe⟩ : ∃ z, w5.alloc (.cells (oCells x) 35) = z := ⟨_, rfl⟩
                rw [hwe] at VB NB KE BS
                obtain ⟨kb, hkb⟩ : ∃ z, w5.heap.size = z := ⟨_, rfl⟩
                rw [hkb] at NB BS
                obtain ⟨a6, c6, w6, r6, k6⟩ := KE.push (by omega) kb x NB
                have R6 := Lib.hid r6
                have LN := Lib.hid (show (c2 ++ [x]).length = c2.length + 1 by rw [List.length_append]; rfl)
                rw [← LN.out] at k6
                have K6 := Lib.hid k6
                rw [HXV.out] at BS
                clear r6 k6 hkb hwe NB KE VB hq
                go_wp2_with (first | (refine wpList_ld rfl (.tmp 11) 35 rfl (pvo g4 0) XV rfl LB5.out ?_; simp only [Act.put, List.setIfInBounds_toArray, List.set_cons_zero, List.set_cons_succ]) | (refine wpList_bs rfl 27 (.tmp 61) rfl XV rfl (.slice (some ⟨kb, 0, none⟩) 1 1) _ BS.out ?_; simp only [Act.put, List.setIfInBounds_toArray, List.set_cons_zero, List.set_cons_succ]) | (at_builtin; refine Lib.wpList_append_run _ rfl (.tmp 60) (.tmp 62) 27 27 rfl (.slice a2 c2.length d2) (.slice (some ⟨kb, 0, none⟩) 1 1) rfl rfl _ _ R6.out ?_; simp only [Act.put, List.setIfInBounds_toArray, List.set_cons_zero, List.set_cons_succ]))
                go_roundw
                case rel => exact ⟨i + 1, c1, c2 ++ [x], a1, a6, d1, c6, by go_num, by omega, by first | rfl | rw [LN.out], by first | rfl | rw [LN.out], by first | omega | (rw [LN.out]; omega), by first | omega | (rw [LN.out]; omega), HN2, Lib.hid K6.out.swap⟩
                case measure => simp [intOf]; omega
              · have hm2 : ¬ ((c2.length : Int) < most) := hm
                have HN2 := Lib.hid (show (l.take (i + 1)).foldl (rdyS l (knw ks) most) ([], []) = (c1 ++ [x], c2) by rw [HN.out, RS.out, if_neg hq, if_neg (fun h => hm h.2)])
                have BS := Lib.hid (BX.out w5 x)
                have VB := vstep w5 (.cells (oCells x) 35)
                have NB := heap_alloc_new w5 (.cells (oCells x) 35)
                have KE := K5.out.step VB
                obtain ⟨we, hwe⟩ : ∃ z, w5.alloc (.cells (oCells x) 35) = z := ⟨_, rfl⟩
                rw [hwe] at VB NB KE BS
                obtain ⟨kb, hkb⟩ : ∃ z, w5.heap.size = z := ⟨_, rfl⟩
                rw [hkb] at NB BS
                obtain ⟨a6, c6, w6, r6, k6⟩ := KE.push (by omega) kb x NB
                have R6 := Lib.hid r6
                have LN := Lib.hid (show (c1 ++ [x]).length = c1.length + 1 by rw [List.length_append]; rfl)
                rw [← LN.out] at k6
                have K6 := Lib.hid k6
                rw [HXV.out] at BS
                clear r6 k6 hkb hwe NB KE VB hq
                go_wp2_with (first | (refine wpList_ld rfl (.tmp 11) 35 rfl (pvo g4 0) XV rfl LB5.out ?_; simp only [Act.put, List.setIfInBounds_toArray, List.set_cons_zero, List.set_cons_succ]) | (refine wpList_bs rfl 27 (.tmp 65) rfl XV rfl (.slice (some ⟨kb, 0, none⟩) 1 1) _ BS.out ?_; simp only [Act.put, List.setIfInBounds_toArray, List.set_cons_zero, List.set_cons_succ]) | (at_builtin; refine Lib.wpList_append_run _ rfl (.tmp 64) (.tmp 66) 27 27 rfl (.slice a1 c1.length d1) (.slice (some ⟨kb, 0, none⟩) 1 1) rfl rfl _ _ R6.out ?_; simp only [Act.put, List.setIfInBounds_toArray, List.set_cons_zero, List.set_cons_succ]))
                go_roundw
                case rel => exact ⟨i + 1, c1 ++ [x], c2, a6, a2, c6, d2, by go_num, by omega, by first | rfl | rw [LN.out], by first | rfl | rw [LN.out], by first | omega | (rw [LN.out]; omega), by first | omega | (rw [LN.out]; omega), HN2, K6⟩
                case measure => simp [intOf]; omega
          | false =>
            have TB := Lib.hid (show kl < xq → tn = false from fun _ => by
              cases h2 : tn with
              | false => rfl
              | true =>
                have h3 := HBB.out.2 (fun m m1 m2 => (TI.out.1 h2).2 m m1 (by have := HBF.out (by first | rfl | trivial); omega))
                first | cases h3 | exact absurd h3 (by simp))
            clear TI HBB HBF
            go_upto_region 12 with fail
            go_quiet (fail)
            have K5 := Lib.hid (K4.out.step (below_drewN w4 nq))
            have LB5 := Lib.hid (show (Instr.loadAt 35 (pvo g4 0)).run Try.prog (w4.drewN nq) = .ok XV (w4.drewN nq) from by rw [← HXV.out]; exact ldBox (((below_drewN w4 nq).block _ (lt_of_block Q4.out)).trans Q4.out))
            obtain ⟨w5, hw5⟩ : ∃ z, w4.drewN nq = z := ⟨_, rfl⟩
            rw [hw5] at K5 LB5 ⊢
            clear hw5 K4 LB e1 e2 e3
            by_cases hq : xq ≤ kl
            · have HN2 := Lib.hid (show (l.take (i + 1)).foldl (rdyS l (knw ks) most) ([], []) = (c1, c2) by rw [HN.out, RS.out, if_pos hq])
              go_wp2
              go_roundw
              case rel => exact ⟨i + 1, c1, c2, a1, a2, d1, d2, by go_num, by omega, rfl, rfl, by omega, by omega, HN2, K5⟩
              case measure => simp [intOf]; omega
            · have hq2 : ¬ (xq ≤ kl) := hq
              have TE := Lib.hid (TB.out (by omega))
              have HN2 := Lib.hid (show (l.take (i + 1)).foldl (rdyS l (knw ks) most) ([], []) = (c1 ++ [x], c2) by rw [HN.out, RS.out, if_neg hq, if_neg (by rw [TE.out]; simp)])
              have BS := Lib.hid (BX.out w5 x)
              have VB := vstep w5 (.cells (oCells x) 35)
              have NB := heap_alloc_new w5 (.cells (oCells x) 35)
              have KE := K5.out.step VB
              obtain ⟨we, hwe⟩ : ∃ z, w5.alloc (.cells (oCells x) 35) = z := ⟨_, rfl⟩
              rw [hwe] at VB NB KE BS
              obtain ⟨kb, hkb⟩ : ∃ z, w5.heap.size = z := ⟨_, rfl⟩
              rw [hkb] at NB BS
              obtain ⟨a6, c6, w6, r6, k6⟩ := KE.push (by omega) kb x NB
              have R6 := Lib.hid r6
              have LN := Lib.hid (show (c1 ++ [x]).length = c1.length + 1 by rw [List.length_append]; rfl)
              rw [← LN.out] at k6
              have K6 := Lib.hid k6
              rw [HXV.out] at BS
              clear r6 k6 hkb hwe NB KE VB hq
              go_wp2_with (first | (refine wpList_ld rfl (.tmp 11) 35 rfl (pvo g4 0) XV rfl LB5.out ?_; simp only [Act.put, List.setIfInBounds_toArray, List.set_cons_zero, List.set_cons_succ]) | (refine wpList_bs rfl 27 (.tmp 65) rfl XV rfl (.slice (some ⟨kb, 0, none⟩) 1 1) _ BS.out ?_; simp only [Act.put, List.setIfInBounds_toArray, List.set_cons_zero, List.set_cons_succ]) | (at_builtin; refine Lib.wpList_append_run _ rfl (.tmp 64) (.tmp 66) 27 27 rfl (.slice a1 c1.length d1) (.slice (some ⟨kb, 0, none⟩) 1 1) rfl rfl _ _ R6.out ?_; simp only [Act.put, List.setIfInBounds_toArray, List.set_cons_zero, List.set_cons_succ]))
              go_roundw
              case rel => exact ⟨i + 1, c1 ++ [x], c2, a6, a2, c6, d2, by go_num, by omega, by first | rfl | rw [LN.out], by first | rfl | rw [LN.out], by first | omega | (rw [LN.out]; omega), by first | omega | (rw [LN.out]; omega), HN2, K6⟩
              case measure => simp [intOf]; omega
    · have FIN := Lib.hid (show rdyR l (knw ks) most = (c1, c2) by
        unfold rdyR
        have h1 := HF.out
        rwa [List.take_of_length_le (Nat.le_of_not_lt hlt)] at h1)
      go_wp2
      go_returns
      refine ⟨_, _, rfl, K.out.bel, ?_⟩
      rw [FIN.out]
      exact ⟨Ve.own_less K.out.r1 (by omega), Ve.own_less K.out.r2 (by omega)⟩
end Go.Proofs.Ytgnnpfainoppeaa
