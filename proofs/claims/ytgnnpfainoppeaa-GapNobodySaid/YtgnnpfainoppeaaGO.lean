/- The reference's Add. Made by gengo28.py, with tools/drawn.py. -/
import Derived.Test.YtgnnpfainoppeaaGN
import Derived.Test.YtgnnpfainoppeaaOC
set_option linter.unusedVariables false
set_option linter.unusedSimpArgs false
set_option maxRecDepth 100000
namespace Go.Proofs.Ytgnnpfainoppeaa
open Go.RowKit Go.WideMaps Go.Maps
open Ve (zs zs_len vw va RightP cs3 cs3_append)

/-- The reference's Add, its list gone through. -/
structure AK (w wr : World) (ks : List Int) (o : O) (pv : Value) (cs : List O) : Prop where
  bel : Below w.heap.size w wr
  vb : wr.heap[w.heap.size]? = some (.cells (va ks) 28 (0, 0))
  ob : wr.heap[w.heap.size + 1]? = some (.cells (oCells o) 35 (0, 0))
  row : wr.ownsRow (w.heap.size + 2) 35 9 pv cs.length (cs9 cs)
  big : w.heap.size + 2 ≤ wr.heap.size
theorem AK.step {w wr w' : World} {ks : List Int} {o : O} {pv : Value} {cs : List O} (h : AK w wr ks o pv cs) (hb : Below wr.heap.size wr w') : AK w w' ks o pv cs :=
  ⟨h.bel.trans (hb.mono h.bel.size), (hb.block _ (lt_of_block h.vb)).trans h.vb, (hb.block _ (lt_of_block h.ob)).trans h.ob, own_keep h.row hb, Nat.le_trans h.big hb.size⟩
theorem AK.push {w W : World} {ks : List Int} {o : O} {pv : Value} {cs : List O} (h : AK w W ks o pv cs) (hl : cs.length ≤ 1000000) (k : Nat) (x : O) (hk : W.heap[k]? = some (.cells (oCells x) 35 (0, 0))) :
    ∃ a c W1, (Builtin.append_ #[27, 27] 27 #[pv, .slice (some ⟨k, 0, none⟩) 1 1]).run Try.prog W = .ok (.slice a (cs.length + 1) c) W1 ∧ AK w W1 ks o (.slice a (cs.length + 1) c) (cs ++ [x]) := by
  obtain ⟨i0, hi0, hz0, hz1, hz2⟩ := Ve.info_parts info35
  obtain ⟨v', W1, hr, ho, hgr, hsp⟩ := Wi.run_append_src_own (P := Try.prog) W (w.heap.size + 2) 27 27 27 35 i0 (oV O0) 9 80 Try.u27' hi0 hz0 hz1 hz2 rfl (by decide) pv cs.length (cs9 cs) h.row (.slice (some ⟨k, 0, none⟩) 1 1) 1 (cs9 [x]) (one_olies hk).src (by unfold maxLen; omega) (by omega) h.big
  obtain ⟨a, c, rfl⟩ := Ve.own_shape ho
  have hlt := own_lt h.row
  have keep : ∀ m, m < w.heap.size + 2 → m < W.heap.size → W1.heap[m]? = W.heap[m]? := fun m hm hw => hgr.block m hw (fun e => by have := (hlt m e.symm).1; omega)
  refine ⟨a, c, W1, hr, h.bel.grown hgr h.bel.size (fun m e => by have := (hlt m e).1; omega), (keep _ (by omega) (lt_of_block h.vb)).trans h.vb, (keep _ (by omega) (lt_of_block h.ob)).trans h.ob, ?_, Nat.le_trans h.big hgr.size⟩
  rw [List.length_append, cs9_append]
  exact ho
/-- What the reference's Add hands back. -/
def RAOut (w w' : World) (l : List O) (ks : List Int) (o : O) (v : Value) (e : Ending) : Prop := ∃ v', e = .returned (.tuple #[v', .int .i64 (addI l ks o)]) ∧ ((v' = v ∧ addL l ks o = l) ∨ w'.ownsRow w.heap.size 35 9 v' (addL l ks o).length (cs9 (addL l ks o))) ∧ Below w.heap.size w w'
theorem ix27 {g o n cap i : Nat} (h : i < n) (hn : n ≤ 9223372036854775807) (W : World) : (Instr.indexAt 27 (.slice (some ⟨g, o, none⟩) n cap) (.int .i64 (i : Int))).run Try.prog W = .ok (pvo g (o + i * 9)) W := by
  have h0 : (0 : Int) ≤ (i : Int) := by omega
  have h1 : (i : Int) < (n : Int) := by omega
  go_simp
theorem gtr_ltG (o x : O) : ltG o x = (decide (o.r < x.r) || (x.r == o.r) && decide (o.q < x.q)) := by
  unfold ltG
  by_cases h : o.r = x.r
  · rw [if_pos h, decide_eq_false (show ¬ o.r < x.r by omega), beqb_ _ _ h.symm]; rfl
  · rw [if_neg h, bneb_ x.r o.r (fun e => h e.symm)]; simp
set_option maxHeartbeats 12800000 in
theorem radd_any (w : World) (v : Value) (l : List O) (hv : OLies w v l) (hl : l.length ≤ 100000) (hs : RiseG l) (ks : List Int) (hk : ks.length = 64) (hp : RightP ks) (o : O) (hz : o.nm.size ≤ 1000000) :
    Calls Try.prog 11 #[v, vw ks, oV o] w fun e w' => RAOut w w' l ks o v e := by
  have B1 := vstep w (.cells (va ks) 28)
  have B2 := vstep (w.alloc (.cells (va ks) 28)) (.cells (oCells o) 35)
  have s1 : (w.alloc (.cells (va ks) 28)).heap.size = w.heap.size + 1 := by simp
  have N1 := (B2.block _ (by omega)).trans (heap_alloc_new w (.cells (va ks) 28))
  have N2 := heap_alloc_new (w.alloc (.cells (va ks) 28)) (.cells (oCells o) 35)
  have s2 : ((w.alloc (.cells (va ks) 28)).alloc (.cells (oCells o) 35)).heap.size = w.heap.size + 2 := by simp
  rw [s1] at N2
  obtain ⟨w0, hw0⟩ : ∃ z, (w.alloc (.cells (va ks) 28)).alloc (.cells (oCells o) 35) = z := ⟨_, rfl⟩
  rw [hw0] at N1 N2 s2
  have BB : Below w.heap.size w w0 := by rw [← hw0]; exact B1.trans (B2.mono B1.size)
  have K0 := Lib.hid (show AK w w0 ks o (.slice none 0 0) [] from ⟨BB, N1, N2, World.ownsRow_nil _ _ _ _, by omega⟩)
  have RG : Hid (∀ W : World, Calls Try.prog 24 #[oV o] W fun e w' => e = .returned (.bool (rO o)) ∧ Below W.heap.size W w') := Lib.hid (fun W => rright_any W o.t o.r o.q o.nt o.nr o.pt o.pr o.nm o.d hz)
  have V := Lib.hid (fun W (hb : Below w.heap.size w W) => OLies.step hv hb)
  have LOO := Lib.hid (fun W {pv : Value} {cs : List O} (h : AK w W ks o pv cs) => ldBox h.ob)
  have L0 := Lib.hid (LOO.out w0 K0.out)
  have SAME := Lib.hid (fun w' (hn : addI l ks o ≠ 0) (hb : Below w.heap.size w w') => show RAOut w w' l ks o v (.returned (.tuple #[v, .int .i64 (addI l ks o)])) from ⟨v, rfl, .inl ⟨rfl, by unfold addL; rw [if_neg hn]⟩, hb⟩)
  have HK := Lib.hid hk
  have HP := Lib.hid hp
  have HS := Lib.hid hs
  have BX := Lib.hid (fun (W : World) (x : O) => bsO W x)
  have hlen := hv.len
  have AT := Lib.hid (fun W (hb : Below w.heap.size w W) r q => at_any W v l (hv.step hb) r q)
  obtain ⟨ao, cap, rfl⟩ := hv.shape
  have HVW := Lib.hid (show vw ks = .agg (va ks) from rfl)
  have HOW := Lib.hid (show oV o = .agg (oCells o) from rfl)
  rw [HVW.out, HOW.out]
  obtain ⟨VA, hVA⟩ : ∃ z, va ks = z := ⟨_, rfl⟩
  rw [hVA] at hw0 ⊢
  obtain ⟨OA, hOA⟩ : ∃ z, oCells o = z := ⟨_, rfl⟩
  rw [hOA] at hw0 ⊢
  obtain ⟨OV, hOV⟩ : ∃ z, oV o = z := ⟨_, rfl⟩
  have HOV := Lib.hid hOV
  rw [hOV] at L0 RG
  clear hVA hOA hOV N1 N2 BB B1 B2 s1 s2 hv hk hp hz hs
  go_enter Try.func11, Try.ntmps11
  go_wp2_with (first | (refine wpList_ld rfl (.tmp 5) 35 rfl (pvo (w.heap.size + 1) 0) OV rfl L0.out ?_; simp only [Act.put, List.setIfInBounds_toArray, List.set_cons_zero, List.set_cons_succ]))
  refine (RG.out _).mono ?_
  rintro e w1 ⟨rfl, hb1⟩
  have K1 := Lib.hid (K0.out.step hb1)
  clear hb1 L0 hw0 K0 RG
  cases hr : rO o with
  | false =>
    have E := Lib.hid (show addI l ks o = 2 by unfold addI; rw [hr]; rfl)
    have F := Lib.hid (SAME.out w1 (by rw [E.out]; decide) K1.out.bel)
    clear hr
    go_wp2
    go_returns
    rw [← E.out]
    exact F.out
  | true =>
    obtain ⟨ft, fr, fq⟩ := rO_facts hr
    obtain ⟨j, hj, hj64, hx⟩ := knw_at HK.out fr
    have ksm := knw_small HK.out HP.out fr
    have KD := Lib.hid (show addI l ks o = (if o.q ≤ knw ks o.r then 11 else if knw ks o.r + 256 < o.q then 7 else if atG l o.r o.q then 9 else 0) by unfold addI; rw [hr]; rfl)
    obtain ⟨kn, hkn⟩ : ∃ z, knw ks o.r = z := ⟨_, rfl⟩
    rw [hkn] at KD hx ksm
    obtain ⟨t0, c1, c2⟩ := box3 K1.out.ob
    have c3 := Ve.cell_va K1.out.vb hx
    have LTG := Lib.hid (gtr_ltG o)
    obtain ⟨or, hor⟩ : ∃ z, o.r = z := ⟨_, rfl⟩
    obtain ⟨oq, hoq⟩ : ∃ z, o.q = z := ⟨_, rfl⟩
    have HOR := Lib.hid hor
    have HOQ := Lib.hid hoq
    have CO := Lib.hid (fun W {pv : Value} {cs : List O} (h : AK w W ks o pv cs) => (show (Instr.loadAt 3 (pvo (w.heap.size + 1) 1)).run Try.prog W = .ok (.int .i64 or) W ∧ (Instr.loadAt 3 (pvo (w.heap.size + 1) 2)).run Try.prog W = .ok (.int .i64 oq) W from by
      obtain ⟨_, a1, a2⟩ := box3 h.ob
      rw [HOR.out] at a1
      rw [HOQ.out] at a2
      exact ⟨ldI a1, ldI a2⟩))
    have COO := CO
    rw [hor, hoq] at KD LTG
    rw [hor] at c1 hj fr
    rw [hoq] at c2 fq
    rw [hj] at c1
    have A1 := Lib.hid (AT.out w1 K1.out.bel or oq)
    obtain ⟨ga, hga⟩ : ∃ z, atG l or oq = z := ⟨_, rfl⟩
    have HGA := Lib.hid hga
    rw [hga] at A1 KD
    have HJ := Lib.hid hj
    have hj0 : (0 : Int) ≤ (j : Int) := by omega
    have hj1 : (j : Int) < 64 := by omega
    have k0 := ksm.1
    have k1 := ksm.2
    have q1 := fq.1
    have q2 := fq.2
    have hw256 : wrap64 (kn + 256) = kn + 256 := by unfold wrap64; omega
    rw [hj] at A1
    clear ft fr hx hkn hor hoq hga hr t0 ksm fq hj AT
    by_cases hle : oq ≤ kn
    · have E := Lib.hid (show addI l ks o = 11 by rw [KD.out, if_pos hle])
      have F := Lib.hid (SAME.out w1 (by rw [E.out]; decide) K1.out.bel)
      go_wp2
      go_returns
      rw [← E.out]
      exact F.out
    · have hle2 : ¬ (oq ≤ kn) := hle
      by_cases hf : kn + 256 < oq
      · have E := Lib.hid (show addI l ks o = 7 by rw [KD.out, if_neg hle, if_pos hf])
        have F := Lib.hid (SAME.out w1 (by rw [E.out]; decide) K1.out.bel)
        go_wp2
        go_returns
        rw [← E.out]
        exact F.out
      · have hf2 : ¬ (kn + 256 < oq) := hf
        have KE := Lib.hid (show addI l ks o = (if ga then 9 else 0) by rw [KD.out, if_neg hle, if_neg hf])
        go_wp2_with fail
        refine A1.out.mono ?_
        rintro e w2 ⟨rfl, rfl⟩
        cases ga with
        | true =>
          have E := Lib.hid (show addI l ks o = 9 by rw [KE.out]; rfl)
          have F := Lib.hid (SAME.out w1 (by rw [E.out]; decide) K1.out.bel)
          go_wp2
          go_returns
          rw [← E.out]
          exact F.out
        | false =>
          have E0 := Lib.hid (show addI l ks o = 0 by rw [KE.out]; rfl)
          clear c1 c2 c3 hw256 hle hle2 hf hf2 q1 q2 k0 k1
          go_wp2
          go_loopw [9, 10, 11] (fun ov dv iv wr => ∃ (i : Nat) (cs : List O) (dn : Bool), iv = .int .i64 i ∧ dv = .bool dn ∧ i ≤ l.length ∧ ov = ov ∧ cs.length ≤ 2 * i ∧ Hid ((l.take i).foldl (insS o) ([], false) = (cs, dn)) ∧ Hid (AK w wr ks o ov cs)) (fun _ _ iv _ => l.length - (intOf iv).toNat)
          case atStart => exact ⟨0, [], false, rfl, rfl, Nat.zero_le _, rfl, Nat.zero_le _, Lib.hid rfl, K1⟩
          case round =>
            obtain ⟨i, cs, dn, rfl, rfl, hi, _, hcl, HF, K⟩ := hrel
            obtain ⟨pa, pc, rfl⟩ := Ve.own_shape K.out.row
            by_cases hlt : i < l.length
            · obtain ⟨g, off, x, rfl, hx, hg, hcx⟩ := (V.out wr K.out.bel).atK hlt
              have htk := Ve.take_snoc' l i x hx
              have HN := Lib.hid (show (l.take (i + 1)).foldl (insS o) ([], false) = insS o (cs, dn) x by rw [htk, List.foldl_append, HF.out]; rfl)
              have LXX := Lib.hid (fun W (hb : Below w.heap.size w W) => (show (Instr.loadAt 35 (pvo g (off + i * 9))).run Try.prog W = .ok (oV x) W from by
                obtain ⟨g', off', x', e, hx', _, hcx'⟩ := (V.out W hb).atK hlt
                injection e with e; injection e with e1 e2; subst e1 e2
                rw [hx] at hx'
                injection hx' with hx'
                subst hx'
                exact ldO hcx'))
              have LG := Lib.hid (LTG.out x)
              obtain ⟨xr, hxr⟩ : ∃ z, x.r = z := ⟨_, rfl⟩
              obtain ⟨xq, hxq⟩ : ∃ z, x.q = z := ⟨_, rfl⟩
              have CX := Lib.hid (fun W (hb : Below wr.heap.size wr W) => (show (Instr.loadAt 3 (pvo g (off + i * 9 + 1))).run Try.prog W = .ok (.int .i64 xr) W ∧ (Instr.loadAt 3 (pvo g (off + i * 9 + 2))).run Try.prog W = .ok (.int .i64 xq) W from by
                have a1 := (hb.cell (p := ⟨g, off + i * 9 + 1, none⟩) hg).trans (hcx 1 _ rfl)
                have a2 := (hb.cell (p := ⟨g, off + i * 9 + 2, none⟩) hg).trans (hcx 2 _ rfl)
                rw [hxr] at a1
                rw [hxq] at a2
                exact ⟨ldI a1, ldI a2⟩))
              rw [hxr, hxq] at LG
              have CO := Lib.hid (fun W (hb : Below wr.heap.size wr W) => COO.out W (K.out.step hb))
              have IXR := Lib.hid (fun W => ix27 (g := g) (o := off) (cap := cap) hlt hlen W)
              obtain ⟨wd, hwd⟩ : ∃ z, wr.drew = z := ⟨_, rfl⟩
              have HWD := Lib.hid hwd
              have KD := Lib.hid (K.out.step (w' := wd) (by rw [← hwd]; exact (Below.refl _ _).drew))
              obtain ⟨XV, hXV⟩ : ∃ z, oV x = z := ⟨_, rfl⟩
              have HXV := Lib.hid hXV
              obtain ⟨n, hn⟩ : ∃ n, cs.length = n := ⟨_, rfl⟩
              have HLN := Lib.hid hn
              rw [hn] at hcl
              rw [hn]
              have hi0 : (0 : Int) ≤ (i : Int) := by omega
              have hi1 : (i : Int) < (l.length : Int) := by omega
              clear hx hg hcx htk hxr hxq hwd hXV hn K HF
              cases dn with
              | true =>
                have E := Lib.hid (show (l.take (i + 1)).foldl (insS o) ([], false) = (cs ++ [x], true) by
                  rw [HN.out]
                  unfold insS
                  rfl)
                have LX := Lib.hid (LXX.out wd KD.out.bel)
                have BS2 := Lib.hid (BX.out wd x)
                have VB := vstep wd (.cells (oCells x) 35)
                have NB := heap_alloc_new wd (.cells (oCells x) 35)
                have KE := KD.out.step VB
                obtain ⟨we, hwe⟩ : ∃ z, wd.alloc (.cells (oCells x) 35) = z := ⟨_, rfl⟩
                rw [hwe] at VB NB KE BS2
                obtain ⟨kc, hkc⟩ : ∃ z, wd.heap.size = z := ⟨_, rfl⟩
                rw [hkc] at NB BS2
                obtain ⟨a6, c6, w6, r6, k6⟩ := KE.push (by rw [HLN.out]; omega) kc x NB
                have R2 := Lib.hid r6
                have K6 := Lib.hid k6
                rw [HLN.out] at R2 K6
                rw [HXV.out] at BS2 LX
                clear r6 k6 hkc hwe NB KE VB
                go_upto_region 15 with fail
                refine wp_region_held_drew (S := fun w' => Below wr.heap.size wr w') (by kernel_rfl) (Below.refl _ _).drew (fun hHeld => ?_)
                have BV := Lib.hid (show Below wr.heap.size wr wr.drew from (Below.refl _ _).drew)
                clear hHeld
                refine take_at (i := 0) 46 ?_ rfl rfl (by kernel_rfl) (by kernel_rfl) (by kernel_rfl) (fun _ _ _ h => h) (.inl ⟨rfl, ?_⟩) BV.out ?_
                rotate_left 1
                · intro w hSw; go_simp; try with_reducible rfl
                simp only [Act.put, List.setIfInBounds_toArray, List.set_cons_zero, List.set_cons_succ]
                refine take_at (i := 1) 47 ?_ rfl rfl (by kernel_rfl) (by kernel_rfl) (by kernel_rfl) (fun _ _ _ h => h) (.inl ⟨rfl, ?_⟩) BV.out ?_
                rotate_left 1
                · intro w hSw; go_simp; try with_reducible rfl
                simp only [Act.put, List.setIfInBounds_toArray, List.set_cons_zero, List.set_cons_succ]
                refine take_at (i := 2) 48 ?_ rfl rfl (by kernel_rfl) (by kernel_rfl) (by kernel_rfl) (fun _ _ _ h => h) (.inl ⟨rfl, ?_⟩) BV.out ?_
                rotate_left 1
                · intro w hSw; go_simp; try with_reducible rfl
                simp only [Act.put, List.setIfInBounds_toArray, List.set_cons_zero, List.set_cons_succ]
                refine take_at (i := 3) 49 undef rfl rfl (by kernel_rfl) (by kernel_rfl) (by kernel_rfl) (fun _ _ _ h => h) (.inr ⟨rfl, rfl⟩) BV.out ?_
                simp only [Act.put, List.setIfInBounds_toArray, List.set_cons_zero, List.set_cons_succ]
                refine take_at (i := 4) 50 undef rfl rfl (by kernel_rfl) (by kernel_rfl) (by kernel_rfl) (fun _ _ _ h => h) (.inr ⟨rfl, rfl⟩) BV.out ?_
                simp only [Act.put, List.setIfInBounds_toArray, List.set_cons_zero, List.set_cons_succ]
                refine take_at (i := 5) 51 undef rfl rfl (by kernel_rfl) (by kernel_rfl) (by kernel_rfl) (fun _ _ _ h => h) (.inr ⟨rfl, rfl⟩) BV.out ?_
                simp only [Act.put, List.setIfInBounds_toArray, List.set_cons_zero, List.set_cons_succ]
                refine take_at (i := 6) 52 undef rfl rfl (by kernel_rfl) (by kernel_rfl) (by kernel_rfl) (fun _ _ _ h => h) (.inr ⟨rfl, rfl⟩) BV.out ?_
                simp only [Act.put, List.setIfInBounds_toArray, List.set_cons_zero, List.set_cons_succ]
                refine take_at (i := 7) 53 undef rfl rfl (by kernel_rfl) (by kernel_rfl) (by kernel_rfl) (fun _ _ _ h => h) (.inr ⟨rfl, rfl⟩) BV.out ?_
                simp only [Act.put, List.setIfInBounds_toArray, List.set_cons_zero, List.set_cons_succ]
                refine take_at (i := 8) 54 undef rfl rfl (by kernel_rfl) (by kernel_rfl) (by kernel_rfl) (fun _ _ _ h => h) (.inr ⟨rfl, rfl⟩) BV.out ?_
                simp only [Act.put, List.setIfInBounds_toArray, List.set_cons_zero, List.set_cons_succ]
                refine take_at (i := 9) 55 undef rfl rfl (by kernel_rfl) (by kernel_rfl) (by kernel_rfl) (fun _ _ _ h => h) (.inr ⟨rfl, rfl⟩) BV.out ?_
                simp only [Act.put, List.setIfInBounds_toArray, List.set_cons_zero, List.set_cons_succ]
                refine take_at (i := 10) 56 undef rfl rfl (by kernel_rfl) (by kernel_rfl) (by kernel_rfl) (fun _ _ _ h => h) (.inr ⟨rfl, rfl⟩) BV.out ?_
                simp only [Act.put, List.setIfInBounds_toArray, List.set_cons_zero, List.set_cons_succ]
                refine take_at (i := 11) 57 undef rfl rfl (by kernel_rfl) (by kernel_rfl) (by kernel_rfl) (fun _ _ _ h => h) (.inr ⟨rfl, rfl⟩) BV.out ?_
                simp only [Act.put, List.setIfInBounds_toArray, List.set_cons_zero, List.set_cons_succ]
                refine take_at (i := 12) 58 undef rfl rfl (by kernel_rfl) (by kernel_rfl) (by kernel_rfl) (fun _ _ _ h => h) (.inr ⟨rfl, rfl⟩) BV.out ?_
                simp only [Act.put, List.setIfInBounds_toArray, List.set_cons_zero, List.set_cons_succ]
                refine take_at (i := 13) 59 undef rfl rfl (by kernel_rfl) (by kernel_rfl) (by kernel_rfl) (fun _ _ _ h => h) (.inr ⟨rfl, rfl⟩) BV.out ?_
                simp only [Act.put, List.setIfInBounds_toArray, List.set_cons_zero, List.set_cons_succ]
                refine take_at (i := 14) 60 undef rfl rfl (by kernel_rfl) (by kernel_rfl) (by kernel_rfl) (fun _ _ _ h => h) (.inr ⟨rfl, rfl⟩) BV.out ?_
                simp only [Act.put, List.setIfInBounds_toArray, List.set_cons_zero, List.set_cons_succ]
                refine take_at (i := 15) 61 undef rfl rfl (by kernel_rfl) (by kernel_rfl) (by kernel_rfl) (fun _ _ _ h => h) (.inr ⟨rfl, rfl⟩) BV.out ?_
                simp only [Act.put, List.setIfInBounds_toArray, List.set_cons_zero, List.set_cons_succ]
                refine take_at (i := 16) 62 undef rfl rfl (by kernel_rfl) (by kernel_rfl) (by kernel_rfl) (fun _ _ _ h => h) (.inr ⟨rfl, rfl⟩) BV.out ?_
                simp only [Act.put, List.setIfInBounds_toArray, List.set_cons_zero, List.set_cons_succ]
                refine take_at (i := 17) 63 undef rfl rfl (by kernel_rfl) (by kernel_rfl) (by kernel_rfl) (fun _ _ _ h => h) (.inr ⟨rfl, rfl⟩) BV.out ?_
                simp only [Act.put, List.setIfInBounds_toArray, List.set_cons_zero, List.set_cons_succ]
                refine take_at (i := 18) 64 undef rfl rfl (by kernel_rfl) (by kernel_rfl) (by kernel_rfl) (fun _ _ _ h => h) (.inr ⟨rfl, rfl⟩) BV.out ?_
                simp only [Act.put, List.setIfInBounds_toArray, List.set_cons_zero, List.set_cons_succ]
                refine take_at (i := 19) 65 undef rfl rfl (by kernel_rfl) (by kernel_rfl) (by kernel_rfl) (fun _ _ _ h => h) (.inr ⟨rfl, rfl⟩) BV.out ?_
                simp only [Act.put, List.setIfInBounds_toArray, List.set_cons_zero, List.set_cons_succ]
                refine take_at (i := 20) 66 undef rfl rfl (by kernel_rfl) (by kernel_rfl) (by kernel_rfl) (fun _ _ _ h => h) (.inr ⟨rfl, rfl⟩) BV.out ?_
                simp only [Act.put, List.setIfInBounds_toArray, List.set_cons_zero, List.set_cons_succ]
                refine take_at (i := 21) 67 undef rfl rfl (by kernel_rfl) (by kernel_rfl) (by kernel_rfl) (fun _ _ _ h => h) (.inr ⟨rfl, rfl⟩) BV.out ?_
                simp only [Act.put, List.setIfInBounds_toArray, List.set_cons_zero, List.set_cons_succ]
                refine take_at (i := 22) 68 undef rfl rfl (by kernel_rfl) (by kernel_rfl) (by kernel_rfl) (fun _ _ _ h => h) (.inr ⟨rfl, rfl⟩) BV.out ?_
                simp only [Act.put, List.setIfInBounds_toArray, List.set_cons_zero, List.set_cons_succ]
                refine take_at (i := 23) 69 undef rfl rfl (by kernel_rfl) (by kernel_rfl) (by kernel_rfl) (fun _ _ _ h => h) (.inr ⟨rfl, rfl⟩) BV.out ?_
                simp only [Act.put, List.setIfInBounds_toArray, List.set_cons_zero, List.set_cons_succ]
                refine take_at (i := 24) 70 undef rfl rfl (by kernel_rfl) (by kernel_rfl) (by kernel_rfl) (fun _ _ _ h => h) (.inr ⟨rfl, rfl⟩) BV.out ?_
                simp only [Act.put, List.setIfInBounds_toArray, List.set_cons_zero, List.set_cons_succ]
                refine take_at (i := 25) 71 undef rfl rfl (by kernel_rfl) (by kernel_rfl) (by kernel_rfl) (fun _ _ _ h => h) (.inr ⟨rfl, rfl⟩) BV.out ?_
                simp only [Act.put, List.setIfInBounds_toArray, List.set_cons_zero, List.set_cons_succ]
                refine take_at (i := 26) 72 undef rfl rfl (by kernel_rfl) (by kernel_rfl) (by kernel_rfl) (fun _ _ _ h => h) (.inr ⟨rfl, rfl⟩) BV.out ?_
                simp only [Act.put, List.setIfInBounds_toArray, List.set_cons_zero, List.set_cons_succ]
                refine take_at (i := 27) 73 undef rfl rfl (by kernel_rfl) (by kernel_rfl) (by kernel_rfl) (fun _ _ _ h => h) (.inr ⟨rfl, rfl⟩) BV.out ?_
                simp only [Act.put, List.setIfInBounds_toArray, List.set_cons_zero, List.set_cons_succ]
                refine take_at (i := 28) 74 undef rfl rfl (by kernel_rfl) (by kernel_rfl) (by kernel_rfl) (fun _ _ _ h => h) (.inr ⟨rfl, rfl⟩) BV.out ?_
                simp only [Act.put, List.setIfInBounds_toArray, List.set_cons_zero, List.set_cons_succ]
                refine take_at (i := 29) 75 undef rfl rfl (by kernel_rfl) (by kernel_rfl) (by kernel_rfl) (fun _ _ _ h => h) (.inr ⟨rfl, rfl⟩) BV.out ?_
                simp only [Act.put, List.setIfInBounds_toArray, List.set_cons_zero, List.set_cons_succ]
                refine take_at (i := 30) 76 undef rfl rfl (by kernel_rfl) (by kernel_rfl) (by kernel_rfl) (fun _ _ _ h => h) (.inr ⟨rfl, rfl⟩) BV.out ?_
                simp only [Act.put, List.setIfInBounds_toArray, List.set_cons_zero, List.set_cons_succ]
                refine take_at (i := 31) 77 undef rfl rfl (by kernel_rfl) (by kernel_rfl) (by kernel_rfl) (fun _ _ _ h => h) (.inr ⟨rfl, rfl⟩) BV.out ?_
                simp only [Act.put, List.setIfInBounds_toArray, List.set_cons_zero, List.set_cons_succ]
                refine take_at (i := 32) 78 undef rfl rfl (by kernel_rfl) (by kernel_rfl) (by kernel_rfl) (fun _ _ _ h => h) (.inr ⟨rfl, rfl⟩) BV.out ?_
                simp only [Act.put, List.setIfInBounds_toArray, List.set_cons_zero, List.set_cons_succ]
                refine take_at (i := 33) 79 undef rfl rfl (by kernel_rfl) (by kernel_rfl) (by kernel_rfl) (fun _ _ _ h => h) (.inr ⟨rfl, rfl⟩) BV.out ?_
                simp only [Act.put, List.setIfInBounds_toArray, List.set_cons_zero, List.set_cons_succ]
                refine take_at (i := 34) 80 undef rfl rfl (by kernel_rfl) (by kernel_rfl) (by kernel_rfl) (fun _ _ _ h => h) (.inr ⟨rfl, rfl⟩) BV.out ?_
                simp only [Act.put, List.setIfInBounds_toArray, List.set_cons_zero, List.set_cons_succ]
                refine take_at (i := 35) 81 ?_ rfl rfl (by kernel_rfl) (by kernel_rfl) (by kernel_rfl) (fun _ _ _ h => h) (.inl ⟨rfl, ?_⟩) BV.out ?_
                rotate_left 1
                · intro w hSw; go_simp; try with_reducible rfl
                simp only [Act.put, List.setIfInBounds_toArray, List.set_cons_zero, List.set_cons_succ]
                refine wpAnyH_done (by kernel_rfl) ?_ _
                rw [HWD.out]
                go_wp2_with (first | (refine wpList_ld rfl (.tmp 89) 35 rfl (pvo g (off + i * 9)) XV rfl LX.out ?_; simp only [Act.put, List.setIfInBounds_toArray, List.set_cons_zero, List.set_cons_succ]) | (refine wpList_bs rfl 27 (.tmp 90) rfl XV rfl (.slice (some ⟨kc, 0, none⟩) 1 1) _ BS2.out ?_; simp only [Act.put, List.setIfInBounds_toArray, List.set_cons_zero, List.set_cons_succ]) | (at_builtin; refine Lib.wpList_append_run _ rfl (.tmp 86) (.tmp 91) 27 27 rfl (.slice pa n pc) (.slice (some ⟨kc, 0, none⟩) 1 1) rfl rfl _ _ R2.out ?_; simp only [Act.put, List.setIfInBounds_toArray, List.set_cons_zero, List.set_cons_succ]))
                go_roundw
                case rel => exact ⟨i + 1, cs ++ [x], true, by go_num, rfl, by omega, by first | trivial | rfl, by rw [List.length_append, HLN.out]; simp; omega, E, K6⟩
                case measure => simp [intOf]; omega
              | false =>
                by_cases g1 : or < xr
                · have g1' := decide_eq_true g1
                  have E := Lib.hid (show (l.take (i + 1)).foldl (insS o) ([], false) = (cs ++ [o] ++ [x], true) by
                    rw [HN.out]
                    unfold insS
                    rw [LG.out, g1']
                    rfl)
                  have LO := Lib.hid (LOO.out wd KD.out)
                  have BS1 := Lib.hid (BX.out wd o)
                  have VB := vstep wd (.cells (oCells o) 35)
                  have NB := heap_alloc_new wd (.cells (oCells o) 35)
                  have KE := KD.out.step VB
                  obtain ⟨we, hwe⟩ : ∃ z, wd.alloc (.cells (oCells o) 35) = z := ⟨_, rfl⟩
                  rw [hwe] at VB NB KE BS1
                  obtain ⟨kb, hkb⟩ : ∃ z, wd.heap.size = z := ⟨_, rfl⟩
                  rw [hkb] at NB BS1
                  obtain ⟨a5, c5, w5, r5, k5⟩ := KE.push (by rw [HLN.out]; omega) kb o NB
                  have R1 := Lib.hid r5
                  rw [HLN.out] at R1
                  have LX := Lib.hid (LXX.out w5 k5.bel)
                  have BS2 := Lib.hid (BX.out w5 x)
                  have VC := vstep w5 (.cells (oCells x) 35)
                  have NC := heap_alloc_new w5 (.cells (oCells x) 35)
                  have KF := k5.step VC
                  obtain ⟨wf, hwf⟩ : ∃ z, w5.alloc (.cells (oCells x) 35) = z := ⟨_, rfl⟩
                  rw [hwf] at NC KF BS2
                  obtain ⟨kc, hkc⟩ : ∃ z, w5.heap.size = z := ⟨_, rfl⟩
                  rw [hkc] at NC BS2
                  obtain ⟨a6, c6, w6, r6, k6⟩ := KF.push (by rw [List.length_append, HLN.out]; simp; omega) kc x NC
                  have R2 := Lib.hid r6
                  have K6 := Lib.hid k6
                  have LN1 := Lib.hid (show (cs ++ [o]).length = n + 1 by rw [List.length_append, HLN.out]; rfl)
                  rw [LN1.out] at R2 K6
                  rw [HLN.out] at R2
                  rw [HXV.out] at BS2 LX
                  rw [HOV.out] at BS1 LO
                  clear r6 k6 hkc hwf NC KF VC r5 k5 hkb hwe NB KE VB
                  go_upto_region 15 with fail
                  refine wp_region_held_drew (S := fun w' => Below wr.heap.size wr w') (by kernel_rfl) (Below.refl _ _).drew (fun hHeld => ?_)
                  have BV := Lib.hid (show Below wr.heap.size wr wr.drew from (Below.refl _ _).drew)
                  clear hHeld
                  refine take_at (i := 0) 46 ?_ rfl rfl (by kernel_rfl) (by kernel_rfl) (by kernel_rfl) (fun _ _ _ h => h) (.inl ⟨rfl, ?_⟩) BV.out ?_
                  rotate_left 1
                  · intro w hSw; go_simp; try with_reducible rfl
                  simp only [Act.put, List.setIfInBounds_toArray, List.set_cons_zero, List.set_cons_succ]
                  refine take_at (i := 1) 47 ?_ rfl rfl (by kernel_rfl) (by kernel_rfl) (by kernel_rfl) (fun _ _ _ h => h) (.inl ⟨rfl, ?_⟩) BV.out ?_
                  rotate_left 1
                  · intro w hSw; go_simp; try with_reducible rfl
                  simp only [Act.put, List.setIfInBounds_toArray, List.set_cons_zero, List.set_cons_succ]
                  refine take_at (i := 2) 48 ?_ rfl rfl (by kernel_rfl) (by kernel_rfl) (by kernel_rfl) (fun _ _ _ h => h) (.inl ⟨rfl, ?_⟩) BV.out ?_
                  rotate_left 1
                  · intro w hSw; go_simp; try with_reducible rfl
                  simp only [Act.put, List.setIfInBounds_toArray, List.set_cons_zero, List.set_cons_succ]
                  refine take_at (i := 3) 49 ?_ rfl rfl (by kernel_rfl) (by kernel_rfl) (by kernel_rfl) (fun _ _ _ h => h) (.inl ⟨rfl, ?_⟩) BV.out ?_
                  rotate_left 1
                  · intro w hSw; go_simp; try with_reducible rfl
                  simp only [Act.put, List.setIfInBounds_toArray, List.set_cons_zero, List.set_cons_succ]
                  refine take_at (i := 4) 50 ?_ rfl rfl (by kernel_rfl) (by kernel_rfl) (by kernel_rfl) (fun _ _ _ h => h) (.inl ⟨rfl, ?_⟩) BV.out ?_
                  rotate_left 1
                  · intro w hSw; go_simp; try with_reducible rfl
                  simp only [Act.put, List.setIfInBounds_toArray, List.set_cons_zero, List.set_cons_succ]
                  refine take_at (i := 5) 51 (pvo g (off + i * 9)) rfl rfl (by kernel_rfl) (by kernel_rfl) (by kernel_rfl) (fun _ _ _ h => h) (yields_ix (.tmp 49) (.tmp 50) 27 (.slice (some ⟨g, off, none⟩) l.length cap) (.int .i64 (i : Int)) _ (fun W => IXR.out W) rfl rfl rfl rfl) BV.out ?_
                  simp only [Act.put, List.setIfInBounds_toArray, List.set_cons_zero, List.set_cons_succ]
                  refine take_at (i := 6) 52 ?_ rfl rfl (by kernel_rfl) (by kernel_rfl) (by kernel_rfl) (fun _ _ _ h => h) (.inl ⟨rfl, ?_⟩) BV.out ?_
                  rotate_left 1
                  · intro w hSw; go_simp; try with_reducible rfl
                  simp only [Act.put, List.setIfInBounds_toArray, List.set_cons_zero, List.set_cons_succ]
                  refine take_at (i := 7) 53 ?_ rfl rfl (by kernel_rfl) (by kernel_rfl) (by kernel_rfl) (fun _ _ _ h => h) (.inl ⟨rfl, ?_⟩) BV.out ?_
                  rotate_left 1
                  · intro w hSw; go_simp; try with_reducible rfl
                  simp only [Act.put, List.setIfInBounds_toArray, List.set_cons_zero, List.set_cons_succ]
                  refine take_at (i := 8) 54 (.int .i64 xr) rfl rfl (by kernel_rfl) (by kernel_rfl) (by kernel_rfl) (fun _ _ _ h => h) (yields_ld (.tmp 53) 3 (pvo g (off + i * 9 + 1)) _ (fun W h => (CX.out W h).1) rfl rfl rfl) BV.out ?_
                  simp only [Act.put, List.setIfInBounds_toArray, List.set_cons_zero, List.set_cons_succ]
                  refine take_at (i := 9) 55 ?_ rfl rfl (by kernel_rfl) (by kernel_rfl) (by kernel_rfl) (fun _ _ _ h => h) (.inl ⟨rfl, ?_⟩) BV.out ?_
                  rotate_left 1
                  · intro w hSw; go_simp; try with_reducible rfl
                  simp only [Act.put, List.setIfInBounds_toArray, List.set_cons_zero, List.set_cons_succ]
                  refine take_at (i := 10) 56 ?_ rfl rfl (by kernel_rfl) (by kernel_rfl) (by kernel_rfl) (fun _ _ _ h => h) (.inl ⟨rfl, ?_⟩) BV.out ?_
                  rotate_left 1
                  · intro w hSw; go_simp; try with_reducible rfl
                  simp only [Act.put, List.setIfInBounds_toArray, List.set_cons_zero, List.set_cons_succ]
                  refine take_at (i := 11) 57 (.int .i64 or) rfl rfl (by kernel_rfl) (by kernel_rfl) (by kernel_rfl) (fun _ _ _ h => h) (yields_ld (.tmp 56) 3 (pvo (w.heap.size + 1) 1) _ (fun W h => (CO.out W h).1) rfl rfl rfl) BV.out ?_
                  simp only [Act.put, List.setIfInBounds_toArray, List.set_cons_zero, List.set_cons_succ]
                  refine take_at (i := 12) 58 ?_ rfl rfl (by kernel_rfl) (by kernel_rfl) (by kernel_rfl) (fun _ _ _ h => h) (.inl ⟨rfl, ?_⟩) BV.out ?_
                  rotate_left 1
                  · intro w hSw; go_simp; try with_reducible rfl
                  simp only [Act.put, List.setIfInBounds_toArray, List.set_cons_zero, List.set_cons_succ]
                  refine take_at (i := 13) 59 ?_ rfl rfl (by kernel_rfl) (by kernel_rfl) (by kernel_rfl) (fun _ _ _ h => h) (.inl ⟨rfl, ?_⟩) BV.out ?_
                  rotate_left 1
                  · intro w hSw; go_simp; try with_reducible rfl
                  simp only [Act.put, List.setIfInBounds_toArray, List.set_cons_zero, List.set_cons_succ]
                  refine take_at (i := 14) 60 undef rfl rfl (by kernel_rfl) (by kernel_rfl) (by kernel_rfl) (fun _ _ _ h => h) (.inr ⟨rfl, rfl⟩) BV.out ?_
                  simp only [Act.put, List.setIfInBounds_toArray, List.set_cons_zero, List.set_cons_succ]
                  refine take_at (i := 15) 61 undef rfl rfl (by kernel_rfl) (by kernel_rfl) (by kernel_rfl) (fun _ _ _ h => h) (.inr ⟨rfl, rfl⟩) BV.out ?_
                  simp only [Act.put, List.setIfInBounds_toArray, List.set_cons_zero, List.set_cons_succ]
                  refine take_at (i := 16) 62 undef rfl rfl (by kernel_rfl) (by kernel_rfl) (by kernel_rfl) (fun _ _ _ h => h) (.inr ⟨rfl, rfl⟩) BV.out ?_
                  simp only [Act.put, List.setIfInBounds_toArray, List.set_cons_zero, List.set_cons_succ]
                  refine take_at (i := 17) 63 undef rfl rfl (by kernel_rfl) (by kernel_rfl) (by kernel_rfl) (fun _ _ _ h => h) (.inr ⟨rfl, rfl⟩) BV.out ?_
                  simp only [Act.put, List.setIfInBounds_toArray, List.set_cons_zero, List.set_cons_succ]
                  refine take_at (i := 18) 64 undef rfl rfl (by kernel_rfl) (by kernel_rfl) (by kernel_rfl) (fun _ _ _ h => h) (.inr ⟨rfl, rfl⟩) BV.out ?_
                  simp only [Act.put, List.setIfInBounds_toArray, List.set_cons_zero, List.set_cons_succ]
                  refine take_at (i := 19) 65 undef rfl rfl (by kernel_rfl) (by kernel_rfl) (by kernel_rfl) (fun _ _ _ h => h) (.inr ⟨rfl, rfl⟩) BV.out ?_
                  simp only [Act.put, List.setIfInBounds_toArray, List.set_cons_zero, List.set_cons_succ]
                  refine take_at (i := 20) 66 undef rfl rfl (by kernel_rfl) (by kernel_rfl) (by kernel_rfl) (fun _ _ _ h => h) (.inr ⟨rfl, rfl⟩) BV.out ?_
                  simp only [Act.put, List.setIfInBounds_toArray, List.set_cons_zero, List.set_cons_succ]
                  refine take_at (i := 21) 67 undef rfl rfl (by kernel_rfl) (by kernel_rfl) (by kernel_rfl) (fun _ _ _ h => h) (.inr ⟨rfl, rfl⟩) BV.out ?_
                  simp only [Act.put, List.setIfInBounds_toArray, List.set_cons_zero, List.set_cons_succ]
                  refine take_at (i := 22) 68 undef rfl rfl (by kernel_rfl) (by kernel_rfl) (by kernel_rfl) (fun _ _ _ h => h) (.inr ⟨rfl, rfl⟩) BV.out ?_
                  simp only [Act.put, List.setIfInBounds_toArray, List.set_cons_zero, List.set_cons_succ]
                  refine take_at (i := 23) 69 undef rfl rfl (by kernel_rfl) (by kernel_rfl) (by kernel_rfl) (fun _ _ _ h => h) (.inr ⟨rfl, rfl⟩) BV.out ?_
                  simp only [Act.put, List.setIfInBounds_toArray, List.set_cons_zero, List.set_cons_succ]
                  refine take_at (i := 24) 70 undef rfl rfl (by kernel_rfl) (by kernel_rfl) (by kernel_rfl) (fun _ _ _ h => h) (.inr ⟨rfl, rfl⟩) BV.out ?_
                  simp only [Act.put, List.setIfInBounds_toArray, List.set_cons_zero, List.set_cons_succ]
                  refine take_at (i := 25) 71 undef rfl rfl (by kernel_rfl) (by kernel_rfl) (by kernel_rfl) (fun _ _ _ h => h) (.inr ⟨rfl, rfl⟩) BV.out ?_
                  simp only [Act.put, List.setIfInBounds_toArray, List.set_cons_zero, List.set_cons_succ]
                  refine take_at (i := 26) 72 undef rfl rfl (by kernel_rfl) (by kernel_rfl) (by kernel_rfl) (fun _ _ _ h => h) (.inr ⟨rfl, rfl⟩) BV.out ?_
                  simp only [Act.put, List.setIfInBounds_toArray, List.set_cons_zero, List.set_cons_succ]
                  refine take_at (i := 27) 73 undef rfl rfl (by kernel_rfl) (by kernel_rfl) (by kernel_rfl) (fun _ _ _ h => h) (.inr ⟨rfl, rfl⟩) BV.out ?_
                  simp only [Act.put, List.setIfInBounds_toArray, List.set_cons_zero, List.set_cons_succ]
                  refine take_at (i := 28) 74 undef rfl rfl (by kernel_rfl) (by kernel_rfl) (by kernel_rfl) (fun _ _ _ h => h) (.inr ⟨rfl, rfl⟩) BV.out ?_
                  simp only [Act.put, List.setIfInBounds_toArray, List.set_cons_zero, List.set_cons_succ]
                  refine take_at (i := 29) 75 undef rfl rfl (by kernel_rfl) (by kernel_rfl) (by kernel_rfl) (fun _ _ _ h => h) (.inr ⟨rfl, rfl⟩) BV.out ?_
                  simp only [Act.put, List.setIfInBounds_toArray, List.set_cons_zero, List.set_cons_succ]
                  refine take_at (i := 30) 76 undef rfl rfl (by kernel_rfl) (by kernel_rfl) (by kernel_rfl) (fun _ _ _ h => h) (.inr ⟨rfl, rfl⟩) BV.out ?_
                  simp only [Act.put, List.setIfInBounds_toArray, List.set_cons_zero, List.set_cons_succ]
                  refine take_at (i := 31) 77 undef rfl rfl (by kernel_rfl) (by kernel_rfl) (by kernel_rfl) (fun _ _ _ h => h) (.inr ⟨rfl, rfl⟩) BV.out ?_
                  simp only [Act.put, List.setIfInBounds_toArray, List.set_cons_zero, List.set_cons_succ]
                  refine take_at (i := 32) 78 undef rfl rfl (by kernel_rfl) (by kernel_rfl) (by kernel_rfl) (fun _ _ _ h => h) (.inr ⟨rfl, rfl⟩) BV.out ?_
                  simp only [Act.put, List.setIfInBounds_toArray, List.set_cons_zero, List.set_cons_succ]
                  refine take_at (i := 33) 79 undef rfl rfl (by kernel_rfl) (by kernel_rfl) (by kernel_rfl) (fun _ _ _ h => h) (.inr ⟨rfl, rfl⟩) BV.out ?_
                  simp only [Act.put, List.setIfInBounds_toArray, List.set_cons_zero, List.set_cons_succ]
                  refine take_at (i := 34) 80 ?_ rfl rfl (by kernel_rfl) (by kernel_rfl) (by kernel_rfl) (fun _ _ _ h => h) (.inl ⟨rfl, ?_⟩) BV.out ?_
                  rotate_left 1
                  · intro w hSw; go_simp; try with_reducible rfl
                  simp only [Act.put, List.setIfInBounds_toArray, List.set_cons_zero, List.set_cons_succ]
                  refine take_at (i := 35) 81 ?_ rfl rfl (by kernel_rfl) (by kernel_rfl) (by kernel_rfl) (fun _ _ _ h => h) (.inl ⟨rfl, ?_⟩) BV.out ?_
                  rotate_left 1
                  · intro w hSw; go_simp; try with_reducible rfl
                  simp only [Act.put, List.setIfInBounds_toArray, List.set_cons_zero, List.set_cons_succ]
                  refine wpAnyH_done (by kernel_rfl) ?_ _
                  rw [HWD.out]
                  go_wp2_with (first | (refine wpList_ld rfl (.tmp 5) 35 rfl (pvo (w.heap.size + 1) 0) OV rfl LO.out ?_; simp only [Act.put, List.setIfInBounds_toArray, List.set_cons_zero, List.set_cons_succ]) | (refine wpList_bs rfl 27 (.tmp 83) rfl OV rfl (.slice (some ⟨kb, 0, none⟩) 1 1) _ BS1.out ?_; simp only [Act.put, List.setIfInBounds_toArray, List.set_cons_zero, List.set_cons_succ]) | (at_builtin; refine Lib.wpList_append_run _ rfl (.tmp 82) (.tmp 84) 27 27 rfl (.slice pa n pc) (.slice (some ⟨kb, 0, none⟩) 1 1) rfl rfl _ _ R1.out ?_; simp only [Act.put, List.setIfInBounds_toArray, List.set_cons_zero, List.set_cons_succ]) | (refine wpList_ld rfl (.tmp 89) 35 rfl (pvo g (off + i * 9)) XV rfl LX.out ?_; simp only [Act.put, List.setIfInBounds_toArray, List.set_cons_zero, List.set_cons_succ]) | (refine wpList_bs rfl 27 (.tmp 90) rfl XV rfl (.slice (some ⟨kc, 0, none⟩) 1 1) _ BS2.out ?_; simp only [Act.put, List.setIfInBounds_toArray, List.set_cons_zero, List.set_cons_succ]) | (at_builtin; refine Lib.wpList_append_run _ rfl (.tmp 86) (.tmp 91) 27 27 rfl (.slice a5 (n + 1) c5) (.slice (some ⟨kc, 0, none⟩) 1 1) rfl rfl _ _ R2.out ?_; simp only [Act.put, List.setIfInBounds_toArray, List.set_cons_zero, List.set_cons_succ]))
                  go_roundw
                  case rel => exact ⟨i + 1, cs ++ [o] ++ [x], true, by go_num, rfl, by omega, by first | trivial | rfl, by rw [List.length_append, LN1.out]; simp; omega, E, K6⟩
                  case measure => simp [intOf]; omega
                · by_cases g2 : xr = or
                  · have g2' := beqb_ xr or g2
                    by_cases g3 : oq < xq
                    · have g3' := decide_eq_true g3
                      have E := Lib.hid (show (l.take (i + 1)).foldl (insS o) ([], false) = (cs ++ [o] ++ [x], true) by
                        rw [HN.out]
                        unfold insS
                        rw [LG.out, decide_eq_false g1, g2', g3']
                        rfl)
                      have LO := Lib.hid (LOO.out wd KD.out)
                      have BS1 := Lib.hid (BX.out wd o)
                      have VB := vstep wd (.cells (oCells o) 35)
                      have NB := heap_alloc_new wd (.cells (oCells o) 35)
                      have KE := KD.out.step VB
                      obtain ⟨we, hwe⟩ : ∃ z, wd.alloc (.cells (oCells o) 35) = z := ⟨_, rfl⟩
                      rw [hwe] at VB NB KE BS1
                      obtain ⟨kb, hkb⟩ : ∃ z, wd.heap.size = z := ⟨_, rfl⟩
                      rw [hkb] at NB BS1
                      obtain ⟨a5, c5, w5, r5, k5⟩ := KE.push (by rw [HLN.out]; omega) kb o NB
                      have R1 := Lib.hid r5
                      rw [HLN.out] at R1
                      have LX := Lib.hid (LXX.out w5 k5.bel)
                      have BS2 := Lib.hid (BX.out w5 x)
                      have VC := vstep w5 (.cells (oCells x) 35)
                      have NC := heap_alloc_new w5 (.cells (oCells x) 35)
                      have KF := k5.step VC
                      obtain ⟨wf, hwf⟩ : ∃ z, w5.alloc (.cells (oCells x) 35) = z := ⟨_, rfl⟩
                      rw [hwf] at NC KF BS2
                      obtain ⟨kc, hkc⟩ : ∃ z, w5.heap.size = z := ⟨_, rfl⟩
                      rw [hkc] at NC BS2
                      obtain ⟨a6, c6, w6, r6, k6⟩ := KF.push (by rw [List.length_append, HLN.out]; simp; omega) kc x NC
                      have R2 := Lib.hid r6
                      have K6 := Lib.hid k6
                      have LN1 := Lib.hid (show (cs ++ [o]).length = n + 1 by rw [List.length_append, HLN.out]; rfl)
                      rw [LN1.out] at R2 K6
                      rw [HLN.out] at R2
                      rw [HXV.out] at BS2 LX
                      rw [HOV.out] at BS1 LO
                      clear r6 k6 hkc hwf NC KF VC r5 k5 hkb hwe NB KE VB
                      go_upto_region 15 with fail
                      refine wp_region_held_drew (S := fun w' => Below wr.heap.size wr w') (by kernel_rfl) (Below.refl _ _).drew (fun hHeld => ?_)
                      have BV := Lib.hid (show Below wr.heap.size wr wr.drew from (Below.refl _ _).drew)
                      clear hHeld
                      refine take_at (i := 0) 46 ?_ rfl rfl (by kernel_rfl) (by kernel_rfl) (by kernel_rfl) (fun _ _ _ h => h) (.inl ⟨rfl, ?_⟩) BV.out ?_
                      rotate_left 1
                      · intro w hSw; go_simp; try with_reducible rfl
                      simp only [Act.put, List.setIfInBounds_toArray, List.set_cons_zero, List.set_cons_succ]
                      refine take_at (i := 1) 47 ?_ rfl rfl (by kernel_rfl) (by kernel_rfl) (by kernel_rfl) (fun _ _ _ h => h) (.inl ⟨rfl, ?_⟩) BV.out ?_
                      rotate_left 1
                      · intro w hSw; go_simp; try with_reducible rfl
                      simp only [Act.put, List.setIfInBounds_toArray, List.set_cons_zero, List.set_cons_succ]
                      refine take_at (i := 2) 48 ?_ rfl rfl (by kernel_rfl) (by kernel_rfl) (by kernel_rfl) (fun _ _ _ h => h) (.inl ⟨rfl, ?_⟩) BV.out ?_
                      rotate_left 1
                      · intro w hSw; go_simp; try with_reducible rfl
                      simp only [Act.put, List.setIfInBounds_toArray, List.set_cons_zero, List.set_cons_succ]
                      refine take_at (i := 3) 49 ?_ rfl rfl (by kernel_rfl) (by kernel_rfl) (by kernel_rfl) (fun _ _ _ h => h) (.inl ⟨rfl, ?_⟩) BV.out ?_
                      rotate_left 1
                      · intro w hSw; go_simp; try with_reducible rfl
                      simp only [Act.put, List.setIfInBounds_toArray, List.set_cons_zero, List.set_cons_succ]
                      refine take_at (i := 4) 50 ?_ rfl rfl (by kernel_rfl) (by kernel_rfl) (by kernel_rfl) (fun _ _ _ h => h) (.inl ⟨rfl, ?_⟩) BV.out ?_
                      rotate_left 1
                      · intro w hSw; go_simp; try with_reducible rfl
                      simp only [Act.put, List.setIfInBounds_toArray, List.set_cons_zero, List.set_cons_succ]
                      refine take_at (i := 5) 51 (pvo g (off + i * 9)) rfl rfl (by kernel_rfl) (by kernel_rfl) (by kernel_rfl) (fun _ _ _ h => h) (yields_ix (.tmp 49) (.tmp 50) 27 (.slice (some ⟨g, off, none⟩) l.length cap) (.int .i64 (i : Int)) _ (fun W => IXR.out W) rfl rfl rfl rfl) BV.out ?_
                      simp only [Act.put, List.setIfInBounds_toArray, List.set_cons_zero, List.set_cons_succ]
                      refine take_at (i := 6) 52 ?_ rfl rfl (by kernel_rfl) (by kernel_rfl) (by kernel_rfl) (fun _ _ _ h => h) (.inl ⟨rfl, ?_⟩) BV.out ?_
                      rotate_left 1
                      · intro w hSw; go_simp; try with_reducible rfl
                      simp only [Act.put, List.setIfInBounds_toArray, List.set_cons_zero, List.set_cons_succ]
                      refine take_at (i := 7) 53 ?_ rfl rfl (by kernel_rfl) (by kernel_rfl) (by kernel_rfl) (fun _ _ _ h => h) (.inl ⟨rfl, ?_⟩) BV.out ?_
                      rotate_left 1
                      · intro w hSw; go_simp; try with_reducible rfl
                      simp only [Act.put, List.setIfInBounds_toArray, List.set_cons_zero, List.set_cons_succ]
                      refine take_at (i := 8) 54 (.int .i64 xr) rfl rfl (by kernel_rfl) (by kernel_rfl) (by kernel_rfl) (fun _ _ _ h => h) (yields_ld (.tmp 53) 3 (pvo g (off + i * 9 + 1)) _ (fun W h => (CX.out W h).1) rfl rfl rfl) BV.out ?_
                      simp only [Act.put, List.setIfInBounds_toArray, List.set_cons_zero, List.set_cons_succ]
                      refine take_at (i := 9) 55 ?_ rfl rfl (by kernel_rfl) (by kernel_rfl) (by kernel_rfl) (fun _ _ _ h => h) (.inl ⟨rfl, ?_⟩) BV.out ?_
                      rotate_left 1
                      · intro w hSw; go_simp; try with_reducible rfl
                      simp only [Act.put, List.setIfInBounds_toArray, List.set_cons_zero, List.set_cons_succ]
                      refine take_at (i := 10) 56 ?_ rfl rfl (by kernel_rfl) (by kernel_rfl) (by kernel_rfl) (fun _ _ _ h => h) (.inl ⟨rfl, ?_⟩) BV.out ?_
                      rotate_left 1
                      · intro w hSw; go_simp; try with_reducible rfl
                      simp only [Act.put, List.setIfInBounds_toArray, List.set_cons_zero, List.set_cons_succ]
                      refine take_at (i := 11) 57 (.int .i64 or) rfl rfl (by kernel_rfl) (by kernel_rfl) (by kernel_rfl) (fun _ _ _ h => h) (yields_ld (.tmp 56) 3 (pvo (w.heap.size + 1) 1) _ (fun W h => (CO.out W h).1) rfl rfl rfl) BV.out ?_
                      simp only [Act.put, List.setIfInBounds_toArray, List.set_cons_zero, List.set_cons_succ]
                      refine take_at (i := 12) 58 ?_ rfl rfl (by kernel_rfl) (by kernel_rfl) (by kernel_rfl) (fun _ _ _ h => h) (.inl ⟨rfl, ?_⟩) BV.out ?_
                      rotate_left 1
                      · intro w hSw; go_simp; try with_reducible rfl
                      simp only [Act.put, List.setIfInBounds_toArray, List.set_cons_zero, List.set_cons_succ]
                      refine take_at (i := 13) 59 ?_ rfl rfl (by kernel_rfl) (by kernel_rfl) (by kernel_rfl) (fun _ _ _ h => h) (.inl ⟨rfl, ?_⟩) BV.out ?_
                      rotate_left 1
                      · intro w hSw; go_simp; try with_reducible rfl
                      simp only [Act.put, List.setIfInBounds_toArray, List.set_cons_zero, List.set_cons_succ]
                      refine take_at (i := 14) 60 ?_ rfl rfl (by kernel_rfl) (by kernel_rfl) (by kernel_rfl) (fun _ _ _ h => h) (.inl ⟨rfl, ?_⟩) BV.out ?_
                      rotate_left 1
                      · intro w hSw; go_simp; try with_reducible rfl
                      simp only [Act.put, List.setIfInBounds_toArray, List.set_cons_zero, List.set_cons_succ]
                      refine take_at (i := 15) 61 ?_ rfl rfl (by kernel_rfl) (by kernel_rfl) (by kernel_rfl) (fun _ _ _ h => h) (.inl ⟨rfl, ?_⟩) BV.out ?_
                      rotate_left 1
                      · intro w hSw; go_simp; try with_reducible rfl
                      simp only [Act.put, List.setIfInBounds_toArray, List.set_cons_zero, List.set_cons_succ]
                      refine take_at (i := 16) 62 (pvo g (off + i * 9)) rfl rfl (by kernel_rfl) (by kernel_rfl) (by kernel_rfl) (fun _ _ _ h => h) (yields_ix (.tmp 60) (.tmp 61) 27 (.slice (some ⟨g, off, none⟩) l.length cap) (.int .i64 (i : Int)) _ (fun W => IXR.out W) rfl rfl rfl rfl) BV.out ?_
                      simp only [Act.put, List.setIfInBounds_toArray, List.set_cons_zero, List.set_cons_succ]
                      refine take_at (i := 17) 63 ?_ rfl rfl (by kernel_rfl) (by kernel_rfl) (by kernel_rfl) (fun _ _ _ h => h) (.inl ⟨rfl, ?_⟩) BV.out ?_
                      rotate_left 1
                      · intro w hSw; go_simp; try with_reducible rfl
                      simp only [Act.put, List.setIfInBounds_toArray, List.set_cons_zero, List.set_cons_succ]
                      refine take_at (i := 18) 64 ?_ rfl rfl (by kernel_rfl) (by kernel_rfl) (by kernel_rfl) (fun _ _ _ h => h) (.inl ⟨rfl, ?_⟩) BV.out ?_
                      rotate_left 1
                      · intro w hSw; go_simp; try with_reducible rfl
                      simp only [Act.put, List.setIfInBounds_toArray, List.set_cons_zero, List.set_cons_succ]
                      refine take_at (i := 19) 65 (.int .i64 xr) rfl rfl (by kernel_rfl) (by kernel_rfl) (by kernel_rfl) (fun _ _ _ h => h) (yields_ld (.tmp 64) 3 (pvo g (off + i * 9 + 1)) _ (fun W h => (CX.out W h).1) rfl rfl rfl) BV.out ?_
                      simp only [Act.put, List.setIfInBounds_toArray, List.set_cons_zero, List.set_cons_succ]
                      refine take_at (i := 20) 66 ?_ rfl rfl (by kernel_rfl) (by kernel_rfl) (by kernel_rfl) (fun _ _ _ h => h) (.inl ⟨rfl, ?_⟩) BV.out ?_
                      rotate_left 1
                      · intro w hSw; go_simp; try with_reducible rfl
                      simp only [Act.put, List.setIfInBounds_toArray, List.set_cons_zero, List.set_cons_succ]
                      refine take_at (i := 21) 67 ?_ rfl rfl (by kernel_rfl) (by kernel_rfl) (by kernel_rfl) (fun _ _ _ h => h) (.inl ⟨rfl, ?_⟩) BV.out ?_
                      rotate_left 1
                      · intro w hSw; go_simp; try with_reducible rfl
                      simp only [Act.put, List.setIfInBounds_toArray, List.set_cons_zero, List.set_cons_succ]
                      refine take_at (i := 22) 68 (.int .i64 or) rfl rfl (by kernel_rfl) (by kernel_rfl) (by kernel_rfl) (fun _ _ _ h => h) (yields_ld (.tmp 67) 3 (pvo (w.heap.size + 1) 1) _ (fun W h => (CO.out W h).1) rfl rfl rfl) BV.out ?_
                      simp only [Act.put, List.setIfInBounds_toArray, List.set_cons_zero, List.set_cons_succ]
                      refine take_at (i := 23) 69 ?_ rfl rfl (by kernel_rfl) (by kernel_rfl) (by kernel_rfl) (fun _ _ _ h => h) (.inl ⟨rfl, ?_⟩) BV.out ?_
                      rotate_left 1
                      · intro w hSw; go_simp; try with_reducible rfl
                      simp only [Act.put, List.setIfInBounds_toArray, List.set_cons_zero, List.set_cons_succ]
                      refine take_at (i := 24) 70 ?_ rfl rfl (by kernel_rfl) (by kernel_rfl) (by kernel_rfl) (fun _ _ _ h => h) (.inl ⟨rfl, ?_⟩) BV.out ?_
                      rotate_left 1
                      · intro w hSw; go_simp; try with_reducible rfl
                      simp only [Act.put, List.setIfInBounds_toArray, List.set_cons_zero, List.set_cons_succ]
                      refine take_at (i := 25) 71 ?_ rfl rfl (by kernel_rfl) (by kernel_rfl) (by kernel_rfl) (fun _ _ _ h => h) (.inl ⟨rfl, ?_⟩) BV.out ?_
                      rotate_left 1
                      · intro w hSw; go_simp; try with_reducible rfl
                      simp only [Act.put, List.setIfInBounds_toArray, List.set_cons_zero, List.set_cons_succ]
                      refine take_at (i := 26) 72 ?_ rfl rfl (by kernel_rfl) (by kernel_rfl) (by kernel_rfl) (fun _ _ _ h => h) (.inl ⟨rfl, ?_⟩) BV.out ?_
                      rotate_left 1
                      · intro w hSw; go_simp; try with_reducible rfl
                      simp only [Act.put, List.setIfInBounds_toArray, List.set_cons_zero, List.set_cons_succ]
                      refine take_at (i := 27) 73 (pvo g (off + i * 9)) rfl rfl (by kernel_rfl) (by kernel_rfl) (by kernel_rfl) (fun _ _ _ h => h) (yields_ix (.tmp 71) (.tmp 72) 27 (.slice (some ⟨g, off, none⟩) l.length cap) (.int .i64 (i : Int)) _ (fun W => IXR.out W) rfl rfl rfl rfl) BV.out ?_
                      simp only [Act.put, List.setIfInBounds_toArray, List.set_cons_zero, List.set_cons_succ]
                      refine take_at (i := 28) 74 ?_ rfl rfl (by kernel_rfl) (by kernel_rfl) (by kernel_rfl) (fun _ _ _ h => h) (.inl ⟨rfl, ?_⟩) BV.out ?_
                      rotate_left 1
                      · intro w hSw; go_simp; try with_reducible rfl
                      simp only [Act.put, List.setIfInBounds_toArray, List.set_cons_zero, List.set_cons_succ]
                      refine take_at (i := 29) 75 (.int .i64 xq) rfl rfl (by kernel_rfl) (by kernel_rfl) (by kernel_rfl) (fun _ _ _ h => h) (yields_ld (.tmp 74) 3 (pvo g (off + i * 9 + 2)) _ (fun W h => (CX.out W h).2) rfl rfl rfl) BV.out ?_
                      simp only [Act.put, List.setIfInBounds_toArray, List.set_cons_zero, List.set_cons_succ]
                      refine take_at (i := 30) 76 ?_ rfl rfl (by kernel_rfl) (by kernel_rfl) (by kernel_rfl) (fun _ _ _ h => h) (.inl ⟨rfl, ?_⟩) BV.out ?_
                      rotate_left 1
                      · intro w hSw; go_simp; try with_reducible rfl
                      simp only [Act.put, List.setIfInBounds_toArray, List.set_cons_zero, List.set_cons_succ]
                      refine take_at (i := 31) 77 (.int .i64 oq) rfl rfl (by kernel_rfl) (by kernel_rfl) (by kernel_rfl) (fun _ _ _ h => h) (yields_ld (.tmp 76) 3 (pvo (w.heap.size + 1) 2) _ (fun W h => (CO.out W h).2) rfl rfl rfl) BV.out ?_
                      simp only [Act.put, List.setIfInBounds_toArray, List.set_cons_zero, List.set_cons_succ]
                      refine take_at (i := 32) 78 ?_ rfl rfl (by kernel_rfl) (by kernel_rfl) (by kernel_rfl) (fun _ _ _ h => h) (.inl ⟨rfl, ?_⟩) BV.out ?_
                      rotate_left 1
                      · intro w hSw; go_simp; try with_reducible rfl
                      simp only [Act.put, List.setIfInBounds_toArray, List.set_cons_zero, List.set_cons_succ]
                      refine take_at (i := 33) 79 ?_ rfl rfl (by kernel_rfl) (by kernel_rfl) (by kernel_rfl) (fun _ _ _ h => h) (.inl ⟨rfl, ?_⟩) BV.out ?_
                      rotate_left 1
                      · intro w hSw; go_simp; try with_reducible rfl
                      simp only [Act.put, List.setIfInBounds_toArray, List.set_cons_zero, List.set_cons_succ]
                      refine take_at (i := 34) 80 ?_ rfl rfl (by kernel_rfl) (by kernel_rfl) (by kernel_rfl) (fun _ _ _ h => h) (.inl ⟨rfl, ?_⟩) BV.out ?_
                      rotate_left 1
                      · intro w hSw; go_simp; try with_reducible rfl
                      simp only [Act.put, List.setIfInBounds_toArray, List.set_cons_zero, List.set_cons_succ]
                      refine take_at (i := 35) 81 ?_ rfl rfl (by kernel_rfl) (by kernel_rfl) (by kernel_rfl) (fun _ _ _ h => h) (.inl ⟨rfl, ?_⟩) BV.out ?_
                      rotate_left 1
                      · intro w hSw; go_simp; try with_reducible rfl
                      simp only [Act.put, List.setIfInBounds_toArray, List.set_cons_zero, List.set_cons_succ]
                      refine wpAnyH_done (by kernel_rfl) ?_ _
                      rw [HWD.out]
                      go_wp2_with (first | (refine wpList_ld rfl (.tmp 5) 35 rfl (pvo (w.heap.size + 1) 0) OV rfl LO.out ?_; simp only [Act.put, List.setIfInBounds_toArray, List.set_cons_zero, List.set_cons_succ]) | (refine wpList_bs rfl 27 (.tmp 83) rfl OV rfl (.slice (some ⟨kb, 0, none⟩) 1 1) _ BS1.out ?_; simp only [Act.put, List.setIfInBounds_toArray, List.set_cons_zero, List.set_cons_succ]) | (at_builtin; refine Lib.wpList_append_run _ rfl (.tmp 82) (.tmp 84) 27 27 rfl (.slice pa n pc) (.slice (some ⟨kb, 0, none⟩) 1 1) rfl rfl _ _ R1.out ?_; simp only [Act.put, List.setIfInBounds_toArray, List.set_cons_zero, List.set_cons_succ]) | (refine wpList_ld rfl (.tmp 89) 35 rfl (pvo g (off + i * 9)) XV rfl LX.out ?_; simp only [Act.put, List.setIfInBounds_toArray, List.set_cons_zero, List.set_cons_succ]) | (refine wpList_bs rfl 27 (.tmp 90) rfl XV rfl (.slice (some ⟨kc, 0, none⟩) 1 1) _ BS2.out ?_; simp only [Act.put, List.setIfInBounds_toArray, List.set_cons_zero, List.set_cons_succ]) | (at_builtin; refine Lib.wpList_append_run _ rfl (.tmp 86) (.tmp 91) 27 27 rfl (.slice a5 (n + 1) c5) (.slice (some ⟨kc, 0, none⟩) 1 1) rfl rfl _ _ R2.out ?_; simp only [Act.put, List.setIfInBounds_toArray, List.set_cons_zero, List.set_cons_succ]))
                      go_roundw
                      case rel => exact ⟨i + 1, cs ++ [o] ++ [x], true, by go_num, rfl, by omega, by first | trivial | rfl, by rw [List.length_append, LN1.out]; simp; omega, E, K6⟩
                      case measure => simp [intOf]; omega
                    · have g3' := decide_eq_false g3
                      have E := Lib.hid (show (l.take (i + 1)).foldl (insS o) ([], false) = (cs ++ [x], false) by
                        rw [HN.out]
                        unfold insS
                        rw [LG.out, decide_eq_false g1, g2', g3']
                        rfl)
                      have LX := Lib.hid (LXX.out wd KD.out.bel)
                      have BS2 := Lib.hid (BX.out wd x)
                      have VB := vstep wd (.cells (oCells x) 35)
                      have NB := heap_alloc_new wd (.cells (oCells x) 35)
                      have KE := KD.out.step VB
                      obtain ⟨we, hwe⟩ : ∃ z, wd.alloc (.cells (oCells x) 35) = z := ⟨_, rfl⟩
                      rw [hwe] at VB NB KE BS2
                      obtain ⟨kc, hkc⟩ : ∃ z, wd.heap.size = z := ⟨_, rfl⟩
                      rw [hkc] at NB BS2
                      obtain ⟨a6, c6, w6, r6, k6⟩ := KE.push (by rw [HLN.out]; omega) kc x NB
                      have R2 := Lib.hid r6
                      have K6 := Lib.hid k6
                      rw [HLN.out] at R2 K6
                      rw [HXV.out] at BS2 LX
                      clear r6 k6 hkc hwe NB KE VB
                      go_upto_region 15 with fail
                      refine wp_region_held_drew (S := fun w' => Below wr.heap.size wr w') (by kernel_rfl) (Below.refl _ _).drew (fun hHeld => ?_)
                      have BV := Lib.hid (show Below wr.heap.size wr wr.drew from (Below.refl _ _).drew)
                      clear hHeld
                      refine take_at (i := 0) 46 ?_ rfl rfl (by kernel_rfl) (by kernel_rfl) (by kernel_rfl) (fun _ _ _ h => h) (.inl ⟨rfl, ?_⟩) BV.out ?_
                      rotate_left 1
                      · intro w hSw; go_simp; try with_reducible rfl
                      simp only [Act.put, List.setIfInBounds_toArray, List.set_cons_zero, List.set_cons_succ]
                      refine take_at (i := 1) 47 ?_ rfl rfl (by kernel_rfl) (by kernel_rfl) (by kernel_rfl) (fun _ _ _ h => h) (.inl ⟨rfl, ?_⟩) BV.out ?_
                      rotate_left 1
                      · intro w hSw; go_simp; try with_reducible rfl
                      simp only [Act.put, List.setIfInBounds_toArray, List.set_cons_zero, List.set_cons_succ]
                      refine take_at (i := 2) 48 ?_ rfl rfl (by kernel_rfl) (by kernel_rfl) (by kernel_rfl) (fun _ _ _ h => h) (.inl ⟨rfl, ?_⟩) BV.out ?_
                      rotate_left 1
                      · intro w hSw; go_simp; try with_reducible rfl
                      simp only [Act.put, List.setIfInBounds_toArray, List.set_cons_zero, List.set_cons_succ]
                      refine take_at (i := 3) 49 ?_ rfl rfl (by kernel_rfl) (by kernel_rfl) (by kernel_rfl) (fun _ _ _ h => h) (.inl ⟨rfl, ?_⟩) BV.out ?_
                      rotate_left 1
                      · intro w hSw; go_simp; try with_reducible rfl
                      simp only [Act.put, List.setIfInBounds_toArray, List.set_cons_zero, List.set_cons_succ]
                      refine take_at (i := 4) 50 ?_ rfl rfl (by kernel_rfl) (by kernel_rfl) (by kernel_rfl) (fun _ _ _ h => h) (.inl ⟨rfl, ?_⟩) BV.out ?_
                      rotate_left 1
                      · intro w hSw; go_simp; try with_reducible rfl
                      simp only [Act.put, List.setIfInBounds_toArray, List.set_cons_zero, List.set_cons_succ]
                      refine take_at (i := 5) 51 (pvo g (off + i * 9)) rfl rfl (by kernel_rfl) (by kernel_rfl) (by kernel_rfl) (fun _ _ _ h => h) (yields_ix (.tmp 49) (.tmp 50) 27 (.slice (some ⟨g, off, none⟩) l.length cap) (.int .i64 (i : Int)) _ (fun W => IXR.out W) rfl rfl rfl rfl) BV.out ?_
                      simp only [Act.put, List.setIfInBounds_toArray, List.set_cons_zero, List.set_cons_succ]
                      refine take_at (i := 6) 52 ?_ rfl rfl (by kernel_rfl) (by kernel_rfl) (by kernel_rfl) (fun _ _ _ h => h) (.inl ⟨rfl, ?_⟩) BV.out ?_
                      rotate_left 1
                      · intro w hSw; go_simp; try with_reducible rfl
                      simp only [Act.put, List.setIfInBounds_toArray, List.set_cons_zero, List.set_cons_succ]
                      refine take_at (i := 7) 53 ?_ rfl rfl (by kernel_rfl) (by kernel_rfl) (by kernel_rfl) (fun _ _ _ h => h) (.inl ⟨rfl, ?_⟩) BV.out ?_
                      rotate_left 1
                      · intro w hSw; go_simp; try with_reducible rfl
                      simp only [Act.put, List.setIfInBounds_toArray, List.set_cons_zero, List.set_cons_succ]
                      refine take_at (i := 8) 54 (.int .i64 xr) rfl rfl (by kernel_rfl) (by kernel_rfl) (by kernel_rfl) (fun _ _ _ h => h) (yields_ld (.tmp 53) 3 (pvo g (off + i * 9 + 1)) _ (fun W h => (CX.out W h).1) rfl rfl rfl) BV.out ?_
                      simp only [Act.put, List.setIfInBounds_toArray, List.set_cons_zero, List.set_cons_succ]
                      refine take_at (i := 9) 55 ?_ rfl rfl (by kernel_rfl) (by kernel_rfl) (by kernel_rfl) (fun _ _ _ h => h) (.inl ⟨rfl, ?_⟩) BV.out ?_
                      rotate_left 1
                      · intro w hSw; go_simp; try with_reducible rfl
                      simp only [Act.put, List.setIfInBounds_toArray, List.set_cons_zero, List.set_cons_succ]
                      refine take_at (i := 10) 56 ?_ rfl rfl (by kernel_rfl) (by kernel_rfl) (by kernel_rfl) (fun _ _ _ h => h) (.inl ⟨rfl, ?_⟩) BV.out ?_
                      rotate_left 1
                      · intro w hSw; go_simp; try with_reducible rfl
                      simp only [Act.put, List.setIfInBounds_toArray, List.set_cons_zero, List.set_cons_succ]
                      refine take_at (i := 11) 57 (.int .i64 or) rfl rfl (by kernel_rfl) (by kernel_rfl) (by kernel_rfl) (fun _ _ _ h => h) (yields_ld (.tmp 56) 3 (pvo (w.heap.size + 1) 1) _ (fun W h => (CO.out W h).1) rfl rfl rfl) BV.out ?_
                      simp only [Act.put, List.setIfInBounds_toArray, List.set_cons_zero, List.set_cons_succ]
                      refine take_at (i := 12) 58 ?_ rfl rfl (by kernel_rfl) (by kernel_rfl) (by kernel_rfl) (fun _ _ _ h => h) (.inl ⟨rfl, ?_⟩) BV.out ?_
                      rotate_left 1
                      · intro w hSw; go_simp; try with_reducible rfl
                      simp only [Act.put, List.setIfInBounds_toArray, List.set_cons_zero, List.set_cons_succ]
                      refine take_at (i := 13) 59 ?_ rfl rfl (by kernel_rfl) (by kernel_rfl) (by kernel_rfl) (fun _ _ _ h => h) (.inl ⟨rfl, ?_⟩) BV.out ?_
                      rotate_left 1
                      · intro w hSw; go_simp; try with_reducible rfl
                      simp only [Act.put, List.setIfInBounds_toArray, List.set_cons_zero, List.set_cons_succ]
                      refine take_at (i := 14) 60 ?_ rfl rfl (by kernel_rfl) (by kernel_rfl) (by kernel_rfl) (fun _ _ _ h => h) (.inl ⟨rfl, ?_⟩) BV.out ?_
                      rotate_left 1
                      · intro w hSw; go_simp; try with_reducible rfl
                      simp only [Act.put, List.setIfInBounds_toArray, List.set_cons_zero, List.set_cons_succ]
                      refine take_at (i := 15) 61 ?_ rfl rfl (by kernel_rfl) (by kernel_rfl) (by kernel_rfl) (fun _ _ _ h => h) (.inl ⟨rfl, ?_⟩) BV.out ?_
                      rotate_left 1
                      · intro w hSw; go_simp; try with_reducible rfl
                      simp only [Act.put, List.setIfInBounds_toArray, List.set_cons_zero, List.set_cons_succ]
                      refine take_at (i := 16) 62 (pvo g (off + i * 9)) rfl rfl (by kernel_rfl) (by kernel_rfl) (by kernel_rfl) (fun _ _ _ h => h) (yields_ix (.tmp 60) (.tmp 61) 27 (.slice (some ⟨g, off, none⟩) l.length cap) (.int .i64 (i : Int)) _ (fun W => IXR.out W) rfl rfl rfl rfl) BV.out ?_
                      simp only [Act.put, List.setIfInBounds_toArray, List.set_cons_zero, List.set_cons_succ]
                      refine take_at (i := 17) 63 ?_ rfl rfl (by kernel_rfl) (by kernel_rfl) (by kernel_rfl) (fun _ _ _ h => h) (.inl ⟨rfl, ?_⟩) BV.out ?_
                      rotate_left 1
                      · intro w hSw; go_simp; try with_reducible rfl
                      simp only [Act.put, List.setIfInBounds_toArray, List.set_cons_zero, List.set_cons_succ]
                      refine take_at (i := 18) 64 ?_ rfl rfl (by kernel_rfl) (by kernel_rfl) (by kernel_rfl) (fun _ _ _ h => h) (.inl ⟨rfl, ?_⟩) BV.out ?_
                      rotate_left 1
                      · intro w hSw; go_simp; try with_reducible rfl
                      simp only [Act.put, List.setIfInBounds_toArray, List.set_cons_zero, List.set_cons_succ]
                      refine take_at (i := 19) 65 (.int .i64 xr) rfl rfl (by kernel_rfl) (by kernel_rfl) (by kernel_rfl) (fun _ _ _ h => h) (yields_ld (.tmp 64) 3 (pvo g (off + i * 9 + 1)) _ (fun W h => (CX.out W h).1) rfl rfl rfl) BV.out ?_
                      simp only [Act.put, List.setIfInBounds_toArray, List.set_cons_zero, List.set_cons_succ]
                      refine take_at (i := 20) 66 ?_ rfl rfl (by kernel_rfl) (by kernel_rfl) (by kernel_rfl) (fun _ _ _ h => h) (.inl ⟨rfl, ?_⟩) BV.out ?_
                      rotate_left 1
                      · intro w hSw; go_simp; try with_reducible rfl
                      simp only [Act.put, List.setIfInBounds_toArray, List.set_cons_zero, List.set_cons_succ]
                      refine take_at (i := 21) 67 ?_ rfl rfl (by kernel_rfl) (by kernel_rfl) (by kernel_rfl) (fun _ _ _ h => h) (.inl ⟨rfl, ?_⟩) BV.out ?_
                      rotate_left 1
                      · intro w hSw; go_simp; try with_reducible rfl
                      simp only [Act.put, List.setIfInBounds_toArray, List.set_cons_zero, List.set_cons_succ]
                      refine take_at (i := 22) 68 (.int .i64 or) rfl rfl (by kernel_rfl) (by kernel_rfl) (by kernel_rfl) (fun _ _ _ h => h) (yields_ld (.tmp 67) 3 (pvo (w.heap.size + 1) 1) _ (fun W h => (CO.out W h).1) rfl rfl rfl) BV.out ?_
                      simp only [Act.put, List.setIfInBounds_toArray, List.set_cons_zero, List.set_cons_succ]
                      refine take_at (i := 23) 69 ?_ rfl rfl (by kernel_rfl) (by kernel_rfl) (by kernel_rfl) (fun _ _ _ h => h) (.inl ⟨rfl, ?_⟩) BV.out ?_
                      rotate_left 1
                      · intro w hSw; go_simp; try with_reducible rfl
                      simp only [Act.put, List.setIfInBounds_toArray, List.set_cons_zero, List.set_cons_succ]
                      refine take_at (i := 24) 70 ?_ rfl rfl (by kernel_rfl) (by kernel_rfl) (by kernel_rfl) (fun _ _ _ h => h) (.inl ⟨rfl, ?_⟩) BV.out ?_
                      rotate_left 1
                      · intro w hSw; go_simp; try with_reducible rfl
                      simp only [Act.put, List.setIfInBounds_toArray, List.set_cons_zero, List.set_cons_succ]
                      refine take_at (i := 25) 71 ?_ rfl rfl (by kernel_rfl) (by kernel_rfl) (by kernel_rfl) (fun _ _ _ h => h) (.inl ⟨rfl, ?_⟩) BV.out ?_
                      rotate_left 1
                      · intro w hSw; go_simp; try with_reducible rfl
                      simp only [Act.put, List.setIfInBounds_toArray, List.set_cons_zero, List.set_cons_succ]
                      refine take_at (i := 26) 72 ?_ rfl rfl (by kernel_rfl) (by kernel_rfl) (by kernel_rfl) (fun _ _ _ h => h) (.inl ⟨rfl, ?_⟩) BV.out ?_
                      rotate_left 1
                      · intro w hSw; go_simp; try with_reducible rfl
                      simp only [Act.put, List.setIfInBounds_toArray, List.set_cons_zero, List.set_cons_succ]
                      refine take_at (i := 27) 73 (pvo g (off + i * 9)) rfl rfl (by kernel_rfl) (by kernel_rfl) (by kernel_rfl) (fun _ _ _ h => h) (yields_ix (.tmp 71) (.tmp 72) 27 (.slice (some ⟨g, off, none⟩) l.length cap) (.int .i64 (i : Int)) _ (fun W => IXR.out W) rfl rfl rfl rfl) BV.out ?_
                      simp only [Act.put, List.setIfInBounds_toArray, List.set_cons_zero, List.set_cons_succ]
                      refine take_at (i := 28) 74 ?_ rfl rfl (by kernel_rfl) (by kernel_rfl) (by kernel_rfl) (fun _ _ _ h => h) (.inl ⟨rfl, ?_⟩) BV.out ?_
                      rotate_left 1
                      · intro w hSw; go_simp; try with_reducible rfl
                      simp only [Act.put, List.setIfInBounds_toArray, List.set_cons_zero, List.set_cons_succ]
                      refine take_at (i := 29) 75 (.int .i64 xq) rfl rfl (by kernel_rfl) (by kernel_rfl) (by kernel_rfl) (fun _ _ _ h => h) (yields_ld (.tmp 74) 3 (pvo g (off + i * 9 + 2)) _ (fun W h => (CX.out W h).2) rfl rfl rfl) BV.out ?_
                      simp only [Act.put, List.setIfInBounds_toArray, List.set_cons_zero, List.set_cons_succ]
                      refine take_at (i := 30) 76 ?_ rfl rfl (by kernel_rfl) (by kernel_rfl) (by kernel_rfl) (fun _ _ _ h => h) (.inl ⟨rfl, ?_⟩) BV.out ?_
                      rotate_left 1
                      · intro w hSw; go_simp; try with_reducible rfl
                      simp only [Act.put, List.setIfInBounds_toArray, List.set_cons_zero, List.set_cons_succ]
                      refine take_at (i := 31) 77 (.int .i64 oq) rfl rfl (by kernel_rfl) (by kernel_rfl) (by kernel_rfl) (fun _ _ _ h => h) (yields_ld (.tmp 76) 3 (pvo (w.heap.size + 1) 2) _ (fun W h => (CO.out W h).2) rfl rfl rfl) BV.out ?_
                      simp only [Act.put, List.setIfInBounds_toArray, List.set_cons_zero, List.set_cons_succ]
                      refine take_at (i := 32) 78 ?_ rfl rfl (by kernel_rfl) (by kernel_rfl) (by kernel_rfl) (fun _ _ _ h => h) (.inl ⟨rfl, ?_⟩) BV.out ?_
                      rotate_left 1
                      · intro w hSw; go_simp; try with_reducible rfl
                      simp only [Act.put, List.setIfInBounds_toArray, List.set_cons_zero, List.set_cons_succ]
                      refine take_at (i := 33) 79 ?_ rfl rfl (by kernel_rfl) (by kernel_rfl) (by kernel_rfl) (fun _ _ _ h => h) (.inl ⟨rfl, ?_⟩) BV.out ?_
                      rotate_left 1
                      · intro w hSw; go_simp; try with_reducible rfl
                      simp only [Act.put, List.setIfInBounds_toArray, List.set_cons_zero, List.set_cons_succ]
                      refine take_at (i := 34) 80 ?_ rfl rfl (by kernel_rfl) (by kernel_rfl) (by kernel_rfl) (fun _ _ _ h => h) (.inl ⟨rfl, ?_⟩) BV.out ?_
                      rotate_left 1
                      · intro w hSw; go_simp; try with_reducible rfl
                      simp only [Act.put, List.setIfInBounds_toArray, List.set_cons_zero, List.set_cons_succ]
                      refine take_at (i := 35) 81 ?_ rfl rfl (by kernel_rfl) (by kernel_rfl) (by kernel_rfl) (fun _ _ _ h => h) (.inl ⟨rfl, ?_⟩) BV.out ?_
                      rotate_left 1
                      · intro w hSw; go_simp; try with_reducible rfl
                      simp only [Act.put, List.setIfInBounds_toArray, List.set_cons_zero, List.set_cons_succ]
                      refine wpAnyH_done (by kernel_rfl) ?_ _
                      rw [HWD.out]
                      go_wp2_with (first | (refine wpList_ld rfl (.tmp 89) 35 rfl (pvo g (off + i * 9)) XV rfl LX.out ?_; simp only [Act.put, List.setIfInBounds_toArray, List.set_cons_zero, List.set_cons_succ]) | (refine wpList_bs rfl 27 (.tmp 90) rfl XV rfl (.slice (some ⟨kc, 0, none⟩) 1 1) _ BS2.out ?_; simp only [Act.put, List.setIfInBounds_toArray, List.set_cons_zero, List.set_cons_succ]) | (at_builtin; refine Lib.wpList_append_run _ rfl (.tmp 86) (.tmp 91) 27 27 rfl (.slice pa n pc) (.slice (some ⟨kc, 0, none⟩) 1 1) rfl rfl _ _ R2.out ?_; simp only [Act.put, List.setIfInBounds_toArray, List.set_cons_zero, List.set_cons_succ]))
                      go_roundw
                      case rel => exact ⟨i + 1, cs ++ [x], false, by go_num, rfl, by omega, by first | trivial | rfl, by rw [List.length_append, HLN.out]; simp; omega, E, K6⟩
                      case measure => simp [intOf]; omega
                  · have g2' := bneb_ xr or g2
                    have E := Lib.hid (show (l.take (i + 1)).foldl (insS o) ([], false) = (cs ++ [x], false) by
                      rw [HN.out]
                      unfold insS
                      rw [LG.out, decide_eq_false g1, g2']
                      rfl)
                    have LX := Lib.hid (LXX.out wd KD.out.bel)
                    have BS2 := Lib.hid (BX.out wd x)
                    have VB := vstep wd (.cells (oCells x) 35)
                    have NB := heap_alloc_new wd (.cells (oCells x) 35)
                    have KE := KD.out.step VB
                    obtain ⟨we, hwe⟩ : ∃ z, wd.alloc (.cells (oCells x) 35) = z := ⟨_, rfl⟩
                    rw [hwe] at VB NB KE BS2
                    obtain ⟨kc, hkc⟩ : ∃ z, wd.heap.size = z := ⟨_, rfl⟩
                    rw [hkc] at NB BS2
                    obtain ⟨a6, c6, w6, r6, k6⟩ := KE.push (by rw [HLN.out]; omega) kc x NB
                    have R2 := Lib.hid r6
                    have K6 := Lib.hid k6
                    rw [HLN.out] at R2 K6
                    rw [HXV.out] at BS2 LX
                    clear r6 k6 hkc hwe NB KE VB
                    go_upto_region 15 with fail
                    refine wp_region_held_drew (S := fun w' => Below wr.heap.size wr w') (by kernel_rfl) (Below.refl _ _).drew (fun hHeld => ?_)
                    have BV := Lib.hid (show Below wr.heap.size wr wr.drew from (Below.refl _ _).drew)
                    clear hHeld
                    refine take_at (i := 0) 46 ?_ rfl rfl (by kernel_rfl) (by kernel_rfl) (by kernel_rfl) (fun _ _ _ h => h) (.inl ⟨rfl, ?_⟩) BV.out ?_
                    rotate_left 1
                    · intro w hSw; go_simp; try with_reducible rfl
                    simp only [Act.put, List.setIfInBounds_toArray, List.set_cons_zero, List.set_cons_succ]
                    refine take_at (i := 1) 47 ?_ rfl rfl (by kernel_rfl) (by kernel_rfl) (by kernel_rfl) (fun _ _ _ h => h) (.inl ⟨rfl, ?_⟩) BV.out ?_
                    rotate_left 1
                    · intro w hSw; go_simp; try with_reducible rfl
                    simp only [Act.put, List.setIfInBounds_toArray, List.set_cons_zero, List.set_cons_succ]
                    refine take_at (i := 2) 48 ?_ rfl rfl (by kernel_rfl) (by kernel_rfl) (by kernel_rfl) (fun _ _ _ h => h) (.inl ⟨rfl, ?_⟩) BV.out ?_
                    rotate_left 1
                    · intro w hSw; go_simp; try with_reducible rfl
                    simp only [Act.put, List.setIfInBounds_toArray, List.set_cons_zero, List.set_cons_succ]
                    refine take_at (i := 3) 49 ?_ rfl rfl (by kernel_rfl) (by kernel_rfl) (by kernel_rfl) (fun _ _ _ h => h) (.inl ⟨rfl, ?_⟩) BV.out ?_
                    rotate_left 1
                    · intro w hSw; go_simp; try with_reducible rfl
                    simp only [Act.put, List.setIfInBounds_toArray, List.set_cons_zero, List.set_cons_succ]
                    refine take_at (i := 4) 50 ?_ rfl rfl (by kernel_rfl) (by kernel_rfl) (by kernel_rfl) (fun _ _ _ h => h) (.inl ⟨rfl, ?_⟩) BV.out ?_
                    rotate_left 1
                    · intro w hSw; go_simp; try with_reducible rfl
                    simp only [Act.put, List.setIfInBounds_toArray, List.set_cons_zero, List.set_cons_succ]
                    refine take_at (i := 5) 51 (pvo g (off + i * 9)) rfl rfl (by kernel_rfl) (by kernel_rfl) (by kernel_rfl) (fun _ _ _ h => h) (yields_ix (.tmp 49) (.tmp 50) 27 (.slice (some ⟨g, off, none⟩) l.length cap) (.int .i64 (i : Int)) _ (fun W => IXR.out W) rfl rfl rfl rfl) BV.out ?_
                    simp only [Act.put, List.setIfInBounds_toArray, List.set_cons_zero, List.set_cons_succ]
                    refine take_at (i := 6) 52 ?_ rfl rfl (by kernel_rfl) (by kernel_rfl) (by kernel_rfl) (fun _ _ _ h => h) (.inl ⟨rfl, ?_⟩) BV.out ?_
                    rotate_left 1
                    · intro w hSw; go_simp; try with_reducible rfl
                    simp only [Act.put, List.setIfInBounds_toArray, List.set_cons_zero, List.set_cons_succ]
                    refine take_at (i := 7) 53 ?_ rfl rfl (by kernel_rfl) (by kernel_rfl) (by kernel_rfl) (fun _ _ _ h => h) (.inl ⟨rfl, ?_⟩) BV.out ?_
                    rotate_left 1
                    · intro w hSw; go_simp; try with_reducible rfl
                    simp only [Act.put, List.setIfInBounds_toArray, List.set_cons_zero, List.set_cons_succ]
                    refine take_at (i := 8) 54 (.int .i64 xr) rfl rfl (by kernel_rfl) (by kernel_rfl) (by kernel_rfl) (fun _ _ _ h => h) (yields_ld (.tmp 53) 3 (pvo g (off + i * 9 + 1)) _ (fun W h => (CX.out W h).1) rfl rfl rfl) BV.out ?_
                    simp only [Act.put, List.setIfInBounds_toArray, List.set_cons_zero, List.set_cons_succ]
                    refine take_at (i := 9) 55 ?_ rfl rfl (by kernel_rfl) (by kernel_rfl) (by kernel_rfl) (fun _ _ _ h => h) (.inl ⟨rfl, ?_⟩) BV.out ?_
                    rotate_left 1
                    · intro w hSw; go_simp; try with_reducible rfl
                    simp only [Act.put, List.setIfInBounds_toArray, List.set_cons_zero, List.set_cons_succ]
                    refine take_at (i := 10) 56 ?_ rfl rfl (by kernel_rfl) (by kernel_rfl) (by kernel_rfl) (fun _ _ _ h => h) (.inl ⟨rfl, ?_⟩) BV.out ?_
                    rotate_left 1
                    · intro w hSw; go_simp; try with_reducible rfl
                    simp only [Act.put, List.setIfInBounds_toArray, List.set_cons_zero, List.set_cons_succ]
                    refine take_at (i := 11) 57 (.int .i64 or) rfl rfl (by kernel_rfl) (by kernel_rfl) (by kernel_rfl) (fun _ _ _ h => h) (yields_ld (.tmp 56) 3 (pvo (w.heap.size + 1) 1) _ (fun W h => (CO.out W h).1) rfl rfl rfl) BV.out ?_
                    simp only [Act.put, List.setIfInBounds_toArray, List.set_cons_zero, List.set_cons_succ]
                    refine take_at (i := 12) 58 ?_ rfl rfl (by kernel_rfl) (by kernel_rfl) (by kernel_rfl) (fun _ _ _ h => h) (.inl ⟨rfl, ?_⟩) BV.out ?_
                    rotate_left 1
                    · intro w hSw; go_simp; try with_reducible rfl
                    simp only [Act.put, List.setIfInBounds_toArray, List.set_cons_zero, List.set_cons_succ]
                    refine take_at (i := 13) 59 ?_ rfl rfl (by kernel_rfl) (by kernel_rfl) (by kernel_rfl) (fun _ _ _ h => h) (.inl ⟨rfl, ?_⟩) BV.out ?_
                    rotate_left 1
                    · intro w hSw; go_simp; try with_reducible rfl
                    simp only [Act.put, List.setIfInBounds_toArray, List.set_cons_zero, List.set_cons_succ]
                    refine take_at (i := 14) 60 ?_ rfl rfl (by kernel_rfl) (by kernel_rfl) (by kernel_rfl) (fun _ _ _ h => h) (.inl ⟨rfl, ?_⟩) BV.out ?_
                    rotate_left 1
                    · intro w hSw; go_simp; try with_reducible rfl
                    simp only [Act.put, List.setIfInBounds_toArray, List.set_cons_zero, List.set_cons_succ]
                    refine take_at (i := 15) 61 ?_ rfl rfl (by kernel_rfl) (by kernel_rfl) (by kernel_rfl) (fun _ _ _ h => h) (.inl ⟨rfl, ?_⟩) BV.out ?_
                    rotate_left 1
                    · intro w hSw; go_simp; try with_reducible rfl
                    simp only [Act.put, List.setIfInBounds_toArray, List.set_cons_zero, List.set_cons_succ]
                    refine take_at (i := 16) 62 (pvo g (off + i * 9)) rfl rfl (by kernel_rfl) (by kernel_rfl) (by kernel_rfl) (fun _ _ _ h => h) (yields_ix (.tmp 60) (.tmp 61) 27 (.slice (some ⟨g, off, none⟩) l.length cap) (.int .i64 (i : Int)) _ (fun W => IXR.out W) rfl rfl rfl rfl) BV.out ?_
                    simp only [Act.put, List.setIfInBounds_toArray, List.set_cons_zero, List.set_cons_succ]
                    refine take_at (i := 17) 63 ?_ rfl rfl (by kernel_rfl) (by kernel_rfl) (by kernel_rfl) (fun _ _ _ h => h) (.inl ⟨rfl, ?_⟩) BV.out ?_
                    rotate_left 1
                    · intro w hSw; go_simp; try with_reducible rfl
                    simp only [Act.put, List.setIfInBounds_toArray, List.set_cons_zero, List.set_cons_succ]
                    refine take_at (i := 18) 64 ?_ rfl rfl (by kernel_rfl) (by kernel_rfl) (by kernel_rfl) (fun _ _ _ h => h) (.inl ⟨rfl, ?_⟩) BV.out ?_
                    rotate_left 1
                    · intro w hSw; go_simp; try with_reducible rfl
                    simp only [Act.put, List.setIfInBounds_toArray, List.set_cons_zero, List.set_cons_succ]
                    refine take_at (i := 19) 65 (.int .i64 xr) rfl rfl (by kernel_rfl) (by kernel_rfl) (by kernel_rfl) (fun _ _ _ h => h) (yields_ld (.tmp 64) 3 (pvo g (off + i * 9 + 1)) _ (fun W h => (CX.out W h).1) rfl rfl rfl) BV.out ?_
                    simp only [Act.put, List.setIfInBounds_toArray, List.set_cons_zero, List.set_cons_succ]
                    refine take_at (i := 20) 66 ?_ rfl rfl (by kernel_rfl) (by kernel_rfl) (by kernel_rfl) (fun _ _ _ h => h) (.inl ⟨rfl, ?_⟩) BV.out ?_
                    rotate_left 1
                    · intro w hSw; go_simp; try with_reducible rfl
                    simp only [Act.put, List.setIfInBounds_toArray, List.set_cons_zero, List.set_cons_succ]
                    refine take_at (i := 21) 67 ?_ rfl rfl (by kernel_rfl) (by kernel_rfl) (by kernel_rfl) (fun _ _ _ h => h) (.inl ⟨rfl, ?_⟩) BV.out ?_
                    rotate_left 1
                    · intro w hSw; go_simp; try with_reducible rfl
                    simp only [Act.put, List.setIfInBounds_toArray, List.set_cons_zero, List.set_cons_succ]
                    refine take_at (i := 22) 68 (.int .i64 or) rfl rfl (by kernel_rfl) (by kernel_rfl) (by kernel_rfl) (fun _ _ _ h => h) (yields_ld (.tmp 67) 3 (pvo (w.heap.size + 1) 1) _ (fun W h => (CO.out W h).1) rfl rfl rfl) BV.out ?_
                    simp only [Act.put, List.setIfInBounds_toArray, List.set_cons_zero, List.set_cons_succ]
                    refine take_at (i := 23) 69 ?_ rfl rfl (by kernel_rfl) (by kernel_rfl) (by kernel_rfl) (fun _ _ _ h => h) (.inl ⟨rfl, ?_⟩) BV.out ?_
                    rotate_left 1
                    · intro w hSw; go_simp; try with_reducible rfl
                    simp only [Act.put, List.setIfInBounds_toArray, List.set_cons_zero, List.set_cons_succ]
                    refine take_at (i := 24) 70 ?_ rfl rfl (by kernel_rfl) (by kernel_rfl) (by kernel_rfl) (fun _ _ _ h => h) (.inl ⟨rfl, ?_⟩) BV.out ?_
                    rotate_left 1
                    · intro w hSw; go_simp; try with_reducible rfl
                    simp only [Act.put, List.setIfInBounds_toArray, List.set_cons_zero, List.set_cons_succ]
                    refine take_at (i := 25) 71 undef rfl rfl (by kernel_rfl) (by kernel_rfl) (by kernel_rfl) (fun _ _ _ h => h) (.inr ⟨rfl, rfl⟩) BV.out ?_
                    simp only [Act.put, List.setIfInBounds_toArray, List.set_cons_zero, List.set_cons_succ]
                    refine take_at (i := 26) 72 undef rfl rfl (by kernel_rfl) (by kernel_rfl) (by kernel_rfl) (fun _ _ _ h => h) (.inr ⟨rfl, rfl⟩) BV.out ?_
                    simp only [Act.put, List.setIfInBounds_toArray, List.set_cons_zero, List.set_cons_succ]
                    refine take_at (i := 27) 73 undef rfl rfl (by kernel_rfl) (by kernel_rfl) (by kernel_rfl) (fun _ _ _ h => h) (.inr ⟨rfl, rfl⟩) BV.out ?_
                    simp only [Act.put, List.setIfInBounds_toArray, List.set_cons_zero, List.set_cons_succ]
                    refine take_at (i := 28) 74 undef rfl rfl (by kernel_rfl) (by kernel_rfl) (by kernel_rfl) (fun _ _ _ h => h) (.inr ⟨rfl, rfl⟩) BV.out ?_
                    simp only [Act.put, List.setIfInBounds_toArray, List.set_cons_zero, List.set_cons_succ]
                    refine take_at (i := 29) 75 undef rfl rfl (by kernel_rfl) (by kernel_rfl) (by kernel_rfl) (fun _ _ _ h => h) (.inr ⟨rfl, rfl⟩) BV.out ?_
                    simp only [Act.put, List.setIfInBounds_toArray, List.set_cons_zero, List.set_cons_succ]
                    refine take_at (i := 30) 76 undef rfl rfl (by kernel_rfl) (by kernel_rfl) (by kernel_rfl) (fun _ _ _ h => h) (.inr ⟨rfl, rfl⟩) BV.out ?_
                    simp only [Act.put, List.setIfInBounds_toArray, List.set_cons_zero, List.set_cons_succ]
                    refine take_at (i := 31) 77 undef rfl rfl (by kernel_rfl) (by kernel_rfl) (by kernel_rfl) (fun _ _ _ h => h) (.inr ⟨rfl, rfl⟩) BV.out ?_
                    simp only [Act.put, List.setIfInBounds_toArray, List.set_cons_zero, List.set_cons_succ]
                    refine take_at (i := 32) 78 undef rfl rfl (by kernel_rfl) (by kernel_rfl) (by kernel_rfl) (fun _ _ _ h => h) (.inr ⟨rfl, rfl⟩) BV.out ?_
                    simp only [Act.put, List.setIfInBounds_toArray, List.set_cons_zero, List.set_cons_succ]
                    refine take_at (i := 33) 79 ?_ rfl rfl (by kernel_rfl) (by kernel_rfl) (by kernel_rfl) (fun _ _ _ h => h) (.inl ⟨rfl, ?_⟩) BV.out ?_
                    rotate_left 1
                    · intro w hSw; go_simp; try with_reducible rfl
                    simp only [Act.put, List.setIfInBounds_toArray, List.set_cons_zero, List.set_cons_succ]
                    refine take_at (i := 34) 80 ?_ rfl rfl (by kernel_rfl) (by kernel_rfl) (by kernel_rfl) (fun _ _ _ h => h) (.inl ⟨rfl, ?_⟩) BV.out ?_
                    rotate_left 1
                    · intro w hSw; go_simp; try with_reducible rfl
                    simp only [Act.put, List.setIfInBounds_toArray, List.set_cons_zero, List.set_cons_succ]
                    refine take_at (i := 35) 81 ?_ rfl rfl (by kernel_rfl) (by kernel_rfl) (by kernel_rfl) (fun _ _ _ h => h) (.inl ⟨rfl, ?_⟩) BV.out ?_
                    rotate_left 1
                    · intro w hSw; go_simp; try with_reducible rfl
                    simp only [Act.put, List.setIfInBounds_toArray, List.set_cons_zero, List.set_cons_succ]
                    refine wpAnyH_done (by kernel_rfl) ?_ _
                    rw [HWD.out]
                    go_wp2_with (first | (refine wpList_ld rfl (.tmp 89) 35 rfl (pvo g (off + i * 9)) XV rfl LX.out ?_; simp only [Act.put, List.setIfInBounds_toArray, List.set_cons_zero, List.set_cons_succ]) | (refine wpList_bs rfl 27 (.tmp 90) rfl XV rfl (.slice (some ⟨kc, 0, none⟩) 1 1) _ BS2.out ?_; simp only [Act.put, List.setIfInBounds_toArray, List.set_cons_zero, List.set_cons_succ]) | (at_builtin; refine Lib.wpList_append_run _ rfl (.tmp 86) (.tmp 91) 27 27 rfl (.slice pa n pc) (.slice (some ⟨kc, 0, none⟩) 1 1) rfl rfl _ _ R2.out ?_; simp only [Act.put, List.setIfInBounds_toArray, List.set_cons_zero, List.set_cons_succ]))
                    go_roundw
                    case rel => exact ⟨i + 1, cs ++ [x], false, by go_num, rfl, by omega, by first | trivial | rfl, by rw [List.length_append, HLN.out]; simp; omega, E, K6⟩
                    case measure => simp [intOf]; omega
            · have FS := HF.out
              rw [List.take_of_length_le (Nat.le_of_not_lt hlt)] at FS
              have IS := Lib.hid (show addL l ks o = insE o (cs, dn) by
                unfold addL
                rw [if_pos E0.out, ← ins_set HS.out o (by rw [HOR.out, HOQ.out]; exact HGA.out)]
                unfold insG
                rw [FS])
              have FIN := Lib.hid (fun W v cs' (h : AK w W ks o v cs') (e : addL l ks o = cs') => (show RAOut w W l ks o (.slice ao l.length cap) (.returned (.tuple #[v, .int .i64 0])) from ⟨v, by rw [E0.out], .inr (by rw [e]; exact Ve.own_less h.row (by omega)), h.bel⟩))
              clear FS
              cases dn with
              | true =>
                have F := Lib.hid (FIN.out wr _ cs K.out (by rw [IS.out]; rfl))
                go_wp2
                go_returns
                exact F.out
              | false =>
                have LO := Lib.hid (LOO.out wr K.out)
                rw [HOV.out] at LO
                have BS3 := Lib.hid (BX.out wr o)
                have VB := vstep wr (.cells (oCells o) 35)
                have NB := heap_alloc_new wr (.cells (oCells o) 35)
                have KE := K.out.step VB
                obtain ⟨we, hwe⟩ : ∃ z, wr.alloc (.cells (oCells o) 35) = z := ⟨_, rfl⟩
                rw [hwe] at VB NB KE BS3
                obtain ⟨kb, hkb⟩ : ∃ z, wr.heap.size = z := ⟨_, rfl⟩
                rw [hkb] at NB BS3
                obtain ⟨a6, c6, w6, r6, k6⟩ := KE.push (by omega) kb o NB
                have R3 := Lib.hid r6
                rw [HOV.out] at BS3
                have F := Lib.hid (FIN.out w6 _ (cs ++ [o]) k6 (by rw [IS.out]; rfl))
                clear r6 k6 hkb hwe NB KE VB
                go_wp2_with (first | (refine wpList_ld rfl (.tmp 5) 35 rfl (pvo (w.heap.size + 1) 0) OV rfl LO.out ?_; simp only [Act.put, List.setIfInBounds_toArray, List.set_cons_zero, List.set_cons_succ]) | (refine wpList_bs rfl 27 (.tmp 96) rfl OV rfl (.slice (some ⟨kb, 0, none⟩) 1 1) _ BS3.out ?_; simp only [Act.put, List.setIfInBounds_toArray, List.set_cons_zero, List.set_cons_succ]) | (at_builtin; refine Lib.wpList_append_run _ rfl (.tmp 95) (.tmp 97) 27 27 rfl (.slice pa cs.length pc) (.slice (some ⟨kb, 0, none⟩) 1 1) rfl rfl _ _ R3.out ?_; simp only [Act.put, List.setIfInBounds_toArray, List.set_cons_zero, List.set_cons_succ]))
                go_returns
                exact F.out
end Go.Proofs.Ytgnnpfainoppeaa
