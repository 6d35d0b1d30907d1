/- hold.Put. Made by genhj27.py. -/
import Derived.Test.YtgnnpfainoppeaaDoorRH
import Derived.Deep.CutRange
set_option linter.unusedVariables false
set_option linter.unusedSimpArgs false
set_option maxRecDepth 100000
namespace Go.Proofs.YtgnnpfainoppeaaDoor
open Go.RowKit
open Ve (vw va RightP getF isB)

abbrev pvo (b j : Nat) : Value := .pointer (some ⟨b, j, none⟩)
section
variable {ops : Array Oper} {S : World → Prop} {op : Oper} {a : Act}
theorem yields_ixp (x y : Operand) (ty : TypeId) (v u r : Value) (hS : ∀ w, (Instr.indexAt ty v u).run Tryd.prog w = .ok r w) (hw : Region.wanted op (yielded ops a.tmps) = true) (ho : op.op = .indexAddr ty x y)
    (hx : a.eval x = v) (hy : a.eval y = u) : YieldsIf Tryd.prog ops S op r a :=
  .inl ⟨hw, fun w hw' => by
    unfold execOp
    simp only [ho, hx, hy, hS w, Sem.run_bind, Sem.run_pure, Result.andThen_ok]⟩
end
noncomputable def rO (o : O) : Bool := rB o.t o.r o.q o.nt o.nr o.pt o.pr o.nm
theorem rO_facts {o : O} (h : rO o = true) : (1 ≤ o.t ∧ o.t ≤ 281474976710656) ∧ (0 ≤ o.r ∧ o.r < 64) ∧ (1 ≤ o.q ∧ o.q ≤ 4294967296) := by
  unfold rO rB St.rightB St.rT St.rR at h
  simp only [Bool.and_eq_true, decide_eq_true_eq] at h
  exact ⟨h.1.1, h.1.2, h.2.1, h.2.2.1⟩
def lateB (L : Nat → List O) (o : O) (n : Int) : Bool := match partF L o.r n n with
  | [] => false
  | p :: _ => decide (o.t ≤ p.t)
/-- What is known of a replica. -/
def knO (bs : List Int) (L : Nat → List O) (r : Int) : Int := (kn bs L).getD r.toNat 0
noncomputable def putI (bs : List Int) (L : Nat → List O) (o : O) : Int :=
  if rO o then (if o.q ≤ knO bs L o.r then 9 else if knO bs L o.r + 1 < o.q then 10 else if lateB L o (knO bs L o.r) then 4 else 0) else 2
noncomputable def putL (bs : List Int) (L : Nat → List O) (o : O) : Nat → List O := if putI bs L o = 0 then fup L o.r.toNat (L o.r.toNat ++ [o]) else L
theorem box3 {W : World} {g : Nat} {x : O} (h : W.heap[g]? = some (.cells (oCells x) 40 (0, 0))) : W.cell? ⟨g, 0, none⟩ = some (.int .i64 x.t) ∧ W.cell? ⟨g, 1, none⟩ = some (.int .i64 x.r) ∧ W.cell? ⟨g, 2, none⟩ = some (.int .i64 x.q) := by
  refine ⟨?_, ?_, ?_⟩ <;> (rw [cell_of_row _ _ _ _ _ _ h]; rfl)
theorem alloc40 (W : World) : (Instr.alloc 40 true (.tuple #[])).run Tryd.prog W = .ok (pvo W.heap.size 0) (W.alloc (.cells (oCells O0) 40)) := by
  have h := (zero_of_info (P := Tryd.prog) (t := 40) (show (Tryd.prog.info? 40).map (fun i => (i.zero, i.size)) = some (some (oV O0), 9) by kernel_rfl)).1 W
  unfold Instr.alloc
  rw [Sem.run_bind, h]
  simp [newVar, Value.cells, oV, go_sem]
theorem kn_le {bs : List Int} {L : Nat → List O} {m : Nat} (g : Gd bs L m) (hm : m ≤ 1000) (r : Int) (hr : 0 ≤ r ∧ r < 64) : 0 ≤ knO bs L r ∧ knO bs L r ≤ 4294968296 ∧ getF (kn bs L) r = knO bs L r := by
  obtain ⟨i, rfl⟩ : ∃ i : Nat, r = (i : Int) := ⟨r.toNat, by omega⟩
  have hi : i < 64 := by omega
  obtain ⟨x, hx⟩ : ∃ x, bs[i]? = some x := ⟨bs[i]'(by have := g.len; omega), List.getElem?_eq_getElem _⟩
  have hb := g.bb i x hx
  have hc := g.cnt i hi
  have hk := kn_get bs L i hi x hx
  have e : knO bs L (i : Int) = x + ((L i).length : Int) := by unfold knO; rw [Int.toNat_natCast, getD_some hk]
  refine ⟨by rw [e]; omega, by rw [e]; omega, ?_⟩
  have hb2 : isB (i : Int) = true := by unfold isB; exact decide_eq_true hr
  unfold getF
  rw [hb2]
  rfl
set_option maxHeartbeats 1600000 in
theorem put_unmade (w : World) (B b : Nat) (s : HS) (h : HK w B b s) (hmd : s.md = false) (o : O) : Calls Tryd.prog 13 #[pv b, oV o] w fun e w' => e = .returned (.int .i64 1) ∧ Below w.heap.size w w' := by
  have X := Lib.hid (vstep w (.cells (oCells o) 40))
  have c0 := (h.step X.out).c0
  rw [hmd] at c0
  clear h hmd
  unfold oV
  generalize oCells o = A at *
  go_enter Tryd.func13, Tryd.ntmps13
  go_wp2
  go_returns
  exact ⟨rfl, X.out⟩
def PutOut (B b : Nat) (s t : HS) (o : O) (w w' : World) : Prop := HOut B b s t w w' ∧ t.md = true ∧ t.bs = s.bs ∧ t.L = putL s.bs s.L o
set_option maxHeartbeats 6400000 in
theorem put_any (w : World) (B b : Nat) (s : HS) (m : Nat) (h : HK w B b s) (hmd : s.md = true) (g : Gd s.bs s.L m) (hm : m ≤ 999) (hB : B ≤ w.heap.size) (o : O) (hz : o.nm.size ≤ 1000000) :
    Calls Tryd.prog 13 #[pv b, oV o] w fun e w' => ∃ t, e = .returned (.int .i64 (putI s.bs s.L o)) ∧ PutOut B b s t o w w' := by
  have X := Lib.hid (vstep w (.cells (oCells o) 40))
  have RW := Lib.hid (heap_alloc_new w (.cells (oCells o) 40))
  have H0 := Lib.hid h
  have c0 := (h.step X.out).c0
  rw [hmd] at c0
  have LDO := Lib.hid (fun (W : World) (h : W.heap[w.heap.size]? = some (.cells (oCells o) 40 (0, 0))) => ldO (box_o h))
  have L0 := Lib.hid (LDO.out _ RW.out)
  have RG : Hid (∀ W : World, Calls Tryd.prog 34 #[oV o] W fun e w' => e = .returned (.bool (rO o)) ∧ Below W.heap.size W w') := Lib.hid (fun W => right_any W o.t o.r o.q o.nt o.nr o.pt o.pr o.nm o.d hz)
  have KN := Lib.hid (fun W (h : HK W B b s) => known_any W B b s m h g (by omega))
  have GT := Lib.hid (fun W (h : HK W B b s) r q => get_any W B b s m h g (by omega) r q)
  have VG := Lib.hid (fun W r => Ve.get_any W (kn s.bs s.L) (kn_len _ _) r)
  have HMD := Lib.hid hmd
  have G := Lib.hid g
  have SZ := Lib.hid (show (w.alloc (.cells (oCells o) 40)).heap.size = w.heap.size + 1 by simp)
  have HO := Lib.hid (show oV o = .agg (oCells o) from rfl)
  have SAME := Lib.hid (fun w' (hp : putI s.bs s.L o ≠ 0) (hb : Below w.heap.size w w') => show PutOut B b s s o w w' from ⟨HOut.still h hb, hmd, rfl, (if_neg hp).symm⟩)
  clear h hmd g hz
  rw [HO.out]
  obtain ⟨A, hA⟩ : ∃ A, oCells o = A := ⟨_, rfl⟩
  rw [hA] at X RW L0 SZ c0 ⊢
  have HA := Lib.hid hA
  clear hA
  go_enter Tryd.func13, Tryd.ntmps13
  go_wp2_with (first | refine wpList_ld rfl (.tmp 3) 40 rfl _ _ rfl L0.out ?_)
  refine (RG.out _).mono ?_
  rintro e w1 ⟨rfl, h1⟩
  have X1 := Lib.hid (X.out.trans (h1.mono (by rw [SZ.out]; omega)))
  have R1 := Lib.hid ((h1.block w.heap.size (by rw [SZ.out]; omega)).trans RW.out)
  clear h1 c0
  cases hr : rO o with
  | false =>
    have E := Lib.hid (show putI s.bs s.L o = 2 by unfold putI; rw [hr]; rfl)
    have F := Lib.hid (SAME.out w1 (by rw [E.out]; decide) X1.out)
    clear hr
    go_wp2
    go_returns
    exact ⟨s, ret_i E.out.symm, F.out⟩
  | true =>
    obtain ⟨ft, fr, fq⟩ := rO_facts hr
    have kl := kn_le G.out (by omega) o.r fr
    obtain ⟨i, hi⟩ : ∃ i : Nat, o.r = (i : Int) := ⟨o.r.toNat, by omega⟩
    have hi64 : i < 64 := by omega
    have R1' := R1.out
    rw [← HA.out] at R1'
    obtain ⟨a0, a1, a2⟩ := box3 R1'
    rw [hi] at a1
    have PI := Lib.hid (show putI s.bs s.L o = (if o.q ≤ knO s.bs s.L o.r then 9 else if knO s.bs s.L o.r + 1 < o.q then 10 else if lateB s.L o (knO s.bs s.L o.r) then 4 else 0) by unfold putI; rw [hr]; rfl)
    have HI := Lib.hid hi
    have FT := Lib.hid ft
    have VG1 := Lib.hid (fun W => VG.out W (i : Int))
    have e3 := kl.2.2
    rw [hi] at e3
    rw [e3] at VG1
    have H1 := Lib.hid (H0.out.step X1.out)
    obtain ⟨n, hn⟩ : ∃ n, knO s.bs s.L (i : Int) = n := ⟨_, rfl⟩
    rw [hi, hn] at kl PI
    rw [hn] at VG1
    have LT := Lib.hid (show lateB s.L o n = (match partF s.L (i : Int) n n with | [] => false | p :: _ => decide (o.t ≤ p.t)) by unfold lateB; rw [hi])
    have hnw : wrap64 (n + 1) = n + 1 := by unfold wrap64; omega
    have hi0 : (0 : Int) ≤ (i : Int) := by omega
    have hi1 : (i : Int) < 64 := by omega
    have GT1 := Lib.hid (fun W h => GT.out W h (i : Int) n)
    obtain ⟨Z, hZ⟩ : ∃ Z, vw (kn s.bs s.L) = Z := ⟨_, rfl⟩
    have KN1 := Lib.hid (fun W h => KN.out W h)
    rw [hZ] at KN1 VG1
    clear hr fr fq ft e3 hn hi R1' hZ KN VG GT RG
    go_wp2_with fail
    refine (KN1.out _ H1.out).mono ?_
    rintro e w2 ⟨rfl, h2⟩
    have X2 := Lib.hid (X1.out.trans (h2.mono X1.out.size))
    have hbk : w.heap.size < w1.heap.size := lt_of_block R1.out
    have R2 := Lib.hid ((h2.block w.heap.size hbk).trans R1.out)
    clear h2
    go_wp2_with fail
    refine (VG1.out _).mono ?_
    rintro e w3 ⟨rfl, h3⟩
    have X3 := Lib.hid (X2.out.trans (h3.mono X2.out.size))
    have R3 := Lib.hid ((h3.block w.heap.size (lt_of_block R2.out)).trans R2.out)
    clear h3 hbk a0 a1 a2
    have R3' := R3.out
    rw [← HA.out] at R3'
    obtain ⟨a0, a1, a2⟩ := box3 R3'
    rw [HI.out] at a1
    have H3 := Lib.hid (H0.out.step X3.out)
    clear R3'
    by_cases q1 : o.q ≤ n
    · have E := Lib.hid (show putI s.bs s.L o = 9 by rw [PI.out, if_pos q1])
      have F := Lib.hid (SAME.out w3 (by rw [E.out]; decide) X3.out)
      clear kl
      go_wp2
      go_returns
      exact ⟨s, ret_i E.out.symm, F.out⟩
    · by_cases q2 : n + 1 < o.q
      · have E := Lib.hid (show putI s.bs s.L o = 10 by rw [PI.out, if_neg q1, if_pos q2])
        have F := Lib.hid (SAME.out w3 (by rw [E.out]; decide) X3.out)
        clear kl
        go_wp2
        go_returns
        exact ⟨s, ret_i E.out.symm, F.out⟩
      · have PI2 := Lib.hid (show putI s.bs s.L o = if lateB s.L o n then 4 else 0 by rw [PI.out, if_neg q1, if_neg q2])
        have KL := Lib.hid kl
        have Q1 := Lib.hid q1
        have Q2 := Lib.hid q2
        have GT2 := GT1.out w3 H3.out
        unfold getO at GT2
        obtain ⟨l, hl⟩ : ∃ l, partF s.L (i : Int) n n = l := ⟨_, rfl⟩
        rw [hl] at GT2 LT
        obtain ⟨p, hp⟩ : ∃ p, firstO l = p := ⟨_, rfl⟩
        obtain ⟨ok, hok⟩ : ∃ ok, (!l.isEmpty) = ok := ⟨_, rfl⟩
        rw [hp, hok] at GT2
        have HOP := Lib.hid (show oV p = .agg (oCells p) from rfl)
        obtain ⟨Ap, hAp⟩ : ∃ Ap, oCells p = Ap := ⟨_, rfl⟩
        have HAP := Lib.hid hAp
        rw [HOP.out, hAp] at GT2
        have GT3 := Lib.hid GT2
        have LT2 := Lib.hid (show lateB s.L o n = (ok && decide (o.t ≤ p.t)) by
          rw [LT.out, ← hok, ← hp]; cases l <;> rfl)
        clear kl hl hp hok GT2 LT hAp
        go_wp2_with fail
        refine GT3.out.mono ?_
        rintro e w4 ⟨rfl, h4⟩
        have X4 := Lib.hid (X3.out.trans (h4.mono X3.out.size))
        have R4 := Lib.hid ((h4.block w.heap.size (lt_of_block R3.out)).trans R3.out)
        clear h4 GT3 a0 a1 a2
        have AL := Lib.hid (alloc40 w4)
        have N4 := heap_alloc_new w4 (.cells (oCells O0) 40)
        have SO := Lib.hid (store_o (w4.alloc (.cells (oCells O0) 40)) w4.heap.size O0 p N4)
        have R5 := setRow_heap _ _ _ (oCells p) _ _ N4
        have B5 := Ve.below_setRow (vstep w4 (.cells (oCells O0) 40)) (g := w4.heap.size) (Nat.le_refl _) (oCells p)
        have V4 := Lib.hid ((B5.block w.heap.size (lt_of_block R4.out)).trans R4.out)
        have X5 := Lib.hid (X4.out.trans (B5.mono X4.out.size))
        obtain ⟨wp, hwp⟩ : ∃ zz, (w4.alloc (.cells (oCells O0) 40)).setRow w4.heap.size (oCells p) = zz := ⟨_, rfl⟩
        rw [hwp] at SO R5 V4 X5
        rw [HOP.out, HAP.out] at SO
        obtain ⟨p0, p1, p2⟩ := box3 R5
        have V4' := V4.out
        rw [← HA.out] at V4'
        obtain ⟨a0, a1, a2⟩ := box3 V4'
        have H5 := Lib.hid (H0.out.step X5.out)
        have LL := Lib.hid (H5.out.shape i hi64)
        clear N4 R5 B5 hwp p1 p2 a1 V4'
        cases hlate : (ok && decide (o.t ≤ p.t)) with
        | true =>
          have E := Lib.hid (show putI s.bs s.L o = 4 by rw [PI2.out, LT2.out, hlate]; rfl)
          have F := Lib.hid (SAME.out wp (by rw [E.out]; decide) X5.out)
          obtain ⟨e1, e2⟩ := Bool.and_eq_true_iff.1 hlate
          subst e1
          have e3 := of_decide_eq_true e2
          clear hlate e2 q1 q2
          go_wp2_with (first | refine Ve.wpList_alloc_arr rfl 40 rfl _ _ AL.out ?_ | refine Ve.wpList_store_arr rfl (.tmp 7) (.tmp 42) 40 rfl _ (.agg Ap) rfl rfl _ SO.out ?_)
          go_returns
          exact ⟨s, ret_i E.out.symm, F.out⟩
        | false =>
          have E := Lib.hid (show (0 : Int) = putI s.bs s.L o by rw [PI2.out, LT2.out, hlate]; rfl)
          have hc : ok = false ∨ (ok = true ∧ ¬ o.t ≤ p.t) := by
            cases ok with
            | false => exact .inl rfl
            | true => exact .inr ⟨rfl, by simpa using hlate⟩
          clear hlate q1 q2
          obtain ⟨wd, hwd⟩ : ∃ zz, wp.drew = zz := ⟨_, rfl⟩
          have BD : Below wp.heap.size wp wd := by rw [← hwd]; exact (Below.refl _ _).drew
          have HWD := Lib.hid hwd
          have RD := (BD.block w.heap.size (lt_of_block V4.out)).trans V4.out
          have RD' := RD
          rw [← HA.out] at RD'
          have HD := H5.out.step BD
          obtain ⟨ao, cap, eS⟩ := HD.shape i hi64
          have csd := HD.cs i hi64
          rw [eS] at csd
          have LD7 := Lib.hid (show (Instr.loadAt 34 (pvo b (65 + i))).run Tryd.prog wd = .ok (s.S i) wd by rw [eS]; exact ldV csd)
          have LD8 := Lib.hid (show (Instr.loadAt 40 (pvo w.heap.size 0)).run Tryd.prog wd = .ok (oV o) wd from ldO (box_o RD'))
          have BS := Lib.hid (bsO wd o)
          have NE := heap_alloc_new wd (.cells (oCells o) 40)
          have VE := vstep wd (.cells (oCells o) 40)
          have HE := HD.step VE
          have cse := HE.cs i hi64
          rw [eS] at cse
          obtain ⟨we, hwe⟩ : ∃ zz, wd.alloc (.cells (oCells o) 40) = zz := ⟨_, rfl⟩
          rw [hwe] at BS NE VE HE cse
          have LD7e := Lib.hid (show (Instr.loadAt 34 (pvo b (65 + i))).run Tryd.prog we = .ok (s.S i) we by rw [eS]; exact ldV cse)
          have XE := X5.out.trans ((BD.trans (VE.mono BD.size)).mono X5.out.size)
          obtain ⟨a, c, w5, w6, hr5, hs5, ho5⟩ := push HE i hi64 (by have := G.out.cnt i hi64; omega) (by have := XE.size; omega) wd.heap.size o NE
          have HR := Lib.hid hr5
          have HS := Lib.hid hs5
          have IX := Lib.hid (fun W => ix64 (b := b) hi64 W)
          have FIN := Lib.hid (show PutOut B b s _ o w w6 from ⟨HOut.of_below XE ho5, HMD.out, rfl, by
            show fup s.L i (s.L i ++ [o]) = _
            unfold putL
            rw [if_pos E.out.symm, HI.out, Int.toNat_natCast]⟩)
          clear hr5 hs5 ho5 cse csd eS hwd hwe RD RD' BD HD NE VE HE XE
          generalize s.S i = si at *
          go_upto_region 12 with (first | refine Ve.wpList_alloc_arr rfl 40 rfl _ _ AL.out ?_ | refine Ve.wpList_store_arr rfl (.tmp 7) (.tmp 42) 40 rfl _ (.agg Ap) rfl rfl _ SO.out ?_)
          go_cut [53] from 44 to 53 (fun xv wx => xv = .bool false ∧ wx = wp)
          case first =>
            rcases hc with rfl | ⟨rfl, hc⟩
            · go_wp2_with fail
              go_meet
              exact ⟨by first | rfl | rw [decide_eq_false (show ¬ o.t ≤ p.t by omega)], rfl⟩
            · go_wp2_with fail
              go_meet
              exact ⟨by first | rfl | rw [decide_eq_false (show ¬ o.t ≤ p.t by omega)], rfl⟩
          case rest =>
            obtain ⟨rfl, rfl⟩ := hcut
            go_upto_region 14 with fail
            refine wp_region_held_drew (S := fun _ => True) (by kernel_rfl) trivial (fun _ => ?_)
            rw [HWD.out]
            refine take_at (i := 0) 54 ?_ rfl rfl (by kernel_rfl) (by kernel_rfl) (by kernel_rfl) (fun _ _ _ h => h) (.inl ⟨rfl, ?_⟩) trivial ?_
            rotate_left 1
            · intro w hSw; go_simp; try with_reducible rfl
            simp only [Act.put, List.setIfInBounds_toArray, List.set_cons_zero, List.set_cons_succ]
            refine take_at (i := 1) 55 ?_ rfl rfl (by kernel_rfl) (by kernel_rfl) (by kernel_rfl) (fun _ _ _ h => h) (.inl ⟨rfl, ?_⟩) trivial ?_
            rotate_left 1
            · intro w hSw; go_simp; try with_reducible rfl
            simp only [Act.put, List.setIfInBounds_toArray, List.set_cons_zero, List.set_cons_succ]
            refine take_at (i := 2) 56 ?_ rfl rfl (by kernel_rfl) (by kernel_rfl) (by kernel_rfl) (fun _ _ _ h => h) (.inl ⟨rfl, ?_⟩) trivial ?_
            rotate_left 1
            · intro w hSw; go_simp; try with_reducible rfl
            simp only [Act.put, List.setIfInBounds_toArray, List.set_cons_zero, List.set_cons_succ]
            refine take_at (i := 3) 57 ?_ rfl rfl (by kernel_rfl) (by kernel_rfl) (by kernel_rfl) (fun _ _ _ h => h) (.inl ⟨rfl, ?_⟩) trivial ?_
            rotate_left 1
            · intro w hSw; go_simp; try with_reducible rfl
            simp only [Act.put, List.setIfInBounds_toArray, List.set_cons_zero, List.set_cons_succ]
            refine take_at (i := 4) 58 ?_ rfl rfl (by kernel_rfl) (by kernel_rfl) (by kernel_rfl) (fun _ _ _ h => h) (.inl ⟨rfl, ?_⟩) trivial ?_
            rotate_left 1
            · intro w hSw; go_simp; try with_reducible rfl
            simp only [Act.put, List.setIfInBounds_toArray, List.set_cons_zero, List.set_cons_succ]
            refine take_at (i := 5) 59 ?_ rfl rfl (by kernel_rfl) (by kernel_rfl) (by kernel_rfl) (fun _ _ _ h => h) (.inl ⟨rfl, ?_⟩) trivial ?_
            rotate_left 1
            · intro w hSw; go_simp; try with_reducible rfl
            simp only [Act.put, List.setIfInBounds_toArray, List.set_cons_zero, List.set_cons_succ]
            refine take_at (i := 6) 60 (pvo b (65 + i)) rfl rfl (by kernel_rfl) (by kernel_rfl) (by kernel_rfl) (fun _ _ _ h => h) (yields_ixp (.tmp 59) (.tmp 57) 64 (pvo b 65) (.int .i64 (i : Int)) _ (fun W => IX.out W) rfl rfl rfl rfl) trivial ?_
            simp only [Act.put, List.setIfInBounds_toArray, List.set_cons_zero, List.set_cons_succ]
            refine take_at (i := 11) 65 ?_ rfl rfl (by kernel_rfl) (by kernel_rfl) (by kernel_rfl) (fun _ _ _ h => h) (.inl ⟨rfl, ?_⟩) trivial ?_
            rotate_left 1
            · intro w hSw; go_simp; try with_reducible rfl
            simp only [Act.put, List.setIfInBounds_toArray, List.set_cons_zero, List.set_cons_succ]
            refine take_at (i := 12) 66 ?_ rfl rfl (by kernel_rfl) (by kernel_rfl) (by kernel_rfl) (fun _ _ _ h => h) (.inl ⟨rfl, ?_⟩) trivial ?_
            rotate_left 1
            · intro w hSw; go_simp; try with_reducible rfl
            simp only [Act.put, List.setIfInBounds_toArray, List.set_cons_zero, List.set_cons_succ]
            refine wpAnyH_ready (rs := [7, 8]) (by kernel_rfl) (by simp) (br_load (i := 7) 61 (.tmp 60) 34 _ (si) rfl rfl rfl rfl rfl (LD7.out) trivial (fun _ => ?_) (br_load (i := 8) 62 (.tmp 3) 40 _ (oV o) rfl rfl rfl rfl rfl (LD8.out) trivial (fun _ => ?_) AllReadyH.nil))
            · simp only [Act.put, List.setIfInBounds_toArray, List.set_cons_zero, List.set_cons_succ]
              refine wpAnyH_ready (rs := [8]) (by kernel_rfl) (by simp) (br_load (i := 8) 62 (.tmp 3) 40 _ (oV o) rfl rfl rfl rfl rfl (LD8.out) trivial (fun _ => ?_) AllReadyH.nil)
              simp only [Act.put, List.setIfInBounds_toArray, List.set_cons_zero, List.set_cons_succ]
              refine wpAnyH_ready (rs := [9]) (by kernel_rfl) (by simp) (br_bslice (i := 9) 63 34 1 _ #[(0, oV o)] _ we rfl rfl rfl rfl rfl (BS.out) trivial (fun _ => ?_) AllReadyH.nil)
              simp only [Act.put, List.setIfInBounds_toArray, List.set_cons_zero, List.set_cons_succ]
              refine wpAnyH_ready (rs := [10]) (by kernel_rfl) (by simp) (br_append (i := 10) 64 (.tmp 61) (.tmp 63) 34 34 rfl rfl rfl rfl _ _ _ w5 rfl rfl HR.out trivial (fun _ => ?_) AllReadyH.nil)
              simp only [Act.put, List.setIfInBounds_toArray, List.set_cons_zero, List.set_cons_succ]
              refine take_at (i := 13) 67 (pvo b (65 + i)) rfl rfl (by kernel_rfl) (by kernel_rfl) (by kernel_rfl) (fun _ _ _ h => h) (yields_ixp (.tmp 66) (.tmp 55) 64 (pvo b 65) (.int .i64 (i : Int)) _ (fun W => IX.out W) rfl rfl rfl rfl) trivial ?_
              simp only [Act.put, List.setIfInBounds_toArray, List.set_cons_zero, List.set_cons_succ]
              refine wpAnyH_ready (rs := [14]) (by kernel_rfl) (by simp) (br_store (i := 14) 34 (.tmp 67) (.tmp 64) _ _ w6 rfl rfl rfl rfl rfl rfl HS.out trivial (fun _ => ?_) AllReadyH.nil)
              simp only [Act.put, List.setIfInBounds_toArray, List.set_cons_zero, List.set_cons_succ]
              refine wpAnyH_done (by kernel_rfl) ?_ _
              go_wp2
              go_returns
              exact ⟨_, ret_i E.out, FIN.out⟩
            · simp only [Act.put, List.setIfInBounds_toArray, List.set_cons_zero, List.set_cons_succ]
              refine wpAnyH_ready (rs := [7, 9]) (by kernel_rfl) (by simp) (br_load (i := 7) 61 (.tmp 60) 34 _ (si) rfl rfl rfl rfl rfl (LD7.out) trivial (fun _ => ?_) (br_bslice (i := 9) 63 34 1 _ #[(0, oV o)] _ we rfl rfl rfl rfl rfl (BS.out) trivial (fun _ => ?_) AllReadyH.nil))
              · simp only [Act.put, List.setIfInBounds_toArray, List.set_cons_zero, List.set_cons_succ]
                refine wpAnyH_ready (rs := [9]) (by kernel_rfl) (by simp) (br_bslice (i := 9) 63 34 1 _ #[(0, oV o)] _ we rfl rfl rfl rfl rfl (BS.out) trivial (fun _ => ?_) AllReadyH.nil)
                simp only [Act.put, List.setIfInBounds_toArray, List.set_cons_zero, List.set_cons_succ]
                refine wpAnyH_ready (rs := [10]) (by kernel_rfl) (by simp) (br_append (i := 10) 64 (.tmp 61) (.tmp 63) 34 34 rfl rfl rfl rfl _ _ _ w5 rfl rfl HR.out trivial (fun _ => ?_) AllReadyH.nil)
                simp only [Act.put, List.setIfInBounds_toArray, List.set_cons_zero, List.set_cons_succ]
                refine take_at (i := 13) 67 (pvo b (65 + i)) rfl rfl (by kernel_rfl) (by kernel_rfl) (by kernel_rfl) (fun _ _ _ h => h) (yields_ixp (.tmp 66) (.tmp 55) 64 (pvo b 65) (.int .i64 (i : Int)) _ (fun W => IX.out W) rfl rfl rfl rfl) trivial ?_
                simp only [Act.put, List.setIfInBounds_toArray, List.set_cons_zero, List.set_cons_succ]
                refine wpAnyH_ready (rs := [14]) (by kernel_rfl) (by simp) (br_store (i := 14) 34 (.tmp 67) (.tmp 64) _ _ w6 rfl rfl rfl rfl rfl rfl HS.out trivial (fun _ => ?_) AllReadyH.nil)
                simp only [Act.put, List.setIfInBounds_toArray, List.set_cons_zero, List.set_cons_succ]
                refine wpAnyH_done (by kernel_rfl) ?_ _
                go_wp2
                go_returns
                exact ⟨_, ret_i E.out, FIN.out⟩
              · simp only [Act.put, List.setIfInBounds_toArray, List.set_cons_zero, List.set_cons_succ]
                refine wpAnyH_ready (rs := [7]) (by kernel_rfl) (by simp) (br_load (i := 7) 61 (.tmp 60) 34 _ (si) rfl rfl rfl rfl rfl (LD7e.out) trivial (fun _ => ?_) AllReadyH.nil)
                simp only [Act.put, List.setIfInBounds_toArray, List.set_cons_zero, List.set_cons_succ]
                refine wpAnyH_ready (rs := [10]) (by kernel_rfl) (by simp) (br_append (i := 10) 64 (.tmp 61) (.tmp 63) 34 34 rfl rfl rfl rfl _ _ _ w5 rfl rfl HR.out trivial (fun _ => ?_) AllReadyH.nil)
                simp only [Act.put, List.setIfInBounds_toArray, List.set_cons_zero, List.set_cons_succ]
                refine take_at (i := 13) 67 (pvo b (65 + i)) rfl rfl (by kernel_rfl) (by kernel_rfl) (by kernel_rfl) (fun _ _ _ h => h) (yields_ixp (.tmp 66) (.tmp 55) 64 (pvo b 65) (.int .i64 (i : Int)) _ (fun W => IX.out W) rfl rfl rfl rfl) trivial ?_
                simp only [Act.put, List.setIfInBounds_toArray, List.set_cons_zero, List.set_cons_succ]
                refine wpAnyH_ready (rs := [14]) (by kernel_rfl) (by simp) (br_store (i := 14) 34 (.tmp 67) (.tmp 64) _ _ w6 rfl rfl rfl rfl rfl rfl HS.out trivial (fun _ => ?_) AllReadyH.nil)
                simp only [Act.put, List.setIfInBounds_toArray, List.set_cons_zero, List.set_cons_succ]
                refine wpAnyH_done (by kernel_rfl) ?_ _
                go_wp2
                go_returns
                exact ⟨_, ret_i E.out, FIN.out⟩
end Go.Proofs.YtgnnpfainoppeaaDoor
