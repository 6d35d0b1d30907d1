/- gap.Add. Made by genge28.py, with tools/drawn.py. -/
import Derived.Test.YtgnnpfainoppeaaGD
import Derived.Test.YtgnnpfainoppeaaOB
set_option linter.unusedVariables false
set_option linter.unusedSimpArgs false
set_option maxRecDepth 100000
namespace Go.Proofs.Ytgnnpfainoppeaa
open Go.RowKit Go.WideMaps Go.Maps Go.WideShapes Go.ChangeMaps
open Ve (zs zs_len vw va RightP)

section
variable {md : Region.Mode} {ops : Array Oper} {Q : Exit → Act → World → Prop} {S : World → Prop} {i fuel : Nat} {oi : Oper} {listed : Array Bool} {a : Act} {w : World}
theorem br_mupd (m x v : Operand) (mv xv vv : Value) (w' : World) {rs : List Nat} (hi : ops[i]? = some oi) (hd : oi.dst = none) (hw : Region.wanted oi (yielded ops a.tmps) = true)
    (ho : oi.op = .mapUpdate 58 m x v) (hm : a.eval m = mv) (hx : a.eval x = xv) (hv : a.eval v = vv) (hrun : (Instr.mapUpdate 58 mv xv vv).run Try.prog w = .ok () w') (hS : S w')
    (h : S w' → wpAnyH Try.prog md ops Q S fuel (listed.setIfInBounds i true) (a.put none undef) w')
    (hrs : AllReadyH Try.prog md ops Q S fuel listed a w rs) : AllReadyH Try.prog md ops Q S fuel listed a w (i :: rs) := by
  refine AllReadyH.cons hi (fun K hK => ?_) hrs
  rw [if_pos hw]
  unfold Oper.wp execOp
  simp only [ho, hm, hx, hv, hrun, Sem.run_bind, Sem.run_pure, Result.andThen_ok]
  show K _ _
  rw [hd]
  exact hK.out _ _ hS h
theorem br_mdel (m x : Operand) (mv xv : Value) (w' : World) {rs : List Nat} (hi : ops[i]? = some oi) (hd : oi.dst = none) (hw : Region.wanted oi (yielded ops a.tmps) = true)
    (ho : oi.op = .call { callee := .builtin .delete, args := #[m, x], argTypes := #[58, 72] }) (hm : a.eval m = mv) (hx : a.eval x = xv) (hrun : (Builtin.delete_ #[58, 72] oi.type #[mv, xv]).run Try.prog w = .ok (.tuple #[]) w') (hS : S w')
    (h : S w' → wpAnyH Try.prog md ops Q S fuel (listed.setIfInBounds i true) (a.put none (.tuple #[])) w')
    (hrs : AllReadyH Try.prog md ops Q S fuel listed a w rs) : AllReadyH Try.prog md ops Q S fuel listed a w (i :: rs) := by
  refine AllReadyH.cons hi (fun K hK => ?_) hrs
  rw [if_pos hw]
  unfold Oper.wp
  simp only [execOp, ho, resolve, invoke, builtin, Sem.run_bind, Sem.run_pure, Result.andThen_ok, List.map_toArray, List.map_cons, List.map_nil, hm, hx, hrun]
  show K _ _
  rw [hd]
  exact hK.out _ _ hS h
theorem yields_look (x y : Operand) (v u r : Value) {op : Oper} (hS : ∀ w, S w → (Instr.lookup 58 v u true).run Try.prog w = .ok r w) (hw : Region.wanted op (yielded ops a.tmps) = true) (ho : op.op = .lookup 58 x y true)
    (hx : a.eval x = v) (hy : a.eval y = u) : YieldsIf Try.prog ops S op r a :=
  .inl ⟨hw, fun w hw' => by
    unfold execOp
    simp only [ho, hx, hy, hS w hw', Sem.run_bind, Sem.run_pure, Result.andThen_ok]⟩
end
theorem ldN {W : World} {k : Nat} {a b : Int} (h : W.heap[k]? = some (.cells #[.int .i64 a, .int .i64 b] 72 (0, 0))) : (Instr.loadAt 72 (pvo k 0)).run Try.prog W = .ok (sv a b) W := by
  have c0 := (cell_of_row _ _ 0 _ _ _ h).trans (show (#[Value.int .i64 a, .int .i64 b])[0]? = some (.int .i64 a) from rfl)
  have c1 := (cell_of_row _ _ 1 _ _ _ h).trans (show (#[Value.int .i64 a, .int .i64 b])[1]? = some (.int .i64 b) from rfl)
  go_simp
theorem ldM {W : World} {p : Nat} {m : Option Nat} (h : W.cell? ⟨p, 0, none⟩ = some (.map m)) : (Instr.loadAt 58 (pvo p 0)).run Try.prog W = .ok (.map m) W := by
  go_simp
noncomputable def rO (o : O) : Bool := rB o.t o.r o.q o.nt o.nr o.pt o.pr o.nm
theorem rO_facts {o : O} (h : rO o = true) : (1 ≤ o.t ∧ o.t ≤ 281474976710656) ∧ (0 ≤ o.r ∧ o.r < 64) ∧ (1 ≤ o.q ∧ o.q ≤ 4294967296) := by
  unfold rO rB St.rightB St.rT St.rR at h
  simp only [Bool.and_eq_true, decide_eq_true_eq] at h
  exact ⟨h.1.1, h.1.2, h.2.1, h.2.2.1⟩
noncomputable def addI (l : List O) (vv : List Int) (o : O) : Int :=
  if rO o then (if o.q ≤ knw vv o.r then 11 else if knw vv o.r + 256 < o.q then 7 else if atG l o.r o.q then 9 else 0) else 2
noncomputable def addL (l : List O) (vv : List Int) (o : O) : List O := if addI l vv o = 0 then setG l o else l
theorem at_get (l : List O) (r q : Int) : (getG l r q).isSome = atG l r q := by
  unfold getG atG
  induction l with
  | nil => rfl
  | cons a l ih => rw [List.find?_cons, List.any_cons]; cases isG r q a <;> simp [ih]
theorem TM.look2 {w : World} {b : Nat} {l : List O} (h : TM w b l) {t r : Int} (ht : I64 t) (hr : I64 r) : (Instr.lookup 58 (.map (some b)) (sv t r) true).run Try.prog w = .ok (.tuple #[oV ((getG l t r).getD O0), .bool (atG l t r)]) w := by
  rw [h.look ht hr, ← at_get]
  cases getG l t r <;> rfl
/-- What a call does that turns the map's block alone. -/
structure GOut (w w' : World) (p b : Nat) (l : List O) : Prop where
  gap : GapI w' p b l
  grow : w.grownBy w' (some b)
theorem GOut.below {w w' : World} {p b B : Nat} {l : List O} (h : GOut w w' p b l) (hB : B ≤ b) (hs : B ≤ w.heap.size) : Below B w w' :=
  (Below.refl B w).grown h.grow hs (fun k e => by cases e; exact hB)
theorem GOut.still {w w' : World} {p b : Nat} {l : List O} (h : GapI w p b l) (hb : Below w.heap.size w w') : GOut w w' p b l := ⟨h.step hb, below_grown hb _⟩
theorem GOut.then_below {w w1 w2 : World} {p b : Nat} {l : List O} (h : GOut w w1 p b l) (hb : Below w1.heap.size w1 w2) : GOut w w2 p b l := ⟨h.gap.step hb, h.grow.andThen (below_grown hb none) (fun j e => by cases e)⟩
theorem GOut.of_below {w w1 w2 : World} {p b : Nat} {l : List O} (hb : Below w.heap.size w w1) (h : GOut w1 w2 p b l) : GOut w w2 p b l := ⟨h.gap, (below_grown hb (some b)).andThen h.grow (fun j e => .inr e)⟩
theorem knw_small {vv : List Int} (hv : vv.length = 64) (hp : RightP vv) {r : Int} (hr : 0 ≤ r ∧ r < 64) : 0 ≤ knw vv r ∧ knw vv r ≤ 4294967296 := by
  obtain ⟨i, _, _, hx⟩ := knw_at hv hr
  exact hp i _ hx
set_option maxHeartbeats 6400000 in
theorem add_any (w : World) (p b : Nat) (l : List O) (h : GapI w p b l) (hl : l.length < 100000) (vv : List Int) (hv : vv.length = 64) (hp : RightP vv) (o : O) (hz : o.nm.size ≤ 1000000) :
    Calls Try.prog 12 #[pv p, vw vv, oV o] w fun e w' => e = .returned (.int .i64 (addI l vv o)) ∧ GOut w w' p b (addL l vv o) := by
  have B1 := vstep w (.cells (va vv) 29)
  have B2 := vstep (w.alloc (.cells (va vv) 29)) (.cells (oCells o) 35)
  have s1 : (w.alloc (.cells (va vv) 29)).heap.size = w.heap.size + 1 := by simp
  have N1 := (B2.block _ (by omega)).trans (heap_alloc_new w (.cells (va vv) 29))
  have N2 := heap_alloc_new (w.alloc (.cells (va vv) 29)) (.cells (oCells o) 35)
  rw [s1] at N2
  have BB := B1.trans (B2.mono B1.size)
  obtain ⟨w0, hw0⟩ : ∃ z, (w.alloc (.cells (va vv) 29)).alloc (.cells (oCells o) 35) = z := ⟨_, rfl⟩
  rw [hw0] at N1 N2 BB
  have VB := Lib.hid N1
  have OB := Lib.hid N2
  have B0 := Lib.hid BB
  have H0 := Lib.hid (h.step BB)
  have HLT := Lib.hid h.blt
  have RG : Hid (∀ W : World, Calls Try.prog 26 #[oV o] W fun e w' => e = .returned (.bool (rO o)) ∧ Below W.heap.size W w') := Lib.hid (fun W => right_any W o.t o.r o.q o.nt o.nr o.pt o.pr o.nm o.d hz)
  have L0 := Lib.hid (ldBox OB.out)
  have c0 := H0.out.cell
  have E58 := fun W m => eq58 W m
  have SAME := Lib.hid (fun w' (hn : addI l vv o ≠ 0) (hb : Below w.heap.size w w') => show GOut w w' p b (addL l vv o) from by
    unfold addL
    rw [if_neg hn]
    exact GOut.still h hb)
  have HV := Lib.hid hv
  have HP := Lib.hid hp
  have HVW := Lib.hid (show vw vv = .agg (va vv) from rfl)
  have HOV := Lib.hid (show oV o = .agg (oCells o) from rfl)
  rw [HVW.out, HOV.out]
  obtain ⟨VA, hVA⟩ : ∃ z, va vv = z := ⟨_, rfl⟩
  rw [hVA] at hw0 ⊢
  obtain ⟨OA, hOA⟩ : ∃ z, oCells o = z := ⟨_, rfl⟩
  rw [hOA] at hw0 ⊢
  clear hVA hOA N1 N2 BB B1 B2 s1 h hv hp hz
  go_enter Try.func12, Try.ntmps12
  go_wp2_with (first | (refine wpList_ld rfl (.tmp 5) 35 rfl (pvo (w.heap.size + 1) 0) (oV o) rfl L0.out ?_; simp only [Act.put, List.setIfInBounds_toArray, List.set_cons_zero, List.set_cons_succ]))
  refine (RG.out _).mono ?_
  rintro e w1 ⟨rfl, hb1⟩
  have B1 := Lib.hid (B0.out.trans (hb1.mono B0.out.size))
  have V1 := Lib.hid ((hb1.block _ (lt_of_block VB.out)).trans VB.out)
  have O1 := Lib.hid ((hb1.block _ (lt_of_block OB.out)).trans OB.out)
  have H1 := Lib.hid (H0.out.step hb1)
  clear hb1 c0 L0 hw0
  cases hr : rO o with
  | false =>
    have E := Lib.hid (show addI l vv o = 2 by unfold addI; rw [hr]; rfl)
    have F := Lib.hid (SAME.out w1 (by rw [E.out]; decide) B1.out)
    clear hr
    go_wp2
    go_returns
    exact ⟨by rw [E.out]; rfl, F.out⟩
  | true =>
    obtain ⟨ft, fr, fq⟩ := rO_facts hr
    obtain ⟨i, hi, hi64, hx⟩ := knw_at HV.out fr
    have ks := knw_small HV.out HP.out fr
    have KD := Lib.hid (show addI l vv o = (if o.q ≤ knw vv o.r then 11 else if knw vv o.r + 256 < o.q then 7 else if atG l o.r o.q then 9 else 0) by unfold addI; rw [hr]; rfl)
    obtain ⟨kn, hkn⟩ : ∃ z, knw vv o.r = z := ⟨_, rfl⟩
    rw [hkn] at KD hx ks
    have I1 := Lib.hid (show I64 o.r ∧ I64 o.q by unfold I64; omega)
    have HI := Lib.hid hi
    obtain ⟨t0, c1, c2⟩ := box3 O1.out
    have B2 := vstep w1 (.cells #[.int .i64 o.r, .int .i64 o.q] 72)
    have N2 := heap_alloc_new w1 (.cells #[.int .i64 o.r, .int .i64 o.q] 72)
    obtain ⟨w2, hw2⟩ : ∃ z, w1.alloc (.cells #[.int .i64 o.r, .int .i64 o.q] 72) = z := ⟨_, rfl⟩
    rw [hw2] at B2 N2
    obtain ⟨gn, hgn⟩ : ∃ z, w1.heap.size = z := ⟨_, rfl⟩
    have NN := Lib.hid (show w2.heap[gn]? = some (.cells #[.int .i64 o.r, .int .i64 o.q] 72 (0, 0)) by rw [← hgn]; exact N2)
    have H2 := Lib.hid (H1.out.step B2)
    have O2 := Lib.hid ((B2.block _ (lt_of_block O1.out)).trans O1.out)
    have V2 := (B2.block _ (lt_of_block V1.out)).trans V1.out
    have X2 := Lib.hid (B1.out.trans (B2.mono B1.out.size))
    have HW2 := Lib.hid hw2
    have HGN := Lib.hid hgn
    have d0 := (cell_of_row _ _ 0 _ _ _ NN.out).trans (show (#[Value.int .i64 o.r, .int .i64 o.q])[0]? = some (.int .i64 o.r) from rfl)
    have d1 := (cell_of_row _ _ 1 _ _ _ NN.out).trans (show (#[Value.int .i64 o.r, .int .i64 o.q])[1]? = some (.int .i64 o.q) from rfl)
    rw [HI.out] at d0
    have d2 := Ve.cell_va V2 hx
    have hi0 : (0 : Int) ≤ (i : Int) := by omega
    have hi1 : (i : Int) < 64 := by omega
    have ks1 := ks.1
    have ks2 := ks.2
    clear B2 N2 hw2 hgn hr hi hx hkn t0 V2 ks ft fr
    go_upto_region 6 with fail
    rw [HW2.out, HGN.out]
    clear c1 c2
    go_wp2
    go_quiet (fail)
    have X3 := Lib.hid (X2.out.trans ((below_drewN w2 nq).mono X2.out.size))
    have H3 := Lib.hid (H2.out.step (below_drewN w2 nq))
    have O3 := Lib.hid (((below_drewN w2 nq).block _ (lt_of_block O2.out)).trans O2.out)
    have N3 := Lib.hid (((below_drewN w2 nq).block _ (lt_of_block NN.out)).trans NN.out)
    have d0 := (show (w2.drewN nq).cell? ⟨gn, 0, none⟩ = some (.int .i64 (i : Int)) from d0)
    have d1 := (show (w2.drewN nq).cell? ⟨gn, 1, none⟩ = some (.int .i64 o.q) from d1)
    have d2 := (show (w2.drewN nq).cell? ⟨w.heap.size, i, none⟩ = some (.int .i64 kn) from d2)
    obtain ⟨w3, hw3⟩ : ∃ z, w2.drewN nq = z := ⟨_, rfl⟩
    rw [hw3] at X3 H3 O3 N3 d0 d1 d2 ⊢
    clear hw3 NN
    by_cases hle : o.q ≤ kn
    · have E := Lib.hid (show addI l vv o = 11 by rw [KD.out, if_pos hle])
      have F := Lib.hid (SAME.out w3 (by rw [E.out]; decide) X3.out)
      go_wp2
      go_returns
      exact ⟨by rw [E.out]; rfl, F.out⟩
    · have hle2 : ¬ (o.q ≤ kn) := hle
      have hw256 : wrap64 (kn + 256) = kn + 256 := by unfold wrap64; omega
      go_wp2
      go_quiet (fail)
      have X4 := Lib.hid (X3.out.trans ((below_drewN w3 nq).mono X3.out.size))
      have H4 := Lib.hid (H3.out.step (below_drewN w3 nq))
      have O4 := Lib.hid (((below_drewN w3 nq).block _ (lt_of_block O3.out)).trans O3.out)
      have N4 := Lib.hid (((below_drewN w3 nq).block _ (lt_of_block N3.out)).trans N3.out)
      obtain ⟨w4, hw4⟩ : ∃ z, w3.drewN nq = z := ⟨_, rfl⟩
      rw [hw4] at X4 H4 O4 N4 ⊢
      clear hw4 N3 d0 d1 d2 X3 H3 O3
      by_cases hf : kn + 256 < o.q
      · have E := Lib.hid (show addI l vv o = 7 by rw [KD.out, if_neg (by omega), if_pos hf])
        have F := Lib.hid (SAME.out w4 (by rw [E.out]; decide) X4.out)
        go_wp2
        go_returns
        exact ⟨by rw [E.out]; rfl, F.out⟩
      · have hf2 : ¬ (kn + 256 < o.q) := hf
        have KE := Lib.hid (show addI l vv o = (if atG l o.r o.q then 9 else 0) by rw [KD.out, if_neg (by omega), if_neg hf])
        have LKM := Lib.hid (fun W (hb : Below w4.heap.size w4 W) => ldM (H4.out.step hb).cell)
        have LKN := Lib.hid (fun W (hb : Below w4.heap.size w4 W) => ldN ((hb.block _ (lt_of_block N4.out)).trans N4.out))
        have LKL := Lib.hid (fun W (hb : Below w4.heap.size w4 W) => (H4.out.step hb).map.look2 I1.out.1 I1.out.2)
        obtain ⟨gx, hgx⟩ : ∃ z, (getG l o.r o.q).getD O0 = z := ⟨_, rfl⟩
        obtain ⟨gok, hgok⟩ : ∃ z, atG l o.r o.q = z := ⟨_, rfl⟩
        rw [hgx, hgok] at LKL
        rw [hgok] at KE
        clear hgx hgok
        go_upto_region 10 with fail
        refine wp_region_held_drew (S := fun w' => Below w4.heap.size w4 w') (by kernel_rfl) (Below.refl _ _).drew (fun hHeld => ?_)
        have BV := Lib.hid (show Below w4.heap.size w4 w4.drew from (Below.refl _ _).drew)
        clear hHeld
        refine take_at (i := 0) 44 ?_ rfl rfl (by kernel_rfl) (by kernel_rfl) (by kernel_rfl) (fun _ _ _ h => h) (.inl ⟨rfl, ?_⟩) BV.out ?_
        rotate_left 1
        · intro w hSw; go_simp; try with_reducible rfl
        simp only [Act.put, List.setIfInBounds_toArray, List.set_cons_zero, List.set_cons_succ]
        refine take_at (i := 1) 45 ?_ rfl rfl (by kernel_rfl) (by kernel_rfl) (by kernel_rfl) (fun _ _ _ h => h) (.inl ⟨rfl, ?_⟩) BV.out ?_
        rotate_left 1
        · intro w hSw; go_simp; try with_reducible rfl
        simp only [Act.put, List.setIfInBounds_toArray, List.set_cons_zero, List.set_cons_succ]
        refine take_at (i := 2) 46 ?_ rfl rfl (by kernel_rfl) (by kernel_rfl) (by kernel_rfl) (fun _ _ _ h => h) (.inl ⟨rfl, ?_⟩) BV.out ?_
        rotate_left 1
        · intro w hSw; go_simp; try with_reducible rfl
        simp only [Act.put, List.setIfInBounds_toArray, List.set_cons_zero, List.set_cons_succ]
        refine take_at (i := 3) 47 (.map (some b)) rfl rfl (by kernel_rfl) (by kernel_rfl) (by kernel_rfl) (fun _ _ _ h => h) (yields_ld (.tmp 46) 58 (pvo p 0) _ LKM.out rfl rfl rfl) BV.out ?_
        simp only [Act.put, List.setIfInBounds_toArray, List.set_cons_zero, List.set_cons_succ]
        refine take_at (i := 4) 48 (sv o.r o.q) rfl rfl (by kernel_rfl) (by kernel_rfl) (by kernel_rfl) (fun _ _ _ h => h) (yields_ld (.tmp 7) 72 (pvo gn 0) _ LKN.out rfl rfl rfl) BV.out ?_
        simp only [Act.put, List.setIfInBounds_toArray, List.set_cons_zero, List.set_cons_succ]
        refine take_at (i := 5) 49 (.tuple #[oV gx, .bool gok]) rfl rfl (by kernel_rfl) (by kernel_rfl) (by kernel_rfl) (fun _ _ _ h => h) (yields_look (.tmp 47) (.tmp 48) (.map (some b)) (sv o.r o.q) _ LKL.out rfl rfl rfl rfl) BV.out ?_
        simp only [Act.put, List.setIfInBounds_toArray, List.set_cons_zero, List.set_cons_succ]
        refine take_at (i := 6) 43 ?_ rfl rfl (by kernel_rfl) (by kernel_rfl) (by kernel_rfl) (fun _ _ _ h => h) (.inl ⟨rfl, ?_⟩) BV.out ?_
        rotate_left 1
        · intro w hSw; go_simp; try with_reducible rfl
        simp only [Act.put, List.setIfInBounds_toArray, List.set_cons_zero, List.set_cons_succ]
        refine take_at (i := 7) 50 ?_ rfl rfl (by kernel_rfl) (by kernel_rfl) (by kernel_rfl) (fun _ _ _ h => h) (.inl ⟨rfl, ?_⟩) BV.out ?_
        rotate_left 1
        · intro w hSw; go_simp; try with_reducible rfl
        simp only [Act.put, List.setIfInBounds_toArray, List.set_cons_zero, List.set_cons_succ]
        refine take_at (i := 8) 51 ?_ rfl rfl (by kernel_rfl) (by kernel_rfl) (by kernel_rfl) (fun _ _ _ h => h) (.inl ⟨rfl, ?_⟩) BV.out ?_
        rotate_left 1
        · intro w hSw; go_simp; try with_reducible rfl
        simp only [Act.put, List.setIfInBounds_toArray, List.set_cons_zero, List.set_cons_succ]
        refine wpAnyH_ready (rs := [9]) (by kernel_rfl) (by simp) (br_alloc (i := 9) 8 35 (pvo w4.drew.heap.size 0) (w4.drew.alloc (.cells (oCells O0) 35)) rfl rfl rfl rfl (alloc40 w4.drew) (BV.out.trans ((vstep w4.drew _).mono BV.out.size)) (fun _ => ?_) AllReadyH.nil)
        have NB := heap_alloc_new w4.drew (.cells (oCells O0) 35)
        have hb := vstep w4.drew (.cells (oCells O0) 35)
        obtain ⟨v1, hv1⟩ : ∃ zz, w4.drew.alloc (.cells (oCells O0) 35) = zz := ⟨_, rfl⟩
        have KB := Lib.hid BV.out.size
        rw [hv1] at NB hb ⊢
        obtain ⟨kx, hkx⟩ : ∃ zz, w4.drew.heap.size = zz := ⟨_, rfl⟩
        rw [hkx] at NB KB ⊢
        have SB := Lib.hid (store_o v1 kx O0 gx NB)
        have RB := Lib.hid (setRow_heap _ _ _ (oCells gx) _ _ NB)
        clear NB hv1 hkx
        have BV := Lib.hid (BV.out.trans (hb.mono BV.out.size))
        clear hb
        simp only [Act.put, List.setIfInBounds_toArray, List.set_cons_zero, List.set_cons_succ]
        refine wpAnyH_ready (rs := [10]) (by kernel_rfl) (by simp) (br_store (i := 10) 35 (.tmp 8) (.tmp 50) (pvo kx 0) (oV gx) (v1.setRow kx (oCells gx)) rfl rfl rfl rfl rfl rfl SB.out (Ve.below_setRow BV.out KB.out (oCells gx)) (fun _ => ?_) AllReadyH.nil)
        have BV := Lib.hid (Ve.below_setRow BV.out KB.out (oCells gx))
        obtain ⟨wq, hwq⟩ : ∃ zz, v1.setRow kx (oCells gx) = zz := ⟨_, rfl⟩
        rw [hwq] at BV RB ⊢
        clear hwq SB
        simp only [Act.put, List.setIfInBounds_toArray, List.set_cons_zero, List.set_cons_succ]
        refine take_at (i := 11) 9 ?_ rfl rfl (by kernel_rfl) (by kernel_rfl) (by kernel_rfl) (fun _ _ _ h => h) (.inl ⟨rfl, ?_⟩) BV.out ?_
        rotate_left 1
        · intro w hSw; go_simp; try with_reducible rfl
        simp only [Act.put, List.setIfInBounds_toArray, List.set_cons_zero, List.set_cons_succ]
        refine wpAnyH_done (by kernel_rfl) ?_ _
        have X5 := Lib.hid (X4.out.trans (BV.out.mono X4.out.size))
        have H5 := Lib.hid (H4.out.step BV.out)
        have O5 := Lib.hid ((BV.out.block _ (lt_of_block O4.out)).trans O4.out)
        have N5 := Lib.hid ((BV.out.block _ (lt_of_block N4.out)).trans N4.out)
        clear LKM LKN LKL BV RB KB X4 H4 O4 N4
        cases gok with
        | true =>
          have E := Lib.hid (show addI l vv o = 9 by rw [KE.out]; rfl)
          have F := Lib.hid (SAME.out wq (by rw [E.out]; decide) X5.out)
          go_wp2
          go_returns
          exact ⟨by rw [E.out]; rfl, F.out⟩
        | false =>
          have E := Lib.hid (show addI l vv o = 0 by rw [KE.out]; rfl)
          have PB := Lib.hid H5.out.ne
          obtain ⟨w6, r6, t6, g6⟩ := (H5.out.map.step (Below.refl wq.heap.size wq).drew).put (x := o) ⟨I1.out.1, I1.out.2, trivial⟩ (by unfold maxLen; omega)
          have G6 := Lib.hid (show wq.grownBy w6 (some b) from (below_grown (Below.refl wq.heap.size wq).drew (some b)).andThen g6 (fun j e => .inr e))
          have BK := Lib.hid (fun W (hg : wq.grownBy W (some b)) (k : Nat) (o : Obj) (h : wq.heap[k]? = some o) (hk : k ≠ b) => (hg.block k (lt_of_block h) (fun e => hk (by injection e))).trans h)
          have NB := Lib.hid (show gn ≠ b from fun e => by
            obtain ⟨es, h1, _⟩ := H5.out.map
            obtain ⟨es', c, hb, _⟩ := h1
            rw [← e, N5.out] at hb
            cases hb)
          have OB2 := Lib.hid (show w.heap.size + 1 ≠ b from fun e => by have := HLT.out; omega)
          have LKM := Lib.hid (fun W (hg : wq.grownBy W (some b)) => ldM (cell_of_one (BK.out W hg _ _ H5.out.box PB.out)))
          have LKN := Lib.hid (fun W (hg : wq.grownBy W (some b)) => ldN (BK.out W hg _ _ N5.out NB.out))
          have LKO := Lib.hid (fun W (hg : wq.grownBy W (some b)) => ldBox (BK.out W hg _ _ O5.out OB2.out))
          have R6 := Lib.hid r6
          have F := Lib.hid (show GOut w w6 p b (addL l vv o) from by
            unfold addL
            rw [if_pos E.out]
            exact ⟨⟨BK.out w6 G6.out _ _ H5.out.box PB.out, t6⟩, (below_grown X5.out (some b)).andThen G6.out (fun j e => .inr e)⟩)
          clear r6 t6 g6
          go_upto_region 13 with fail
          refine wp_region_held_drew (S := fun W => wq.grownBy W (some b)) (by kernel_rfl) (below_grown (Below.refl wq.heap.size wq).drew (some b)) (fun hHeld => ?_)
          have BV := Lib.hid (below_grown (Below.refl wq.heap.size wq).drew (some b))
          clear hHeld
          refine take_at (i := 0) 53 ?_ rfl rfl (by kernel_rfl) (by kernel_rfl) (by kernel_rfl) (fun _ _ _ h => h) (.inl ⟨rfl, ?_⟩) BV.out ?_
          rotate_left 1
          · intro w hSw; go_simp; try with_reducible rfl
          simp only [Act.put, List.setIfInBounds_toArray, List.set_cons_zero, List.set_cons_succ]
          refine take_at (i := 1) 54 ?_ rfl rfl (by kernel_rfl) (by kernel_rfl) (by kernel_rfl) (fun _ _ _ h => h) (.inl ⟨rfl, ?_⟩) BV.out ?_
          rotate_left 1
          · intro w hSw; go_simp; try with_reducible rfl
          simp only [Act.put, List.setIfInBounds_toArray, List.set_cons_zero, List.set_cons_succ]
          refine take_at (i := 2) 55 ?_ rfl rfl (by kernel_rfl) (by kernel_rfl) (by kernel_rfl) (fun _ _ _ h => h) (.inl ⟨rfl, ?_⟩) BV.out ?_
          rotate_left 1
          · intro w hSw; go_simp; try with_reducible rfl
          simp only [Act.put, List.setIfInBounds_toArray, List.set_cons_zero, List.set_cons_succ]
          refine take_at (i := 3) 56 (.map (some b)) rfl rfl (by kernel_rfl) (by kernel_rfl) (by kernel_rfl) (fun _ _ _ h => h) (yields_ld (.tmp 55) 58 (pvo p 0) _ LKM.out rfl rfl rfl) BV.out ?_
          simp only [Act.put, List.setIfInBounds_toArray, List.set_cons_zero, List.set_cons_succ]
          refine take_at (i := 4) 57 (sv o.r o.q) rfl rfl (by kernel_rfl) (by kernel_rfl) (by kernel_rfl) (fun _ _ _ h => h) (yields_ld (.tmp 7) 72 (pvo gn 0) _ LKN.out rfl rfl rfl) BV.out ?_
          simp only [Act.put, List.setIfInBounds_toArray, List.set_cons_zero, List.set_cons_succ]
          refine take_at (i := 5) 58 (oV o) rfl rfl (by kernel_rfl) (by kernel_rfl) (by kernel_rfl) (fun _ _ _ h => h) (yields_ld (.tmp 5) 35 (pvo (w.heap.size + 1) 0) _ LKO.out rfl rfl rfl) BV.out ?_
          simp only [Act.put, List.setIfInBounds_toArray, List.set_cons_zero, List.set_cons_succ]
          refine wpAnyH_ready (rs := [6]) (by kernel_rfl) (by simp) (br_mupd (i := 6) (.tmp 56) (.tmp 57) (.tmp 58) (.map (some b)) (sv o.r o.q) (oV o) w6 rfl rfl rfl rfl rfl rfl rfl R6.out G6.out (fun _ => ?_) AllReadyH.nil)
          have BV := Lib.hid G6.out
          simp only [Act.put, List.setIfInBounds_toArray, List.set_cons_zero, List.set_cons_succ]
          refine wpAnyH_done (by kernel_rfl) ?_ _
          go_wp2
          go_returns
          exact ⟨by rw [E.out]; rfl, F.out⟩
end Go.Proofs.Ytgnnpfainoppeaa
