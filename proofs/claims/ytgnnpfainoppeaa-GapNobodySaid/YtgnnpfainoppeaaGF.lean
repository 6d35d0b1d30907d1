/- gap.Ready. Made by gengf28.py, with tools/drawn.py. -/
import Derived.Test.YtgnnpfainoppeaaGE
import Derived.Lib.AppendZerosOnto
set_option linter.unusedVariables false
set_option linter.unusedSimpArgs false
set_option maxRecDepth 100000
namespace Go.Proofs.Ytgnnpfainoppeaa
open Go.RowKit Go.WideMaps Go.Maps Go.WideShapes Go.ChangeMaps
open Ve (zs zs_len vw va RightP)

theorem info35 : (Try.prog.info? 35).map (fun i => (i.zero, i.size, i.bytes)) = some (some (oV O0), 9, 80) := by kernel_rfl
theorem Try.u27' : Try.prog.underlying 27 = some (.slice 35) := by kernel_rfl
/-- Ready between two numbers. -/
structure RJ (w wr : World) (p b : Nat) (l : List O) (vv : List Int) (most rep last : Int) (j : Nat) (ov : Value) : Prop where
  gap : GapI wr p b (left l (knw vv) j)
  grow : w.grownBy wr (some b)
  row : wr.ownsRow (w.heap.size + 1) 35 9 ov ((turns l (knw vv)).take j).length (cs9 ((turns l (knw vv)).take j))
  ri : RI l (knw vv) most rep last j
  kl : knw vv rep ≤ last
  hi : last ≤ 4294967296 + (j : Int)
  big : w.heap.size + 1 ≤ wr.heap.size
theorem RJ.step {w wr w' : World} {p b : Nat} {l : List O} {vv : List Int} {most rep last : Int} {j : Nat} {ov : Value} (h : RJ w wr p b l vv most rep last j ov) (hb : Below wr.heap.size wr w') : RJ w w' p b l vv most rep last j ov :=
  ⟨h.gap.step hb, h.grow.andThen (below_grown hb none) (fun j e => by cases e), own_keep h.row hb, h.ri, h.kl, h.hi, Nat.le_trans h.big hb.size⟩
theorem RJ.len {w wr : World} {p b : Nat} {l : List O} {vv : List Int} {most rep last : Int} {j : Nat} {ov : Value} (h : RJ w wr p b l vv most rep last j ov) : ((turns l (knw vv)).take j).length = j := by
  rw [List.length_take]; have := h.ri.le; omega
theorem turns_len (l : List O) (k : Int → Int) : (turns l k).length ≤ l.length := List.length_filter_le _ _
/-- One more is taken. -/
theorem RJ.take {w wr : World} {p b : Nat} {l : List O} {vv : List Int} {most rep last : Int} {j : Nat} {ov : Value} (hlt : b < w.heap.size ∧ p < w.heap.size) (h : RJ w wr p b l vv most rep last j ov) (hr : RiseG l) (hl : l.length < 100000) (hj : (j : Int) < most)
    {o : O} (hg : getG (left l (knw vv) j) rep (last + 1) = some o) (k : Nat) (hk : wr.heap[k]? = some (.cells (oCells o) 35 (0, 0))) :
    ∃ a c W1, (Builtin.append_ #[27, 27] 27 #[ov, .slice (some ⟨k, 0, none⟩) 1 1]).run Try.prog wr = .ok (.slice a (j + 1) c) W1 ∧ w.grownBy W1 (some b) ∧ GapI W1 p b (left l (knw vv) j) ∧ wr.heap.size ≤ W1.heap.size ∧ (∀ m ob, wr.heap[m]? = some ob → ov.ownBlock ≠ some m → W1.heap[m]? = some ob) ∧
      ∀ W2, W1.grownBy W2 (some b) → GapI W2 p b (dropG (left l (knw vv) j) rep (last + 1)) → RJ w W2 p b l vv most rep (last + 1) (j + 1) (.slice a (j + 1) c) := by
  obtain ⟨i0, hi0, hz0, hz1, hz2⟩ := Ve.info_parts info35
  have hlen := h.len
  have htl := turns_len l (knw vv)
  have hjl := h.ri.le
  obtain ⟨v', W1, hr1, ho, hgr, hsp⟩ := Wi.run_append_src_own (P := Try.prog) wr (w.heap.size + 1) 27 27 27 35 i0 (oV O0) 9 80 Try.u27' hi0 hz0 hz1 hz2 rfl (by decide) ov ((turns l (knw vv)).take j).length (cs9 ((turns l (knw vv)).take j)) h.row (.slice (some ⟨k, 0, none⟩) 1 1) 1 (cs9 [o]) (one_olies hk).src (by unfold maxLen; omega) (by omega) h.big
  obtain ⟨a, c, rfl⟩ := Ve.own_shape ho
  rw [hlen] at hr1 ho
  obtain ⟨e1, e2, e3⟩ := ri_found hr h.ri hj h.kl hg
  have hlt2 := own_lt h.row
  have hpo : ∀ m, m < w.heap.size → ov.ownBlock ≠ some m := fun m hm e => by have := (hlt2 m e).1; omega
  have hG : w.grownBy W1 (some b) := h.grow.andThen hgr (fun m e => .inl (by have := (hlt2 m e).1; omega))
  have hKeep : ∀ m ob, wr.heap[m]? = some ob → ov.ownBlock ≠ some m → W1.heap[m]? = some ob := fun m ob hm hne => (hgr.block m (lt_of_block hm) (fun e => hne e.symm)).trans hm
  have hGap : GapI W1 p b (left l (knw vv) j) := ⟨hKeep p _ h.gap.box (hpo p hlt.2), h.gap.map.grown hgr (fun e => hpo b hlt.1 e.symm)⟩
  refine ⟨a, c, W1, hr1, hG, hGap, hgr.size, hKeep, fun W2 hg2 hgap2 => ⟨by rw [e2]; exact hgap2, hG.andThen hg2 (fun m e => .inr e), ?_, e3, by have := h.kl; omega, by have := h.hi; omega, Nat.le_trans h.big (Nat.le_trans hgr.size hg2.size)⟩⟩
  have hnb : (Value.slice a (j + 1) c).ownBlock ≠ some b := fun e => by have := (own_lt ho b e).1; omega
  rw [e1, List.length_append, hlen, cs9_append]
  exact (Far.of_grown (P := fun m => m = b) hg2 (fun m e => by injection e with e; exact e.symm)).row ho (fun m e q => hnb (by rw [e, q]))
set_option maxHeartbeats 12800000 in
theorem ready_any (w : World) (p b : Nat) (l : List O) (h : GapI w p b l) (hl : l.length < 100000) (hr : ∀ x ∈ l, 0 ≤ x.r ∧ x.r < 64) (vv : List Int) (hv : vv.length = 64) (hp : RightP vv) (most : Int) :
    Calls Try.prog 15 #[pv p, vw vv, .int .i64 most] w fun e w' => ∃ v, e = .returned v ∧ GOut w w' p b (rdyR l (knw vv) most).1 ∧ w'.ownsRow (w.heap.size + 1) 35 9 v (rdyR l (knw vv) most).2.length (cs9 (rdyR l (knw vv) most).2) := by
  have B1 := vstep w (.cells (va vv) 29)
  have N1 := heap_alloc_new w (.cells (va vv) 29)
  have s1 : (w.alloc (.cells (va vv) 29)).heap.size = w.heap.size + 1 := by simp
  obtain ⟨w0, hw0⟩ : ∃ z, w.alloc (.cells (va vv) 29) = z := ⟨_, rfl⟩
  rw [hw0] at N1 B1 s1
  have RS := Lib.hid h.map.rise
  have H0 := Lib.hid (h.step B1)
  have LT := Lib.hid (And.intro h.blt h.plt)
  have DF := Lib.hid (deleteFunc_any w0 b w.heap.size l H0.out.map hr vv hv N1)
  have LDV := Lib.hid (fun W (h : W.heap[w.heap.size]? = some (.cells (va vv) 29 (0, 0))) => Ve.load_va Ve.v24 W w.heap.size vv hv h)
  have IXV := Lib.hid (fun W (i : Nat) (hi : i < 64) (x : Int) (hx : vv[i]? = some x) => Ve.index_va W (va vv) (by rw [Ve.va_size, hv]) i hi x (Ve.va_get vv i x hx))
  have N0 := Lib.hid N1
  have S1 := Lib.hid s1
  have B0 := Lib.hid B1
  have HV := Lib.hid hv
  have HP := Lib.hid hp
  have HR := Lib.hid hr
  have c0 := H0.out.cell
  have HVW := Lib.hid (show vw vv = .agg (va vv) from rfl)
  have BX := Lib.hid (fun (W : World) (x : O) => bsO W x)
  rw [HVW.out]
  obtain ⟨VA, hVA⟩ : ∃ z, va vv = z := ⟨_, rfl⟩
  have HVA := Lib.hid hVA
  rw [hVA] at hw0 LDV IXV ⊢
  clear hVA N1 B1 s1 h hv hp hr
  go_enter Try.func15, Try.ntmps15
  go_wp2_with fail
  refine DF.out.mono ?_
  rintro e w1 ⟨rfl, t1, g1⟩
  have LN := Lib.hid ((g1.block w.heap.size (lt_of_block N0.out) (fun e => by injection e with e; have := LT.out; omega)).trans N0.out)
  have P1 := Lib.hid ((g1.block p (lt_of_block H0.out.box) (fun e => H0.out.ne (by injection e))).trans H0.out.box)
  have J0 := Lib.hid (show RJ w w1 p b l vv most 0 (knw vv 0) 0 (.slice none 0 0) from ⟨⟨P1.out, by rw [left_zero]; exact t1⟩, (below_grown B0.out (some b)).andThen g1 (fun j e => .inr e), World.ownsRow_nil _ _ _ _, ri_start l _ most (fun o ho => (HR.out o ho).1), Int.le_refl _, by have := knw_small HV.out HP.out (r := 0) (by omega); omega, by have := g1.size; have := S1.out; omega⟩)
  have LV := Lib.hid (LDV.out w1 (by rw [← HVA.out]; exact LN.out))
  clear t1 g1 hw0 c0 DF LDV LN P1 N0 H0 B0 S1
  go_wp2_with (first | (refine Ve.wpList_load_arr rfl (.tmp 4) 29 rfl _ _ rfl LV.out ?_; simp only [Act.put, List.setIfInBounds_toArray, List.set_cons_zero, List.set_cons_succ]))
  clear LV
  go_loopw [7, 22] (fun ov iv wr => ∃ (i j : Nat), iv = .int .i64 i ∧ i ≤ 64 ∧ ov = ov ∧ Hid (RJ w wr p b l vv most (i : Int) (knw vv (i : Int)) j ov)) (fun _ iv _ => 64 - (intOf iv).toNat)
  case atStart => exact ⟨0, 0, rfl, Nat.zero_le _, rfl, J0⟩
  case round =>
    obtain ⟨i, j, rfl, hi, _, HJ⟩ := hrel
    by_cases hlt : i < 64
    · obtain ⟨x, hx⟩ : ∃ x, vv[i]? = some x := ⟨vv[i]'(by rw [HV.out]; exact hlt), List.getElem?_eq_getElem _⟩
      have KX := Lib.hid (show knw vv (i : Int) = x by unfold knw; rw [Int.toNat_natCast, List.getD_eq_getElem?_getD, hx]; rfl)
      have IX := Lib.hid (fun W => IXV.out W i hlt x hx)
      have K0 := Lib.hid (show RJ w wr p b l vv most (i : Int) x j _ from by have := HJ.out; rwa [KX.out] at this)
      have hje := HJ.out.len
      obtain ⟨oa, oc', hoe⟩ := Ve.own_shape HJ.out.row
      rw [hje] at hoe
      subst hoe
      have hi0 : (0 : Int) ≤ (i : Int) := by omega
      have hi1 : (i : Int) < 64 := by omega
      have JB := Lib.hid (show j ≤ 100000 by have := HJ.out.ri.le; have := turns_len l (knw vv); omega)
      have IXO := fun W => IX.out W
      clear hx HJ hje
      go_wp2
      clear IX IXO
      go_loopw [7, 9] (fun ov lv wx => ∃ (j : Nat) (last : Int) (oa : Option Addr) (oc : Nat), lv = .int .i64 last ∧ ov = .slice oa j oc ∧ Hid (RJ w wx p b l vv most (i : Int) last j (.slice oa j oc))) (fun ov _ _ => 100000 - (match ov with | .slice _ n _ => n | _ => 0))
      case atStart => exact ⟨j, x, oa, oc', rfl, rfl, K0⟩
      case round =>
        obtain ⟨j, last, oa, oc, rfl, rfl, K⟩ := hrel
        have hjl := Nat.lt_of_le_of_lt (Nat.le_trans K.out.ri.le (turns_len l (knw vv))) hl
        by_cases hm : (j : Int) < most
        · have hk1 := K.out.kl
          have hk2 := K.out.hi
          have hk3 := (knw_small HV.out HP.out (r := (i : Int)) (by omega)).1
          obtain ⟨q1, hq1⟩ : ∃ q1, wrap64 (last + 1) = q1 := ⟨_, rfl⟩
          have Q1 := Lib.hid (show q1 = last + 1 by rw [← hq1]; unfold wrap64; omega)
          have I1 := Lib.hid (show I64 (i : Int) ∧ I64 q1 by rw [Q1.out]; unfold I64; omega)
          have B2 := vstep wr (.cells #[.int .i64 (i : Int), .int .i64 q1] 72)
          have N2 := heap_alloc_new wr (.cells #[.int .i64 (i : Int), .int .i64 q1] 72)
          obtain ⟨w2, hw2⟩ : ∃ z, wr.alloc (.cells #[.int .i64 (i : Int), .int .i64 q1] 72) = z := ⟨_, rfl⟩
          rw [hw2] at B2 N2
          have RL := Lib.hid (fun m (e : (Value.slice oa j oc).ownBlock = some m) => (own_lt K.out.row m e).2)
          obtain ⟨gn, hgn⟩ : ∃ z, wr.heap.size = z := ⟨_, rfl⟩
          rw [hgn] at N2 RL
          have NN := Lib.hid N2
          have K2 := Lib.hid (K.out.step B2)
          clear B2 N2 hk1 hk2 hk3 K
          go_upto_region 10 with fail
          clear hw2 hgn hq1
          have LKM := Lib.hid (fun W (hb : Below w2.heap.size w2 W) => ldM (K2.out.step hb).gap.cell)
          have LKN := Lib.hid (fun W (hb : Below w2.heap.size w2 W) => ldN ((hb.block _ (lt_of_block NN.out)).trans NN.out))
          have LKL := Lib.hid (fun W (hb : Below w2.heap.size w2 W) => (K2.out.step hb).gap.map.look2 I1.out.1 I1.out.2)
          obtain ⟨gx, hgx⟩ : ∃ z, (getG (left l (knw vv) j) (i : Int) q1).getD O0 = z := ⟨_, rfl⟩
          obtain ⟨gok, hgok⟩ : ∃ z, atG (left l (knw vv) j) (i : Int) q1 = z := ⟨_, rfl⟩
          rw [hgx, hgok] at LKL
          have GX := Lib.hid hgx
          have GK := Lib.hid hgok
          clear hgx hgok
          refine wp_region_held_drew (S := fun w' => Below w2.heap.size w2 w') (by kernel_rfl) (Below.refl _ _).drew (fun hHeld => ?_)
          have BV := Lib.hid (show Below w2.heap.size w2 w2.drew from (Below.refl _ _).drew)
          clear hHeld
          refine take_at (i := 0) 35 ?_ rfl rfl (by kernel_rfl) (by kernel_rfl) (by kernel_rfl) (fun _ _ _ h => h) (.inl ⟨rfl, ?_⟩) BV.out ?_
          rotate_left 1
          · intro w hSw; go_simp; try with_reducible rfl
          simp only [Act.put, List.setIfInBounds_toArray, List.set_cons_zero, List.set_cons_succ]
          refine take_at (i := 1) 36 ?_ rfl rfl (by kernel_rfl) (by kernel_rfl) (by kernel_rfl) (fun _ _ _ h => h) (.inl ⟨rfl, ?_⟩) BV.out ?_
          rotate_left 1
          · intro w hSw; go_simp; try with_reducible rfl
          simp only [Act.put, List.setIfInBounds_toArray, List.set_cons_zero, List.set_cons_succ]
          refine take_at (i := 2) 37 ?_ rfl rfl (by kernel_rfl) (by kernel_rfl) (by kernel_rfl) (fun _ _ _ h => h) (.inl ⟨rfl, ?_⟩) BV.out ?_
          rotate_left 1
          · intro w hSw; go_simp; try with_reducible rfl
          simp only [Act.put, List.setIfInBounds_toArray, List.set_cons_zero, List.set_cons_succ]
          refine take_at (i := 3) 38 (.map (some b)) rfl rfl (by kernel_rfl) (by kernel_rfl) (by kernel_rfl) (fun _ _ _ h => h) (yields_ld (.tmp 37) 58 (pvo p 0) _ LKM.out rfl rfl rfl) BV.out ?_
          simp only [Act.put, List.setIfInBounds_toArray, List.set_cons_zero, List.set_cons_succ]
          refine take_at (i := 4) 39 (sv (i : Int) q1) rfl rfl (by kernel_rfl) (by kernel_rfl) (by kernel_rfl) (fun _ _ _ h => h) (yields_ld (.tmp 10) 72 (pvo gn 0) _ LKN.out rfl rfl rfl) BV.out ?_
          simp only [Act.put, List.setIfInBounds_toArray, List.set_cons_zero, List.set_cons_succ]
          refine take_at (i := 5) 40 (.tuple #[oV gx, .bool gok]) rfl rfl (by kernel_rfl) (by kernel_rfl) (by kernel_rfl) (fun _ _ _ h => h) (yields_look (.tmp 38) (.tmp 39) (.map (some b)) (sv (i : Int) q1) _ LKL.out rfl rfl rfl rfl) BV.out ?_
          simp only [Act.put, List.setIfInBounds_toArray, List.set_cons_zero, List.set_cons_succ]
          refine take_at (i := 6) 34 ?_ rfl rfl (by kernel_rfl) (by kernel_rfl) (by kernel_rfl) (fun _ _ _ h => h) (.inl ⟨rfl, ?_⟩) BV.out ?_
          rotate_left 1
          · intro w hSw; go_simp; try with_reducible rfl
          simp only [Act.put, List.setIfInBounds_toArray, List.set_cons_zero, List.set_cons_succ]
          refine take_at (i := 7) 41 ?_ rfl rfl (by kernel_rfl) (by kernel_rfl) (by kernel_rfl) (fun _ _ _ h => h) (.inl ⟨rfl, ?_⟩) BV.out ?_
          rotate_left 1
          · intro w hSw; go_simp; try with_reducible rfl
          simp only [Act.put, List.setIfInBounds_toArray, List.set_cons_zero, List.set_cons_succ]
          refine take_at (i := 8) 42 ?_ rfl rfl (by kernel_rfl) (by kernel_rfl) (by kernel_rfl) (fun _ _ _ h => h) (.inl ⟨rfl, ?_⟩) BV.out ?_
          rotate_left 1
          · intro w hSw; go_simp; try with_reducible rfl
          simp only [Act.put, List.setIfInBounds_toArray, List.set_cons_zero, List.set_cons_succ]
          refine wpAnyH_ready (rs := [9]) (by kernel_rfl) (by simp) (br_alloc (i := 9) 11 35 (pvo w2.drew.heap.size 0) (w2.drew.alloc (.cells (oCells O0) 35)) rfl rfl rfl rfl (alloc40 w2.drew) (BV.out.trans ((vstep w2.drew _).mono BV.out.size)) (fun _ => ?_) AllReadyH.nil)
          have NB := heap_alloc_new w2.drew (.cells (oCells O0) 35)
          have hb := vstep w2.drew (.cells (oCells O0) 35)
          obtain ⟨v1, hv1⟩ : ∃ zz, w2.drew.alloc (.cells (oCells O0) 35) = zz := ⟨_, rfl⟩
          have KB := Lib.hid BV.out.size
          rw [hv1] at NB hb ⊢
          obtain ⟨kx, hkx⟩ : ∃ zz, w2.drew.heap.size = zz := ⟨_, rfl⟩
          rw [hkx] at NB KB ⊢
          have SB := Lib.hid (store_o v1 kx O0 gx NB)
          have RB := Lib.hid (setRow_heap _ _ _ (oCells gx) _ _ NB)
          clear NB hv1 hkx
          have BV := Lib.hid (BV.out.trans (hb.mono BV.out.size))
          clear hb
          simp only [Act.put, List.setIfInBounds_toArray, List.set_cons_zero, List.set_cons_succ]
          refine wpAnyH_ready (rs := [10]) (by kernel_rfl) (by simp) (br_store (i := 10) 35 (.tmp 11) (.tmp 41) (pvo kx 0) (oV gx) (v1.setRow kx (oCells gx)) rfl rfl rfl rfl rfl rfl SB.out (Ve.below_setRow BV.out KB.out (oCells gx)) (fun _ => ?_) AllReadyH.nil)
          have BV := Lib.hid (Ve.below_setRow BV.out KB.out (oCells gx))
          obtain ⟨wq, hwq⟩ : ∃ zz, v1.setRow kx (oCells gx) = zz := ⟨_, rfl⟩
          rw [hwq] at BV RB ⊢
          clear hwq SB
          simp only [Act.put, List.setIfInBounds_toArray, List.set_cons_zero, List.set_cons_succ]
          refine take_at (i := 11) 12 ?_ rfl rfl (by kernel_rfl) (by kernel_rfl) (by kernel_rfl) (fun _ _ _ h => h) (.inl ⟨rfl, ?_⟩) BV.out ?_
          rotate_left 1
          · intro w hSw; go_simp; try with_reducible rfl
          simp only [Act.put, List.setIfInBounds_toArray, List.set_cons_zero, List.set_cons_succ]
          refine wpAnyH_done (by kernel_rfl) ?_ _
          have K3 := Lib.hid (K2.out.step BV.out)
          have N3 := Lib.hid ((BV.out.block _ (lt_of_block NN.out)).trans NN.out)
          clear LKM LKN LKL BV KB K2 NN
          cases hg : getG (left l (knw vv) j) (i : Int) q1 with
          | none =>
            have E := Lib.hid (show gok = false by rw [← GK.out, ← at_get, hg]; rfl)
            rw [E.out]
            have K4 := Lib.hid (show RJ w wq p b l vv most ((i + 1 : Nat) : Int) (knw vv ((i + 1 : Nat) : Int)) j (.slice oa j oc) from by
              rw [Q1.out] at hg
              have h1 := ri_none K3.out.ri hm K3.out.kl hg
              exact ⟨K3.out.gap, K3.out.grow, K3.out.row, h1, Int.le_refl _, by
                by_cases hi63 : i + 1 < 64
                · have := knw_small HV.out HP.out (r := ((i + 1 : Nat) : Int)) (by omega); omega
                · have : knw vv ((i + 1 : Nat) : Int) = 0 := by
                    unfold knw
                    rw [Int.toNat_natCast, List.getD_eq_getElem?_getD, List.getElem?_eq_none (by rw [HV.out]; omega)]
                    rfl
                  omega, K3.out.big⟩)
            clear hg K3
            go_wp2
            go_roundw
            case rel => exact ⟨i + 1, j, by go_num, by omega, by first | trivial | rfl, K4⟩
            case measure => simp [intOf]; omega
          | some o =>
            have E := Lib.hid (show gok = true by rw [← GK.out, ← at_get, hg]; rfl)
            rw [E.out]
            have EX := Lib.hid (show gx = o by rw [← GX.out, hg]; rfl)
            have HG := Lib.hid (show getG (left l (knw vv) j) (i : Int) (last + 1) = some o by rw [← Q1.out]; exact hg)
            have LB := Lib.hid (show (Instr.loadAt 35 (pvo kx 0)).run Try.prog wq = .ok (oV o) wq from by have := ldBox RB.out; rwa [EX.out] at this)
            have B3 := vstep wq (.cells (oCells o) 35)
            have O3 := heap_alloc_new wq (.cells (oCells o) 35)
            have BSX := BX.out wq o
            have N4 := (B3.block _ (lt_of_block N3.out)).trans N3.out
            have K4 := K3.out.step B3
            obtain ⟨w3, hw3⟩ : ∃ z, wq.alloc (.cells (oCells o) 35) = z := ⟨_, rfl⟩
            rw [hw3] at O3 BSX N4 K4
            obtain ⟨kb, hkb⟩ : ∃ z, wq.heap.size = z := ⟨_, rfl⟩
            rw [hkb] at O3 BSX
            obtain ⟨a, c, w4, r4, g4, gp4, s4, kp4, tk⟩ := K4.take LT.out RS.out hl hm HG.out kb O3
            have N5 := Lib.hid (kp4 gn _ N4 (fun e => by have := RL.out gn e; omega))
            have BSH := Lib.hid BSX
            have R4 := Lib.hid r4
            have GP4 := Lib.hid gp4
            have TK := Lib.hid tk
            have PB := Lib.hid gp4.ne
            have NB := Lib.hid (show gn ≠ b from fun e => by
              obtain ⟨es, h1, _⟩ := gp4.map
              obtain ⟨es', c, hb, _⟩ := h1
              rw [← e, N5.out] at hb
              cases hb)
            obtain ⟨w5, r5, t5, g5⟩ := (gp4.map.step (Below.refl w4.heap.size w4).drew).drop I1.out.1 I1.out.2 0
            have G5 := Lib.hid (show w4.grownBy w5 (some b) from (below_grown (Below.refl w4.heap.size w4).drew (some b)).andThen g5 (fun j e => .inr e))
            have BK := Lib.hid (fun W (hg : w4.grownBy W (some b)) (k : Nat) (o : Obj) (h : w4.heap[k]? = some o) (hk : k ≠ b) => (hg.block k (lt_of_block h) (fun e => hk (by injection e))).trans h)
            have LKM := Lib.hid (fun W (hg : w4.grownBy W (some b)) => ldM (cell_of_one (BK.out W hg _ _ GP4.out.box PB.out)))
            have LKN := Lib.hid (fun W (hg : w4.grownBy W (some b)) => ldN (BK.out W hg _ _ N5.out NB.out))
            have R5 := Lib.hid r5
            have K6 := Lib.hid (TK.out w5 G5.out ⟨BK.out w5 G5.out _ _ GP4.out.box PB.out, by rw [← Q1.out]; exact t5⟩)
            clear hg B3 O3 BSX N4 K4 hw3 hkb r4 g4 gp4 s4 kp4 tk r5 t5 g5 TK K3 N3 RB
            go_upto_region 13 with (first | (refine wpList_ld rfl (.tmp 11) 35 rfl (pvo kx 0) (oV o) rfl LB.out ?_; simp only [Act.put, List.setIfInBounds_toArray, List.set_cons_zero, List.set_cons_succ]) | (refine wpList_bs rfl 27 (.tmp 46) rfl (oV o) rfl (.slice (some ⟨kb, 0, none⟩) 1 1) _ BSH.out ?_; simp only [Act.put, List.setIfInBounds_toArray, List.set_cons_zero, List.set_cons_succ]) | (at_builtin; go_loud (refine Lib.wpList_append_run _ rfl (.tmp 45) (.tmp 47) 27 27 rfl (.slice oa j oc) (.slice (some ⟨kb, 0, none⟩) 1 1) rfl rfl _ _ R4.out ?_); simp only [Act.put, List.setIfInBounds_toArray, List.set_cons_zero, List.set_cons_succ]))
            refine wp_region_held_drew (S := fun W => w4.grownBy W (some b)) (by kernel_rfl) (below_grown (Below.refl w4.heap.size w4).drew (some b)) (fun hHeld => ?_)
            have BV := Lib.hid (below_grown (Below.refl w4.heap.size w4).drew (some b))
            clear hHeld
            refine take_at (i := 0) 49 ?_ rfl rfl (by kernel_rfl) (by kernel_rfl) (by kernel_rfl) (fun _ _ _ h => h) (.inl ⟨rfl, ?_⟩) BV.out ?_
            rotate_left 1
            · intro w hSw; go_simp; try with_reducible rfl
            simp only [Act.put, List.setIfInBounds_toArray, List.set_cons_zero, List.set_cons_succ]
            refine take_at (i := 1) 50 ?_ rfl rfl (by kernel_rfl) (by kernel_rfl) (by kernel_rfl) (fun _ _ _ h => h) (.inl ⟨rfl, ?_⟩) BV.out ?_
            rotate_left 1
            · intro w hSw; go_simp; try with_reducible rfl
            simp only [Act.put, List.setIfInBounds_toArray, List.set_cons_zero, List.set_cons_succ]
            refine take_at (i := 2) 51 ?_ rfl rfl (by kernel_rfl) (by kernel_rfl) (by kernel_rfl) (fun _ _ _ h => h) (.inl ⟨rfl, ?_⟩) BV.out ?_
            rotate_left 1
            · intro w hSw; go_simp; try with_reducible rfl
            simp only [Act.put, List.setIfInBounds_toArray, List.set_cons_zero, List.set_cons_succ]
            refine take_at (i := 3) 52 (.map (some b)) rfl rfl (by kernel_rfl) (by kernel_rfl) (by kernel_rfl) (fun _ _ _ h => h) (yields_ld (.tmp 51) 58 (pvo p 0) _ LKM.out rfl rfl rfl) BV.out ?_
            simp only [Act.put, List.setIfInBounds_toArray, List.set_cons_zero, List.set_cons_succ]
            refine take_at (i := 4) 53 (sv (i : Int) q1) rfl rfl (by kernel_rfl) (by kernel_rfl) (by kernel_rfl) (fun _ _ _ h => h) (yields_ld (.tmp 10) 72 (pvo gn 0) _ LKN.out rfl rfl rfl) BV.out ?_
            simp only [Act.put, List.setIfInBounds_toArray, List.set_cons_zero, List.set_cons_succ]
            refine wpAnyH_ready (rs := [5]) (by kernel_rfl) (by simp) (br_mdel (i := 5) (.tmp 52) (.tmp 53) (.map (some b)) (sv (i : Int) q1) w5 rfl rfl rfl rfl rfl rfl R5.out G5.out (fun _ => ?_) AllReadyH.nil)
            have BV := Lib.hid G5.out
            simp only [Act.put, List.setIfInBounds_toArray, List.set_cons_zero, List.set_cons_succ]
            refine wpAnyH_done (by kernel_rfl) ?_ _
            have hq1 : wrap64 (last + 1) = q1 := by have := Q1.out; have := K6.out.hi; have := K6.out.kl; have := (knw_small HV.out HP.out (r := (i : Int)) (by omega)).1; unfold wrap64; omega
            clear LKM LKN R5 G5 GP4
            go_wp2
            go_roundw
            case rel => exact ⟨j + 1, q1, a, c, by rw [hq1], rfl, by rw [Q1.out]; exact K6⟩
            case measure => simp; omega
        · have K4 := Lib.hid (show RJ w wr p b l vv most ((i + 1 : Nat) : Int) (knw vv ((i + 1 : Nat) : Int)) j (.slice oa j oc) from by
            have h1 := ri_full K.out.ri hm K.out.kl
            exact ⟨K.out.gap, K.out.grow, K.out.row, h1, Int.le_refl _, by
              by_cases hi63 : i + 1 < 64
              · have := knw_small HV.out HP.out (r := ((i + 1 : Nat) : Int)) (by omega); omega
              · have : knw vv ((i + 1 : Nat) : Int) = 0 := by
                  unfold knw
                  rw [Int.toNat_natCast, List.getD_eq_getElem?_getD, List.getElem?_eq_none (by rw [HV.out]; omega)]
                  rfl
                omega, K.out.big⟩)
          clear K
          go_wp2
          go_roundw
          case rel => exact ⟨i + 1, j, by go_num, by omega, by first | trivial | rfl, K4⟩
          case measure => simp [intOf]; omega
    · have h64 : i = 64 := by omega
      subst h64
      have FIN := Lib.hid (show GOut w wr p b (rdyR l (knw vv) most).1 ∧ wr.ownsRow (w.heap.size + 1) 35 9 _ (rdyR l (knw vv) most).2.length (cs9 (rdyR l (knw vv) most).2) from by
        rw [ri_rdy RS.out HJ.out.ri (fun o ho => (HR.out o ho).2)]
        exact ⟨⟨HJ.out.gap, HJ.out.grow⟩, HJ.out.row⟩)
      go_wp2
      go_returns
      exact ⟨_, rfl, FIN.out.1, FIN.out.2⟩
end Go.Proofs.Ytgnnpfainoppeaa
