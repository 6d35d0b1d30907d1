/- Gap's example. Made by gengt28.py, with tools/drawn.py. -/
import Derived.Test.YtgnnpfainoppeaaGS
set_option linter.unusedVariables false
set_option linter.unusedSimpArgs false
set_option maxRecDepth 100000
namespace Go.Proofs.Ytgnnpfainoppeaa
open Go.RowKit Go.WideMaps Go.Maps
open Ve (zs zs_len vw va RightP cs3 cs3_append)

theorem TM.obj {w : World} {b : Nat} {l : List O} (h : TM w b l) : ∃ o : Obj, w.heap[b]? = some o ∧ o.isCells = false := by
  obtain ⟨es, h1, _⟩ := h
  obtain ⟨es', c', hb, _⟩ := h1
  exact ⟨_, hb, rfl⟩
theorem LW.row {w W W' : World} {p b k : Nat} {l : List O} {vv : List Int} (h : LW w W p b k l vv) {B e n size : Nat} {v : Value} {xs : List Value} (hr : W.ownsRow B e size v n xs) (hg : W.grownBy W' (some b)) : W'.ownsRow B e size v n xs :=
  own_keptX hr hg (fun r e => by injection e with e; subst e; exact h.gap.map.obj)
/-- The example's world: what is lacked lies in a row. -/
structure EW (w W : World) (p b k : Nat) (l : List O) (v : Value) : Prop where
  lw : LW w W p b k l exV
  row : ∃ B, W.ownsRow B 66 3 v 1 (cs3 [(0, 2, 2)])
theorem EW.step {w W W' : World} {p b k : Nat} {l : List O} {v : Value} (h : EW w W p b k l v) (hb : Below W.heap.size W W') : EW w W' p b k l v :=
  ⟨h.lw.step hb, by obtain ⟨B, h⟩ := h.row; exact ⟨B, own_keep h hb⟩⟩
theorem EW.out {w W W' : World} {p b k : Nat} {l l' : List O} {v : Value} (h : EW w W p b k l v) (ho : GOut W W' p b l') : EW w W' p b k l' v :=
  ⟨h.lw.out ho, by obtain ⟨B, h'⟩ := h.row; exact ⟨B, h.lw.row h' ho.grow⟩⟩
set_option maxHeartbeats 3200000 in
theorem awake_any (w : World) : Calls Try.prog 7 #[] w fun e w' => e = .returned (.bool true) ∧ Below w.heap.size w w' := by
  have BZ := Lib.hid (fun W => build_va W)
  have NW := Lib.hid (new_any w)
  have WZ := Lib.hid (fun W => (show Calls Try.prog 23 #[.agg (va zs), .int .i64 0, .int .i64 1] W fun e w' => e = .returned (.agg (va exV)) ∧ Below W.heap.size W w' from Ve.with_any W zs zs_len 0 1))
  have AL := Lib.hid (fun W => Ve.alloc_va Ve.z24 W)
  have SV := Lib.hid (fun (W : World) => Ve.store_va Ve.v24 (W.alloc (.cells (va zs) 29)) W.heap.size (va zs) (by rw [Ve.va_size, zs_len]) exV exV_len (heap_alloc_new W _))
  have LW0 := Lib.hid (fun (W1 W2 : World) p b (h1 : GapI W1 p b []) (h2 : w.heap.size ≤ b) (h3 : Below w.heap.size w W1) (h4 : Below W1.heap.size W1 W2) =>
    (show LW w ((W2.alloc (.cells (va zs) 29)).setRow W2.heap.size (va exV)) p b W2.heap.size [] exV from by
      have hb := vstep W2 (.cells (va zs) 29)
      have hc := Ve.below_setRow hb (Nat.le_refl _) (va exV)
      exact ⟨(h3.trans (h4.mono h3.size)).trans (hc.mono (h3.trans (h4.mono h3.size)).size), (h1.step h4).step hc, setRow_heap _ _ _ _ _ _ (heap_alloc_new W2 _), h2⟩))
  have AD1 := Lib.hid (fun (W : World) p b k (h : LW w W p b k [] exV) => (show Calls Try.prog 12 #[pv p, .agg (va exV), oV (oneO 0 3)] W fun e w' => e = .returned (.int .i64 0) ∧ LW w w' p b k ex1 exV ∧ W.grownBy w' (some b) from by
    refine (add_any W p b [] h.gap (by decide) exV exV_len exV_right (oneO 0 3) (by decide)).mono ?_
    rintro e w' ⟨rfl, ho⟩
    rw [exL1] at ho
    exact ⟨by rw [exI1], h.out ho, ho.grow⟩))
  have AD2 := Lib.hid (fun (W : World) p b k v (h : EW w W p b k ex1 v) => (show Calls Try.prog 12 #[pv p, .agg (va exV), oV (oneO 0 2)] W fun e w' => e = .returned (.int .i64 0) ∧ EW w w' p b k ex2 v ∧ W.grownBy w' (some b) from by
    refine (add_any W p b ex1 h.lw.gap (by decide) exV exV_len exV_right (oneO 0 2) (by decide)).mono ?_
    rintro e w' ⟨rfl, ho⟩
    rw [exL2] at ho
    exact ⟨by rw [exI2], h.out ho, ho.grow⟩))
  have RD1 := Lib.hid (fun (W : World) p b k (h : LW w W p b k ex1 exV) => (show Calls Try.prog 15 #[pv p, .agg (va exV), .int .i64 9] W fun e w' => ∃ a c, e = .returned (.slice a 0 c) ∧ LW w w' p b k ex1 exV from by
    refine (ready_any W p b ex1 h.gap (by decide) (fun x hx => (ok_ex1 x hx).1) exV exV_len exV_right 9).mono ?_
    rintro e w' ⟨v, rfl, ho, hr⟩
    rw [ex_r1] at ho hr
    obtain ⟨a, c, rfl⟩ := Ve.own_shape hr
    exact ⟨a, c, rfl, h.out ho⟩))
  have LK1 := Lib.hid (fun (W : World) p b k (h : LW w W p b k ex1 exV) => (show Calls Try.prog 19 #[pv p, .agg (va exV)] W fun e w' => ∃ a c, e = .returned (.slice a 1 c) ∧ EW w w' p b k ex1 (.slice a 1 c) from by
    refine (lacks_any W p b ex1 h.gap (by decide) ok_ex1 exV exV_len exV_right).mono ?_
    rintro e w' ⟨v, rfl, hr, hb⟩
    rw [ex_l] at hr
    obtain ⟨a, c, rfl⟩ := Ve.own_shape hr
    exact ⟨a, c, rfl, h.step hb, _, hr⟩))
  have RD2 := Lib.hid (fun (W : World) p b k v (h : EW w W p b k ex2 v) => (show Calls Try.prog 15 #[pv p, .agg (va exV), .int .i64 9] W fun e w' => ∃ a c, e = .returned (.slice a 2 c) ∧ EW w w' p b k [] v ∧ OLies w' (.slice a 2 c) ex2 from by
    refine (ready_any W p b ex2 h.lw.gap (by decide) (fun x hx => (ok_ex2 x hx).1) exV exV_len exV_right 9).mono ?_
    rintro e w' ⟨v', rfl, ho, hr⟩
    rw [ex_r2] at ho hr
    have := own_olies hr
    obtain ⟨a, c, rfl⟩ := Ve.own_shape hr
    exact ⟨a, c, rfl, h.out ho, this⟩))
  have LDG := Lib.hid (fun (W : World) p b k l (h : LW w W p b k l exV) => fun W' (hg : W.grownBy W' (some b)) => Ve.load_va Ve.v24 W' k exV exV_len (h.grown hg))
  have LDL := Lib.hid (fun (W : World) p b k l (h : LW w W p b k l exV) => Ve.load_va Ve.v24 W k exV exV_len h.vec)
  have HS := Lib.hid (sameO_self ex2)
  obtain ⟨VZ, hVZ⟩ : ∃ z, va zs = z := ⟨_, rfl⟩
  obtain ⟨VE, hVE⟩ : ∃ z, va exV = z := ⟨_, rfl⟩
  rw [hVZ] at BZ WZ AL SV LW0
  rw [hVE] at WZ SV LW0 AD1 AD2 RD1 LK1 RD2 LDG LDL
  clear hVZ hVE
  go_enter Try.func7, Try.ntmps7
  go_wp2_with fail
  refine NW.out.mono ?_
  rintro e w1 ⟨p, b, rfl, h1, h2, h3, hb1⟩
  have L1 := Lib.hid (fun W2 (hb : Below w1.heap.size w1 W2) => LW0.out w1 W2 p b h1 h3 hb1 hb)
  clear h1 h2 h3 hb1 NW LW0
  go_wp2_with (first | refine wpList_build_arr rfl 29 rfl _ (BZ.out _) ?_)
  refine (WZ.out _).mono ?_
  rintro e w2 ⟨rfl, hb⟩
  have K0 := Lib.hid (L1.out w2 hb)
  have A2 := Lib.hid (AL.out w2)
  have S2 := Lib.hid (SV.out w2)
  obtain ⟨w3, hw3⟩ : ∃ z, (w2.alloc (.cells VZ 29)).setRow w2.heap.size VE = z := ⟨_, rfl⟩
  obtain ⟨wa, hwa⟩ : ∃ z, w2.alloc (.cells VZ 29) = z := ⟨_, rfl⟩
  obtain ⟨k, hk⟩ : ∃ z, w2.heap.size = z := ⟨_, rfl⟩
  rw [hw3, hk] at K0
  rw [hwa, hk] at A2
  rw [hwa, hk] at S2
  rw [hwa, hk] at hw3
  rw [hw3] at S2
  clear hb hw3 hwa hk L1 BZ WZ AL SV
  go_upto_region 3 with (first | (refine Ve.wpList_alloc_arr rfl 29 rfl _ _ A2.out ?_; simp only [Act.put, List.setIfInBounds_toArray, List.set_cons_zero, List.set_cons_succ]) | (refine Ve.wpList_store_arr rfl (.tmp 2) (.tmp 10) 29 rfl _ _ rfl rfl _ S2.out ?_; simp only [Act.put, List.setIfInBounds_toArray, List.set_cons_zero, List.set_cons_succ]))
  have LDV := Lib.hid (LDG.out w3 p b k [] K0.out)
  have K := Lib.hid (K0.out.step (Below.refl w3.heap.size w3).drew)
  clear K0 A2 S2
  refine wp_region_held_drew (S := fun W => w3.grownBy W (some b)) (by kernel_rfl) (below_grown (Below.refl w3.heap.size w3).drew (some b)) (fun hHeld => ?_)
  have BV := Lib.hid (below_grown (Below.refl w3.heap.size w3).drew (some b))
  clear hHeld
  refine take_at (i := 0) 11 ?_ rfl rfl (by kernel_rfl) (by kernel_rfl) (by kernel_rfl) (fun _ _ _ h => h) (.inl ⟨rfl, ?_⟩) BV.out ?_
  rotate_left 1
  · intro w hSw; go_simp; try with_reducible rfl
  simp only [Act.put, List.setIfInBounds_toArray, List.set_cons_zero, List.set_cons_succ]
  refine take_at (i := 1) 12 (.agg VE) rfl rfl (by kernel_rfl) (by kernel_rfl) (by kernel_rfl) (fun _ _ _ h => h) (yields_ld (.tmp 2) 29 (pvo k 0) _ LDV.out rfl rfl rfl) BV.out ?_
  simp only [Act.put, List.setIfInBounds_toArray, List.set_cons_zero, List.set_cons_succ]
  refine wpAnyH_ready (rs := [2]) (by kernel_rfl) (by simp) (br_call (i := 2) 13 21 #[.int .i64 0, .int .i64 3] rfl rfl rfl (by go_simp) ((one_any _ 0 3).mono ?_) AllReadyH.nil)
  rintro e v1 ⟨rfl, hb⟩
  have BV := Lib.hid (BV.out.andThen (below_grown hb none) (fun j e => by cases e))
  have K := Lib.hid (K.out.step hb)
  clear hb
  refine ⟨_, rfl, BV.out, fun _ => ?_⟩
  simp only [Act.put, List.setIfInBounds_toArray, List.set_cons_zero, List.set_cons_succ]
  refine wpAnyH_ready (rs := [3]) (by kernel_rfl) (by simp) (br_call (i := 3) 14 12 #[pv p, .agg VE, oV (oneO 0 3)] rfl rfl rfl (by go_simp) ((AD1.out _ p b k K.out).mono ?_) AllReadyH.nil)
  rintro e v2 ⟨rfl, ho⟩
  have K := Lib.hid ho.1
  have BV := Lib.hid (BV.out.andThen ho.2 (fun j e => .inr e))
  clear ho
  refine ⟨_, rfl, BV.out, fun _ => ?_⟩
  simp only [Act.put, List.setIfInBounds_toArray, List.set_cons_zero, List.set_cons_succ]
  refine take_at (i := 4) 3 ?_ rfl rfl (by kernel_rfl) (by kernel_rfl) (by kernel_rfl) (fun _ _ _ h => h) (.inl ⟨rfl, ?_⟩) BV.out ?_
  rotate_left 1
  · intro w hSw; go_simp; try with_reducible rfl
  simp only [Act.put, List.setIfInBounds_toArray, List.set_cons_zero, List.set_cons_succ]
  refine wpAnyH_done (by kernel_rfl) ?_ _
  have LD3 := Lib.hid (LDL.out _ p b k _ K.out)
  clear LDV BV
  go_wp2_with (first | (refine Ve.wpList_load_arr rfl (.tmp 2) 29 rfl _ _ rfl LD3.out ?_; simp only [Act.put, List.setIfInBounds_toArray, List.set_cons_zero, List.set_cons_succ]))
  refine (RD1.out _ p b k K.out).mono ?_
  rintro e w4 ⟨a4, c4, rfl, h4⟩
  have K4 := Lib.hid h4
  have LD4 := Lib.hid (LDL.out _ p b k _ h4)
  clear h4 K LD3
  go_wp2_with (first | (refine Ve.wpList_load_arr rfl (.tmp 2) 29 rfl _ _ rfl LD4.out ?_; simp only [Act.put, List.setIfInBounds_toArray, List.set_cons_zero, List.set_cons_succ]))
  refine (LK1.out _ p b k K4.out).mono ?_
  rintro e w5 ⟨a5, c5, rfl, h5⟩
  have K5 := Lib.hid h5
  clear h5 K4 LD4
  go_upto_region 6 with fail
  have LDV := Lib.hid (LDG.out w5 p b k _ K5.out.lw)
  have K := Lib.hid (K5.out.step (Below.refl w5.heap.size w5).drew)
  clear K5
  refine wp_region_held_drew (S := fun W => w5.grownBy W (some b)) (by kernel_rfl) (below_grown (Below.refl w5.heap.size w5).drew (some b)) (fun hHeld => ?_)
  have BV := Lib.hid (below_grown (Below.refl w5.heap.size w5).drew (some b))
  clear hHeld
  refine take_at (i := 0) 21 ?_ rfl rfl (by kernel_rfl) (by kernel_rfl) (by kernel_rfl) (fun _ _ _ h => h) (.inl ⟨rfl, ?_⟩) BV.out ?_
  rotate_left 1
  · intro w hSw; go_simp; try with_reducible rfl
  simp only [Act.put, List.setIfInBounds_toArray, List.set_cons_zero, List.set_cons_succ]
  refine take_at (i := 1) 22 (.agg VE) rfl rfl (by kernel_rfl) (by kernel_rfl) (by kernel_rfl) (fun _ _ _ h => h) (yields_ld (.tmp 2) 29 (pvo k 0) _ LDV.out rfl rfl rfl) BV.out ?_
  simp only [Act.put, List.setIfInBounds_toArray, List.set_cons_zero, List.set_cons_succ]
  refine wpAnyH_ready (rs := [2]) (by kernel_rfl) (by simp) (br_call (i := 2) 23 21 #[.int .i64 0, .int .i64 2] rfl rfl rfl (by go_simp) ((one_any _ 0 2).mono ?_) AllReadyH.nil)
  rintro e v1 ⟨rfl, hb⟩
  have BV := Lib.hid (BV.out.andThen (below_grown hb none) (fun j e => by cases e))
  have K := Lib.hid (K.out.step hb)
  clear hb
  refine ⟨_, rfl, BV.out, fun _ => ?_⟩
  simp only [Act.put, List.setIfInBounds_toArray, List.set_cons_zero, List.set_cons_succ]
  refine wpAnyH_ready (rs := [3]) (by kernel_rfl) (by simp) (br_call (i := 3) 24 12 #[pv p, .agg VE, oV (oneO 0 2)] rfl rfl rfl (by go_simp) ((AD2.out _ p b k _ K.out).mono ?_) AllReadyH.nil)
  rintro e v2 ⟨rfl, ho⟩
  have K := Lib.hid ho.1
  have BV := Lib.hid (BV.out.andThen ho.2 (fun j e => .inr e))
  clear ho
  refine ⟨_, rfl, BV.out, fun _ => ?_⟩
  simp only [Act.put, List.setIfInBounds_toArray, List.set_cons_zero, List.set_cons_succ]
  refine take_at (i := 4) 6 ?_ rfl rfl (by kernel_rfl) (by kernel_rfl) (by kernel_rfl) (fun _ _ _ h => h) (.inl ⟨rfl, ?_⟩) BV.out ?_
  rotate_left 1
  · intro w hSw; go_simp; try with_reducible rfl
  simp only [Act.put, List.setIfInBounds_toArray, List.set_cons_zero, List.set_cons_succ]
  refine wpAnyH_done (by kernel_rfl) ?_ _
  have LD6 := Lib.hid (LDL.out _ p b k _ K.out.lw)
  clear LDV BV
  go_wp2_with (first | (refine Ve.wpList_load_arr rfl (.tmp 2) 29 rfl _ _ rfl LD6.out ?_; simp only [Act.put, List.setIfInBounds_toArray, List.set_cons_zero, List.set_cons_succ]))
  refine (RD2.out _ p b k _ K.out).mono ?_
  rintro e w7 ⟨a7, c7, rfl, h7, h8⟩
  obtain ⟨B, hr⟩ := h7.row
  have RL : RLies w7 (.slice a5 1 c5) [(0, 2, 2)] := own_rlies hr
  obtain ⟨g, o, rfl, d0, d1, d2⟩ := RL.at (i := 0) rfl
  rw [show o + 0 * 3 = o by omega] at d0 d1 d2
  have K7 := Lib.hid h7.lw
  have Y7 := Lib.hid h8
  clear h7 h8 hr RL K LD6
  have hq0 := beqb_ (0 : Int) 0 rfl
  have hq2 := beqb_ (2 : Int) 2 rfl
  clear HS AD1 AD2 RD1 LK1 RD2 LDG LDL
  have LN := Lib.hid (fun (W : World) (h : LW w W p b k [] exV) => len_any W p b [] h.gap)
  have ON := Lib.hid (fun (W : World) (n : Int) => (show Calls Try.prog 21 #[.int .i64 0, .int .i64 n] W fun e w' => e = .returned (.agg #[.int .i64 n, .int .i64 0, .int .i64 n, .int .i64 n, .int .i64 0, .int .i64 0, .int .i64 0, .string ⟨#[97]⟩, .bool false]) ∧ Below W.heap.size W w' from one_any W 0 n))
  have BS := Lib.hid (fun W => bs27 W (oneO 0 2) (oneO 0 3))
  have SM := Lib.hid (fun W a c (h : OLies W (.slice a 2 c) ex2) => (show Calls Try.prog 14 #[.slice a 2 c, .slice (some ⟨W.heap.size, 0, none⟩) 2 2] (W.alloc (.cells (arr2 (oneO 0 2) (oneO 0 3)) 35)) fun e w' => e = .returned (.bool true) ∧ Below W.heap.size W w' from by
    refine (rsameO_any _ _ _ ex2 ex2 (h.step (vstep W _)) (two_op W (oneO 0 2) (oneO 0 3))).mono ?_
    rintro e w' ⟨rfl, hb⟩
    rw [sameO_self]
    exact ⟨rfl, (vstep W _).trans (hb.mono (vstep W _).size)⟩))
  go_wp2_with fail
  refine (ON.out _ _).mono ?_
  rintro e w8 ⟨rfl, hb⟩
  have K8 := Lib.hid (K7.out.step hb)
  have Y8 := Lib.hid (Y7.out.step hb)
  clear hb K7 Y7 d0 d1 d2
  go_wp2_with fail
  refine (ON.out _ _).mono ?_
  rintro e w9 ⟨rfl, hb⟩
  have K9 := Lib.hid (K8.out.step hb)
  have Y9 := Lib.hid (Y8.out.step hb)
  clear hb K8 Y8
  go_wp2_with fail
  refine (SM.out w9 _ _ Y9.out).mono ?_
  rintro e wx ⟨rfl, hb⟩
  have KX := Lib.hid (K9.out.step hb)
  clear hb K9 Y9
  go_wp2_with fail
  refine (LN.out _ KX.out).mono ?_
  rintro e wy ⟨rfl, rfl⟩
  go_wp2
  go_returns
  exact ⟨rfl, KX.out.bel⟩
end Go.Proofs.Ytgnnpfainoppeaa
