/- cmp.Or of two; All's comparing; slices.SortFunc of ops with it. Made by gengg28.py. -/
import Derived.Test.YtgnnpfainoppeaaGF
import Derived.Test.YtgnnpfainoppeaaSrtL
import Derived.Test.YtgnnpfainoppeaaSrtK
import Derived.Shelf.SlSortCmp.NoneTotal
set_option linter.unusedVariables false
set_option linter.unusedSimpArgs false
set_option maxRecDepth 100000
namespace Go.Proofs.Ytgnnpfainoppeaa
open Go.RowKit Go.Sort Go.Shelf

/-- Drawn, and grown, alone. -/
def GX (W w' : World) : Prop := ∃ q os', w' = grow (W.drewN q) os'
theorem GX.refl (W : World) : GX W W := ⟨0, #[], by unfold grow; simp [World.drewN]⟩
theorem grow_drewN (W : World) (os : Array Obj) (q : Nat) : (grow W os).drewN q = grow (W.drewN q) os := by unfold grow World.drewN; rfl
theorem drewN_drewN (W : World) (q r : Nat) : (W.drewN q).drewN r = W.drewN (q + r) := by unfold World.drewN; simp [Nat.add_assoc]
theorem GX.trans {W w1 w2 : World} (h1 : GX W w1) (h2 : GX w1 w2) : GX W w2 := by
  obtain ⟨q1, o1, rfl⟩ := h1
  obtain ⟨q2, o2, rfl⟩ := h2
  exact ⟨q1 + q2, o1 ++ o2, by rw [grow_drewN, grow_grow, drewN_drewN]⟩
theorem GX.alloc (W : World) (o : Obj) : GX W (W.alloc o) := ⟨0, #[o], by rw [alloc_eq_grow]; rfl⟩
theorem GX.drew (W : World) : GX W W.drew := ⟨1, #[], by rw [show W.drewN 1 = W.drew from rfl]; unfold grow; simp; rfl⟩
theorem GX.below {W w' : World} (h : GX W w') : Below W.heap.size W w' := by
  obtain ⟨q, os, rfl⟩ := h
  exact ⟨rfl, rfl, rfl, by simp, fun k hk => heap_grow_old _ _ (by simpa using hk)⟩
set_option maxHeartbeats 1000000 in
theorem or_a (w : World) (g : Nat) (a b : Int) (ha : a ≠ 0) (c0 : w.cell? ⟨g, 0, none⟩ = some (.int .i64 a)) :
    Calls Try.prog 32 #[.slice (some ⟨g, 0, none⟩) 2 2] w fun e w' => e = .returned (.int .i64 a) ∧ w = w' := by
  have t1 : (a != 0) = true := by simp [ha]
  clear ha
  go_enter Try.func32, Try.ntmps32
  go_wp2
  go_loop [8] (fun iv => iv = .int .i64 0) (fun iv => 2 - (intOf iv).toNat)
  case atStart => rfl
  case round =>
    subst hrel
    go_wp2
    go_returns
    exact ⟨rfl, rfl⟩
set_option maxHeartbeats 1000000 in
theorem or_b (w : World) (g : Nat) (b : Int) (c0 : w.cell? ⟨g, 0, none⟩ = some (.int .i64 0)) (c1 : w.cell? ⟨g, 1, none⟩ = some (.int .i64 b)) :
    Calls Try.prog 32 #[.slice (some ⟨g, 0, none⟩) 2 2] w fun e w' => e = .returned (.int .i64 b) ∧ w = w' := by
  by_cases hb : b = 0
  · subst hb
    go_enter Try.func32, Try.ntmps32
    go_wp2
    go_loop [8] (fun iv => iv = .int .i64 0 ∨ iv = .int .i64 1 ∨ iv = .int .i64 2) (fun iv => 2 - (intOf iv).toNat)
    case atStart => exact .inl rfl
    case round =>
      rcases hrel with rfl | rfl | rfl
      · go_wp2
        go_round
        case rel => exact .inr (.inl (by go_num))
        case measure => simp [intOf]
      · go_wp2
        go_round
        case rel => exact .inr (.inr (by go_num))
        case measure => simp [intOf]
      · go_wp2
        go_returns
        exact ⟨rfl, rfl⟩
  · have t1 : (b != 0) = true := by simp [hb]
    clear hb
    go_enter Try.func32, Try.ntmps32
    go_wp2
    go_loop [8] (fun iv => iv = .int .i64 0 ∨ iv = .int .i64 1) (fun iv => 2 - (intOf iv).toNat)
    case atStart => exact .inl rfl
    case round =>
      rcases hrel with rfl | rfl
      · go_wp2
        go_round
        case rel => exact .inr (by go_num)
        case measure => simp [intOf]
      · go_wp2
        go_returns
        exact ⟨rfl, rfl⟩
theorem or_any (w : World) (g : Nat) (a b : Int) (h : w.heap[g]? = some (.cells #[.int .i64 a, .int .i64 b] 3 (0, 0))) :
    Calls Try.prog 32 #[.slice (some ⟨g, 0, none⟩) 2 2] w fun e w' => e = .returned (.int .i64 (if a = 0 then b else a)) ∧ w = w' := by
  have c0 := (cell_of_row _ _ 0 _ _ _ h).trans (show (#[Value.int .i64 a, .int .i64 b])[0]? = some (.int .i64 a) from rfl)
  have c1 := (cell_of_row _ _ 1 _ _ _ h).trans (show (#[Value.int .i64 a, .int .i64 b])[1]? = some (.int .i64 b) from rfl)
  by_cases ha : a = 0
  · subst ha
    rw [if_pos rfl]
    exact or_b w g b c0 c1
  · rw [if_neg ha]
    exact or_a w g a b ha c0
def cmpG (x y : O) : Int := if Lib.compareInt x.r y.r = 0 then Lib.compareInt x.q y.q else Lib.compareInt x.r y.r
theorem bs2 (W : World) (a b : Int) : (Instr.buildSlice 93 2 #[(0, .int .i64 a), (1, .int .i64 b)]).run Try.prog W = .ok (.slice (some ⟨W.heap.size, 0, none⟩) 2 2) (W.alloc (.cells #[.int .i64 a, .int .i64 b] 3)) := by
  go_simp
  try rfl
set_option maxHeartbeats 3200000 in
theorem compare_exact (x y : O) (W : World) : Calls Try.prog 31 #[oV x, oV y] W fun e w' => e = .returned (.int .i64 (cmpG x y)) ∧ GX W w' := by
  have CMP := Lib.hid (fun a b W' => (show Calls Try.prog 33 #[.int .i64 a, .int .i64 b] W' fun e w' => e = .returned (.int .i64 (Lib.compareInt a b)) ∧ GX W' w' from (Try.cmp_Compare_int a b W').mono (fun e w' ⟨h1, h2⟩ => ⟨h1, by first | rw [h2]; exact GX.refl _ | rw [← h2]; exact GX.refl _⟩)))
  have ORC := Lib.hid (fun g a b W' h => (show Calls Try.prog 32 #[.slice (some ⟨g, 0, none⟩) 2 2] W' fun e w' => e = .returned (.int .i64 (if a = 0 then b else a)) ∧ GX W' w' from (or_any W' g a b h).mono (fun e w' ⟨h1, h2⟩ => ⟨h1, by rw [← h2]; exact GX.refl _⟩)))
  have G1 := GX.alloc W (.cells (oCells x) 35)
  have G2 := GX.alloc (W.alloc (.cells (oCells x) 35)) (.cells (oCells y) 35)
  have s1 : (W.alloc (.cells (oCells x) 35)).heap.size = W.heap.size + 1 := by simp
  have N1 := (G2.below.block _ (by omega)).trans (heap_alloc_new W (.cells (oCells x) 35))
  have N2 := heap_alloc_new (W.alloc (.cells (oCells x) 35)) (.cells (oCells y) 35)
  rw [s1] at N2
  have GG := Lib.hid (G1.trans G2)
  obtain ⟨w2, hw2⟩ : ∃ z, (W.alloc (.cells (oCells x) 35)).alloc (.cells (oCells y) 35) = z := ⟨_, rfl⟩
  rw [hw2] at N1 N2 GG
  have CX := Lib.hid (fun V (h : GX w2 V) => (show (Instr.loadAt 3 (pvo W.heap.size 1)).run Try.prog V = .ok (.int .i64 x.r) V ∧ (Instr.loadAt 3 (pvo W.heap.size 2)).run Try.prog V = .ok (.int .i64 x.q) V from by
    obtain ⟨_, a1, a2⟩ := box3 ((h.below.block _ (lt_of_block N1)).trans N1)
    exact ⟨ldI a1, ldI a2⟩))
  have CY := Lib.hid (fun V (h : GX w2 V) => (show (Instr.loadAt 3 (pvo (W.heap.size + 1) 1)).run Try.prog V = .ok (.int .i64 y.r) V ∧ (Instr.loadAt 3 (pvo (W.heap.size + 1) 2)).run Try.prog V = .ok (.int .i64 y.q) V from by
    obtain ⟨_, a1, a2⟩ := box3 ((h.below.block _ (lt_of_block N2)).trans N2)
    exact ⟨ldI a1, ldI a2⟩))
  have HX := Lib.hid (show oV x = .agg (oCells x) from rfl)
  have HY := Lib.hid (show oV y = .agg (oCells y) from rfl)
  rw [HX.out, HY.out]
  unfold cmpG
  obtain ⟨XA, hXA⟩ : ∃ z, oCells x = z := ⟨_, rfl⟩
  rw [hXA] at hw2 ⊢
  obtain ⟨YA, hYA⟩ : ∃ z, oCells y = z := ⟨_, rfl⟩
  rw [hYA] at hw2 ⊢
  obtain ⟨xr, hxr⟩ : ∃ z, x.r = z := ⟨_, rfl⟩
  obtain ⟨xq, hxq⟩ : ∃ z, x.q = z := ⟨_, rfl⟩
  obtain ⟨yr, hyr⟩ : ∃ z, y.r = z := ⟨_, rfl⟩
  obtain ⟨yq, hyq⟩ : ∃ z, y.q = z := ⟨_, rfl⟩
  rw [hxr, hxq] at CX
  rw [hyr, hyq] at CY
  rw [hxr, hxq, hyr, hyq]
  obtain ⟨c1, hc1⟩ : ∃ z, Lib.compareInt xr yr = z := ⟨_, rfl⟩
  obtain ⟨c2, hc2⟩ : ∃ z, Lib.compareInt xq yq = z := ⟨_, rfl⟩
  have CM1 := Lib.hid (fun W' => CMP.out xr yr W')
  have CM2 := Lib.hid (fun W' => CMP.out xq yq W')
  rw [hc1] at CM1
  rw [hc2] at CM2
  rw [hc1, hc2]
  have OR2 := Lib.hid (fun ks W' h => ORC.out ks c1 c2 W' h)
  obtain ⟨c3, hc3⟩ : ∃ z, (if c1 = 0 then c2 else c1) = z := ⟨_, rfl⟩
  rw [hc3] at OR2 ⊢
  clear hc3 ORC
  clear hXA hYA hxr hxq hyr hyq hc1 hc2 CMP G1 G2 s1 N1 N2
  go_enter Try.func31, Try.ntmps31
  go_upto_region 1 with fail
  refine wp_region_held_drew (S := fun V => GX w2 V) (by kernel_rfl) (GX.drew w2) (fun hHeld => ?_)
  have BV := Lib.hid (GX.drew w2)
  clear hHeld
  refine take_at (i := 0) 5 ?_ rfl rfl (by kernel_rfl) (by kernel_rfl) (by kernel_rfl) (fun _ _ _ h => h) (.inl ⟨rfl, ?_⟩) BV.out ?_
  rotate_left 1
  · intro w hSw; go_simp; try with_reducible rfl
  simp only [Act.put, List.setIfInBounds_toArray, List.set_cons_zero, List.set_cons_succ]
  refine take_at (i := 1) 6 ?_ rfl rfl (by kernel_rfl) (by kernel_rfl) (by kernel_rfl) (fun _ _ _ h => h) (.inl ⟨rfl, ?_⟩) BV.out ?_
  rotate_left 1
  · intro w hSw; go_simp; try with_reducible rfl
  simp only [Act.put, List.setIfInBounds_toArray, List.set_cons_zero, List.set_cons_succ]
  refine take_at (i := 2) 7 (.int .i64 xr) rfl rfl (by kernel_rfl) (by kernel_rfl) (by kernel_rfl) (fun _ _ _ h => h) (yields_ld (.tmp 6) 3 (pvo W.heap.size 1) _ (fun V h => (CX.out V h).1) rfl rfl rfl) BV.out ?_
  simp only [Act.put, List.setIfInBounds_toArray, List.set_cons_zero, List.set_cons_succ]
  refine take_at (i := 3) 8 ?_ rfl rfl (by kernel_rfl) (by kernel_rfl) (by kernel_rfl) (fun _ _ _ h => h) (.inl ⟨rfl, ?_⟩) BV.out ?_
  rotate_left 1
  · intro w hSw; go_simp; try with_reducible rfl
  simp only [Act.put, List.setIfInBounds_toArray, List.set_cons_zero, List.set_cons_succ]
  refine take_at (i := 4) 9 ?_ rfl rfl (by kernel_rfl) (by kernel_rfl) (by kernel_rfl) (fun _ _ _ h => h) (.inl ⟨rfl, ?_⟩) BV.out ?_
  rotate_left 1
  · intro w hSw; go_simp; try with_reducible rfl
  simp only [Act.put, List.setIfInBounds_toArray, List.set_cons_zero, List.set_cons_succ]
  refine take_at (i := 5) 10 (.int .i64 yr) rfl rfl (by kernel_rfl) (by kernel_rfl) (by kernel_rfl) (fun _ _ _ h => h) (yields_ld (.tmp 9) 3 (pvo (W.heap.size + 1) 1) _ (fun V h => (CY.out V h).1) rfl rfl rfl) BV.out ?_
  simp only [Act.put, List.setIfInBounds_toArray, List.set_cons_zero, List.set_cons_succ]
  refine take_at (i := 7) 12 ?_ rfl rfl (by kernel_rfl) (by kernel_rfl) (by kernel_rfl) (fun _ _ _ h => h) (.inl ⟨rfl, ?_⟩) BV.out ?_
  rotate_left 1
  · intro w hSw; go_simp; try with_reducible rfl
  simp only [Act.put, List.setIfInBounds_toArray, List.set_cons_zero, List.set_cons_succ]
  refine take_at (i := 8) 13 (.int .i64 xq) rfl rfl (by kernel_rfl) (by kernel_rfl) (by kernel_rfl) (fun _ _ _ h => h) (yields_ld (.tmp 12) 3 (pvo W.heap.size 2) _ (fun V h => (CX.out V h).2) rfl rfl rfl) BV.out ?_
  simp only [Act.put, List.setIfInBounds_toArray, List.set_cons_zero, List.set_cons_succ]
  refine take_at (i := 9) 14 ?_ rfl rfl (by kernel_rfl) (by kernel_rfl) (by kernel_rfl) (fun _ _ _ h => h) (.inl ⟨rfl, ?_⟩) BV.out ?_
  rotate_left 1
  · intro w hSw; go_simp; try with_reducible rfl
  simp only [Act.put, List.setIfInBounds_toArray, List.set_cons_zero, List.set_cons_succ]
  refine take_at (i := 10) 15 (.int .i64 yq) rfl rfl (by kernel_rfl) (by kernel_rfl) (by kernel_rfl) (fun _ _ _ h => h) (yields_ld (.tmp 14) 3 (pvo (W.heap.size + 1) 2) _ (fun V h => (CY.out V h).2) rfl rfl rfl) BV.out ?_
  simp only [Act.put, List.setIfInBounds_toArray, List.set_cons_zero, List.set_cons_succ]
  refine wpAnyH_ready (rs := [6]) (by kernel_rfl) (by simp) (br_call (i := 6) 11 33 #[.int .i64 xr, .int .i64 yr] rfl rfl rfl (by go_simp) ((CM1.out _).mono ?_) AllReadyH.nil)
  rintro e v1 ⟨rfl, hb⟩
  have BV := Lib.hid (BV.out.trans hb)
  clear hb
  refine ⟨_, rfl, BV.out, fun _ => ?_⟩
  simp only [Act.put, List.setIfInBounds_toArray, List.set_cons_zero, List.set_cons_succ]
  refine wpAnyH_ready (rs := [11]) (by kernel_rfl) (by simp) (br_call (i := 11) 16 33 #[.int .i64 xq, .int .i64 yq] rfl rfl rfl (by go_simp) ((CM2.out _).mono ?_) AllReadyH.nil)
  rintro e v2 ⟨rfl, hb⟩
  have BV := Lib.hid (BV.out.trans hb)
  clear hb
  refine ⟨_, rfl, BV.out, fun _ => ?_⟩
  simp only [Act.put, List.setIfInBounds_toArray, List.set_cons_zero, List.set_cons_succ]
  refine wpAnyH_ready (rs := [12]) (by kernel_rfl) (by simp) (br_bslice (i := 12) 17 93 2 _ #[(0, .int .i64 c1), (1, .int .i64 c2)] _ _ rfl rfl rfl rfl rfl (bs2 v2 c1 c2) (BV.out.trans (GX.alloc v2 _)) (fun _ => ?_) AllReadyH.nil)
  have SL := Lib.hid (heap_alloc_new v2 (.cells #[.int .i64 c1, .int .i64 c2] 3))
  have hb := GX.alloc v2 (.cells #[.int .i64 c1, .int .i64 c2] 3)
  obtain ⟨v3, hv3⟩ : ∃ zz, v2.alloc (.cells #[.int .i64 c1, .int .i64 c2] 3) = zz := ⟨_, rfl⟩
  rw [hv3] at SL hb ⊢
  obtain ⟨ks, hks⟩ : ∃ zz, v2.heap.size = zz := ⟨_, rfl⟩
  rw [hks] at SL ⊢
  clear hv3 hks
  have BV := Lib.hid (BV.out.trans hb)
  clear hb
  simp only [Act.put, List.setIfInBounds_toArray, List.set_cons_zero, List.set_cons_succ]
  refine wpAnyH_ready (rs := [13]) (by kernel_rfl) (by simp) (br_call (i := 13) 18 32 #[.slice (some ⟨ks, 0, none⟩) 2 2] rfl rfl rfl (by go_simp) ((OR2.out ks _ SL.out).mono ?_) AllReadyH.nil)
  rintro e v4 ⟨rfl, hb⟩
  have BV := Lib.hid (BV.out.trans hb)
  clear hb
  refine ⟨_, rfl, BV.out, fun _ => ?_⟩
  simp only [Act.put, List.setIfInBounds_toArray, List.set_cons_zero, List.set_cons_succ]
  refine take_at (i := 14) 4 ?_ rfl rfl (by kernel_rfl) (by kernel_rfl) (by kernel_rfl) (fun _ _ _ h => h) (.inl ⟨rfl, ?_⟩) BV.out ?_
  rotate_left 1
  · intro w hSw; go_simp; try with_reducible rfl
  simp only [Act.put, List.setIfInBounds_toArray, List.set_cons_zero, List.set_cons_succ]
  refine wpAnyH_done (by kernel_rfl) ?_ _
  have FIN := Lib.hid (GG.out.trans BV.out)
  go_wp2
  go_returns
  exact ⟨rfl, FIN.out⟩
theorem lt_cmp (x y : O) : ltOf cmpG x y = ltG x y := by
  unfold ltOf cmpG ltG Lib.compareInt
  by_cases h : x.r = y.r
  · simp only [h, if_true]
    by_cases a : x.q < y.q
    · simp [a]
    · by_cases b : y.q < x.q <;> simp [a, b]
  · simp only [h, if_false]
    by_cases a : x.r < y.r
    · simp [a]
    · have b : y.r < x.r := by omega
      simp [a, b]
theorem swoG : SWO (ltOf cmpG) where
  irrefl x := by rw [lt_cmp]; exact ltg_irr x
  trans x y z h1 h2 := by
    rw [lt_cmp] at *
    exact ltg_trans h1 h2
  ntrans x y z h1 h2 := by
    rw [lt_cmp] at *
    unfold ltG at *
    split at h1 <;> split at h2 <;> split <;> simp at * <;> omega
theorem cs9_flat : ∀ l : List O, cs9 l = l.flatMap oc
  | [] => rfl
  | a :: l => by show oc a ++ cs9 l = _; rw [List.flatMap_cons, cs9_flat l]
instance : Inhabited O := ⟨O0⟩
theorem sort_own (w : World) (B : Nat) (v : Value) (l : List O) (h : w.ownsRow B 35 9 v l.length (l.flatMap oc)) (hl : l.length < 1000000) :
    Calls Try.prog 44 #[v, .func (.func 31) #[] #[]] w fun e w' => e = .returned (.tuple #[]) ∧ ∃ l' : List O, l'.Perm l ∧ l'.Pairwise (fun x y => ltG y x = false) ∧ w'.ownsRow B 35 9 v l.length (l'.flatMap oc) ∧ w.grownBy w' v.ownBlock := by
  rcases h.2 with ⟨rfl, h0⟩ | ⟨g, cap, cur, rfl, hB, hb, h1, h2, h3, h4⟩
  · have hn : l = [] := List.eq_nil_of_length_eq_zero h0
    subst hn
    refine (AnyF.slices_SortFunc_none Try.sort_44 none 0 (.func (.func 31) #[] #[]) w).mono ?_
    rintro e w' ⟨rfl, rfl⟩
    exact ⟨rfl, [], .refl _, List.Pairwise.nil, h, World.grownBy.mk rfl rfl rfl (Nat.le_refl _) (fun _ _ _ => rfl)⟩
  · have eg : ∀ args w, (callFunc 31 args).run Try.prog w = .ok (.enter 31 args) w := enters_of Try.func31 (by kernel_rfl) rfl
    have hg : g < w.heap.size := lt_of_block hb
    have hH := holdsK_block (enc := oc) oc_len (by omega) hb h4
    have hcon := AnyQ.slices_SortFunc Try.sort_44 9 Try.isAgg35 Try.sizeOf35 oc oc_len oc_one cmpG swoG 31 #[] g 0 cap l.toArray w eg (fun _ _ _ _ x y => compare_exact x y _) hH hg (by simp; omega)
    rw [show l.toArray.size = l.length from by simp] at hcon
    refine hcon.mono ?_
    rintro e w' ⟨rfl, d', n, os, hp, hs, rfl⟩
    obtain ⟨l', rfl⟩ : ∃ l' : List O, d' = l'.toArray := ⟨d'.toList, by simp⟩
    have hlen : l'.length = l.length := by have := hp.1; simpa using this
    have hperm : l'.Perm l := by
      have := hp.2.2
      rw [Array.toList_extract, Array.toList_extract] at this
      simp [List.extract_eq_take_drop, ← hlen] at this
      rwa [List.take_of_length_le (by omega)] at this
    refine ⟨rfl, l', hperm, ?_, ⟨by rw [flat_len oc_len, hlen], .inr ⟨g, cap, _, rfl, hB, heapK l'.toArray hb, h1, h2, by simp [putCells, h3], by rw [← hlen]; exact takeK oc_len (by omega) cur l' (by rw [h3, hlen]; exact Nat.mul_le_mul_right 9 h1)⟩⟩, grownK _⟩
    rw [List.pairwise_iff_getElem]
    intro i j hi hj hij
    have := hs i j (Nat.zero_le _) hij (by omega)
    rw [lt_cmp] at this
    simpa [hi, hj] using this
end Go.Proofs.Ytgnnpfainoppeaa
