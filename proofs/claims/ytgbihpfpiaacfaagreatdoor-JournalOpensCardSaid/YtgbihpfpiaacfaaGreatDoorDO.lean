/- A disk: Boot, walked. Made by gendo10.py. -/
import Derived.Test.YtgbihpfpiaacfaaGreatDoorDN
set_option linter.unusedVariables false
set_option linter.unusedSimpArgs false
set_option maxRecDepth 100000
namespace Go.Proofs.YtgbihpfpiaacfaaGreatDoor
open Go.RowKit Go.WideMaps Go.Maps

def encN (n : Int) : List Value := [.int .i64 n]
theorem encN_len (x : Int) : (encN x).length = 1 := rfl
theorem own_cap {w : World} {B e k n c : Nat} {a : Option Addr} {xs : List Value} (h : w.ownsRow B e k (.slice a n c) n xs) : n ≤ c ∧ c ≤ maxLen := by
  rcases h.2 with ⟨e1, h0⟩ | ⟨g, cap, cur, e1, hB, hb, h1, h2, _⟩
  · injection e1 with e1 e2 e3
    subst e3
    exact ⟨by omega, by unfold maxLen; omega⟩
  · injection e1 with e1 e2 e3
    subst e3
    exact ⟨h1, h2⟩
theorem lt_of_cell {w : World} {p : Addr} {v : Value} (h : w.cell? p = some v) : p.block < w.heap.size := by
  unfold World.cell? at h
  cases hb : w.heap[p.block]? with
  | none => rw [hb] at h; simp at h
  | some o => exact (Array.getElem?_eq_some_iff.1 hb).1
structure BI (w W : World) (B d : Nat) (s : DS) (keep : List Int) (nv kv : Value) (i : Nat) : Prop where
  out : Out B d s { s with l := btL keep i s.l } w W
  row : W.ownsRow w.heap.size 9 1 nv s.l.length ((nms s.l).flatMap encT)
  kp : LiesK encN 1 W kv keep
/-- A round's end. -/
theorem BI.next {w wr v1 w7 : World} {B d b : Nat} {s : DS} {keep : List Int} {nv kv : Value} {i : Nat} {x : Fl} (h : BI w wr B d s keep nv kv i) (hb : Below wr.heap.size wr v1) (hm : s.m = some b) (hx : s.l[i]? = some x) (hkd : keep ≠ [] → ∀ j, kv.ownBlock = some j → ¬ Has d s j)
    (hd : DM w7 b (setF (btL keep i s.l) (bt keep i x))) (hg : v1.grownBy w7 (some b)) : BI w w7 B d s keep nv kv (i + 1) := by
  have h1 := h.out.then_below hb
  have hr : Rise (btL keep i s.l) := (dm_of h1.dk hm).rise
  have hx2 : (btL keep i s.l)[i]? = some x := by rw [btL_get, hx]; simp
  have hmem := List.mem_of_getElem? hx2
  have hs := h1.dk.sure x hmem
  have e : setF (btL keep i s.l) (bt keep i x) = btL keep (i + 1) s.l := by rw [set_at hr hx2 (by rfl), btL_set keep i s.l hx]
  have h2 : Out B d _ _ v1 w7 := Out.cut h1.dk hm hmem (btN_le hs (moreK_nn keep i)).1 hd hg
  have f7 : Far (fun k => k = b) v1 w7 := Far.of_grown hg (fun k e => by injection e with e; exact e.symm)
  have dm1 := dm_of h1.dk hm
  refine ⟨?_, f7.row (own_belowK h.row hb) (fun j e q => by subst q; exact (row_map (own_belowK h.row hb) dm1) e.symm), (h.kp.step hb).far' f7 (fun hne j e q => hkd hne j e (by subst q; exact .inr (.inl hm)))⟩
  have h3 := h1.trans h2
  have e2 : ({ ({ s with l := btL keep i s.l } : DS) with l := setF ({ s with l := btL keep i s.l } : DS).l (cutF x (btN x (moreK keep i))) } : DS) = { s with l := btL keep (i + 1) s.l } := by
    rw [← e]
    rfl
  rw [e2] at h3
  exact h3
theorem boot_up (w : World) (B d : Nat) (s : DS) (h : DK w B d s) (kv : Value) (hd : s.dn = false) : Calls Tryz.prog 31 #[pv d, kv] w fun e w' => e = .returned (.tuple #[]) ∧ w = w' := by
  have D := Lib.hid (down_any w B d s h)
  rw [hd] at D
  clear h hd
  go_enter Tryz.func31, Tryz.ntmps31
  go_wp2_with fail
  refine D.out.mono ?_
  rintro e w1 ⟨rfl, rfl⟩
  go_wp2
  go_returns
  exact ⟨rfl, rfl⟩
set_option maxHeartbeats 6400000 in
theorem boot_dn (w : World) (B d : Nat) (s : DS) (h : DK w B d s) (hl : s.l.length < 100000) (kv : Value) (keep : List Int) (hk : LiesK encN 1 w kv keep) (hkd : keep ≠ [] → ∀ j, kv.ownBlock = some j → ¬ Has d s j) (hd : s.dn = true) :
    Calls Tryz.prog 31 #[pv d, kv] w fun e w' => e = .returned (.tuple #[]) ∧ Out B d s { s with l := btL keep s.l.length s.l, ar := false, dn := false } w w' := by
  have D := Lib.hid (down_any w B d s h)
  rw [hd] at D
  have NA := Lib.hid (names_any w B d s h hl)
  have H := Lib.hid h
  have KD := Lib.hid hkd
  have KL := Lib.hid hk
  have hkl := hk.len
  obtain ⟨ka, kc, rfl⟩ := hk.shape
  clear h hk hkd hd
  go_enter Tryz.func31, Tryz.ntmps31
  go_wp2_with fail
  refine D.out.mono ?_
  rintro e w1 ⟨rfl, rfl⟩
  go_wp2_with fail
  refine NA.out.mono ?_
  rintro e w1 ⟨nv, rfl, ho, hb⟩
  have hln : (nms s.l).length = s.l.length := by unfold nms; rw [List.length_map]
  rw [hln] at ho
  obtain ⟨na, nc, rfl⟩ := own_shapeK ho
  have K0 := Lib.hid (show BI w w1 B d s keep (.slice na s.l.length nc) (.slice ka keep.length kc) 0 from ⟨by
    have := Out.still H.out hb
    rw [show ({ s with l := btL keep 0 s.l } : DS) = s from by rw [btL_zero]]
    exact this, ho, KL.out.step hb⟩)
  clear ho hb D NA
  obtain ⟨ln, hln2⟩ : ∃ ln, s.l.length = ln := ⟨_, rfl⟩
  rw [hln2] at hl hln K0
  simp only [hln2]
  have HLN := Lib.hid hln2
  clear hln2 hln
  go_wp2_with fail
  go_loopw [14] (fun sv wr => ∃ i : Nat, sv = .int .i64 i ∧ i ≤ ln ∧ Hid (BI w wr B d s keep (.slice na ln nc) (.slice ka keep.length kc) i)) (fun sv _ => ln - (intOf sv).toNat)
  case atStart => exact ⟨0, rfl, Nat.zero_le _, K0⟩
  case round =>
    obtain ⟨i, rfl, hi, hK⟩ := hrel
    have KH := Lib.hid hK.out
    clear hK K0
    by_cases hlt : i < ln
    · have hxe : s.l[i]? = some (s.l[i]'(by rw [HLN.out]; exact hlt)) := List.getElem?_eq_getElem _
      obtain ⟨x, hx⟩ : ∃ x, s.l[i]? = some x := ⟨_, hxe⟩
      clear hxe
      obtain ⟨b, hm⟩ : ∃ b, s.m = some b := by
        rcases H.out.map with ⟨_, h1⟩ | ⟨b, h0, _⟩
        · rw [h1] at hx; cases hx
        · exact ⟨b, h0⟩
      have hx2 : (btL keep i s.l)[i]? = some x := by rw [btL_get, hx]; simp
      have hmem := List.mem_of_getElem? hx2
      have hsu := KH.out.out.dk.sure x hmem
      have hrow := KH.out.out.dk.rows x hmem
      have hcap := own_cap hrow
      have dm0 := dm_of KH.out.out.dk hm
      have hget : getF (btL keep i s.l) x.n = some x := (get_some dm0.rise).2 ⟨hmem, rfl⟩
      have hnm : x.n.size ≤ maxLen := dm0.oks x hmem
      have LK := Lib.hid (show (Instr.lookup 68 (.map (some b)) (.string x.n) false).run Tryz.prog wr = .ok (.agg #[.slice x.a x.b.length x.c, .int .i64 x.s]) wr from by
        have := dm0.look1 hnm
        unfold gvF at this
        simp only at this
        rw [hget] at this
        exact this)
      obtain ⟨g, o, p, hna, hp, hg, hc⟩ := (own_liesK (enc := encT) (k := 1) encT_len (l := nms s.l) (by
        have e := KH.out.row
        rw [show s.l.length = (nms s.l).length by unfold nms; rw [List.length_map]] at e
        exact e)).at' (i := i) hlt
      subst hna
      have hpx : p = x.n := by
        unfold nms at hp
        rw [List.getElem?_map, hx] at hp
        injection hp with hp
        exact hp.symm
      subst hpx
      have n0 : wr.cell? ⟨g, o + i, none⟩ = some (.string x.n) := by
        have := hc 0 (.string x.n) rfl
        simpa using this
      obtain ⟨d0, d1, d2, d3, d4⟩ := KH.out.out.dk.cells
      simp only [hm] at d1
      have B2 := Lib.hid (vstep wr (.cells #[.slice x.a x.b.length x.c, .int .i64 x.s] 82))
      have G2 := Lib.hid (FB.new wr (.slice x.a x.b.length x.c) x.s)
      have D2 := Lib.hid (B2.out.cell (p := ⟨d, 1, none⟩) KH.out.out.dk.dlt |>.trans d1)
      have NX := Lib.hid (And.intro hx (And.intro hm (And.intro hsu (And.intro hcap hnm))))
      clear d0 d2 d3 d4 hx hm hx2 hmem hsu hrow hcap dm0 hget hnm hp hc
      go_upto_region 5 with (refine wpList_look rfl (.tmp 22) (.tmp 23) false rfl (.map (some b)) (.string x.n) (.agg #[.slice x.a x.b.length x.c, .int .i64 x.s]) rfl rfl LK.out ?_)
      obtain ⟨W2, hW2⟩ : ∃ z, wr.alloc (.cells #[.slice x.a x.b.length x.c, .int .i64 x.s] 82) = z := ⟨_, rfl⟩
      rw [hW2] at B2 G2 D2 ⊢
      generalize wr.heap.size = bx at G2 ⊢
      clear hW2 n0 d1
      have K2 := Lib.hid (KH.out.kp.step B2.out)
      obtain ⟨mo, hmo⟩ : ∃ mo, moreK keep i = mo := ⟨_, rfl⟩
      have MN := Lib.hid (show 0 ≤ mo from by rw [← hmo]; exact moreK_nn keep i)
      obtain ⟨L, hL⟩ : ∃ L, x.b.length = L := ⟨_, rfl⟩
      obtain ⟨m, hmm⟩ : ∃ m, btN x mo = m := ⟨_, rfl⟩
      have hbt := btN_le NX.out.2.2.1 MN.out
      rw [hmm, hL] at hbt
      have hsu := NX.out.2.2.1
      have hcap := NX.out.2.2.2.1
      rw [hL] at hsu hcap G2 ⊢
      have hLm : (L : Int) ≤ 9223372036854775807 := by have := hcap.2; have := hcap.1; unfold maxLen at *; omega
      have BTE := Lib.hid (show bt keep i x = cutF x m from by unfold bt; rw [hmo, hmm])
      obtain ⟨z1, hz1⟩ : ∃ z1, (L : Int) - x.s = z1 := ⟨_, rfl⟩
      rw [hz1] at hbt
      have hw1 : IntKind.i64.wrap ((L : Int) - x.s) = z1 := by rw [IntKind.wrap_i64, ← hz1]; omega
      obtain ⟨z2, hz2⟩ : ∃ z2, min mo z1 = z2 := ⟨_, rfl⟩
      rw [hz2] at hbt
      have hw3 : IntKind.i64.wrap (x.s + z2) = (m : Int) := by rw [IntKind.wrap_i64, ← hbt.2]; have := hbt.1; have := hbt.2; omega
      have S2 := Lib.hid (show (W2.drew.cell? ⟨d, 1, none⟩ = some (.map (some b)) ∧ FB W2.drew bx (.slice x.a L x.c) x.s) from ⟨D2.out, G2.out⟩)
      have FI := Lib.hid (fun W => first_any W x.a L x.c x.s m (by have := hbt.1; have := hcap.1; omega) hcap.2)
      have PUT := Lib.hid (fun (v1 : World) (hb : Below W2.heap.size W2 v1) => (show ∃ w7, (Instr.mapUpdate 68 (.map (some b)) (.string x.n) (.agg #[.slice x.a m x.c, .int .i64 (m : Int)])).run Tryz.prog v1 = .ok () w7 ∧ (w7.cell? ⟨d, 1, none⟩ = some (.map (some b)) ∧ FB w7 bx (.slice x.a L x.c) x.s) ∧ BI w w7 B d s keep (.slice (some ⟨g, o, none⟩) ln nc) (.slice ka keep.length kc) (i + 1) from by
        have hb2 := B2.out.trans (hb.mono B2.out.size)
        have dk1 := KH.out.out.dk.step hb2
        obtain ⟨w7, r1, r2, r3⟩ := (dm_of dk1 NX.out.2.1).put (x := cutF x m) NX.out.2.2.2.2 (by have e := btL_len keep i s.l; have := HLN.out; show (btL keep i s.l).length < maxLen; rw [e]; unfold maxLen; omega)
        have hcl : (cutF x m).b.length = m := cut_len (by rw [hL]; exact hbt.1)
        have nx := KH.out.next hb2 NX.out.2.1 NX.out.1 KD.out (by rw [BTE.out]; exact r2) r3
        refine ⟨w7, ?_, ⟨?_, (G2.out.step hb).far (Far.of_grown (P := fun k => k = b) r3 (fun k e => by injection e with e; exact e.symm)) (fun e => ?_)⟩, nx⟩
        · have r1' := r1
          unfold fv at r1'
          rw [hcl] at r1'
          exact r1'
        · have := nx.out.dk.cells.2.1
          simp only [NX.out.2.1] at this
          exact this
        · obtain ⟨es, ⟨en, c, hb', _⟩, _⟩ := dm_of dk1 NX.out.2.1
          have := G2.out.step hb
          subst e
          rw [show v1.heap[bx]? = _ from this] at hb'
          cases hb'))
      have IL := Lib.hid hlt
      clear G2 D2 hmm hL hsu hz1 hbt BTE LK
      by_cases hki : i < keep.length
      · obtain ⟨g2, o2, z, hka, hz, hg2, hc2⟩ := K2.out.at' hki
        subst hka
        have k0 : W2.cell? ⟨g2, o2 + i, none⟩ = some (.int .i64 z) := by
          have := hc2 0 (.int .i64 z) rfl
          simpa using this
        have hmz : max z 0 = mo := by rw [← hmo]; unfold moreK; rw [hz]
        clear hmo hc2 hz
        go_upto_region 8 with (fail)
        refine wp_region_held_drew (S := fun W => W.cell? ⟨d, 1, none⟩ = some (.map (some b)) ∧ FB W bx (.slice x.a L x.c) x.s) (by kernel_rfl) S2.out (fun _ => ?_)
        refine take_at (i := 0) 34 ?_ rfl rfl (by kernel_rfl) (by kernel_rfl) (by kernel_rfl) (fun _ _ _ h => h) (.inl ⟨rfl, ?_⟩) S2.out ?_
        rotate_left 1
        · intro w hSw; go_simp; try with_reducible rfl
        simp only [Act.put, List.setIfInBounds_toArray, List.set_cons_zero, List.set_cons_succ]
        refine take_at (i := 1) 35 ?_ rfl rfl (by kernel_rfl) (by kernel_rfl) (by kernel_rfl) (fun _ _ _ h => h) (.inl ⟨rfl, ?_⟩) S2.out ?_
        rotate_left 1
        · intro w hSw; go_simp; try with_reducible rfl
        simp only [Act.put, List.setIfInBounds_toArray, List.set_cons_zero, List.set_cons_succ]
        refine take_at (i := 2) 36 ?_ rfl rfl (by kernel_rfl) (by kernel_rfl) (by kernel_rfl) (fun _ _ _ h => h) (.inl ⟨rfl, ?_⟩) S2.out ?_
        rotate_left 1
        · intro w hSw; go_simp; try with_reducible rfl
        simp only [Act.put, List.setIfInBounds_toArray, List.set_cons_zero, List.set_cons_succ]
        refine take_at (i := 3) 37 (.map (some b)) rfl rfl (by kernel_rfl) (by kernel_rfl) (by kernel_rfl) (fun _ _ _ h => h) (yields_ld (.tmp 36) 68 (.pointer (some ⟨d, 1, none⟩)) _ (fun W hS => ldM56 hS.1) rfl rfl rfl) S2.out ?_
        simp only [Act.put, List.setIfInBounds_toArray, List.set_cons_zero, List.set_cons_succ]
        refine take_at (i := 4) 38 ?_ rfl rfl (by kernel_rfl) (by kernel_rfl) (by kernel_rfl) (fun _ _ _ h => h) (.inl ⟨rfl, ?_⟩) S2.out ?_
        rotate_left 1
        · intro w hSw; go_simp; try with_reducible rfl
        simp only [Act.put, List.setIfInBounds_toArray, List.set_cons_zero, List.set_cons_succ]
        refine take_at (i := 5) 39 (.agg #[.slice x.a L x.c, .int .i64 x.s]) rfl rfl (by kernel_rfl) (by kernel_rfl) (by kernel_rfl) (fun _ _ _ h => h) (yields_ld (.tmp 6) 82 (.pointer (some ⟨bx, 0, none⟩)) _ (fun W hS => ldS69 hS.2) rfl rfl rfl) S2.out ?_
        simp only [Act.put, List.setIfInBounds_toArray, List.set_cons_zero, List.set_cons_succ]
        refine take_at (i := 6) 40 ?_ rfl rfl (by kernel_rfl) (by kernel_rfl) (by kernel_rfl) (fun _ _ _ h => h) (.inl ⟨rfl, ?_⟩) S2.out ?_
        rotate_left 1
        · intro w hSw; go_simp; try with_reducible rfl
        simp only [Act.put, List.setIfInBounds_toArray, List.set_cons_zero, List.set_cons_succ]
        refine take_at (i := 7) 41 (.int .i64 x.s) rfl rfl (by kernel_rfl) (by kernel_rfl) (by kernel_rfl) (fun _ _ _ h => h) (yields_ld (.tmp 40) 3 (.pointer (some ⟨bx, 1, none⟩)) _ (fun W hS => ldI3 hS.2.cells.2) rfl rfl rfl) S2.out ?_
        simp only [Act.put, List.setIfInBounds_toArray, List.set_cons_zero, List.set_cons_succ]
        refine take_at (i := 8) 42 ?_ rfl rfl (by kernel_rfl) (by kernel_rfl) (by kernel_rfl) (fun _ _ _ h => h) (.inl ⟨rfl, ?_⟩) S2.out ?_
        rotate_left 1
        · intro w hSw; go_simp; try with_reducible rfl
        simp only [Act.put, List.setIfInBounds_toArray, List.set_cons_zero, List.set_cons_succ]
        refine take_at (i := 9) 43 ?_ rfl rfl (by kernel_rfl) (by kernel_rfl) (by kernel_rfl) (fun _ _ _ h => h) (.inl ⟨rfl, ?_⟩) S2.out ?_
        rotate_left 1
        · intro w hSw; go_simp; try with_reducible rfl
        simp only [Act.put, List.setIfInBounds_toArray, List.set_cons_zero, List.set_cons_succ]
        refine take_at (i := 10) 44 (.slice x.a L x.c) rfl rfl (by kernel_rfl) (by kernel_rfl) (by kernel_rfl) (fun _ _ _ h => h) (yields_ld (.tmp 43) 39 (.pointer (some ⟨bx, 0, none⟩)) _ (fun W hS => ldV33 hS.2.cells.1) rfl rfl rfl) S2.out ?_
        simp only [Act.put, List.setIfInBounds_toArray, List.set_cons_zero, List.set_cons_succ]
        refine take_at (i := 11) 45 ?_ rfl rfl (by kernel_rfl) (by kernel_rfl) (by kernel_rfl) (fun _ _ _ h => h) (.inl ⟨rfl, ?_⟩) S2.out ?_
        rotate_left 1
        · intro w hSw; go_simp; try with_reducible rfl
        simp only [Act.put, List.setIfInBounds_toArray, List.set_cons_zero, List.set_cons_succ]
        refine take_at (i := 12) 46 ?_ rfl rfl (by kernel_rfl) (by kernel_rfl) (by kernel_rfl) (fun _ _ _ h => h) (.inl ⟨rfl, ?_⟩) S2.out ?_
        rotate_left 1
        · intro w hSw; go_simp; try with_reducible rfl
        simp only [Act.put, List.setIfInBounds_toArray, List.set_cons_zero, List.set_cons_succ]
        refine take_at (i := 13) 47 (.int .i64 x.s) rfl rfl (by kernel_rfl) (by kernel_rfl) (by kernel_rfl) (fun _ _ _ h => h) (yields_ld (.tmp 46) 3 (.pointer (some ⟨bx, 1, none⟩)) _ (fun W hS => ldI3 hS.2.cells.2) rfl rfl rfl) S2.out ?_
        simp only [Act.put, List.setIfInBounds_toArray, List.set_cons_zero, List.set_cons_succ]
        refine take_at (i := 14) 48 (.int .i64 z1) rfl rfl (by kernel_rfl) (by kernel_rfl) (by kernel_rfl) (fun _ _ _ h => h) (.inl ⟨rfl, ?_⟩) S2.out ?_
        · intro w hSw; go_simp
        simp only [Act.put, List.setIfInBounds_toArray, List.set_cons_zero, List.set_cons_succ]
        refine take_at (i := 15) 49 (.int .i64 z2) rfl rfl (by kernel_rfl) (by kernel_rfl) (by kernel_rfl) (fun _ _ _ h => h) (.inl ⟨rfl, ?_⟩) S2.out ?_
        · intro w hSw; go_simp
        simp only [Act.put, List.setIfInBounds_toArray, List.set_cons_zero, List.set_cons_succ]
        refine take_at (i := 16) 50 (.int .i64 (m : Int)) rfl rfl (by kernel_rfl) (by kernel_rfl) (by kernel_rfl) (fun _ _ _ h => h) (.inl ⟨rfl, ?_⟩) S2.out ?_
        · intro w hSw; go_simp
        simp only [Act.put, List.setIfInBounds_toArray, List.set_cons_zero, List.set_cons_succ]
        refine wpAnyH_ready (rs := [17]) (by kernel_rfl) (by simp) (br_call (i := 17) 51 46 #[.agg #[.slice x.a L x.c, .int .i64 x.s], .int .i64 (m : Int)] rfl rfl rfl (by go_simp) ((FI.out _).mono ?_) AllReadyH.nil)
        rintro e v1 ⟨rfl, hb⟩
        obtain ⟨w7, r7, S7, N7⟩ := PUT.out v1 ((Below.refl W2.heap.size W2).drew.trans hb)
        have R7 := Lib.hid r7
        have S7 := Lib.hid S7
        have N7 := Lib.hid N7
        refine ⟨_, rfl, ⟨(hb.cell (p := ⟨d, 1, none⟩) (lt_of_cell S2.out.1)).trans S2.out.1, S2.out.2.step hb⟩, fun _ => ?_⟩
        clear hb r7
        simp only [Act.put, List.setIfInBounds_toArray, List.set_cons_zero, List.set_cons_succ]
        refine wpAnyH_ready (rs := [18]) (by kernel_rfl) (by simp) (br_put (i := 18) 68 (.tmp 37) (.tmp 38) (.tmp 51) _ _ _ w7 rfl rfl rfl rfl rfl rfl rfl R7.out S7.out (fun _ => ?_) AllReadyH.nil)
        simp only [Act.put, List.setIfInBounds_toArray, List.set_cons_zero, List.set_cons_succ]
        refine wpAnyH_done (by kernel_rfl) ?_ _
        go_wp2
        go_roundw
        case rel => exact ⟨i + 1, by go_num, by omega, N7⟩
        case measure => simp [intOf]; omega
      · have hm0 : mo = 0 := by rw [← hmo]; unfold moreK; rw [List.getElem?_eq_none (by omega)]
        subst hm0
        clear hmo
        go_upto_region 8 with (fail)
        refine wp_region_held_drew (S := fun W => W.cell? ⟨d, 1, none⟩ = some (.map (some b)) ∧ FB W bx (.slice x.a L x.c) x.s) (by kernel_rfl) S2.out (fun _ => ?_)
        refine take_at (i := 0) 34 ?_ rfl rfl (by kernel_rfl) (by kernel_rfl) (by kernel_rfl) (fun _ _ _ h => h) (.inl ⟨rfl, ?_⟩) S2.out ?_
        rotate_left 1
        · intro w hSw; go_simp; try with_reducible rfl
        simp only [Act.put, List.setIfInBounds_toArray, List.set_cons_zero, List.set_cons_succ]
        refine take_at (i := 1) 35 ?_ rfl rfl (by kernel_rfl) (by kernel_rfl) (by kernel_rfl) (fun _ _ _ h => h) (.inl ⟨rfl, ?_⟩) S2.out ?_
        rotate_left 1
        · intro w hSw; go_simp; try with_reducible rfl
        simp only [Act.put, List.setIfInBounds_toArray, List.set_cons_zero, List.set_cons_succ]
        refine take_at (i := 2) 36 ?_ rfl rfl (by kernel_rfl) (by kernel_rfl) (by kernel_rfl) (fun _ _ _ h => h) (.inl ⟨rfl, ?_⟩) S2.out ?_
        rotate_left 1
        · intro w hSw; go_simp; try with_reducible rfl
        simp only [Act.put, List.setIfInBounds_toArray, List.set_cons_zero, List.set_cons_succ]
        refine take_at (i := 3) 37 (.map (some b)) rfl rfl (by kernel_rfl) (by kernel_rfl) (by kernel_rfl) (fun _ _ _ h => h) (yields_ld (.tmp 36) 68 (.pointer (some ⟨d, 1, none⟩)) _ (fun W hS => ldM56 hS.1) rfl rfl rfl) S2.out ?_
        simp only [Act.put, List.setIfInBounds_toArray, List.set_cons_zero, List.set_cons_succ]
        refine take_at (i := 4) 38 ?_ rfl rfl (by kernel_rfl) (by kernel_rfl) (by kernel_rfl) (fun _ _ _ h => h) (.inl ⟨rfl, ?_⟩) S2.out ?_
        rotate_left 1
        · intro w hSw; go_simp; try with_reducible rfl
        simp only [Act.put, List.setIfInBounds_toArray, List.set_cons_zero, List.set_cons_succ]
        refine take_at (i := 5) 39 (.agg #[.slice x.a L x.c, .int .i64 x.s]) rfl rfl (by kernel_rfl) (by kernel_rfl) (by kernel_rfl) (fun _ _ _ h => h) (yields_ld (.tmp 6) 82 (.pointer (some ⟨bx, 0, none⟩)) _ (fun W hS => ldS69 hS.2) rfl rfl rfl) S2.out ?_
        simp only [Act.put, List.setIfInBounds_toArray, List.set_cons_zero, List.set_cons_succ]
        refine take_at (i := 6) 40 ?_ rfl rfl (by kernel_rfl) (by kernel_rfl) (by kernel_rfl) (fun _ _ _ h => h) (.inl ⟨rfl, ?_⟩) S2.out ?_
        rotate_left 1
        · intro w hSw; go_simp; try with_reducible rfl
        simp only [Act.put, List.setIfInBounds_toArray, List.set_cons_zero, List.set_cons_succ]
        refine take_at (i := 7) 41 (.int .i64 x.s) rfl rfl (by kernel_rfl) (by kernel_rfl) (by kernel_rfl) (fun _ _ _ h => h) (yields_ld (.tmp 40) 3 (.pointer (some ⟨bx, 1, none⟩)) _ (fun W hS => ldI3 hS.2.cells.2) rfl rfl rfl) S2.out ?_
        simp only [Act.put, List.setIfInBounds_toArray, List.set_cons_zero, List.set_cons_succ]
        refine take_at (i := 8) 42 ?_ rfl rfl (by kernel_rfl) (by kernel_rfl) (by kernel_rfl) (fun _ _ _ h => h) (.inl ⟨rfl, ?_⟩) S2.out ?_
        rotate_left 1
        · intro w hSw; go_simp; try with_reducible rfl
        simp only [Act.put, List.setIfInBounds_toArray, List.set_cons_zero, List.set_cons_succ]
        refine take_at (i := 9) 43 ?_ rfl rfl (by kernel_rfl) (by kernel_rfl) (by kernel_rfl) (fun _ _ _ h => h) (.inl ⟨rfl, ?_⟩) S2.out ?_
        rotate_left 1
        · intro w hSw; go_simp; try with_reducible rfl
        simp only [Act.put, List.setIfInBounds_toArray, List.set_cons_zero, List.set_cons_succ]
        refine take_at (i := 10) 44 (.slice x.a L x.c) rfl rfl (by kernel_rfl) (by kernel_rfl) (by kernel_rfl) (fun _ _ _ h => h) (yields_ld (.tmp 43) 39 (.pointer (some ⟨bx, 0, none⟩)) _ (fun W hS => ldV33 hS.2.cells.1) rfl rfl rfl) S2.out ?_
        simp only [Act.put, List.setIfInBounds_toArray, List.set_cons_zero, List.set_cons_succ]
        refine take_at (i := 11) 45 ?_ rfl rfl (by kernel_rfl) (by kernel_rfl) (by kernel_rfl) (fun _ _ _ h => h) (.inl ⟨rfl, ?_⟩) S2.out ?_
        rotate_left 1
        · intro w hSw; go_simp; try with_reducible rfl
        simp only [Act.put, List.setIfInBounds_toArray, List.set_cons_zero, List.set_cons_succ]
        refine take_at (i := 12) 46 ?_ rfl rfl (by kernel_rfl) (by kernel_rfl) (by kernel_rfl) (fun _ _ _ h => h) (.inl ⟨rfl, ?_⟩) S2.out ?_
        rotate_left 1
        · intro w hSw; go_simp; try with_reducible rfl
        simp only [Act.put, List.setIfInBounds_toArray, List.set_cons_zero, List.set_cons_succ]
        refine take_at (i := 13) 47 (.int .i64 x.s) rfl rfl (by kernel_rfl) (by kernel_rfl) (by kernel_rfl) (fun _ _ _ h => h) (yields_ld (.tmp 46) 3 (.pointer (some ⟨bx, 1, none⟩)) _ (fun W hS => ldI3 hS.2.cells.2) rfl rfl rfl) S2.out ?_
        simp only [Act.put, List.setIfInBounds_toArray, List.set_cons_zero, List.set_cons_succ]
        refine take_at (i := 14) 48 (.int .i64 z1) rfl rfl (by kernel_rfl) (by kernel_rfl) (by kernel_rfl) (fun _ _ _ h => h) (.inl ⟨rfl, ?_⟩) S2.out ?_
        · intro w hSw; go_simp
        simp only [Act.put, List.setIfInBounds_toArray, List.set_cons_zero, List.set_cons_succ]
        refine take_at (i := 15) 49 (.int .i64 z2) rfl rfl (by kernel_rfl) (by kernel_rfl) (by kernel_rfl) (fun _ _ _ h => h) (.inl ⟨rfl, ?_⟩) S2.out ?_
        · intro w hSw; go_simp
        simp only [Act.put, List.setIfInBounds_toArray, List.set_cons_zero, List.set_cons_succ]
        refine take_at (i := 16) 50 (.int .i64 (m : Int)) rfl rfl (by kernel_rfl) (by kernel_rfl) (by kernel_rfl) (fun _ _ _ h => h) (.inl ⟨rfl, ?_⟩) S2.out ?_
        · intro w hSw; go_simp
        simp only [Act.put, List.setIfInBounds_toArray, List.set_cons_zero, List.set_cons_succ]
        refine wpAnyH_ready (rs := [17]) (by kernel_rfl) (by simp) (br_call (i := 17) 51 46 #[.agg #[.slice x.a L x.c, .int .i64 x.s], .int .i64 (m : Int)] rfl rfl rfl (by go_simp) ((FI.out _).mono ?_) AllReadyH.nil)
        rintro e v1 ⟨rfl, hb⟩
        obtain ⟨w7, r7, S7, N7⟩ := PUT.out v1 ((Below.refl W2.heap.size W2).drew.trans hb)
        have R7 := Lib.hid r7
        have S7 := Lib.hid S7
        have N7 := Lib.hid N7
        refine ⟨_, rfl, ⟨(hb.cell (p := ⟨d, 1, none⟩) (lt_of_cell S2.out.1)).trans S2.out.1, S2.out.2.step hb⟩, fun _ => ?_⟩
        clear hb r7
        simp only [Act.put, List.setIfInBounds_toArray, List.set_cons_zero, List.set_cons_succ]
        refine wpAnyH_ready (rs := [18]) (by kernel_rfl) (by simp) (br_put (i := 18) 68 (.tmp 37) (.tmp 38) (.tmp 51) _ _ _ w7 rfl rfl rfl rfl rfl rfl rfl R7.out S7.out (fun _ => ?_) AllReadyH.nil)
        simp only [Act.put, List.setIfInBounds_toArray, List.set_cons_zero, List.set_cons_succ]
        refine wpAnyH_done (by kernel_rfl) ?_ _
        go_wp2
        go_roundw
        case rel => exact ⟨i + 1, by go_num, by omega, N7⟩
        case measure => simp [intOf]; omega
    · have hie : i = ln := by omega
      subst hie
      obtain ⟨d0, d1, d2, d3, d4⟩ := KH.out.out.dk.cells
      have f2 := KH.out.out.dk.free 2
      have f4 := KH.out.out.dk.free 4
      dsimp only at d2 d4
      clear d0 d1 d3
      go_wp2
      go_returns
      refine ⟨rfl, KH.out.out.trans ?_⟩
      have r1 := row_setC (j := 2) (u := .bool false) KH.out.out.dk.box
      have r2 := row_setC (j := 4) (u := .bool false) r1
      refine Out.boxed KH.out.out.dk ((far_set wr d 2 _).trans (far_set _ d 4 _) (fun k _ q => q)) r2 rfl (by show btL keep s.l.length s.l = btL keep i s.l; rw [HLN.out]) rfl ?_
      exact ⟨KH.out.out.dk.left.1, KH.out.out.dk.left.2.1, fun e => by cases e⟩
end Go.Proofs.YtgbihpfpiaacfaaGreatDoor

