/- The reference's Did. -/
import Derived.Test.YthbmbpnpigpgpaaIC
set_option linter.unusedVariables false
set_option linter.unusedSimpArgs false
set_option maxRecDepth 100000
namespace Go.Proofs.Ythbmbpnpigpgpaa
open Go.RowKit Go.Shelf

theorem LiesT.src {w : World} {v : Value} {l : List Ls} (h : LiesT 23 w v l) : Src Try.prog 1 48 v l.length (l.flatMap encL) w := h.1.src Try.u48 encL_len (by decide) encL_one
theorem grown_block {W W' : World} {row : Option Nat} {k : Nat} {cs : Array Value} {t : TypeId} {fr : Nat × Nat} (h : W.heap[k]? = some (.cells cs t fr)) (hg : W.grownBy W' row) (hne : some k ≠ row) : W'.heap[k]? = some (.cells cs t fr) := (hg.block k (lt_of_block h) hne).trans h
/-- A box of two cells, both stored. -/
theorem end2 {W : World} {k g : Nat} {a b u u' : Value} (h : W.heap[g]? = some (.cells #[a, b] 50 (0, 0))) (hk : k ≤ g) :
    ((W.setCell ⟨g, 0, none⟩ u).setCell ⟨g, 1, none⟩ u').cell? ⟨g, 0, none⟩ = some u ∧ ((W.setCell ⟨g, 0, none⟩ u).setCell ⟨g, 1, none⟩ u').cell? ⟨g, 1, none⟩ = some u' ∧ Kp [50] k W ((W.setCell ⟨g, 0, none⟩ u).setCell ⟨g, 1, none⟩ u') := by
  have h1 := row_setC (j := 0) (u := u) h
  have h2 := row_setC (j := 1) (u := u') h1
  exact ⟨cell_row h2 rfl, cell_row h2 rfl, (Kp.set (S := [50]) (B := k) h hk (by simp)).trans (Kp.set (S := [50]) (B := k) h1 hk (by simp))⟩
set_option maxHeartbeats 6400000 in
theorem rdid_any (w : World) (vd vu : Value) (D : List Ls) (x : Ls) (h : LiesT 23 w vd D) (hu : ∃ a n c, vu = .slice a n c) (hl : D.length ≤ 64) :
    Calls Try.prog 21 #[.agg #[vd, vu], .slice x.a x.l.length x.c] w fun e w' => ∃ r, e = .returned (.agg #[r, .slice none 0 0]) ∧ LiesT 23 w' r (trim (D ++ [x])) ∧ Below w.heap.size w w' := by
  obtain ⟨i0, hi9, hz0, hz1, hz2⟩ := info_parts info23
  obtain ⟨ua, un, uc, rfl⟩ := hu
  obtain ⟨da, dc, rfl⟩ := h.1.shape
  obtain ⟨W3, hW3⟩ : ∃ z, ((w.alloc (.cells #[.slice da D.length dc, .slice ua un uc] 50)).alloc (.cells #[.slice none 0 0, .slice none 0 0] 50)).alloc (.cells #[.slice none 0 0, .slice none 0 0] 50) = z := ⟨_, rfl⟩
  have b1 := vstep w (.cells #[.slice da D.length dc, .slice ua un uc] 50)
  have b2 := vstep (w.alloc (.cells #[.slice da D.length dc, .slice ua un uc] 50)) (.cells #[.slice none 0 0, .slice none 0 0] 50)
  have b3 := vstep ((w.alloc (.cells #[.slice da D.length dc, .slice ua un uc] 50)).alloc (.cells #[.slice none 0 0, .slice none 0 0] 50)) (.cells #[.slice none 0 0, .slice none 0 0] 50)
  have n0 := heap_alloc_new w (.cells #[.slice da D.length dc, .slice ua un uc] 50)
  have n1 := heap_alloc_new (w.alloc (.cells #[.slice da D.length dc, .slice ua un uc] 50)) (.cells #[.slice none 0 0, .slice none 0 0] 50)
  have n2 := heap_alloc_new ((w.alloc (.cells #[.slice da D.length dc, .slice ua un uc] 50)).alloc (.cells #[.slice none 0 0, .slice none 0 0] 50)) (.cells #[.slice none 0 0, .slice none 0 0] 50)
  rw [World.size_alloc] at n1
  rw [World.size_alloc, World.size_alloc] at n2
  have n0 := (b3.block _ (lt_of_block ((b2.block _ (lt_of_block n0)).trans n0))).trans ((b2.block _ (lt_of_block n0)).trans n0)
  have n1 := (b3.block _ (lt_of_block n1)).trans n1
  have b12 := b1.trans (b2.mono b1.size)
  have hB3 := b12.trans (b3.mono b12.size)
  rw [hW3] at n0 n1 n2 hB3
  have hsz : w.heap.size + 1 + 1 + 1 ≤ W3.heap.size := lt_of_block n2
  have SRC := Lib.hid ((h.step hB3).src)
  have LL := Lib.hid hl
  have BB3 := Lib.hid hB3
  have N1 := Lib.hid n1
  have N2 := Lib.hid n2
  have SZ3 := Lib.hid hsz
  have a0 := cell_row (j := 0) n0 rfl
  have a1 := cell_row (j := 1) n0 rfl
  have b0 := cell_row (j := 0) n2 rfl
  clear h hl hB3 n0 n1 n2 hsz b1 b2 b3 b12
  go_enter Try.func21, Try.ntmps21
  go_upto_region 2 with (fail)
  try rw [hW3]
  obtain ⟨k, hk⟩ : ∃ z, w.heap.size = z := ⟨_, rfl⟩
  have HK := Lib.hid hk
  try rw [hk]
  rw [hk] at a0 a1 b0 N1 N2 SZ3
  clear hW3
  go_upto_region 3 with (first
    | (at_builtin; go_loud (refine wpList_append_src_own rfl (.tmp 7) (.tmp 9) 48 48 rfl (k + 1 + 1 + 1) 23 i0 (.slice none 0 0) 1 24 Try.u48 hi9 hz0 hz1 hz2 rfl (by decide) _ 0 [] rfl (World.ownsRow_nil _ _ _ _) _ D.length (D.flatMap encL) rfl SRC.out (by have := LL.out; unfold maxLen; omega) (by have := LL.out; omega) SZ3.out ?_; intro v1 w1 hown hgr hsp; rw [Nat.zero_add, List.nil_append] at hown; have M2 := Lib.hid (grown_block N2.out hgr (by simp [Act.eval, Value.ownBlock])); have M1 := Lib.hid (grown_block N1.out hgr (by simp [Act.eval, Value.ownBlock])); have BW := Lib.hid (show Below w.heap.size w w1 from BB3.out.grown hgr BB3.out.size (fun j hj => by simp [Act.eval, Value.ownBlock] at hj)); have SZ1 := Lib.hid (Nat.le_trans SZ3.out hgr.size); obtain ⟨ra, rc, rfl⟩ := own_shapeK hown; have O1 := Lib.hid hown; have b0 := cell_row (j := 0) M2.out rfl; have z0 := frozen_of_row (j := 0) _ _ _ _ M2.out; clear hown hgr hsp)))
  -- out.Done = append(out.Done, h.Done...) is stored
  have W4 : Kp [50] k w1 (w1.setCell ⟨k + 1 + 1, 0, none⟩ (.slice ra D.length rc)) := Kp.set M2.out (by omega) (by simp)
  have M1 := Lib.hid ((Below.heap_setCell w1 ⟨k + 1 + 1, 0, none⟩ (.slice ra D.length rc) (k + 1) (by show ¬ (k + 1 = k + 1 + 1); omega)).trans M1.out)
  have M2 := Lib.hid (row_setC (j := 0) (u := .slice ra D.length rc) M2.out)
  have O1 := Lib.hid (own_kp O1.out W4 (by simp))
  have BW := Lib.hid (BW.out.trans (by rw [HK.out]; exact W4.bel))
  have SZ1 := Lib.hid (Nat.le_trans SZ1.out W4.bel.size)
  obtain ⟨w2, hw2⟩ : ∃ z, w1.setCell ⟨k + 1 + 1, 0, none⟩ (.slice ra D.length rc) = z := ⟨_, rfl⟩
  rw [hw2] at M1 M2 O1 BW SZ1 ⊢
  clear W4 hw2 SRC SZ3 b0 z0 a0 a1 N1 N2 BB3
  have g1 := vstep w2 (.cells (encL x).toArray 23)
  have X3 := Lib.hid (show (w2.alloc (.cells #[.slice x.a x.l.length x.c] 23)).heap[w2.heap.size]? = some (.cells (encL x).toArray 23 (0, 0)) from heap_alloc_new w2 _)
  have OX := Lib.hid (show (w2.alloc (.cells #[.slice x.a x.l.length x.c] 23)).ownsRow (k + 1 + 1 + 1) 23 1 (.slice ra D.length rc) D.length (D.flatMap encL) from own_belowK O1.out g1)
  have Y1 := Lib.hid (show (w2.alloc (.cells #[.slice x.a x.l.length x.c] 23)).heap[k + 1]? = _ from (g1.block _ (lt_of_block M1.out)).trans M1.out)
  have Y2 := Lib.hid (show (w2.alloc (.cells #[.slice x.a x.l.length x.c] 23)).heap[k + 1 + 1]? = _ from (g1.block _ (lt_of_block M2.out)).trans M2.out)
  have BY := Lib.hid (show Below w.heap.size w (w2.alloc (.cells #[.slice x.a x.l.length x.c] 23)) from BW.out.trans (g1.mono BW.out.size))
  have SY := Lib.hid (show k + 1 + 1 + 1 ≤ (w2.alloc (.cells #[.slice x.a x.l.length x.c] 23)).heap.size from Nat.le_trans SZ1.out g1.size)
  have b0 := cell_row (j := 0) M2.out rfl
  clear g1 M1 M2 O1 BW SZ1
  go_upto_region 4 with (first
    | (at_builtin; go_loud (refine wpList_append_src_own rfl (.tmp 13) (.tmp 15) 48 48 rfl (k + 1 + 1 + 1) 23 i0 (.slice none 0 0) 1 24 Try.u48 hi9 hz0 hz1 hz2 rfl (by decide) (.slice ra D.length rc) D.length (D.flatMap encL) rfl OX.out _ 1 ([x].flatMap encL) rfl ((one_liesK encL_len X3.out).src Try.u48 encL_len (by decide) encL_one) (by have := LL.out; unfold maxLen; omega) (by have := LL.out; omega) SY.out ?_; intro v3 w3 hown hgr hsp; rw [← List.flatMap_append] at hown; have hne : ∀ j, (Value.slice ra D.length rc).ownBlock = some j → k + 1 + 1 + 1 ≤ j := (fun j hj => (OX.out.lt j hj).1); have Z2 := Lib.hid (grown_block Y2.out hgr (fun e => by have := hne _ e.symm; omega)); have Z1 := Lib.hid (grown_block Y1.out hgr (fun e => by have := hne _ e.symm; omega)); have BZ := Lib.hid (show Below w.heap.size w w3 from BY.out.grown hgr BY.out.size (fun j hj => by have := hne j hj; have := HK.out; omega)); obtain ⟨sa, sc, rfl⟩ := own_shapeK hown; have OZ := Lib.hid hown; have b0 := cell_row (j := 0) Z2.out rfl; have z0 := frozen_of_row (j := 0) _ _ _ _ Z2.out; clear hown hgr hsp hne)))
  have W4 : Kp [50] k w3 (w3.setCell ⟨k + 1 + 1, 0, none⟩ (.slice sa (D.length + 1) sc)) := Kp.set Z2.out (by omega) (by simp)
  have M1 := Lib.hid ((Below.heap_setCell w3 ⟨k + 1 + 1, 0, none⟩ (.slice sa (D.length + 1) sc) (k + 1) (by show ¬ (k + 1 = k + 1 + 1); omega)).trans Z1.out)
  have M2 := Lib.hid (row_setC (j := 0) (u := .slice sa (D.length + 1) sc) Z2.out)
  have O2 := Lib.hid (own_kp OZ.out W4 (by simp))
  have BW := Lib.hid (BZ.out.trans (by rw [HK.out]; exact W4.bel))
  obtain ⟨w4, hw4⟩ : ∃ z, w3.setCell ⟨k + 1 + 1, 0, none⟩ (.slice sa (D.length + 1) sc) = z := ⟨_, rfl⟩
  rw [hw4] at M1 M2 O2 BW ⊢
  clear W4 hw4 X3 OX Y1 Y2 BY SY Z1 Z2 BZ OZ b0 z0
  have EL := Lib.hid (show (D ++ [x]).length = D.length + 1 from by simp)
  have LT := Lib.hid (show LiesT 23 w4 (.slice sa (D.length + 1) sc) (D ++ [x]) from LiesT.of_own (B := k + 1 + 1 + 1) (by rw [EL.out]; exact O2.out))
  obtain ⟨n, hn⟩ : ∃ z, D.length + 1 = z := ⟨_, rfl⟩
  have b0 := cell_row (j := 0) M2.out rfl
  have b1 := cell_row (j := 1) M2.out rfl
  have z0 := frozen_of_row (j := 0) _ _ _ _ M2.out
  have c0 := cell_row (j := 0) M1.out rfl
  have c1 := cell_row (j := 1) M1.out rfl
  have y0 := frozen_of_row (j := 0) _ _ _ _ M1.out
  have y1 := frozen_of_row (j := 1) _ _ _ _ M1.out
  rw [hn] at b0 LT M2 O2
  try rw [hn]
  have hneq : ¬ (k + 1 = k + 1 + 1) := by omega
  have hneq' : ¬ (k + 1 + 1 = k + 1) := by omega
  by_cases hbig : 64 < n
  · have h65 : n = 65 := by have := LL.out; omega
    obtain ⟨g, hg⟩ : ∃ g, sa = some ⟨g, 0, none⟩ := by
      rcases O2.out.2 with ⟨_, e⟩ | ⟨g, _, _, e, _⟩
      · omega
      · injection e with e; exact ⟨g, e⟩
    subst hg
    have hcap : n ≤ sc := by
      obtain ⟨ao', cap', e, h1, _⟩ := LT.out.1
      injection e with e1 e2 e3
      rw [← e2] at h1
      subst e3
      exact h1
    obtain ⟨y, t, hyt⟩ : ∃ y t, D ++ [x] = y :: t := by
      cases hd : D ++ [x] with
      | nil => simp at hd
      | cons y t => exact ⟨y, t, rfl⟩
    have TR := Lib.hid (show trim (D ++ [x]) = t from by unfold trim; rw [if_pos (by rw [EL.out]; omega), hyt]; rfl)
    have htl : t.length = n - 1 := by have := EL.out; rw [hyt] at this; simp at this; omega
    rw [hyt] at LT
    have LF := Lib.hid (show LiesT 23 w4 (.slice (some ⟨g, 1, none⟩) (n - 1) (sc - 1)) t from by rw [← htl]; exact LiesT.tail LT.out (some ⟨g, 1, none⟩) (fun _ => rfl) (by simp))
    subst h65
    have K4 : Kp [50] k w4 (w4.setCell ⟨k + 1 + 1, 0, none⟩ (.slice (some ⟨g, 1, none⟩) 64 (sc - 1))) := Kp.set M2.out (by omega) (by simp)
    have N1 := (Below.heap_setCell w4 ⟨k + 1 + 1, 0, none⟩ (.slice (some ⟨g, 1, none⟩) 64 (sc - 1)) (k + 1) (by show ¬ (k + 1 = k + 1 + 1); omega)).trans M1.out
    have EN := Lib.hid (end2 (u := .slice (some ⟨g, 1, none⟩) 64 (sc - 1)) (u' := .slice none 0 0) N1 (Nat.le_succ k))
    have FF := Lib.hid (LF.out.kp (K4.trans EN.out.2.2) (by simp))
    have FB := Lib.hid (BW.out.trans (by rw [HK.out]; exact (K4.trans EN.out.2.2).bel))
    have hc1 : ¬ (sc = 1) := by omega
    have h1n : (65 : Int) ≤ (sc : Int) := by omega
    have h2n : (1 : Int) ≤ (sc : Int) := by omega
    clear htl hyt K4 N1 LT O2 LF
    go_wp2
    obtain ⟨d0, d1, -⟩ := EN.out
    generalize World.setCell (World.setCell (World.setCell w4 ⟨k + 1 + 1, 0, none⟩ (.slice (some ⟨g, 1, none⟩) 64 (sc - 1))) ⟨k + 1, 0, none⟩ (.slice (some ⟨g, 1, none⟩) 64 (sc - 1))) ⟨k + 1, 1, none⟩ (.slice none 0 0) = WF at *
    refine bodyPost_ret (by simp [results, Try.results21, go_sem, d0, d1]; try rfl) rfl ?_
    exact ⟨_, rfl, by rw [TR.out]; exact FF.out, by have h := FB.out; first | exact h | (rw [HK.out] at h; exact h)⟩
  · have TR := Lib.hid (show trim (D ++ [x]) = D ++ [x] from by unfold trim; rw [if_neg (by rw [EL.out]; omega)])
    have hgt : ¬ ((64 : Int) < (n : Int)) := by omega
    have EN := Lib.hid (end2 (u := .slice sa n sc) (u' := .slice none 0 0) M1.out (Nat.le_succ k))
    have FF := Lib.hid (LT.out.kp EN.out.2.2 (by simp))
    have FB := Lib.hid (BW.out.trans (by rw [HK.out]; exact EN.out.2.2.bel))
    clear O2 LT
    go_wp2
    obtain ⟨d0, d1, -⟩ := EN.out
    generalize World.setCell (World.setCell w4 ⟨k + 1, 0, none⟩ (.slice sa n sc)) ⟨k + 1, 1, none⟩ (.slice none 0 0) = WF at *
    refine bodyPost_ret (by simp [results, Try.results21, go_sem, d0, d1]; try rfl) rfl ?_
    exact ⟨_, rfl, by rw [TR.out]; exact FF.out, by have h := FB.out; first | exact h | (rw [HK.out] at h; exact h)⟩
end Go.Proofs.Ythbmbpnpigpgpaa
