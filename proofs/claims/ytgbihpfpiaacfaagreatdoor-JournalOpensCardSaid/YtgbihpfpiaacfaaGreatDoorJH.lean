/- Open. Made by genjh12.py. -/
import Derived.Test.YtgbihpfpiaacfaaGreatDoorJF
set_option linter.unusedVariables false
set_option linter.unusedSimpArgs false
set_option maxRecDepth 100000
namespace Go.Proofs.YtgbihpfpiaacfaaGreatDoor
open Go.RowKit Go.Shelf Go.WideMaps Go.Maps

theorem open_nil (w : World) : Calls Tryz.prog 11 #[.pointer none, .int .i64 64] w fun e w' => e = .returned (.tuple #[.pointer none, .slice none 0 0, .int .i64 1]) ∧ w = w' := by
  go_enter Tryz.func11, Tryz.ntmps11
  go_wp2
  go_returns
  exact ⟨rfl, rfl⟩
theorem open_down (w : World) (B d : Nat) (s : DS) (h : DK w B d s) (hd : s.dn = true) : Calls Tryz.prog 11 #[pv d, .int .i64 64] w fun e w' => e = .returned (.tuple #[.pointer none, .slice none 0 0, .int .i64 12]) ∧ w = w' := by
  have D := Lib.hid (down_any w B d s h)
  rw [hd] at D
  go_enter Tryz.func11, Tryz.ntmps11
  go_wp2_with fail
  refine D.out.mono ?_
  rintro e w1 ⟨rfl, rfl⟩
  go_wp2
  go_returns
  exact ⟨rfl, rfl⟩
theorem read_one (w : World) (B q d : Nat) (s : DS) (most sz : Int) (l : Nat) (h : JK w B q d s most (l : Int) l sz) (hl : 1 ≤ l ∧ l < 100) (hf : fnd s (sg l) = 0) (bs : List Nat) (hx : (fval s (sg l)).b = bi bs) (hb : Rc.Byt bs) (hlen : bs.length ≤ 600)
    (hw : Rc.takes (Rc.recs bs) = bs.length) (hs : (fval s (sg l)).s = (bs.length : Int)) (hfs : ∀ x ∈ s.l, x.b.length ≤ 100000000) (g cap : Nat) (hg : w.cell? ⟨g, 0, none⟩ = some (.int .i64 (l : Int))) :
    Calls Tryz.prog 39 #[.pointer (some ⟨q, 0, none⟩), .slice (some ⟨g, 0, none⟩) 1 cap] w fun e w' => ∃ v, e = .returned (.tuple #[v, .int .i64 0]) ∧ Says w' w.heap.size v ((Rc.recs bs).map (·.2)) ∧ JK w' B q d s most l l bs.length ∧ Far (Lh d s q) w w' :=
  callsIn_wide.1 (read_in 4 (Nat.le_refl _) w B q d s most sz l h hl hf bs hx hb hlen hw hs hfs g cap hg)
set_option maxHeartbeats 6400000 in
theorem open_one (w : World) (B d : Nat) (s : DS) (h : DK w B d s) (hB : B ≤ w.heap.size) (hd : s.dn = false) (most : Int) (hm : 16 ≤ most ∧ most ≤ 16777216) (x : Fl) (hl : s.l = [x]) (hx : x.n = sg 1) (bs : List Nat) (hxb : x.b = bi bs) (hb : Rc.Byt bs) (hlen : bs.length ≤ 600) (hw : Rc.takes (Rc.recs bs) = bs.length) (hs : x.s = (bs.length : Int)) :
    Calls Tryz.prog 11 #[pv d, .int .i64 most] w fun e w' => ∃ q sv, e = .returned (.tuple #[.pointer (some ⟨q, 0, none⟩), sv, .int .i64 0]) ∧ w.heap.size ≤ q ∧ JK w' B q d s most 1 1 bs.length ∧ Says w' w.heap.size sv ((Rc.recs bs).map (·.2)) ∧ Far (Has d s) w w' := by
  have D := Lib.hid (down_any w B d s h)
  rw [hd] at D
  have SG := Lib.hid (segs_any w B d s h [1] (by rw [hl]; show [x.n] = _; rw [hx]; rfl) (by intro n hn; rw [List.mem_singleton.1 hn]; omega) (by simp))
  have HD := Lib.hid h
  have G1 := Lib.hid (show getF s.l (sg 1) = some x from by
    rw [hl]
    unfold getF isN
    simp [hx])
  have F0 := Lib.hid (show fnd s (sg 1) = 0 ∧ fval s (sg 1) = x from by
    unfold fnd fval
    rw [hd, G1.out]
    exact ⟨rfl, rfl⟩)
  have RP := Lib.hid (And.intro hb (And.intro hlen (And.intro hw hs)))
  have HXB := Lib.hid hxb
  have HFS := Lib.hid (show ∀ y ∈ s.l, y.b.length ≤ 100000000 from by
    intro y hy
    rw [hl] at hy
    rw [List.mem_singleton.1 hy, hxb, bi_len]
    omega)
  have HB := Lib.hid hB
  have SUB := Lib.hid (show ∀ k, k < w.heap.size → Has d s k → Has d s k from fun _ _ e => e)
  have hm1 : ¬ (most < 16) := by omega
  have hm2 : ¬ (16777216 < most) := by omega
  clear h hl hx hxb hb hlen hw hs hB hd
  go_enter Tryz.func11, Tryz.ntmps11
  go_wp2_with fail
  refine D.out.mono ?_
  rintro e w1 ⟨rfl, rfl⟩
  go_wp2_with fail
  refine SG.out.mono ?_
  rintro e w2 ⟨nv, ks, rfl, ho, hp, -, hb2⟩
  have hk : ks = [1] := List.perm_singleton.1 hp
  subst hk
  obtain ⟨g, cap, rfl⟩ : ∃ g cap, nv = .slice (some ⟨g, 0, none⟩) 1 cap := by
    rcases ho.2 with ⟨_, e⟩ | ⟨g, cap, _, e, _⟩
    · cases e
    · exact ⟨g, cap, e⟩
  have GC := Lib.hid (show ∀ W, Below w2.heap.size w2 W → W.cell? ⟨g, 0, none⟩ = some (.int .i64 1) from fun W hW => by
    have := (own_belowK ho hW).cells (g := g) rfl 0 (.int .i64 1) rfl
    rwa [rk_addr, Nat.zero_add] at this)
  have FT := Lib.hid (show Far (Has d s) w w2 from Far.of_below hb2)
  have D2 := Lib.hid (HD.out.step hb2)
  clear ho hp hb2 D SG
  obtain ⟨WT, hWT⟩ : ∃ z, w2 = z := ⟨_, rfl⟩
  rw [hWT] at GC FT D2 ⊢
  clear hWT
  go_wp2_with fail
  have hgc := GC.out WT (Below.refl _ _)
  go_region
  have NB := Lib.hid (show ((WT.alloc (.cells #[pv d, .int .i64 most, .int .i64 1, .int .i64 1, .int .i64 0] 74)).drew).heap[WT.heap.size]? = some (.cells #[pv d, .int .i64 most, .int .i64 1, .int .i64 1, .int .i64 0] 74 (0, 0)) from heap_alloc_new WT _)
  have BA := Lib.hid (vstep WT (.cells #[pv d, .int .i64 most, .int .i64 1, .int .i64 1, .int .i64 0] 74)).drew
  obtain ⟨WV, hWV⟩ : ∃ z, (WT.alloc (.cells #[pv d, .int .i64 most, .int .i64 1, .int .i64 1, .int .i64 0] 74)).drew = z := ⟨_, rfl⟩
  rw [hWV] at NB BA ⊢
  obtain ⟨q, hq⟩ : ∃ z, WT.heap.size = z := ⟨_, rfl⟩
  have JV := Lib.hid (show JK WV B q d s most 1 1 0 from ⟨D2.out.step BA.out, by rw [← hq]; exact NB.out, fun e => by have := (D2.out.base _ e).2; omega, by have := HB.out; have := FT.out.size; omega⟩)
  have HQ := Lib.hid hq
  rw [hq] at BA ⊢
  clear NB hWV hq hgc
  have c2 : WV.cell? ⟨q, 2, none⟩ = some (.int .i64 1) := (cell_of_row _ _ _ _ _ _ JV.out.box).trans rfl
  have c3 : WV.cell? ⟨q, 3, none⟩ = some (.int .i64 1) := (cell_of_row _ _ _ _ _ _ JV.out.box).trans rfl
  go_wp2_with fail
  go_region
  have BX := Lib.hid (show Below WV.heap.size WV WV.drew from (Below.refl _ _).drew)
  obtain ⟨WX, hWX⟩ : ∃ z, WV.drew = z := ⟨_, rfl⟩
  rw [hWX] at BX ⊢
  clear hWX c2 c3
  have JX := Lib.hid (JV.out.step BX.out)
  have BAX := Lib.hid (show Below WT.heap.size WT WX from by rw [HQ.out]; exact BA.out.trans (BX.out.mono (by have := BA.out.size; have := HQ.out; omega)))
  have RR := Lib.hid (read_one WX B q d s most 0 1 JX.out (by omega) F0.out.1 bs (by rw [F0.out.2]; exact HXB.out) RP.out.1 RP.out.2.1 RP.out.2.2.1 (by rw [F0.out.2]; exact RP.out.2.2.2) HFS.out g cap (GC.out WX BAX.out))
  go_wp2_with fail
  refine RR.out.mono ?_
  rintro e WY ⟨v, rfl, hsy, hjy, hfy⟩
  have EN := Lib.hid (And.intro hsy (And.intro hjy hfy))
  clear hsy hjy hfy RR
  go_wp2
  go_returns
  have hwx : w.heap.size ≤ WX.heap.size := Nat.le_trans FT.out.size (BAX.out.size)
  have hqw : w.heap.size ≤ q := by rw [← HQ.out]; exact FT.out.size
  obtain ⟨vs, h1, h2, h3⟩ := EN.out.1
  refine ⟨q, v, rfl, hqw, EN.out.2.1, ⟨vs, own_lower h1 hwx, h2, h3⟩, (FT.out.trans (Far.of_below (P := fun _ => False) BAX.out) (fun _ _ e => e.elim)).trans EN.out.2.2 ?_⟩
  rintro k hk (e | e)
  · exact SUB.out k hk e
  · omega
set_option maxHeartbeats 6400000 in
theorem open_new (w : World) (B d : Nat) (s : DS) (h : DK w B d s) (hB : B ≤ w.heap.size) (hd : s.dn = false) (ha : s.ar = false) (most : Int) (hm : 16 ≤ most ∧ most ≤ 16777216) (hl : s.l = []) :
    Calls Tryz.prog 11 #[pv d, .int .i64 most] w fun e w' => ∃ q sv m', e = .returned (.tuple #[.pointer (some ⟨q, 0, none⟩), sv, .int .i64 0]) ∧ w.heap.size ≤ q ∧ JK w' B q d { s with l := [zf (sg 1)], m := m' } most 1 1 0 ∧ Says w' w.heap.size sv [] ∧ Far (Has d s) w w' := by
  have D := Lib.hid (down_any w B d s h)
  rw [hd] at D
  have SG := Lib.hid (segs_any w B d s h [] (by rw [hl]; rfl) (by intro n hn; cases hn) (by simp))
  have HD := Lib.hid h
  have CE : crE s (sg 1) = 0 ∧ crS s (sg 1) = { s with l := [zf (sg 1)] } := by
    have f8 : fnd s (sg 1) = 8 := by unfold fnd; rw [hd, hl]; rfl
    unfold crE crS
    rw [f8, tk_un ha, aft_un ha, hl]
    exact ⟨rfl, by simp [setF]⟩
  have CR := Lib.hid (show ∀ W, Below w.heap.size w W → Calls Tryz.prog 33 #[pv d, .string (sg 1)] W (fun e w' => e = .returned (.int .i64 0) ∧ ∃ m', Out B d s { s with l := [zf (sg 1)], m := m' } W w') from fun W hb => by
    have := create_any W B d s (HD.out.step hb) (Nat.le_trans hB hb.size) (sg 1) (by have := sg_size (n := 1) (by omega); unfold maxLen; omega) (by rw [hl]; exact Nat.zero_lt_succ _)
    rw [CE.1, CE.2] at this
    exact this)
  have NM := Lib.hid (show ∀ W, Calls Tryz.prog 37 #[.int .i64 1] W (fun e w' => e = .returned (.string (sg 1)) ∧ W = w') from fun W => name_any W 1 (by omega) (by omega))
  have HB := Lib.hid hB
  have HDN := Lib.hid hd
  have hm1 : ¬ (most < 16) := by omega
  have hm2 : ¬ (16777216 < most) := by omega
  clear h hl hB hd ha CE
  go_enter Tryz.func11, Tryz.ntmps11
  go_wp2_with fail
  refine D.out.mono ?_
  rintro e w1 ⟨rfl, rfl⟩
  go_wp2_with fail
  refine SG.out.mono ?_
  rintro e w2 ⟨nv, ks, rfl, ho, hp, -, hb2⟩
  have hk : ks = [] := List.perm_nil.1 hp
  subst hk
  obtain ⟨ao, co, rfl⟩ : ∃ ao co, nv = .slice ao 0 co := by
    rcases ho.2 with ⟨e, _⟩ | ⟨g, cap, _, e, _⟩
    · exact ⟨none, 0, e⟩
    · exact ⟨_, cap, e⟩
  have B2 := Lib.hid hb2
  clear ho hp hb2 D SG
  go_wp2_with fail
  refine (NM.out _).mono ?_
  rintro e w3 ⟨rfl, rfl⟩
  go_wp2_with fail
  refine (CR.out _ B2.out).mono ?_
  rintro e w4 ⟨rfl, m', ho⟩
  have HO := Lib.hid ho
  clear ho CR NM
  go_wp2_with fail
  have NG := Lib.hid (heap_alloc_new w4 (.cells #[.int .i64 1] 3))
  have BG := Lib.hid (vstep w4 (.cells #[.int .i64 1] 3))
  obtain ⟨WT, hWT⟩ : ∃ z, w4.alloc (.cells #[.int .i64 1] 3) = z := ⟨_, rfl⟩
  rw [hWT] at NG BG ⊢
  obtain ⟨g, hg⟩ : ∃ z, w4.heap.size = z := ⟨_, rfl⟩
  have D2 := Lib.hid (HO.out.dk.step BG.out)
  have FT := Lib.hid (show Far (Has d s) w WT from ((Far.of_below (P := Has d s) B2.out).trans HO.out.far (fun _ _ e => e)).trans (Far.of_below (P := fun _ => False) BG.out) (fun _ _ e => e.elim))
  have SUB := Lib.hid (show ∀ k, k < w.heap.size → Has d { s with l := [zf (sg 1)], m := m' } k → Has d s k from fun k hk e => (HO.out.sub k e).elim id (fun e2 => by have := B2.out.size; omega))
  rw [hg] at NG BG ⊢
  have GC := Lib.hid (show ∀ W, Below WT.heap.size WT W → W.cell? ⟨g, 0, none⟩ = some (.int .i64 1) from fun W hW => (cell_of_row _ _ _ _ _ _ ((hW.block _ (lt_of_block NG.out)).trans NG.out)).trans rfl)
  have F0 := Lib.hid (show fnd { s with l := [zf (sg 1)], m := m' } (sg 1) = 0 ∧ fval { s with l := [zf (sg 1)], m := m' } (sg 1) = zf (sg 1) from by
    unfold fnd fval
    rw [show ({ s with l := [zf (sg 1)], m := m' } : DS).dn = false from HDN.out]
    unfold getF isN zf
    simp)
  have RP := Lib.hid (show Rc.Byt [] ∧ ([] : List Nat).length ≤ 600 ∧ Rc.takes (Rc.recs []) = ([] : List Nat).length ∧ (zf (sg 1)).s = ((([] : List Nat).length : Nat) : Int) from ⟨fun x hx => (by cases hx), (by simp), rfl, rfl⟩)
  have HXB := Lib.hid (show (zf (sg 1)).b = bi [] from rfl)
  have HFS := Lib.hid (show ∀ y ∈ ({ s with l := [zf (sg 1)], m := m' } : DS).l, y.b.length ≤ 100000000 from by
    intro y hy
    rw [List.mem_singleton.1 hy]
    exact Nat.zero_le _)
  clear hWT hg NG BG HO
  have hgc := GC.out WT (Below.refl _ _)
  go_region
  have NB := Lib.hid (show ((WT.alloc (.cells #[pv d, .int .i64 most, .int .i64 1, .int .i64 1, .int .i64 0] 74)).drew).heap[WT.heap.size]? = some (.cells #[pv d, .int .i64 most, .int .i64 1, .int .i64 1, .int .i64 0] 74 (0, 0)) from heap_alloc_new WT _)
  have BA := Lib.hid (vstep WT (.cells #[pv d, .int .i64 most, .int .i64 1, .int .i64 1, .int .i64 0] 74)).drew
  obtain ⟨WV, hWV⟩ : ∃ z, (WT.alloc (.cells #[pv d, .int .i64 most, .int .i64 1, .int .i64 1, .int .i64 0] 74)).drew = z := ⟨_, rfl⟩
  rw [hWV] at NB BA ⊢
  obtain ⟨q, hq⟩ : ∃ z, WT.heap.size = z := ⟨_, rfl⟩
  have JV := Lib.hid (show JK WV B q d { s with l := [zf (sg 1)], m := m' } most 1 1 0 from ⟨D2.out.step BA.out, by rw [← hq]; exact NB.out, fun e => by have := (D2.out.base _ e).2; omega, by have := HB.out; have := FT.out.size; omega⟩)
  have HQ := Lib.hid hq
  rw [hq] at BA ⊢
  clear NB hWV hq hgc
  have c2 : WV.cell? ⟨q, 2, none⟩ = some (.int .i64 1) := (cell_of_row _ _ _ _ _ _ JV.out.box).trans rfl
  have c3 : WV.cell? ⟨q, 3, none⟩ = some (.int .i64 1) := (cell_of_row _ _ _ _ _ _ JV.out.box).trans rfl
  go_wp2_with fail
  go_region
  have BX := Lib.hid (show Below WV.heap.size WV WV.drew from (Below.refl _ _).drew)
  obtain ⟨WX, hWX⟩ : ∃ z, WV.drew = z := ⟨_, rfl⟩
  rw [hWX] at BX ⊢
  clear hWX c2 c3
  have JX := Lib.hid (JV.out.step BX.out)
  have BAX := Lib.hid (show Below WT.heap.size WT WX from by rw [HQ.out]; exact BA.out.trans (BX.out.mono (by have := BA.out.size; have := HQ.out; omega)))
  have RR := Lib.hid (read_one WX B q d { s with l := [zf (sg 1)], m := m' } most 0 1 JX.out (by omega) F0.out.1 [] (by rw [F0.out.2]; exact HXB.out) RP.out.1 RP.out.2.1 RP.out.2.2.1 (by rw [F0.out.2]; exact RP.out.2.2.2) HFS.out g 1 (GC.out WX BAX.out))
  go_wp2_with fail
  refine RR.out.mono ?_
  rintro e WY ⟨v, rfl, hsy, hjy, hfy⟩
  have EN := Lib.hid (And.intro hsy (And.intro hjy hfy))
  clear hsy hjy hfy RR
  go_wp2
  go_returns
  have hwx : w.heap.size ≤ WX.heap.size := Nat.le_trans FT.out.size (BAX.out.size)
  have hqw : w.heap.size ≤ q := by rw [← HQ.out]; exact FT.out.size
  obtain ⟨vs, h1, h2, h3⟩ := EN.out.1
  refine ⟨q, v, m', rfl, hqw, EN.out.2.1, ⟨vs, own_lower h1 hwx, h2, h3⟩, (FT.out.trans (Far.of_below (P := fun _ => False) BAX.out) (fun _ _ e => e.elim)).trans EN.out.2.2 ?_⟩
  rintro k hk (e | e)
  · exact SUB.out k hk e
  · omega
end Go.Proofs.YtgbihpfpiaacfaaGreatDoor
