/- A disk: Cut, Remove, Rename. Made by gendx10.py. -/
import Derived.Test.YtgbihpfpiaacfaaGreatDoorDT
set_option linter.unusedVariables false
set_option linter.unusedSimpArgs false
set_option maxRecDepth 100000
namespace Go.Proofs.YtgbihpfpiaacfaaGreatDoor
open Go.RowKit Go.WideMaps Go.Maps

theorem drop_far {l : List Fl} (h : l.Pairwise (fun x y => ∀ k, x.v.ownBlock = some k → y.v.ownBlock ≠ some k)) (nm : ByteArray) : (dropF l nm).Pairwise (fun x y => ∀ k, x.v.ownBlock = some k → y.v.ownBlock ≠ some k) := h.filter _
theorem drop_mem {l : List Fl} {nm : ByteArray} {x : Fl} (h : x ∈ dropF l nm) : x ∈ l ∧ x.n ≠ nm := by
  obtain ⟨h1, h2⟩ := List.mem_filter.1 h
  unfold isN at h2
  exact ⟨h1, by simpa using h2⟩
/-- A file taken away. -/
theorem Out.dropped {w w2 : World} {B d b : Nat} {s : DS} (h : DK w B d s) (hm : s.m = some b) (nm : ByteArray) (hd : DM w2 b (dropF s.l nm)) (hg : w.grownBy w2 (some b)) : Out B d s { s with l := dropF s.l nm } w w2 := by
  have f7 : Far (fun k => k = b) w w2 := Far.of_grown hg (fun k e => by injection e with e; exact e.symm)
  refine Out.turned h hm (dropF s.l nm) (fun _ => False) ⟨f7.os, f7.tape, f7.output, f7.size, fun k hk q => f7.block k hk (fun e => q (.inl e))⟩ (fun k q => q.elim) hd (fun x hx => f7.row (h.rows x (drop_mem hx).1) (fun j e q => by subst q; exact h.nm hm x (drop_mem hx).1 e)) (drop_far h.far nm) (fun x hx k e => .inl ⟨x, (drop_mem hx).1, e⟩) ?_ (fun x hx => h.sure x (drop_mem hx).1)
  have := usedF_filter s.l (fun y => !isN nm y)
  have := h.fits
  unfold dropF
  omega
/-- A file with another name. -/
theorem Out.renamed {w w2 : World} {B d b : Nat} {s : DS} (h : DK w B d s) (hm : s.m = some b) {y : Fl} (hy : y ∈ s.l) (nt : ByteArray) (hd : DM w2 b (setF (dropF s.l y.n) ⟨nt, y.a, y.c, y.b, y.s⟩)) (hf : Far (fun k => k = b) w w2) : Out B d s { s with l := setF (dropF s.l y.n) ⟨nt, y.a, y.c, y.b, y.s⟩ } w w2 := by
  have hne : ∀ x ∈ dropF s.l y.n, x ≠ y := fun x hx e => (drop_mem hx).2 (by rw [e])
  refine Out.turned h hm (setF (dropF s.l y.n) ⟨nt, y.a, y.c, y.b, y.s⟩) (fun _ => False) ⟨hf.os, hf.tape, hf.output, hf.size, fun k hk q => hf.block k hk (fun e => q (.inl e))⟩ (fun k q => q.elim) hd ?_ ?_ ?_ ?_ ?_
  · intro x hx
    rcases mem_set.1 hx with rfl | ⟨hx, _⟩
    · exact hf.row (h.rows y hy) (fun j e q => by subst q; exact h.nm hm y hy e)
    · exact hf.row (h.rows x (drop_mem hx).1) (fun j e q => by subst q; exact h.nm hm x (drop_mem hx).1 e)
  · exact far_set_pair (drop_far h.far _) (fun x hx _ k e1 e2 => far_one h.far (drop_mem hx).1 hy (hne x hx) k e1 e2)
  · intro x hx k e
    rcases mem_set.1 hx with rfl | ⟨hx, _⟩
    · exact .inl ⟨y, hy, e⟩
    · exact .inl ⟨x, (drop_mem hx).1, e⟩
  · rw [usedF_set]
    have h1 := usedF_filter (dropF s.l y.n) (fun x => !sameN x ⟨nt, y.a, y.c, y.b, y.s⟩)
    obtain ⟨p, q, e⟩ := List.append_of_mem hy
    have hp : s.l.Perm (y :: (p ++ q)) := by rw [e]; exact List.perm_middle
    have e2 : usedF (dropF s.l y.n) ≤ usedF (p ++ q) := by
      unfold dropF
      rw [usedF_perm (hp.filter _), List.filter_cons, show isN y.n y = true by simp [isN]]
      simp only [Bool.not_true, Bool.false_eq_true, if_false]
      exact usedF_filter _ _
    have e3 := usedF_perm hp
    rw [usedF_cons] at e3
    have := h.fits
    dsimp only
    omega
  · intro x hx
    rcases mem_set.1 hx with rfl | ⟨hx, _⟩
    · exact h.sure y hy
    · exact h.sure x (drop_mem hx).1
set_option maxHeartbeats 1600000 in
theorem remove_stop (w : World) (B d : Nat) (s : DS) (h : DK w B d s) (nm : ByteArray) (hs : nm.size ≤ maxLen)  (hf : fnd s nm = 12 ∨ fnd s nm = 8) :
    Calls Tryz.prog 44 #[pv d, .string nm] w fun e w' => e = .returned (.int .i64 (fnd s nm)) ∧ Below w.heap.size w w' := by
  have F := Lib.hid (find_any w B d s h nm hs)
  clear h
  generalize fval s nm = y at *
  rcases hf with hf | hf <;> rw [hf] at F ⊢
  all_goals
    go_enter Tryz.func44, Tryz.ntmps44
    go_wp2_with fail
    refine F.out.mono ?_
    rintro e w1 ⟨rfl, hb⟩
    have B2 := Lib.hid hb
    clear hb
    go_wp2
    go_returns
    exact ⟨rfl, B2.out.trans ((vstep w1 _).mono B2.out.size)⟩
set_option maxHeartbeats 1600000 in
theorem cut_stop (w : World) (B d : Nat) (s : DS) (h : DK w B d s) (nm : ByteArray) (hs : nm.size ≤ maxLen) (n : Int) (hf : fnd s nm = 12 ∨ fnd s nm = 8) :
    Calls Tryz.prog 74 #[pv d, .string nm, .int .i64 n] w fun e w' => e = .returned (.int .i64 (fnd s nm)) ∧ Below w.heap.size w w' := by
  have F := Lib.hid (find_any w B d s h nm hs)
  clear h
  generalize fval s nm = y at *
  rcases hf with hf | hf <;> rw [hf] at F ⊢
  all_goals
    go_enter Tryz.func74, Tryz.ntmps74
    go_wp2_with fail
    refine F.out.mono ?_
    rintro e w1 ⟨rfl, hb⟩
    have B2 := Lib.hid hb
    clear hb
    go_wp2
    go_returns
    exact ⟨rfl, B2.out.trans ((vstep w1 _).mono B2.out.size)⟩
set_option maxHeartbeats 6400000 in
theorem remove_go (w : World) (B d : Nat) (s : DS) (h : DK w B d s) (nm : ByteArray) (hs : nm.size ≤ maxLen) (hl : s.l.length < 100000) (hf : fnd s nm = 0) :
    Calls Tryz.prog 44 #[pv d, .string nm] w fun e w' => (tk s 1 < 1 ∧ e = .returned (.int .i64 12) ∧ Out B d s (aft s 1) w w') ∨ (¬ tk s 1 < 1 ∧ e = .returned (.int .i64 0) ∧ Out B d s { aft s 1 with l := dropF s.l nm } w w') := by
  have F := Lib.hid (find_any w B d s h nm hs)
  have ST := Lib.hid (fun (W : World) (hb : Below w.heap.size w W) => step_any W B d s (h.step hb))
  obtain ⟨hy1, hy2, b, hm⟩ := fval_mem h hf
  rw [hf] at F
  have BASE := Lib.hid h.base
  have HL := Lib.hid hl
  have HS := Lib.hid hs
  obtain ⟨t, ht⟩ : ∃ t, aft s 1 = t := ⟨_, rfl⟩
  have TT := Lib.hid (show t.l = s.l ∧ t.m = some b from by rw [← ht, aft_l, aft_m]; exact ⟨rfl, hm⟩)
  rw [ht] at ST ⊢
  have HY := Lib.hid (And.intro hy1 hy2)
  have hcap := own_cap (show w.ownsRow B 5 1 (.slice (fval s nm).a (fval s nm).b.length (fval s nm).c) _ _ from h.rows _ hy1)
  clear h hs hl ht hm hy1 hy2
  generalize fval s nm = y at *
  by_cases hz : tk s 1 < 1
  · simp only [if_pos hz] at ST
    simp only [hz, true_and, not_true_eq_false, false_and, or_false]
    go_enter Tryz.func44, Tryz.ntmps44
    go_wp2_with fail
    refine F.out.mono ?_
    rintro e w1 ⟨rfl, hb⟩
    have B2 := Lib.hid (hb.trans ((vstep w1 (.cells #[.slice y.a y.b.length y.c, .int .i64 y.s] 82)).mono hb.size))
    have G2 := FB.new w1 (.slice y.a y.b.length y.c) y.s
    obtain ⟨W2, hW2⟩ : ∃ z, w1.alloc (.cells #[.slice y.a y.b.length y.c, .int .i64 y.s] 82) = z := ⟨_, rfl⟩
    rw [hW2] at B2 G2
    obtain ⟨g0, g1⟩ := G2.cells
    have HW2 := Lib.hid hW2
    have ST2 := Lib.hid (ST.out W2 B2.out)
    clear hW2 hb G2
    go_upto_region 2 with (fail)
    rw [HW2.out]
    go_wp2_with fail
    refine ST2.out.mono ?_
    rintro e w3 ⟨rfl, ho⟩
    have O3 := Lib.hid (Out.of_below B2.out ho)
    clear ho
    go_wp2
    go_returns
    exact ⟨rfl, O3.out⟩
  · simp only [if_neg hz] at ST
    simp only [hz, false_and, not_false_eq_true, true_and, false_or]
    go_enter Tryz.func44, Tryz.ntmps44
    go_wp2_with fail
    refine F.out.mono ?_
    rintro e w1 ⟨rfl, hb⟩
    have B2 := Lib.hid (hb.trans ((vstep w1 (.cells #[.slice y.a y.b.length y.c, .int .i64 y.s] 82)).mono hb.size))
    have G2 := Lib.hid (FB.new w1 (.slice y.a y.b.length y.c) y.s)
    have GE := Lib.hid hb.size
    obtain ⟨W2, hW2⟩ : ∃ z, w1.alloc (.cells #[.slice y.a y.b.length y.c, .int .i64 y.s] 82) = z := ⟨_, rfl⟩
    rw [hW2] at B2 G2
    have HW2 := Lib.hid hW2
    have ST2 := Lib.hid (ST.out W2 B2.out)
    clear hW2 hb
    go_upto_region 2 with (fail)
    rw [HW2.out]
    generalize w1.heap.size = bx at *
    obtain ⟨g0, g1⟩ := G2.out.cells
    go_upto_region 4 with (fail)
    clear g0 g1
    go_wp2_with fail
    refine ST2.out.mono ?_
    rintro e w3 ⟨rfl, ho⟩
    have O3 := Lib.hid (Out.of_below B2.out ho)
    have NG : ¬ Has d s bx := fun q => by have := (BASE.out bx q).2; have := GE.out; omega
    have G3 := Lib.hid (show FB w3 bx (.slice y.a y.b.length y.c) y.s from G2.out.far ho.far NG)
    clear ho
    have hmem : y ∈ t.l := by rw [TT.out.1]; exact HY.out.1
    obtain ⟨c0, c1, c2, c3, c4⟩ := O3.out.dk.cells
    rw [TT.out.2] at c1
    clear c0 c2 c3 c4
    have DM3 := Lib.hid (dm_of O3.out.dk TT.out.2)
    go_wp2_with (at_delete; refine wpList_ddrop rfl (.tmp 25) (.tmp 26) rfl b t.l nm rfl DM3.out HS.out rfl ?_; intro w6 hd hg; have D6 := Lib.hid hd; have G6 := Lib.hid hg; clear hd hg)
    go_returns
    refine ⟨rfl, ?_⟩
    rw [← TT.out.1]
    exact O3.out.trans (Out.dropped O3.out.dk TT.out.2 nm D6.out G6.out)
theorem bx_map {w : World} {b g : Nat} {l : List Fl} {v : Value} {s : Int} (h : DM w b l) (hg : FB w g v s) : g ≠ b := by
  obtain ⟨es, ⟨en, c, hb', _⟩, _⟩ := h
  intro e
  subst e
  rw [show w.heap[g]? = _ from hg] at hb'
  cases hb'
set_option maxHeartbeats 3200000 in
theorem cut_arg (w : World) (B d : Nat) (s : DS) (h : DK w B d s) (nm : ByteArray) (hs : nm.size ≤ maxLen) (n : Int) (hf : fnd s nm = 0) (hn : n < 0 ∨ ((fval s nm).b.length : Int) < n) :
    Calls Tryz.prog 74 #[pv d, .string nm, .int .i64 n] w fun e w' => e = .returned (.int .i64 2) ∧ Below w.heap.size w w' := by
  have F := Lib.hid (find_any w B d s h nm hs)
  rw [hf] at F
  clear h
  generalize fval s nm = y at *
  by_cases h1 : n < 0
  · clear hn
    go_enter Tryz.func74, Tryz.ntmps74
    go_wp2_with fail
    refine F.out.mono ?_
    rintro e w1 ⟨rfl, hb⟩
    have B2 := Lib.hid hb
    clear hb
    go_wp2
    go_returns
    exact ⟨rfl, B2.out.trans ((vstep w1 _).mono B2.out.size)⟩
  · have h2 := hn.resolve_left h1
    clear hn
    go_enter Tryz.func74, Tryz.ntmps74
    go_wp2_with fail
    refine F.out.mono ?_
    rintro e w1 ⟨rfl, hb⟩
    have B2 := Lib.hid (hb.trans ((vstep w1 (.cells #[.slice y.a y.b.length y.c, .int .i64 y.s] 82)).mono hb.size))
    have G2 := FB.new w1 (.slice y.a y.b.length y.c) y.s
    obtain ⟨W2, hW2⟩ : ∃ z, w1.alloc (.cells #[.slice y.a y.b.length y.c, .int .i64 y.s] 82) = z := ⟨_, rfl⟩
    rw [hW2] at B2 G2
    obtain ⟨g0, g1⟩ := G2.cells
    have HW2 := Lib.hid hW2
    clear hW2 hb G2
    go_upto_region 2 with (fail)
    rw [HW2.out]
    go_wp2
    go_returns
    exact ⟨rfl, B2.out⟩
set_option maxHeartbeats 6400000 in
theorem cut_go (w : World) (B d : Nat) (s : DS) (h : DK w B d s) (nm : ByteArray) (hs : nm.size ≤ maxLen) (hl : s.l.length < 100000) (n : Nat) (hf : fnd s nm = 0) (hn : n ≤ (fval s nm).b.length) :
    Calls Tryz.prog 74 #[pv d, .string nm, .int .i64 (n : Int)] w fun e w' => (tk s 1 < 1 ∧ e = .returned (.int .i64 12) ∧ Out B d s (aft s 1) w w') ∨ (¬ tk s 1 < 1 ∧ e = .returned (.int .i64 0) ∧ Out B d s { aft s 1 with l := setF s.l (cutF (fval s nm) n) } w w') := by
  have F := Lib.hid (find_any w B d s h nm hs)
  have ST := Lib.hid (fun (W : World) (hb : Below w.heap.size w W) => step_any W B d s (h.step hb))
  obtain ⟨hy1, hy2, b, hm⟩ := fval_mem h hf
  rw [hf] at F
  have BASE := Lib.hid h.base
  have HL := Lib.hid hl
  have HS := Lib.hid hs
  obtain ⟨t, ht⟩ : ∃ t, aft s 1 = t := ⟨_, rfl⟩
  have TT := Lib.hid (show t.l = s.l ∧ t.m = some b from by rw [← ht, aft_l, aft_m]; exact ⟨rfl, hm⟩)
  rw [ht] at ST ⊢
  have HY := Lib.hid (And.intro hy1 hy2)
  have hcap := own_cap (show w.ownsRow B 5 1 (.slice (fval s nm).a (fval s nm).b.length (fval s nm).c) _ _ from h.rows _ hy1)
  clear h hs hl ht hm hy1 hy2
  generalize fval s nm = y at *
  have n1 : ¬ ((n : Int) < 0) := by omega
  have n2 : ¬ ((y.b.length : Int) < (n : Int)) := by omega
  by_cases hz : tk s 1 < 1
  · simp only [if_pos hz] at ST
    simp only [hz, true_and, not_true_eq_false, false_and, or_false]
    go_enter Tryz.func74, Tryz.ntmps74
    go_wp2_with fail
    refine F.out.mono ?_
    rintro e w1 ⟨rfl, hb⟩
    have B2 := Lib.hid (hb.trans ((vstep w1 (.cells #[.slice y.a y.b.length y.c, .int .i64 y.s] 82)).mono hb.size))
    have G2 := FB.new w1 (.slice y.a y.b.length y.c) y.s
    obtain ⟨W2, hW2⟩ : ∃ z, w1.alloc (.cells #[.slice y.a y.b.length y.c, .int .i64 y.s] 82) = z := ⟨_, rfl⟩
    rw [hW2] at B2 G2
    obtain ⟨g0, g1⟩ := G2.cells
    have HW2 := Lib.hid hW2
    have ST2 := Lib.hid (ST.out W2 B2.out)
    clear hW2 hb G2
    go_upto_region 2 with (fail)
    rw [HW2.out]
    go_wp2_with fail
    refine ST2.out.mono ?_
    rintro e w3 ⟨rfl, ho⟩
    have O3 := Lib.hid (Out.of_below B2.out ho)
    clear ho
    go_wp2
    go_returns
    exact ⟨rfl, O3.out⟩
  · simp only [if_neg hz] at ST
    simp only [hz, false_and, not_false_eq_true, true_and, false_or]
    go_enter Tryz.func74, Tryz.ntmps74
    go_wp2_with fail
    refine F.out.mono ?_
    rintro e w1 ⟨rfl, hb⟩
    have B2 := Lib.hid (hb.trans ((vstep w1 (.cells #[.slice y.a y.b.length y.c, .int .i64 y.s] 82)).mono hb.size))
    have G2 := Lib.hid (FB.new w1 (.slice y.a y.b.length y.c) y.s)
    have GE := Lib.hid hb.size
    obtain ⟨W2, hW2⟩ : ∃ z, w1.alloc (.cells #[.slice y.a y.b.length y.c, .int .i64 y.s] 82) = z := ⟨_, rfl⟩
    rw [hW2] at B2 G2
    have HW2 := Lib.hid hW2
    have ST2 := Lib.hid (ST.out W2 B2.out)
    clear hW2 hb
    go_upto_region 2 with (fail)
    rw [HW2.out]
    generalize w1.heap.size = bx at *
    obtain ⟨g0, g1⟩ := G2.out.cells
    go_upto_region 6 with (fail)
    clear g0 g1
    go_wp2_with fail
    refine ST2.out.mono ?_
    rintro e w3 ⟨rfl, ho⟩
    have O3 := Lib.hid (Out.of_below B2.out ho)
    have NG : ¬ Has d s bx := fun q => by have := (BASE.out bx q).2; have := GE.out; omega
    have G3 := Lib.hid (show FB w3 bx (.slice y.a y.b.length y.c) y.s from G2.out.far ho.far NG)
    clear ho
    have hmem : y ∈ t.l := by rw [TT.out.1]; exact HY.out.1
    obtain ⟨c0, c1, c2, c3, c4⟩ := O3.out.dk.cells
    rw [TT.out.2] at c1
    clear c0 c2 c3 c4
    have C1 := Lib.hid c1
    clear c1
    have S2 := Lib.hid (show (w3.drew.cell? ⟨d, 1, none⟩ = some (.map (some b)) ∧ FB w3.drew bx (.slice y.a y.b.length y.c) y.s) from ⟨C1.out, G3.out⟩)
    have FI := Lib.hid (fun W => first_any W y.a y.b.length y.c y.s n (by have := hcap.1; omega) hcap.2)
    have HN := Lib.hid hn
    have PUT := Lib.hid (fun (v1 : World) (hb : Below w3.heap.size w3 v1) => (show ∃ w7, (Instr.mapUpdate 68 (.map (some b)) (.string nm) (.agg #[.slice y.a n y.c, .int .i64 (n : Int)])).run Tryz.prog v1 = .ok () w7 ∧ (w7.cell? ⟨d, 1, none⟩ = some (.map (some b)) ∧ FB w7 bx (.slice y.a y.b.length y.c) y.s) ∧ Out B d s { t with l := setF s.l (cutF y n) } w w7 from by
      have o1 := O3.out.then_below hb
      obtain ⟨w7, r1, r2, r3⟩ := (dm_of o1.dk TT.out.2).put (x := cutF y n) (by show y.n.size ≤ maxLen; rw [HY.out.2]; exact HS.out) (by rw [TT.out.1]; have := HL.out; unfold maxLen; omega)
      have hcl : (cutF y n).b.length = n := cut_len HN.out
      have o2 := Out.cut o1.dk TT.out.2 hmem HN.out r2 r3
      have o3 := o1.trans o2
      refine ⟨w7, ?_, ⟨?_, ?_⟩, ?_⟩
      · have r1' := r1
        unfold fv at r1'
        rw [hcl, show (cutF y n).n = nm from HY.out.2] at r1'
        exact r1'
      · have := o3.dk.cells.2.1
        rw [show ({ t with l := setF t.l (cutF y n) } : DS).m = some b from TT.out.2] at this
        exact this
      · exact (G3.out.step hb).far (Far.of_grown (P := fun k => k = b) r3 (fun k e => by injection e with e; exact e.symm)) (bx_map (dm_of o1.dk TT.out.2) (G3.out.step hb))
      · rw [← TT.out.1]
        exact o3))
    go_upto_region 9 with (fail)
    refine wp_region_held_drew (S := fun W => W.cell? ⟨d, 1, none⟩ = some (.map (some b)) ∧ FB W bx (.slice y.a y.b.length y.c) y.s) (by kernel_rfl) S2.out (fun _ => ?_)
    refine take_at (i := 0) 33 ?_ rfl rfl (by kernel_rfl) (by kernel_rfl) (by kernel_rfl) (fun _ _ _ h => h) (.inl ⟨rfl, ?_⟩) S2.out ?_
    rotate_left 1
    · intro w hSw; go_simp; try with_reducible rfl
    simp only [Act.put, List.setIfInBounds_toArray, List.set_cons_zero, List.set_cons_succ]
    refine take_at (i := 1) 34 ?_ rfl rfl (by kernel_rfl) (by kernel_rfl) (by kernel_rfl) (fun _ _ _ h => h) (.inl ⟨rfl, ?_⟩) S2.out ?_
    rotate_left 1
    · intro w hSw; go_simp; try with_reducible rfl
    simp only [Act.put, List.setIfInBounds_toArray, List.set_cons_zero, List.set_cons_succ]
    refine take_at (i := 2) 35 ?_ rfl rfl (by kernel_rfl) (by kernel_rfl) (by kernel_rfl) (fun _ _ _ h => h) (.inl ⟨rfl, ?_⟩) S2.out ?_
    rotate_left 1
    · intro w hSw; go_simp; try with_reducible rfl
    simp only [Act.put, List.setIfInBounds_toArray, List.set_cons_zero, List.set_cons_succ]
    refine take_at (i := 3) 36 (.map (some b)) rfl rfl (by kernel_rfl) (by kernel_rfl) (by kernel_rfl) (fun _ _ _ h => h) (yields_ld (.tmp 35) 68 (.pointer (some ⟨d, 1, none⟩)) _ (fun W hS => ldM56 hS.1) rfl rfl rfl) S2.out ?_
    simp only [Act.put, List.setIfInBounds_toArray, List.set_cons_zero, List.set_cons_succ]
    refine take_at (i := 4) 37 ?_ rfl rfl (by kernel_rfl) (by kernel_rfl) (by kernel_rfl) (fun _ _ _ h => h) (.inl ⟨rfl, ?_⟩) S2.out ?_
    rotate_left 1
    · intro w hSw; go_simp; try with_reducible rfl
    simp only [Act.put, List.setIfInBounds_toArray, List.set_cons_zero, List.set_cons_succ]
    refine take_at (i := 5) 38 (.agg #[.slice y.a y.b.length y.c, .int .i64 y.s]) rfl rfl (by kernel_rfl) (by kernel_rfl) (by kernel_rfl) (fun _ _ _ h => h) (yields_ld (.tmp 7) 82 (.pointer (some ⟨bx, 0, none⟩)) _ (fun W hS => ldS69 hS.2) rfl rfl rfl) S2.out ?_
    simp only [Act.put, List.setIfInBounds_toArray, List.set_cons_zero, List.set_cons_succ]
    refine take_at (i := 6) 39 ?_ rfl rfl (by kernel_rfl) (by kernel_rfl) (by kernel_rfl) (fun _ _ _ h => h) (.inl ⟨rfl, ?_⟩) S2.out ?_
    rotate_left 1
    · intro w hSw; go_simp; try with_reducible rfl
    simp only [Act.put, List.setIfInBounds_toArray, List.set_cons_zero, List.set_cons_succ]
    refine wpAnyH_ready (rs := [7]) (by kernel_rfl) (by simp) (br_call (i := 7) 40 46 #[.agg #[.slice y.a y.b.length y.c, .int .i64 y.s], .int .i64 (n : Int)] rfl rfl rfl (by go_simp) ((FI.out _).mono ?_) AllReadyH.nil)
    rintro e v1 ⟨rfl, hb⟩
    obtain ⟨w7, r7, S7, N7⟩ := PUT.out v1 ((Below.refl w3.heap.size w3).drew.trans hb)
    have R7 := Lib.hid r7
    have S7 := Lib.hid S7
    have N7 := Lib.hid N7
    refine ⟨_, rfl, ⟨(hb.cell (p := ⟨d, 1, none⟩) (lt_of_cell S2.out.1)).trans S2.out.1, S2.out.2.step hb⟩, fun _ => ?_⟩
    clear hb r7
    simp only [Act.put, List.setIfInBounds_toArray, List.set_cons_zero, List.set_cons_succ]
    refine wpAnyH_ready (rs := [8]) (by kernel_rfl) (by simp) (br_put (i := 8) 68 (.tmp 36) (.tmp 37) (.tmp 40) _ _ _ w7 rfl rfl rfl rfl rfl rfl rfl R7.out S7.out (fun _ => ?_) AllReadyH.nil)
    simp only [Act.put, List.setIfInBounds_toArray, List.set_cons_zero, List.set_cons_succ]
    refine wpAnyH_done (by kernel_rfl) ?_ _
    go_wp2
    go_returns
    exact ⟨rfl, N7.out⟩
end Go.Proofs.YtgbihpfpiaacfaaGreatDoor

