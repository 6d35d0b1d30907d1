/- A disk: Create. -/
import Derived.Test.YtgbihpfpiaacfaaGreatDoorDH
set_option linter.unusedVariables false
set_option linter.unusedSimpArgs false
set_option maxRecDepth 100000
namespace Go.Proofs.YtgbihpfpiaacfaaGreatDoor
open Go.RowKit Go.WideMaps Go.Maps

theorem fnd_cases (s : DS) (nm : ByteArray) : fnd s nm = 12 ∨ fnd s nm = 0 ∨ fnd s nm = 8 := by
  unfold fnd
  split
  · exact .inl rfl
  · split
    · exact .inr (.inl rfl)
    · exact .inr (.inr rfl)
theorem fnd_none {s : DS} {nm : ByteArray} (h : fnd s nm = 8) : getF s.l nm = none ∧ s.dn = false := by
  unfold fnd at h
  split at h
  · cases h
  · rename_i h1
    split at h
    · cases h
    · rename_i h2
      exact ⟨by cases hg : getF s.l nm with | none => rfl | some x => rw [hg] at h2; simp at h2, by simpa using h1⟩
theorem fnd_some {s : DS} {nm : ByteArray} (h : fnd s nm = 0) : getF s.l nm = some (fval s nm) ∧ s.dn = false := by
  unfold fnd at h
  unfold fval
  split at h
  · cases h
  · rename_i h1
    split at h
    · rename_i h2
      refine ⟨?_, by simpa using h1⟩
      rw [if_neg h1]
      cases hg : getF s.l nm with
      | none => rw [hg] at h2; cases h2
      | some x => rfl
    · cases h
theorem aft_l (s : DS) (n : Int) : (aft s n).l = s.l := by unfold aft; split <;> rfl
theorem aft_m (s : DS) (n : Int) : (aft s n).m = s.m := by unfold aft; split <;> rfl
theorem aft_room (s : DS) (n : Int) : (aft s n).room = s.room := by unfold aft; split <;> rfl
abbrev zf (nm : ByteArray) : Fl := ⟨nm, none, 0, [], 0⟩
def crE (s : DS) (nm : ByteArray) : Int := if fnd s nm = 0 then 9 else if fnd s nm = 12 then 12 else if tk s 1 < 1 then 12 else 0
def crS (s : DS) (nm : ByteArray) : DS := if fnd s nm = 8 then (if tk s 1 < 1 then aft s 1 else { aft s 1 with l := setF s.l (zf nm) }) else s
theorem usedF_set {l : List Fl} {y : Fl} : usedF (setF l y) = y.b.length + usedF (l.filter (fun x => !sameN x y)) := by
  rw [usedF_perm (set_perm y), usedF_cons]
theorem usedF_filter (l : List Fl) (p : Fl → Bool) : usedF (l.filter p) ≤ usedF l := by
  induction l with
  | nil => simp [usedF]
  | cons a l ih =>
    rw [List.filter_cons]
    split
    · rw [usedF_cons, usedF_cons]; omega
    · rw [usedF_cons]; omega
set_option maxHeartbeats 1600000 in
theorem create_stop (w : World) (B d : Nat) (s : DS) (h : DK w B d s) (nm : ByteArray) (hs : nm.size ≤ maxLen) (hf : fnd s nm = 12 ∨ fnd s nm = 0) :
    Calls Tryz.prog 33 #[pv d, .string nm] w fun e w' => e = .returned (.int .i64 (if fnd s nm = 0 then 9 else 12)) ∧ Below w.heap.size w w' := by
  have F := Lib.hid (find_any w B d s h nm hs)
  clear h
  generalize fval s nm = y at *
  rcases hf with hf | hf <;> rw [hf] at F ⊢
  · simp only [show ¬ ((12 : Int) = 0) by decide, if_false]
    go_enter Tryz.func33, Tryz.ntmps33
    go_wp2_with fail
    refine F.out.mono ?_
    rintro e w1 ⟨rfl, hb⟩
    have B2 := Lib.hid hb
    clear hb
    go_wp2
    go_returns
    exact ⟨rfl, B2.out.trans ((vstep w1 _).mono B2.out.size)⟩
  · simp only [if_true]
    go_enter Tryz.func33, Tryz.ntmps33
    go_wp2_with fail
    refine F.out.mono ?_
    rintro e w1 ⟨rfl, hb⟩
    have B2 := Lib.hid hb
    clear hb
    go_wp2
    go_returns
    exact ⟨rfl, B2.out.trans ((vstep w1 _).mono B2.out.size)⟩
/-- The map is there. -/
theorem put_zero {w w2 : World} {B d b : Nat} {s : DS} (h : DK w B d s) (hm : s.m = some b) (nm : ByteArray) (hd : DM w2 b (setF s.l (zf nm))) (hg : w.grownBy w2 (some b)) : Out B d s { s with l := setF s.l (zf nm) } w w2 := by
  refine Out.put h hm (zf nm) (Far.of_grown hg (fun k e => .inl (by injection e with e; exact e.symm))) hd (World.ownsRow_nil _ _ _ _) (fun k e => by simp [Fl.v, Value.ownBlock] at e) ?_ ⟨Int.le_refl 0, Int.le_refl 0⟩
  have := h.fits
  have h1 := usedF_filter s.l (fun x => !sameN x (zf nm))
  rw [usedF_set]
  simp
  omega
set_option maxHeartbeats 3200000 in
theorem create_go (w : World) (B d : Nat) (s : DS) (h : DK w B d s) (hB : B ≤ w.heap.size) (nm : ByteArray) (hs : nm.size ≤ maxLen) (hl : s.l.length < 100000) (hf : fnd s nm = 8) :
    Calls Tryz.prog 33 #[pv d, .string nm] w fun e w' => e = .returned (.int .i64 (if tk s 1 < 1 then 12 else 0)) ∧ ∃ m', Out B d s { (if tk s 1 < 1 then aft s 1 else { aft s 1 with l := setF s.l (zf nm) }) with m := m' } w w' := by
  have F := Lib.hid (find_any w B d s h nm hs)
  have H := Lib.hid h
  have N56 := fun (w : World) (r : Option Nat) => run_eql_map_nil (P := Tryz.prog) w 68 9 82 r Tryz.underlying68
  have hmm := @run_makeMap Tryz.prog
  rw [hf] at F
  have ST := Lib.hid (fun (W : World) (hb : Below w.heap.size w W) => step_any W B d s (h.step hb))
  have HL := Lib.hid hl
  have HS := Lib.hid hs
  have HB := Lib.hid hB
  clear h hl hs hB
  generalize fval s nm = y at *
  by_cases hz : tk s 1 < 1
  · rw [if_pos hz, if_pos hz]
    simp only [if_pos hz] at ST
    go_enter Tryz.func33, Tryz.ntmps33
    go_wp2_with fail
    refine F.out.mono ?_
    rintro e w1 ⟨rfl, hb⟩
    have B2 := Lib.hid (hb.trans ((vstep w1 (.cells #[.slice y.a y.b.length y.c, .int .i64 y.s] 82)).mono hb.size))
    obtain ⟨W2, hW2⟩ : ∃ z, w1.alloc (.cells #[.slice y.a y.b.length y.c, .int .i64 y.s] 82) = z := ⟨_, rfl⟩
    rw [hW2] at B2
    have HW2 := Lib.hid hW2
    have ST2 := Lib.hid (ST.out W2 B2.out)
    clear hW2 hb
    go_upto_region 2 with (fail)
    rw [HW2.out]
    go_wp2_with fail
    refine ST2.out.mono ?_
    rintro e w3 ⟨rfl, ho⟩
    have O3 := Lib.hid (Out.of_below B2.out ho)
    clear ho
    go_wp2
    go_returns
    exact ⟨rfl, (aft s 1).m, O3.out⟩
  · rw [if_neg hz, if_neg hz]
    simp only [if_neg hz] at ST
    obtain ⟨t, ht⟩ : ∃ t, aft s 1 = t := ⟨_, rfl⟩
    have TL : t.l = s.l := by rw [← ht, aft_l]
    rw [ht] at ST ⊢
    rw [← TL] at HL ⊢
    clear ht TL
    go_enter Tryz.func33, Tryz.ntmps33
    go_wp2_with fail
    refine F.out.mono ?_
    rintro e w1 ⟨rfl, hb⟩
    have B2 := Lib.hid (hb.trans ((vstep w1 (.cells #[.slice y.a y.b.length y.c, .int .i64 y.s] 82)).mono hb.size))
    obtain ⟨W2, hW2⟩ : ∃ z, w1.alloc (.cells #[.slice y.a y.b.length y.c, .int .i64 y.s] 82) = z := ⟨_, rfl⟩
    rw [hW2] at B2
    have HW2 := Lib.hid hW2
    have ST2 := Lib.hid (ST.out W2 B2.out)
    clear hW2 hb
    go_upto_region 2 with (fail)
    rw [HW2.out]
    go_upto_region 6 with (fail)
    go_wp2_with fail
    refine ST2.out.mono ?_
    rintro e w3 ⟨rfl, ho⟩
    have O3 := Lib.hid (Out.of_below B2.out ho)
    clear ho
    obtain ⟨c0, c1, c2, c3, c4⟩ := O3.out.dk.cells
    clear c0 c2 c3 c4
    cases hm : t.m with
    | none =>
      rw [hm] at c1
      have D4 := O3.out.dk.step (vstep w3 (.map #[] 0))
      have e1 := D4.cells.2.1
      rw [hm] at e1
      have f1 := D4.free 1
      have O5 := Lib.hid (O3.out.trans (Out.mapped O3.out.dk (Nat.le_trans HB.out O3.out.far.size) hm))
      clear D4
      go_upto_region 11 with (fail)
      obtain ⟨W5, hW5⟩ : ∃ z, (w3.alloc (.map #[] 0)).setCell ⟨d, 1, none⟩ (.map (some w3.heap.size)) = z := ⟨_, rfl⟩
      rw [hW5] at O5 ⊢
      clear hW5 c1 e1 f1
      obtain ⟨c0, c1, c2, c3, c4⟩ := O5.out.dk.cells
      dsimp only at c1
      have DM5 := Lib.hid (show DM W5 w3.heap.size t.l from by
        rcases O5.out.dk.map with ⟨h0, _⟩ | ⟨b, h0, _, hb⟩
        · cases h0
        · injection h0 with h0; subst h0; exact hb)
      clear c0 c2 c3 c4
      go_wp2_with (refine wpList_dput rfl (.tmp 36) (.tmp 37) (.tmp 38) rfl w3.heap.size t.l (zf nm) rfl DM5.out (by have := HL.out; omega) HS.out rfl rfl ?_; intro w6 hd hg; have D6 := Lib.hid hd; have G6 := Lib.hid hg; clear hd hg)
      go_returns
      exact ⟨rfl, some w3.heap.size, O5.out.trans (put_zero O5.out.dk rfl nm D6.out G6.out)⟩
    | some b =>
      rw [hm] at c1
      have DM5 := Lib.hid (show DM w3 b t.l from by
        rcases O3.out.dk.map with ⟨h0, _⟩ | ⟨b', h0, _, hb⟩
        · rw [h0] at hm; cases hm
        · rw [h0] at hm; injection hm with hm; subst hm; exact hb)
      have HM := Lib.hid hm
      clear hm
      go_wp2_with (refine wpList_dput rfl (.tmp 36) (.tmp 37) (.tmp 38) rfl b t.l (zf nm) rfl DM5.out (by have := HL.out; omega) HS.out rfl rfl ?_; intro w6 hd hg; have D6 := Lib.hid hd; have G6 := Lib.hid hg; clear hd hg)
      go_returns
      exact ⟨rfl, t.m, O3.out.trans (put_zero O3.out.dk HM.out nm D6.out G6.out)⟩
theorem create_any (w : World) (B d : Nat) (s : DS) (h : DK w B d s) (hB : B ≤ w.heap.size) (nm : ByteArray) (hs : nm.size ≤ maxLen) (hl : s.l.length < 100000) :
    Calls Tryz.prog 33 #[pv d, .string nm] w fun e w' => e = .returned (.int .i64 (crE s nm)) ∧ ∃ m', Out B d s { crS s nm with m := m' } w w' := by
  unfold crE crS
  rcases fnd_cases s nm with hf | hf | hf
  · refine (create_stop w B d s h nm hs (.inl hf)).mono ?_
    rintro e w' ⟨rfl, hb⟩
    rw [hf]
    exact ⟨rfl, s.m, Out.still h hb⟩
  · refine (create_stop w B d s h nm hs (.inr hf)).mono ?_
    rintro e w' ⟨rfl, hb⟩
    rw [hf]
    exact ⟨rfl, s.m, Out.still h hb⟩
  · rw [if_neg (by rw [hf]; decide), if_neg (by rw [hf]; decide), if_pos hf]
    exact create_go w B d s h hB nm hs hl hf
end Go.Proofs.YtgbihpfpiaacfaaGreatDoor

