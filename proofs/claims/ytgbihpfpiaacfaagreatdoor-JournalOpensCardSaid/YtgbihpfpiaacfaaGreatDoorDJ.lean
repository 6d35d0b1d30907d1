/- A disk: Append. Made by gendj10.py. -/
import Derived.Test.YtgbihpfpiaacfaaGreatDoorRH
set_option linter.unusedVariables false
set_option linter.unusedSimpArgs false
set_option maxRecDepth 100000
namespace Go.Proofs.YtgbihpfpiaacfaaGreatDoor
open Go.RowKit Go.WideMaps Go.Maps

/-- A file set, while blocks that are no concern of the disk's turned too. -/
theorem DK.putX {w w2 : World} {B d b : Nat} {s : DS} (h : DK w B d s) (hm : s.m = some b) (y : Fl) (X : Nat → Prop) (hX : ∀ k, X k → ¬ Has d s k) (hf : Far (fun k => (k = b ∨ ∃ x ∈ s.l, x.n = y.n ∧ x.v.ownBlock = some k) ∨ X k) w w2) (hd : DM w2 b (setF s.l y))
    (hr : w2.ownsRow B 5 1 y.v y.b.length (y.b.flatMap encB)) (hnew : ∀ k, y.v.ownBlock = some k → w.heap.size ≤ k ∨ ∃ x ∈ s.l, x.n = y.n ∧ x.v.ownBlock = some k) (hu : (usedF (setF s.l y) : Int) ≤ s.room) (hsy : 0 ≤ y.s ∧ y.s ≤ (y.b.length : Int)) :
    DK w2 B d { s with l := setF s.l y } ∧ ∀ k, Has d { s with l := setF s.l y } k → Has d s k ∨ w.heap.size ≤ k := by
  obtain ⟨n1, n2⟩ := h.nd
  have hB : B ≤ b := (h.base b (.inr (.inl hm))).1
  have apart : ∀ x ∈ s.l, sameN x y = false → ∀ k, x.v.ownBlock = some k → y.v.ownBlock ≠ some k := by
    intro x hx hs k e1 e2
    rcases hnew k e2 with q | ⟨z, hz, hn, ez⟩
    · have := ((h.rows x hx).lt k e1).2; omega
    · refine far_one h.far hx hz (fun e => ?_) k e1 ez
      subst e
      unfold sameN at hs
      simp [hn] at hs
  refine ⟨⟨?_, h.bd, .inr ⟨b, hm, hB, hd⟩, ?_, far_set_pair h.far apart, h.left, h.roomok, hu, fun x hx => by
    rcases mem_set.1 hx with rfl | ⟨hx, _⟩
    · exact hsy
    · exact h.sure x hx⟩, ?_⟩
  · refine (hf.block d h.dlt ?_).trans h.box
    rintro ((e | ⟨x, hx, _, e⟩) | e)
    · exact n1 (by rw [hm, e])
    · exact n2 x hx e
    · exact hX d e (.inl rfl)
  · intro x hx
    rcases mem_set.1 hx with rfl | ⟨hx, hs⟩
    · exact hr
    · refine hf.row (h.rows x hx) (fun j e => ?_)
      rintro ((q | ⟨z, hz, hn, ez⟩) | q)
      · subst q; exact h.nm hm x hx e
      · refine far_one h.far hx hz (fun e => ?_) j e ez
        subst e
        unfold sameN at hs
        simp [hn] at hs
      · exact hX j q (.inr (.inr ⟨x, hx, e⟩))
  · rintro k (e | e | ⟨x, hx, e⟩)
    · exact .inl (.inl e)
    · exact .inl (.inr (.inl e))
    · rcases mem_set.1 hx with rfl | ⟨hx, hs⟩
      · rcases hnew k e with q | ⟨z, hz, _, ez⟩
        · exact .inr q
        · exact .inl (.inr (.inr ⟨z, hz, ez⟩))
      · exact .inl (.inr (.inr ⟨x, hx, e⟩))
theorem Out.transX {w w1 w2 : World} {B d : Nat} {s t u : DS} (h1 : Out B d s t w w1) (hd : DK w2 B d u) (hf : Far (fun k => Has d t k ∨ w.heap.size ≤ k) w1 w2) (hs : ∀ k, Has d u k → Has d t k ∨ w.heap.size ≤ k) : Out B d s u w w2 :=
  ⟨hd, h1.far.trans hf (fun k hk q => by
    rcases q with q | q
    · exact (h1.sub k q).resolve_right (by omega)
    · omega), fun k q => by
    rcases hs k q with q | q
    · exact h1.sub k q
    · exact .inr q⟩
theorem LiesK.far' {α : Type} {enc : α → List Value} {k : Nat} {P : Nat → Prop} {w w' : World} {v : Value} {l : List α} (h : LiesK enc k w v l) (hf : Far P w w') (hn : l ≠ [] → ∀ j, v.ownBlock = some j → ¬ P j) : LiesK enc k w' v l := by
  obtain ⟨ao, cap, rfl, h1, hm, h0, hc⟩ := h
  refine ⟨ao, cap, rfl, h1, hm, h0, fun b hbb hne => ?_⟩
  obtain ⟨g, o, rfl, hg, hcc⟩ := hc b hbb hne
  subst hbb
  have hb := hf.block g hg (hn hne g rfl)
  refine ⟨g, o, rfl, Nat.lt_of_lt_of_le hg hf.size, fun j p hj i u hi => ?_⟩
  have := hcc j p hj i u hi
  unfold World.cell? at this ⊢
  simp only at this ⊢
  rw [hb]
  exact this
theorem LiesK.far {α : Type} {enc : α → List Value} {k : Nat} {P : Nat → Prop} {w w' : World} {v : Value} {l : List α} (h : LiesK enc k w v l) (hf : Far P w w') (hn : ∀ j, v.ownBlock = some j → ¬ P j) : LiesK enc k w' v l := h.far' hf (fun _ => hn)
theorem LiesK.take {w : World} {α : Type} {enc : α → List Value} {k : Nat} {ao : Option Addr} {n cap : Nat} {l : List α} (h : LiesK enc k w (.slice ao n cap) l) (j : Nat) (hj : j ≤ n) : LiesK enc k w (.slice ao j cap) (l.take j) := by
  obtain ⟨ao', cap', e, hn, hm, h0, hc⟩ := h
  injection e with e1 e2 e3
  subst e1 e2 e3
  have hl : (l.take j).length = j := by rw [List.length_take]; omega
  refine ⟨ao, cap, by rw [hl], by rw [hl]; omega, hm, fun e => ?_, fun b hb hne => ?_⟩
  · obtain ⟨rfl, h2⟩ := h0 e
    exact ⟨by simp, h2⟩
  · obtain ⟨k', o, rfl, hk', hc⟩ := hc b hb (fun e => hne (by rw [e]; simp))
    refine ⟨k', o, rfl, hk', fun j x hj => hc j x ?_⟩
    rw [List.getElem?_take] at hj
    split at hj
    · exact hj
    · cases hj
theorem FB.far {P : Nat → Prop} {w w' : World} {g : Nat} {v : Value} {s : Int} (h : FB w g v s) (hf : Far P w w') (hn : ¬ P g) : FB w' g v s := (hf.block g (lt_of_block h) hn).trans h
theorem Far.drew {w : World} {P : Nat → Prop} : Far P w w.drew := ⟨rfl, rfl, rfl, Nat.le_refl _, fun _ _ _ => rfl⟩
theorem row_box {w : World} {g : Nat} {v u : Value} {s : Int} {B n : Nat} {xs : List Value} (h : w.ownsRow B 5 1 v n xs) (hb : FB w g u s) : v.ownBlock ≠ some g := by
  intro e
  rcases h.2 with ⟨h0, _⟩ | ⟨g', cap, cur, h0, hB, hb', h1⟩
  · rw [h0] at e; cases e
  · rw [h0] at e
    have : g' = g := by simpa [Value.ownBlock] using e
    subst this
    rw [show w.heap[g']? = _ from hb] at hb'
    cases hb'
/-- The rest of Append, once power has been taken. -/
theorem app_core {w4 : World} {B d b g : Nat} {t : DS} {y : Fl} {nm : ByteArray} {v : Value} {bs : List Int} {n : Nat} (D4 : DK w4 B d t) (hB : B ≤ w4.heap.size) (hm : t.m = some b) (hy : y ∈ t.l) (hn : y.n = nm) (hnm : nm.size ≤ maxLen) (hl : t.l.length < 100000) (G4 : FB w4 g y.v y.s) (hg : ¬ Has d t g) (hv : LiesK encB 1 w4 v bs) (hnb : n ≤ bs.length) (hbs : bs.length ≤ 1000000) (hfit : (usedF t.l : Int) + bs.length ≤ t.room) :
    ∃ va L vc, v = .slice va L vc ∧ L ≤ vc ∧ vc ≤ maxLen ∧ n ≤ vc ∧ L = bs.length ∧ ∃ a' c' w5 w6, (∀ ty, (Builtin.append_ #[39, 39] ty #[y.v, .slice va n vc]).run Tryz.prog w4.drew = .ok (.slice a' (y.b.length + n) c') w5) ∧
      w6 = w5.setCell ⟨g, 0, none⟩ (.slice a' (y.b.length + n) c') ∧ (Instr.storeAt 39 (.pointer (some ⟨g, 0, none⟩)) (.slice a' (y.b.length + n) c')).run Tryz.prog w5 = .ok () w6 ∧ FB w6 g (.slice a' (y.b.length + n) c') y.s ∧ w6.cell? ⟨d, 1, none⟩ = some (.map (some b)) ∧
      ∀ w8, (w8 = w6 ∨ w8 = w6.drew) → ∃ w7, (Instr.mapUpdate 68 (.map (some b)) (.string nm) (.agg #[.slice a' (y.b.length + n) c', .int .i64 y.s])).run Tryz.prog w8 = .ok () w7 ∧ w8.grownBy w7 (some b) ∧ FB w7 g (.slice a' (y.b.length + n) c') y.s ∧ w7.cell? ⟨d, 1, none⟩ = some (.map (some b)) ∧ DK w7 B d { t with l := setF t.l ⟨nm, a', c', y.b ++ bs.take n, y.s⟩ } ∧ (∀ k, Has d { t with l := setF t.l ⟨nm, a', c', y.b ++ bs.take n, y.s⟩ } k → Has d t k ∨ w4.heap.size ≤ k) ∧ Far (fun k => Has d t k ∨ k = g) w4 w7 := by
  obtain ⟨i0, hi, hz0, hz1, hz2⟩ := info_parts info5
  obtain ⟨va, vc, rfl⟩ := hv.shape
  have hvc : bs.length ≤ vc ∧ vc ≤ maxLen := by
    obtain ⟨ao, cap, e, h1, h2, _⟩ := hv
    injection e with e1 e2 e3
    subst e3
    exact ⟨h1, h2⟩
  have hfs := D4.fits
  have hro := D4.roomok
  have hyu := usedF_mem hy
  have hlt : (bs.take n).length = n := by rw [List.length_take]; omega
  have hsrc : Src Tryz.prog 1 39 (.slice va n vc) n ((bs.take n).flatMap encB) w4.drew := by
    have := (LiesK.far (hv.take n (by omega)) (Far.drew (P := fun _ => False)) (fun _ _ q => q)).src Tryz.u33 encB_len (by omega) encB_one
    rwa [hlt] at this
  have hrow := D4.rows y hy
  obtain ⟨v', w5, h1, h2, h3, h4⟩ := run_append_src_own (P := Tryz.prog) w4.drew B 39 39 0 5 i0 (.int .u8 0) 1 1 Tryz.u33 hi hz0 hz1 hz2 rfl (by decide) y.v y.b.length (y.b.flatMap encB) hrow.drew (.slice va n vc) n _ hsrc (by unfold maxLen; omega) (by omega) hB
  obtain ⟨a', c', rfl⟩ := own_shapeK h2
  have hgy : y.v.ownBlock ≠ some g := row_box hrow G4
  have G5 : FB w5 g y.v y.s := (h3.block g (lt_of_block G4) (fun e => hgy e.symm)).trans G4
  have hfar5 : Far (fun k => y.v.ownBlock = some k) w4 w5 := (Far.drew).trans (Far.of_grown h3 (fun k e => e)) (fun k _ q => q)
  have G6 : FB (w5.setCell ⟨g, 0, none⟩ (.slice a' (y.b.length + n) c')) g (.slice a' (y.b.length + n) c') y.s := row_setC (j := 0) (u := .slice a' (y.b.length + n) c') G5
  have hf6 := far_set w5 g 0 (.slice a' (y.b.length + n) c')
  obtain ⟨n1, n2⟩ := D4.nd
  have hgd : g ≠ d := fun e => hg (.inl e)
  have hgb : g ≠ b := fun e => hg (.inr (.inl (by rw [hm, e])))
  have hfar6 : Far (fun k => y.v.ownBlock = some k ∨ k = g) w4 (w5.setCell ⟨g, 0, none⟩ (.slice a' (y.b.length + n) c')) := (⟨hfar5.os, hfar5.tape, hfar5.output, hfar5.size, fun k hk q => hfar5.block k hk (fun e => q (.inl e))⟩ : Far _ w4 w5).trans hf6 (fun k _ q => .inr q)
  have c5 : (w5.setCell ⟨g, 0, none⟩ (.slice a' (y.b.length + n) c')).cell? ⟨d, 1, none⟩ = some (.map (some b)) := by
    have hb := hfar6.block d D4.dlt (by
      rintro (e | e)
      · exact n2 y hy e
      · exact hgd e.symm)
    rw [cell_of_row _ _ _ _ _ _ (hb.trans D4.box), hm]
    rfl
  refine ⟨va, bs.length, vc, rfl, hvc.1, hvc.2, by omega, rfl, a', c', w5, _, fun ty => h1, rfl, run_storeV33 w5 g 0 a' _ c' _ G5.cells.1 G5.free.1, G6, c5, ?_⟩
  intro w8 hw8
  obtain ⟨w6, hw6⟩ : ∃ z, w5.setCell ⟨g, 0, none⟩ (.slice a' (y.b.length + n) c') = z := ⟨_, rfl⟩
  rw [hw6] at G6 hf6 hfar6 c5 hw8
  have hf8 : Far (fun _ => False) w6 w8 := by
    rcases hw8 with rfl | rfl
    · exact Far.refl _ _
    · exact Far.drew
  have dm8 : DM w8 b t.l := hf8.map (hfar6.map (dm_of D4 hm) (by
    rintro (e | e)
    · exact D4.nm hm y hy e
    · exact hgb e.symm)) (fun q => q)
  have hlen : (y.b ++ bs.take n).length = y.b.length + n := by rw [List.length_append, hlt]
  obtain ⟨w7, r1, r2, r3⟩ := dm8.put (x := ⟨nm, a', c', y.b ++ bs.take n, y.s⟩) hnm (by unfold maxLen; omega)
  have r1' : (Instr.mapUpdate 68 (.map (some b)) (.string nm) (.agg #[.slice a' (y.b.length + n) c', .int .i64 y.s])).run Tryz.prog w8 = .ok () w7 := by rw [← hlen]; exact r1
  have f7 : Far (fun k => k = b) w8 w7 := Far.of_grown r3 (fun k e => by injection e with e; exact e.symm)
  have G8 : FB w8 g (.slice a' (y.b.length + n) c') y.s := G6.far hf8 (fun q => q)
  have FF : Far (fun k => (k = b ∨ ∃ x ∈ t.l, x.n = nm ∧ x.v.ownBlock = some k) ∨ k = g) w4 w7 := by
    refine Far.trans (w1 := w8) ?_ f7 (fun k _ q => .inl (.inl q))
    refine Far.trans (w1 := w6) ?_ hf8 (fun k _ q => q.elim)
    refine ⟨hfar6.os, hfar6.tape, hfar6.output, hfar6.size, fun k hk q => hfar6.block k hk ?_⟩
    rintro (e | e)
    · exact q (.inl (.inr ⟨y, hy, hn, e⟩))
    · exact q (.inr e)
  have hrow5 : w5.ownsRow B 5 1 (.slice a' (y.b.length + n) c') (y.b.length + n) ((y.b ++ bs.take n).flatMap encB) := by rw [List.flatMap_append]; exact h2
  have row6 : w6.ownsRow B 5 1 (.slice a' (y.b.length + n) c') (y.b.length + n) ((y.b ++ bs.take n).flatMap encB) := hf6.row hrow5 (fun j e q => by subst q; exact row_box hrow5 G5 e)
  have row8 := hf8.row row6 (fun _ _ q => q)
  have row7 : w7.ownsRow B 5 1 (.slice a' (y.b.length + n) c') (y.b.length + n) ((y.b ++ bs.take n).flatMap encB) := f7.row row8 (fun j e q => by
    subst q
    exact (row_map row8 dm8) e.symm)
  have huse : (usedF (setF t.l ⟨nm, a', c', y.b ++ bs.take n, y.s⟩) : Int) ≤ t.room := by
    rw [usedF_set]
    obtain ⟨p, q, e⟩ := List.append_of_mem hy
    have hp : t.l.Perm (y :: (p ++ q)) := by rw [e]; exact List.perm_middle
    have hs : sameN y ⟨nm, a', c', y.b ++ bs.take n, y.s⟩ = true := by unfold sameN; simp [hn]
    have e2 : usedF (t.l.filter (fun x => !sameN x ⟨nm, a', c', y.b ++ bs.take n, y.s⟩)) ≤ usedF (p ++ q) := by
      rw [usedF_perm (hp.filter _), List.filter_cons, hs]
      simp only [Bool.not_true, Bool.false_eq_true, if_false]
      exact usedF_filter _ _
    have e3 := usedF_perm hp
    rw [usedF_cons] at e3
    simp only [hlen]
    omega
  obtain ⟨Z1, Z2⟩ := DK.putX D4 hm ⟨nm, a', c', y.b ++ bs.take n, y.s⟩ (fun k => k = g) (fun k e => by subst e; exact hg) FF r2 (by unfold Fl.v; simp only [hlen]; exact row7) (fun k e => by
    unfold Fl.v at e
    simp only [hlen] at e
    rcases h4 with q | ⟨k', q, hk'⟩
    · exact .inr ⟨y, hy, hn, by rw [← q]; exact e⟩
    · rw [q] at e
      injection e with e
      subst e
      exact .inl hk') huse ⟨(D4.sure y hy).1, by have := (D4.sure y hy).2; simp only [hlen]; omega⟩
  refine ⟨w7, r1', r3, ?_, ?_, Z1, Z2, ⟨FF.os, FF.tape, FF.output, FF.size, fun k hk q => FF.block k hk ?_⟩⟩
  · exact G8.far f7 hgb
  · have := Z1.cells.2.1
    rw [show ({ t with l := setF t.l ⟨nm, a', c', y.b ++ bs.take n, y.s⟩ } : DS).m = some b from hm] at this
    exact this
  · rintro ((e | ⟨x, hx, _, e⟩) | e)
    · exact q (.inl (.inr (.inl (by rw [hm, e]))))
    · exact q (.inl (.inr (.inr ⟨x, hx, e⟩)))
    · exact q (.inr e)
end Go.Proofs.YtgbihpfpiaacfaaGreatDoor

