/- The law of a history. Made by genie38.py. -/
import Derived.Test.YthbmbpnpigpgpaaID
import Derived.Test.YthbmbpnpigpgpaaIF
import Derived.Test.YthbmbpnpigpgpaaIG
import Derived.Test.YthbmbpnpigpgpaaHM
set_option linter.unusedVariables false
set_option linter.unusedSimpArgs false
set_option maxRecDepth 100000
namespace Go.Proofs.Ythbmbpnpigpgpaa
open Go.RowKit Go.Shelf

/-- An act, in memory. -/
structure Hct where
  k : Int
  u : Ls
def encT (x : Hct) : List Value := [.int .i64 x.k, x.u.v]
theorem encT_len (x : Hct) : (encT x).length = 2 := rfl
theorem ld48 {W : World} {q j : Nat} {v : Value} {cs : Array Value} (h : W.heap[q]? = some (.cells cs 50 (0, 0))) (hj : cs[j]? = some v) : (Instr.loadAt 48 (.pointer (some ⟨q, j, none⟩))).run Try.prog W = .ok v W := by
  have c0 := cell_row (j := j) h hj
  clear h hj
  go_simp
theorem st48 {W : World} {q j : Nat} {u : Value} {a : Option Addr} {n c : Nat} {cs : Array Value} (h : W.heap[q]? = some (.cells cs 50 (0, 0))) (hj : cs[j]? = some u) : (Instr.storeAt 48 (.pointer (some ⟨q, j, none⟩)) (.slice a n c)).run Try.prog W = .ok () (W.setCell ⟨q, j, none⟩ (.slice a n c)) := by
  have c0 := cell_row (j := j) h hj
  have f0 := frozen_of_row (j := j) _ _ _ _ h
  clear h hj
  go_simp
theorem ld23c {W : World} {g o : Nat} {a : Option Addr} {n c : Nat} (h : W.cell? ⟨g, o, none⟩ = some (.slice a n c)) : (Instr.loadAt 23 (.pointer (some ⟨g, o, none⟩))).run Try.prog W = .ok (.slice a n c) W := by
  go_simp
theorem ld50 {W : World} {q : Nat} {a a' : Option Addr} {n n' c c' : Nat} (h : W.heap[q]? = some (.cells #[.slice a n c, .slice a' n' c'] 50 (0, 0))) : (Instr.loadAt 50 (.pointer (some ⟨q, 0, none⟩))).run Try.prog W = .ok (.agg #[.slice a n c, .slice a' n' c']) W := by
  have c0 := cell_row (j := 0) h rfl
  have c1 := cell_row (j := 1) h rfl
  clear h
  go_simp
theorem st50 {W : World} {q : Nat} {u u' : Value} {a a' : Option Addr} {n n' c c' : Nat} (h : W.heap[q]? = some (.cells #[u, u'] 50 (0, 0))) : (Instr.storeAt 50 (.pointer (some ⟨q, 0, none⟩)) (.agg #[.slice a n c, .slice a' n' c'])).run Try.prog W = .ok () ((W.setCell ⟨q, 0, none⟩ (.slice a n c)).setCell ⟨q, 1, none⟩ (.slice a' n' c')) := by
  have c0 := cell_row (j := 0) h rfl
  have c1 := cell_row (j := 1) h rfl
  have f0 := frozen_of_row (j := 0) _ _ _ _ h
  have f1 := frozen_of_row (j := 1) _ _ _ _ h
  clear h
  go_simp
theorem ixA {g o n cap i : Nat} (h : i < n) (hn : n ≤ 9223372036854775807) (W : World) : (Instr.indexAt 43 (.slice (some ⟨g, o, none⟩) n cap) (.int .i64 (i : Int))).run Try.prog W = .ok (.pointer (some ⟨g, o + i * 2, none⟩)) W := by
  go_simp
theorem bsL48 (W : World) (x : Ls) : (Instr.buildSlice 48 1 #[(0, .slice x.a x.l.length x.c)]).run Try.prog W = .ok (.slice (some ⟨W.heap.size, 0, none⟩) 1 1) (W.alloc (.cells (encL x).toArray 23)) := by
  go_simp
  try rfl
section
variable {P : Program} {md : Region.Mode} {ops : Array Oper} {Q : Exit → Act → World → Prop} {S : World → Prop} {i fuel : Nat} {oi : Oper} {listed : Array Bool} {a : Act} {w : World}
/-- An append whose result is known by what it says. -/
theorem br_appx (X : Value → World → Prop) (d : Nat) (s x : Operand) (t tx : TypeId) {rs : List Nat} (hi : ops[i]? = some oi) (hd : oi.dst = some d) (hw : Region.wanted oi (yielded ops a.tmps) = true)
    (ho : oi.op = .call { callee := .builtin .append, args := #[s, x], argTypes := #[t, tx] }) (v xv : Value) (hs : a.eval s = v) (hx : a.eval x = xv)
    (hrun : ∃ u w', (Builtin.append_ #[t, tx] oi.type #[v, xv]).run P w = .ok u w' ∧ X u w') (hS : ∀ u w', X u w' → S w')
    (h : ∀ u w', X u w' → wpAnyH P md ops Q S fuel (listed.setIfInBounds i true) (a.put (some d) u) w')
    (hrs : AllReadyH P md ops Q S fuel listed a w rs) : AllReadyH P md ops Q S fuel listed a w (i :: rs) := by
  obtain ⟨u, w', hrun, hX⟩ := hrun
  refine AllReadyH.cons hi (fun K hK => ?_) hrs
  rw [if_pos hw]
  unfold Oper.wp
  simp only [execOp, ho, resolve, invoke, builtin, Sem.run_bind, Sem.run_pure, Result.andThen_ok, List.map_toArray, List.map_cons, List.map_nil, hs, hx, hrun]
  show K _ _
  rw [hd]
  exact hK.out _ _ (hS u w' hX) (fun _ => h u w' hX)
end
/-- What stands between the acts. -/
structure LI (w W : World) (i : Nat) (D U R Q : List Ls) (vd vu rd ru : Value) : Prop where
  bel : Below w.heap.size w W
  his : HI W w.heap.size w.heap.size vd vu D U
  rbox : W.heap[w.heap.size + 1]? = some (.cells #[rd, ru] 50 (0, 0))
  lr : LiesT 23 W rd R
  lq : LiesT 23 W ru Q
  ed : D.map Ls.l = R.map Ls.l
  eu : U.map Ls.l = Q.map Ls.l
  dl : D.length ≤ 64
  ul : U.length ≤ i
  el : ∀ x, x ∈ R ∨ x ∈ Q → LiesK encH 7 w x.v x.l ∧ x.l.length ≤ 10
theorem LI.size {w W : World} {i : Nat} {D U R Q : List Ls} {vd vu rd ru : Value} (h : LI w W i D U R Q vd vu rd ru) : w.heap.size + 1 < W.heap.size := lt_of_block h.rbox
theorem LI.step {w W W' : World} {i : Nat} {D U R Q : List Ls} {vd vu rd ru : Value} (h : LI w W i D U R Q vd vu rd ru) (hb : Below W.heap.size W W') : LI w W' i D U R Q vd vu rd ru :=
  ⟨h.bel.trans (hb.mono h.bel.size), h.his.step hb, (hb.block _ (lt_of_block h.rbox)).trans h.rbox, h.lr.step hb, h.lq.step hb, h.ed, h.eu, h.dl, h.ul, h.el⟩
theorem LI.wide {w W : World} {i j : Nat} {D U R Q : List Ls} {vd vu rd ru : Value} (h : LI w W i D U R Q vd vu rd ru) (hij : i ≤ j) : LI w W j D U R Q vd vu rd ru :=
  ⟨h.bel, h.his, h.rbox, h.lr, h.lq, h.ed, h.eu, h.dl, Nat.le_trans h.ul hij, h.el⟩
/-- The history's own call: the reference has still to follow. -/
theorem LI.hist {w W W' : World} {i : Nat} {D U R Q : List Ls} {vd vu rd ru : Value} (h : LI w W i D U R Q vd vu rd ru) (hk : Kp [30, 47] w.heap.size W W') :
    Below w.heap.size w W' ∧ W'.heap[w.heap.size + 1]? = some (.cells #[rd, ru] 50 (0, 0)) ∧ LiesT 23 W' rd R ∧ LiesT 23 W' ru Q :=
  ⟨h.bel.trans hk.bel, hk.oth _ _ _ _ h.rbox (by simp), h.lr.kp hk (by simp), h.lq.kp hk (by simp)⟩
theorem LI.set0 {w W : World} {i : Nat} {D U R Q : List Ls} {vd vu rd0 ru : Value} {a : Option Addr} {n c : Nat} (hb : Below w.heap.size w W) (his : HI W w.heap.size w.heap.size vd vu D U) (hx : W.heap[w.heap.size + 1]? = some (.cells #[rd0, ru] 50 (0, 0))) (lr : LiesT 23 W (.slice a n c) R) (lq : LiesT 23 W ru Q)
    (ed : D.map Ls.l = R.map Ls.l) (eu : U.map Ls.l = Q.map Ls.l) (dl : D.length ≤ 64) (ul : U.length ≤ i) (el : ∀ x, x ∈ R ∨ x ∈ Q → LiesK encH 7 w x.v x.l ∧ x.l.length ≤ 10) : LI w (W.setCell ⟨w.heap.size + 1, 0, none⟩ (.slice a n c)) i D U R Q vd vu (.slice a n c) ru := by
  have hk : Kp [50] w.heap.size W (W.setCell ⟨w.heap.size + 1, 0, none⟩ (.slice a n c)) := Kp.set hx (by omega) (by simp)
  exact ⟨hb.trans hk.bel, his.kp hk (by simp) (by simp) (by simp), row_setC (j := 0) hx, lr.kp hk (by simp), lq.kp hk (by simp), ed, eu, dl, ul, el⟩
theorem LI.set1 {w W : World} {i : Nat} {D U R Q : List Ls} {vd vu rd ru0 : Value} {a : Option Addr} {n c : Nat} (hb : Below w.heap.size w W) (his : HI W w.heap.size w.heap.size vd vu D U) (hx : W.heap[w.heap.size + 1]? = some (.cells #[rd, ru0] 50 (0, 0))) (lr : LiesT 23 W rd R) (lq : LiesT 23 W (.slice a n c) Q)
    (ed : D.map Ls.l = R.map Ls.l) (eu : U.map Ls.l = Q.map Ls.l) (dl : D.length ≤ 64) (ul : U.length ≤ i) (el : ∀ x, x ∈ R ∨ x ∈ Q → LiesK encH 7 w x.v x.l ∧ x.l.length ≤ 10) : LI w (W.setCell ⟨w.heap.size + 1, 1, none⟩ (.slice a n c)) i D U R Q vd vu rd (.slice a n c) := by
  have hk : Kp [50] w.heap.size W (W.setCell ⟨w.heap.size + 1, 1, none⟩ (.slice a n c)) := Kp.set hx (by omega) (by simp)
  exact ⟨hb.trans hk.bel, his.kp hk (by simp) (by simp) (by simp), row_setC (j := 1) hx, lr.kp hk (by simp), lq.kp hk (by simp), ed, eu, dl, ul, el⟩
theorem trim_map {D R : List Ls} {x y : Ls} (h : D.map Ls.l = R.map Ls.l) (e : x.l = y.l) : (trim (D ++ [x])).map Ls.l = (trim (R ++ [y])).map Ls.l := by
  have hl : D.length = R.length := by have := congrArg List.length h; simpa using this
  unfold trim
  simp only [List.length_append, List.length_cons, List.length_nil, hl]
  split
  · rw [← List.map_drop.symm, ← List.map_drop.symm, List.map_append, List.map_append, h, List.map_cons, List.map_cons, e]
  · rw [List.map_append, List.map_append, h, List.map_cons, List.map_cons, e]
theorem trim_len {D : List Ls} {x : Ls} (h : D.length ≤ 64) : (trim (D ++ [x])).length ≤ 64 := by
  unfold trim
  split
  · rw [List.length_drop, List.length_append]; simp; omega
  · omega
theorem trim_mem {D : List Ls} {x y : Ls} (h : y ∈ trim (D ++ [x])) : y ∈ D ∨ y = x := by
  unfold trim at h
  have : y ∈ D ++ [x] := by
    split at h
    · exact List.mem_of_mem_drop h
    · exact h
  rcases List.mem_append.1 this with h | h
  · exact .inl h
  · exact .inr (List.mem_singleton.1 h)
theorem map_snoc {D' : List Ls} {x : Ls} {R : List Ls} (h : (D' ++ [x]).map Ls.l = R.map Ls.l) : ∃ R' y, R = R' ++ [y] ∧ D'.map Ls.l = R'.map Ls.l ∧ x.l = y.l := by
  rcases List.eq_nil_or_concat R with e | ⟨R', y, e⟩
  · rw [e] at h; simp at h
  · rw [List.concat_eq_append] at e
    rw [e, List.map_append, List.map_append] at h
    have := List.append_inj' h rfl
    exact ⟨R', y, e, this.1, by simpa using this.2⟩
/-- What stands within the region that notes what was undone. -/
structure UDS (w : World) (vd vu : Value) (D U R Q : List Ls) (rd ru : Value) (W : World) : Prop where
  his : HI W w.heap.size w.heap.size vd vu D U
  box : W.heap[w.heap.size + 1]? = some (.cells #[rd, ru] 50 (0, 0))
  lr : LiesT 23 W rd R
  lq : LiesT 23 W ru Q
theorem UDS.step {w : World} {vd vu : Value} {D U R Q : List Ls} {rd ru : Value} {W W' : World} (h : UDS w vd vu D U R Q rd ru W) (hb : Below W.heap.size W W') : UDS w vd vu D U R Q rd ru W' :=
  ⟨h.his.step hb, (hb.block _ (lt_of_block h.box)).trans h.box, h.lr.step hb, h.lq.step hb⟩
structure Fr (A W : World) : Prop where
  bel : Below A.heap.size A W
theorem Fr.step {A W W' : World} (h : Fr A W) (hb : Below W.heap.size W W') : Fr A W' := ⟨h.bel.trans (hb.mono h.bel.size)⟩
theorem app_nil (W : World) (E : Nat) (v : Value) (Q : List Ls) (hE : E ≤ W.heap.size) (h : LiesT 23 W v Q) (hl : Q.length ≤ 1000) (ty : TypeId := 48) :
    ∃ u w', (Builtin.append_ #[48, 48] ty #[.slice none 0 0, v]).run Try.prog W = .ok u w' ∧ w'.ownsRow E 23 1 u Q.length (Q.flatMap encL) ∧ Below W.heap.size W w' := by
  obtain ⟨i0, hi9, hz0, hz1, hz2⟩ := info_parts info23
  obtain ⟨v', w', h2, h3, h4, h5⟩ := run_append_src_own (P := Try.prog) W E 48 48 ty 23 i0 (.slice none 0 0) 1 24 Try.u48 hi9 hz0 hz1 hz2 rfl (by decide) (.slice none 0 0) 0 [] (World.ownsRow_nil _ _ _ _) v Q.length (Q.flatMap encL) h.src (by unfold maxLen; omega) (by omega) hE
  rw [Nat.zero_add, List.nil_append] at h3
  exact ⟨v', w', h2, h3, ⟨h4.os, h4.tape, h4.output, h4.size, fun k hk => h4.block k hk (by simp [Value.ownBlock])⟩⟩
theorem app_one (W : World) (E g : Nat) (v : Value) (Q : List Ls) (x : Ls) (hE : E ≤ W.heap.size) (h : W.ownsRow E 23 1 v Q.length (Q.flatMap encL)) (hx : LiesK encL 1 W (.slice (some ⟨g, 0, none⟩) 1 1) [x]) (hl : Q.length ≤ 1000) (ty : TypeId := 48) :
    ∃ u w', (Builtin.append_ #[48, 48] ty #[v, .slice (some ⟨g, 0, none⟩) 1 1]).run Try.prog W = .ok u w' ∧ w'.ownsRow E 23 1 u (Q ++ [x]).length ((Q ++ [x]).flatMap encL) ∧ Below E W w' := by
  obtain ⟨i0, hi9, hz0, hz1, hz2⟩ := info_parts info23
  obtain ⟨v', w', h2, h3, h4, h5⟩ := run_append_src_own (P := Try.prog) W E 48 48 ty 23 i0 (.slice none 0 0) 1 24 Try.u48 hi9 hz0 hz1 hz2 rfl (by decide) v Q.length (Q.flatMap encL) h (.slice (some ⟨g, 0, none⟩) 1 1) 1 ([x].flatMap encL) (hx.src Try.u48 encL_len (by decide) encL_one) (by unfold maxLen; omega) (by omega) hE
  exact ⟨v', w', h2, by rw [List.length_append, List.flatMap_append]; exact h3, (Below.refl E W).grown h4 hE (fun k hk => (h.lt k hk).1)⟩
set_option maxHeartbeats 25600000 in
theorem history_law (w : World) (v : Value) (al : List Hct) (h : LiesK encT 2 w v al) (ha : ∀ a ∈ al, LiesK encH 7 w a.u.v a.u.l) :
    Calls Try.prog 4 #[v] w fun e w' => e = .returned (.bool true) ∧ Below w.heap.size w w' := by
  have HA := Lib.hid h
  have AL := Lib.hid ha
  have HLN := Lib.hid h.len
  obtain ⟨ao, cap, rfl⟩ := h.shape
  clear h ha
  have h1 := heap_alloc_new w (.cells #[.slice none 0 0, .slice none 0 0] 47)
  have b1 := vstep w (.cells #[.slice none 0 0, .slice none 0 0] 47)
  have h2 := heap_alloc_new (w.alloc (.cells #[.slice none 0 0, .slice none 0 0] 47)) (.cells #[.slice none 0 0, .slice none 0 0] 50)
  have b2 := vstep (w.alloc (.cells #[.slice none 0 0, .slice none 0 0] 47)) (.cells #[.slice none 0 0, .slice none 0 0] 50)
  rw [World.size_alloc] at h2
  have K0 := Lib.hid (show LI w ((w.alloc (.cells #[.slice none 0 0, .slice none 0 0] 47)).alloc (.cells #[.slice none 0 0, .slice none 0 0] 50)) 0 [] [] [] [] (.slice none 0 0) (.slice none 0 0) (.slice none 0 0) (.slice none 0 0) from
    ⟨b1.trans (b2.mono b1.size), ⟨(b2.block _ (lt_of_block h1)).trans h1, Nat.le_refl _, ⟨World.ownsRow_nil _ _ _ _, World.ownsRow_nil _ _ _ _, fun k e => (by cases e), fun x hx => (by rcases hx with hx | hx <;> cases hx)⟩⟩, h2, LiesT.nil _ _, LiesT.nil _ _, rfl, rfl, Nat.zero_le _, Nat.zero_le _, fun x hx => (by rcases hx with hx | hx <;> cases hx)⟩)
  clear h1 b1 h2 b2
  go_enter Try.func4, Try.ntmps4
  go_wp2_with fail
  go_loopw [5] (fun kv wr => ∃ i : Nat, kv = .int .i64 i ∧ i ≤ al.length ∧ i ≤ 200 ∧ ∃ D U R Q vd vu rd ru, Hid (LI w wr i D U R Q vd vu rd ru)) (fun kv _ => al.length - (intOf kv).toNat)
  case atStart => exact ⟨0, rfl, Nat.zero_le _, Nat.zero_le _, _, _, _, _, _, _, _, _, K0⟩
  case round =>
    clear K0
    obtain ⟨i, rfl, hi, hi2, D, U, R, Q, vd, vu, rd, ru, KK⟩ := hrel
    by_cases hlt : i < al.length
    · by_cases hlt2 : i < 200
      · obtain ⟨ra, rc, hra⟩ := KK.out.lr.1.shape
        obtain ⟨qa, qc, hqa⟩ := KK.out.lq.1.shape
        subst hra hqa
        have ED := Lib.hid KK.out.ed
        have EU := Lib.hid KK.out.eu
        have DL6 := Lib.hid KK.out.dl
        have UI := Lib.hid KK.out.ul
        have UL6 := Lib.hid (show U.length ≤ 200 from Nat.le_trans KK.out.ul hi2)
        have RL6 := Lib.hid (show R.length ≤ 64 from by have h := congrArg List.length ED.out; rw [List.length_map, List.length_map] at h; have := DL6.out; omega)
        have QL6 := Lib.hid (show Q.length ≤ 200 from by have h := congrArg List.length EU.out; rw [List.length_map, List.length_map] at h; have := UL6.out; omega)
        have EL := Lib.hid KK.out.el
        obtain ⟨g, o, a, rfl, hx, hg, hc⟩ := HA.out.at' hlt
        have U0 := Lib.hid (AL.out a (List.mem_of_getElem? hx))
        have UL := Lib.hid (fun W (hb : Below w.heap.size w W) => (show LiesK encH 7 W (.slice a.u.a a.u.l.length a.u.c) a.u.l from U0.out.step hb))
        have AG := Lib.hid hg
        have AC0 := Lib.hid (hc 0 _ rfl)
        have AC1 := Lib.hid (show w.cell? ⟨g, o + i * 2 + 1, none⟩ = some (.slice a.u.a a.u.l.length a.u.c) from hc 1 _ rfl)
        have IX := Lib.hid (fun W => ixA (g := g) (o := o) (cap := cap) hlt HLN.out W)
        have c0 := (KK.out.bel.cell (p := ⟨g, o + i * 2, none⟩) hg).trans AC0.out
        have c1 := (KK.out.bel.cell (p := ⟨g, o + i * 2 + 1, none⟩) hg).trans AC1.out
        clear hx hg hc
        obtain ⟨kk, hkk⟩ : ∃ z, a.k = z := ⟨_, rfl⟩
        rw [hkk] at c0
        by_cases h10 : a.u.l.length ≤ 10
        · have A10 := Lib.hid h10
          have hd10 : ¬ ((10 : Int) < (a.u.l.length : Int)) := by omega
          by_cases k0 : kk = 0
          · subst k0
            have MI := Lib.hid (mine_any wr _ a.u.l (UL.out wr KK.out.bel) (by have := A10.out; omega))
            go_wp2_with fail
            refine MI.out.mono ?_
            rintro e wm ⟨r0, rfl, ho, hb⟩
            have MV := Lib.hid (own_liesK encH_len ho)
            have KM := Lib.hid (KK.out.step hb)
            clear ho hb MI KK
            have DC := Lib.hid (did_any wm w.heap.size w.heap.size vd vu r0 D U a.u.l KM.out.his KM.out.bel.size MV.out (by have := A10.out; omega) DL6.out)
            go_wp2_with fail
            refine DC.out.mono ?_
            rintro e wd ⟨x, ⟨rfl, hxl⟩, va, hh, hk⟩
            have XL := Lib.hid hxl
            have HHx := Lib.hid hh
            obtain ⟨hb1, hb2, hb3, hb4⟩ := KM.out.hist hk
            have BD := Lib.hid hb1
            have HX := Lib.hid hb2
            have LRx := Lib.hid hb3
            have HH := Lib.hid (HHx.out.step (Below.refl _ _).drew)
            have LR := Lib.hid (LRx.out.step (Below.refl _ _).drew)
            clear hxl hh hk hb1 hb2 hb3 hb4 DC KM MV HHx LRx
            go_upto_region 16 with (fail)
            refine wp_region_held_drew (S := fun w' => Below w.heap.size w w') (by kernel_rfl) ((BD.out.trans ((Below.refl wd.heap.size wd).drew.mono BD.out.size))) (fun hHeld => ?_)
            have BV := Lib.hid (show Below w.heap.size w wd.drew from (BD.out.trans ((Below.refl wd.heap.size wd).drew.mono BD.out.size)))
            clear hHeld
            refine take_at (i := 1) 59 ?_ rfl rfl (by kernel_rfl) (by kernel_rfl) (by kernel_rfl) (fun _ _ _ h => h) (.inl ⟨rfl, ?_⟩) BV.out ?_
            rotate_left 1
            · intro w hSw; go_simp; try with_reducible rfl
            simp only [Act.put, List.setIfInBounds_toArray, List.set_cons_zero, List.set_cons_succ]
            refine take_at (i := 2) 60 ?_ rfl rfl (by kernel_rfl) (by kernel_rfl) (by kernel_rfl) (fun _ _ _ h => h) (.inl ⟨rfl, ?_⟩) BV.out ?_
            rotate_left 1
            · intro w hSw; go_simp; try with_reducible rfl
            simp only [Act.put, List.setIfInBounds_toArray, List.set_cons_zero, List.set_cons_succ]
            refine take_at (i := 3) 61 (.pointer (some ⟨g, o + i * 2, none⟩)) rfl rfl (by kernel_rfl) (by kernel_rfl) (by kernel_rfl) (fun _ _ _ h => h) (yields_ix (.tmp 59) (.tmp 60) 43 (.slice (some ⟨g, o, none⟩) al.length cap) (.int .i64 (i : Int)) _ (fun W => IX.out W) rfl rfl rfl rfl) BV.out ?_
            simp only [Act.put, List.setIfInBounds_toArray, List.set_cons_zero, List.set_cons_succ]
            refine take_at (i := 4) 62 ?_ rfl rfl (by kernel_rfl) (by kernel_rfl) (by kernel_rfl) (fun _ _ _ h => h) (.inl ⟨rfl, ?_⟩) BV.out ?_
            rotate_left 1
            · intro w hSw; go_simp; try with_reducible rfl
            simp only [Act.put, List.setIfInBounds_toArray, List.set_cons_zero, List.set_cons_succ]
            refine take_at (i := 5) 63 (.slice a.u.a a.u.l.length a.u.c) rfl rfl (by kernel_rfl) (by kernel_rfl) (by kernel_rfl) (fun _ _ _ h => h) (yields_ld (.tmp 62) 23 (.pointer (some ⟨g, o + i * 2 + 1, none⟩)) _ (fun W hb => ld23c (W := W) ((hb.cell (p := ⟨g, o + i * 2 + 1, none⟩) AG.out).trans AC1.out)) rfl rfl rfl) BV.out ?_
            simp only [Act.put, List.setIfInBounds_toArray, List.set_cons_zero, List.set_cons_succ]
            refine wpAnyH_ready (rs := [0]) (by kernel_rfl) (by simp) (br_ld (i := 0) 58 50 (.tmp 4) (.pointer (some ⟨w.heap.size + 1, 0, none⟩)) (.agg #[.slice ra R.length rc, .slice qa Q.length qc]) rfl rfl rfl rfl rfl (ld50 HX.out) BV.out (fun _ => ?_) AllReadyH.nil)
            simp only [Act.put, List.setIfInBounds_toArray, List.set_cons_zero, List.set_cons_succ]
            refine wpAnyH_ready (rs := [6]) (by kernel_rfl) (by simp) (br_call (i := 6) 64 21 #[.agg #[.slice ra R.length rc, .slice qa Q.length qc], .slice a.u.a a.u.l.length a.u.c] rfl rfl rfl (by go_simp) ((rdid_any _ _ _ R a.u LR.out ⟨_, _, _, rfl⟩ RL6.out).mono ?_) AllReadyH.nil)
            rintro e v2 ⟨r3, rfl, hlt3, hb⟩
            have BV := Lib.hid (BV.out.trans (hb.mono BV.out.size))
            have HH := Lib.hid (HH.out.step hb)
            have LR := Lib.hid (LR.out.step hb)
            have LR3 := Lib.hid hlt3
            have HH3 := HH
            have HX3 := Lib.hid ((hb.block _ (lt_of_block HX.out)).trans HX.out)
            clear hlt3
            obtain ⟨ta, tc, rfl⟩ := LR3.out.1.shape
            clear hb
            refine ⟨_, rfl, BV.out, fun _ => ?_⟩
            simp only [Act.put, List.setIfInBounds_toArray, List.set_cons_zero, List.set_cons_succ]
            have LN0 := Lib.hid (LI.set1 (i := i + 1) (BV.out.trans ((Below.refl _ _).setCell (p := ⟨w.heap.size + 1, 0, none⟩) (by show w.heap.size ≤ w.heap.size + 1; omega) _))
              (HH3.out.kp (Kp.set (S := [50]) (B := w.heap.size) (j := 0) HX3.out (by omega) (by simp)) (by simp) (by simp) (by simp)) (row_setC (j := 0) HX3.out) (LR3.out.kp (Kp.set (S := [50]) (B := w.heap.size) (j := 0) HX3.out (by omega) (by simp)) (by simp)) (LiesT.nil 23 _)
              (trim_map ED.out XL.out) rfl (trim_len DL6.out) (Nat.zero_le _) (fun y hy => by
                rcases hy with hy | hy
                · rcases trim_mem hy with hy | rfl
                  · exact EL.out y (.inl hy)
                  · exact ⟨U0.out, A10.out⟩
                · cases hy))
            refine wpAnyH_ready (rs := [7]) (by kernel_rfl) (by simp) (br_store (i := 7) 50 (.tmp 4) (.tmp 64) (.pointer (some ⟨w.heap.size + 1, 0, none⟩)) _ _ rfl rfl rfl rfl rfl rfl (st50 HX3.out) LN0.out.bel (fun _ => ?_) AllReadyH.nil)
            simp only [Act.put, List.setIfInBounds_toArray, List.set_cons_zero, List.set_cons_succ]
            refine wpAnyH_done (by kernel_rfl) ?_ _
            obtain ⟨wx, hwx⟩ : ∃ z, World.setCell (World.setCell v2 ⟨w.heap.size + 1, 0, none⟩ (.slice ta (trim (R ++ [a.u])).length tc)) ⟨w.heap.size + 1, 1, none⟩ (.slice none 0 0) = z := ⟨_, rfl⟩
            rw [hwx] at LN0 ⊢
            have GL0 := Lib.hid (LiesK.nil (enc := encH) (k := 7) wx)
            have WL0 := Lib.hid (LiesK.nil (enc := encH) (k := 7) wx)
            have GN := Lib.hid (show ([] : List Ch).length ≤ 10 from Nat.zero_le _)
            clear hwx LR3 HH3 HX3 HX
            obtain ⟨D1, U1, R1, Q1, vd1, vu1, rd1, ru1, LN1⟩ : ∃ D1 U1 R1 Q1 a b c d, Hid (LI w _ (i + 1) D1 U1 R1 Q1 a b c d) := ⟨_, _, _, _, _, _, _, _, LN0⟩
            clear LN0
            have HLN := Lib.hid (hlen_any _ _ _ _ _ _ _ LN1.out.his)
            obtain ⟨nd, hnd⟩ : ∃ z, D1.length = z := ⟨_, rfl⟩
            obtain ⟨nu, hnu⟩ : ∃ z, U1.length = z := ⟨_, rfl⟩
            rw [hnd, hnu] at HLN
            obtain ⟨ra, rc, hra⟩ := LN1.out.lr.1.shape
            obtain ⟨qa, qc, hqa⟩ := LN1.out.lq.1.shape
            have hld := congrArg List.length LN1.out.ed
            have hlu := congrArg List.length LN1.out.eu
            rw [List.length_map, List.length_map] at hld hlu
            rw [← hld, hnd] at hra
            rw [← hlu, hnu] at hqa
            subst hra hqa
            clear hld hlu
            go_wp2_with fail
            refine HLN.out.mono ?_
            rintro e wl ⟨rfl, hb⟩
            have LX := Lib.hid (LN1.out.step hb)
            have GLx := Lib.hid (GL0.out.step hb)
            have WLx := Lib.hid (WL0.out.step hb)
            have tnd : ((nd : Int) != (nd : Int)) = false := by simp
            have tnu : ((nu : Int) != (nu : Int)) = false := by simp
            clear hb HLN LN1 GL0 WL0 hnd hnu
            have TH := Lib.hid (theirs_any wl _ [] GLx.out (by have := GN.out; omega))
            go_wp2_with fail
            refine TH.out.mono ?_
            rintro e wt ⟨r1, rfl, ho, hb⟩
            have G1 := Lib.hid (own_liesK encH_len ho)
            have LY := Lib.hid (LX.out.step hb)
            have WLy := Lib.hid (WLx.out.step hb)
            clear ho hb TH LX GLx WLx
            have CS := Lib.hid (csame_any wt r1 _ [] G1.out WLy.out)
            go_wp2_with fail
            refine CS.out.mono ?_
            rintro e wz ⟨rfl, hb⟩
            have LN := Lib.hid (LY.out.step hb)
            have d0 := cell_row (j := 0) LN.out.rbox rfl
            have d1 := cell_row (j := 1) LN.out.rbox rfl
            clear hb CS LY WLy G1
            go_wp2
            go_roundw
            case rel => exact ⟨i + 1, by go_num, by omega, by omega, _, _, _, _, _, _, _, _, LN⟩
            case measure => simp [intOf]; omega
          by_cases k1 : kk = 1
          · subst k1
            have MI := Lib.hid (mine_any wr _ a.u.l (UL.out wr KK.out.bel) (by have := A10.out; omega))
            go_wp2_with fail
            refine MI.out.mono ?_
            rintro e wm ⟨r0, rfl, ho, hb⟩
            have MV := Lib.hid (own_liesK encH_len ho)
            have KM := Lib.hid (KK.out.step hb)
            clear ho hb MI KK
            have DC := Lib.hid (did_any wm w.heap.size w.heap.size vd vu r0 D U a.u.l KM.out.his KM.out.bel.size MV.out (by have := A10.out; omega) DL6.out)
            go_wp2_with fail
            refine DC.out.mono ?_
            rintro e wd ⟨x, ⟨rfl, hxl⟩, va, hh, hk⟩
            have XL := Lib.hid hxl
            have HHx := Lib.hid hh
            obtain ⟨hb1, hb2, hb3, hb4⟩ := KM.out.hist hk
            have BD := Lib.hid hb1
            have HX := Lib.hid hb2
            have LRx := Lib.hid hb3
            have HH := Lib.hid (HHx.out.step (Below.refl _ _).drew)
            have LR := Lib.hid (LRx.out.step (Below.refl _ _).drew)
            clear hxl hh hk hb1 hb2 hb3 hb4 DC KM MV HHx LRx
            go_upto_region 16 with (fail)
            refine wp_region_held_drew (S := fun w' => Below w.heap.size w w') (by kernel_rfl) ((BD.out.trans ((Below.refl wd.heap.size wd).drew.mono BD.out.size))) (fun hHeld => ?_)
            have BV := Lib.hid (show Below w.heap.size w wd.drew from (BD.out.trans ((Below.refl wd.heap.size wd).drew.mono BD.out.size)))
            clear hHeld
            refine take_at (i := 1) 59 ?_ rfl rfl (by kernel_rfl) (by kernel_rfl) (by kernel_rfl) (fun _ _ _ h => h) (.inl ⟨rfl, ?_⟩) BV.out ?_
            rotate_left 1
            · intro w hSw; go_simp; try with_reducible rfl
            simp only [Act.put, List.setIfInBounds_toArray, List.set_cons_zero, List.set_cons_succ]
            refine take_at (i := 2) 60 ?_ rfl rfl (by kernel_rfl) (by kernel_rfl) (by kernel_rfl) (fun _ _ _ h => h) (.inl ⟨rfl, ?_⟩) BV.out ?_
            rotate_left 1
            · intro w hSw; go_simp; try with_reducible rfl
            simp only [Act.put, List.setIfInBounds_toArray, List.set_cons_zero, List.set_cons_succ]
            refine take_at (i := 3) 61 (.pointer (some ⟨g, o + i * 2, none⟩)) rfl rfl (by kernel_rfl) (by kernel_rfl) (by kernel_rfl) (fun _ _ _ h => h) (yields_ix (.tmp 59) (.tmp 60) 43 (.slice (some ⟨g, o, none⟩) al.length cap) (.int .i64 (i : Int)) _ (fun W => IX.out W) rfl rfl rfl rfl) BV.out ?_
            simp only [Act.put, List.setIfInBounds_toArray, List.set_cons_zero, List.set_cons_succ]
            refine take_at (i := 4) 62 ?_ rfl rfl (by kernel_rfl) (by kernel_rfl) (by kernel_rfl) (fun _ _ _ h => h) (.inl ⟨rfl, ?_⟩) BV.out ?_
            rotate_left 1
            · intro w hSw; go_simp; try with_reducible rfl
            simp only [Act.put, List.setIfInBounds_toArray, List.set_cons_zero, List.set_cons_succ]
            refine take_at (i := 5) 63 (.slice a.u.a a.u.l.length a.u.c) rfl rfl (by kernel_rfl) (by kernel_rfl) (by kernel_rfl) (fun _ _ _ h => h) (yields_ld (.tmp 62) 23 (.pointer (some ⟨g, o + i * 2 + 1, none⟩)) _ (fun W hb => ld23c (W := W) ((hb.cell (p := ⟨g, o + i * 2 + 1, none⟩) AG.out).trans AC1.out)) rfl rfl rfl) BV.out ?_
            simp only [Act.put, List.setIfInBounds_toArray, List.set_cons_zero, List.set_cons_succ]
            refine wpAnyH_ready (rs := [0]) (by kernel_rfl) (by simp) (br_ld (i := 0) 58 50 (.tmp 4) (.pointer (some ⟨w.heap.size + 1, 0, none⟩)) (.agg #[.slice ra R.length rc, .slice qa Q.length qc]) rfl rfl rfl rfl rfl (ld50 HX.out) BV.out (fun _ => ?_) AllReadyH.nil)
            simp only [Act.put, List.setIfInBounds_toArray, List.set_cons_zero, List.set_cons_succ]
            refine wpAnyH_ready (rs := [6]) (by kernel_rfl) (by simp) (br_call (i := 6) 64 21 #[.agg #[.slice ra R.length rc, .slice qa Q.length qc], .slice a.u.a a.u.l.length a.u.c] rfl rfl rfl (by go_simp) ((rdid_any _ _ _ R a.u LR.out ⟨_, _, _, rfl⟩ RL6.out).mono ?_) AllReadyH.nil)
            rintro e v2 ⟨r3, rfl, hlt3, hb⟩
            have BV := Lib.hid (BV.out.trans (hb.mono BV.out.size))
            have HH := Lib.hid (HH.out.step hb)
            have LR := Lib.hid (LR.out.step hb)
            have LR3 := Lib.hid hlt3
            have HH3 := HH
            have HX3 := Lib.hid ((hb.block _ (lt_of_block HX.out)).trans HX.out)
            clear hlt3
            obtain ⟨ta, tc, rfl⟩ := LR3.out.1.shape
            clear hb
            refine ⟨_, rfl, BV.out, fun _ => ?_⟩
            simp only [Act.put, List.setIfInBounds_toArray, List.set_cons_zero, List.set_cons_succ]
            have LN0 := Lib.hid (LI.set1 (i := i + 1) (BV.out.trans ((Below.refl _ _).setCell (p := ⟨w.heap.size + 1, 0, none⟩) (by show w.heap.size ≤ w.heap.size + 1; omega) _))
              (HH3.out.kp (Kp.set (S := [50]) (B := w.heap.size) (j := 0) HX3.out (by omega) (by simp)) (by simp) (by simp) (by simp)) (row_setC (j := 0) HX3.out) (LR3.out.kp (Kp.set (S := [50]) (B := w.heap.size) (j := 0) HX3.out (by omega) (by simp)) (by simp)) (LiesT.nil 23 _)
              (trim_map ED.out XL.out) rfl (trim_len DL6.out) (Nat.zero_le _) (fun y hy => by
                rcases hy with hy | hy
                · rcases trim_mem hy with hy | rfl
                  · exact EL.out y (.inl hy)
                  · exact ⟨U0.out, A10.out⟩
                · cases hy))
            refine wpAnyH_ready (rs := [7]) (by kernel_rfl) (by simp) (br_store (i := 7) 50 (.tmp 4) (.tmp 64) (.pointer (some ⟨w.heap.size + 1, 0, none⟩)) _ _ rfl rfl rfl rfl rfl rfl (st50 HX3.out) LN0.out.bel (fun _ => ?_) AllReadyH.nil)
            simp only [Act.put, List.setIfInBounds_toArray, List.set_cons_zero, List.set_cons_succ]
            refine wpAnyH_done (by kernel_rfl) ?_ _
            obtain ⟨wx, hwx⟩ : ∃ z, World.setCell (World.setCell v2 ⟨w.heap.size + 1, 0, none⟩ (.slice ta (trim (R ++ [a.u])).length tc)) ⟨w.heap.size + 1, 1, none⟩ (.slice none 0 0) = z := ⟨_, rfl⟩
            rw [hwx] at LN0 ⊢
            have GL0 := Lib.hid (LiesK.nil (enc := encH) (k := 7) wx)
            have WL0 := Lib.hid (LiesK.nil (enc := encH) (k := 7) wx)
            have GN := Lib.hid (show ([] : List Ch).length ≤ 10 from Nat.zero_le _)
            clear hwx LR3 HH3 HX3 HX
            obtain ⟨D1, U1, R1, Q1, vd1, vu1, rd1, ru1, LN1⟩ : ∃ D1 U1 R1 Q1 a b c d, Hid (LI w _ (i + 1) D1 U1 R1 Q1 a b c d) := ⟨_, _, _, _, _, _, _, _, LN0⟩
            clear LN0
            have HLN := Lib.hid (hlen_any _ _ _ _ _ _ _ LN1.out.his)
            obtain ⟨nd, hnd⟩ : ∃ z, D1.length = z := ⟨_, rfl⟩
            obtain ⟨nu, hnu⟩ : ∃ z, U1.length = z := ⟨_, rfl⟩
            rw [hnd, hnu] at HLN
            obtain ⟨ra, rc, hra⟩ := LN1.out.lr.1.shape
            obtain ⟨qa, qc, hqa⟩ := LN1.out.lq.1.shape
            have hld := congrArg List.length LN1.out.ed
            have hlu := congrArg List.length LN1.out.eu
            rw [List.length_map, List.length_map] at hld hlu
            rw [← hld, hnd] at hra
            rw [← hlu, hnu] at hqa
            subst hra hqa
            clear hld hlu
            go_wp2_with fail
            refine HLN.out.mono ?_
            rintro e wl ⟨rfl, hb⟩
            have LX := Lib.hid (LN1.out.step hb)
            have GLx := Lib.hid (GL0.out.step hb)
            have WLx := Lib.hid (WL0.out.step hb)
            have tnd : ((nd : Int) != (nd : Int)) = false := by simp
            have tnu : ((nu : Int) != (nu : Int)) = false := by simp
            clear hb HLN LN1 GL0 WL0 hnd hnu
            have TH := Lib.hid (theirs_any wl _ [] GLx.out (by have := GN.out; omega))
            go_wp2_with fail
            refine TH.out.mono ?_
            rintro e wt ⟨r1, rfl, ho, hb⟩
            have G1 := Lib.hid (own_liesK encH_len ho)
            have LY := Lib.hid (LX.out.step hb)
            have WLy := Lib.hid (WLx.out.step hb)
            clear ho hb TH LX GLx WLx
            have CS := Lib.hid (csame_any wt r1 _ [] G1.out WLy.out)
            go_wp2_with fail
            refine CS.out.mono ?_
            rintro e wz ⟨rfl, hb⟩
            have LN := Lib.hid (LY.out.step hb)
            have d0 := cell_row (j := 0) LN.out.rbox rfl
            have d1 := cell_row (j := 1) LN.out.rbox rfl
            clear hb CS LY WLy G1
            go_wp2
            go_roundw
            case rel => exact ⟨i + 1, by go_num, by omega, by omega, _, _, _, _, _, _, _, _, LN⟩
            case measure => simp [intOf]; omega
          by_cases k2 : kk = 2
          · subst k2
            rcases List.eq_nil_or_concat D with hX | ⟨X', x, hX⟩
            · subst hX
              have hY : R = [] := by have h := congrArg List.length ED.out; rw [List.length_map, List.length_map] at h; exact List.eq_nil_of_length_eq_zero h.symm
              subst hY
              have HU := Lib.hid (undo_nil wr w.heap.size w.heap.size vd vu U KK.out.his)
              go_wp2_with fail
              refine HU.out.mono ?_
              rintro e w1 ⟨rfl, hb⟩
              have LN0 := Lib.hid ((KK.out.step hb).wide (Nat.le_succ i))
              clear hb HU KK
              have xf := cell_row (j := 0) LN0.out.rbox rfl
              go_upto_region 34 with (fail)
              have GL0 := Lib.hid (LiesK.nil (enc := encH) (k := 7) w1)
              have WL0 := Lib.hid (LiesK.nil (enc := encH) (k := 7) w1)
              have GN := Lib.hid (show ([] : List Ch).length ≤ 10 from Nat.zero_le _)
              clear xf
              obtain ⟨D1, U1, R1, Q1, vd1, vu1, rd1, ru1, LN1⟩ : ∃ D1 U1 R1 Q1 a b c d, Hid (LI w _ (i + 1) D1 U1 R1 Q1 a b c d) := ⟨_, _, _, _, _, _, _, _, LN0⟩
              clear LN0
              have HLN := Lib.hid (hlen_any _ _ _ _ _ _ _ LN1.out.his)
              obtain ⟨nd, hnd⟩ : ∃ z, D1.length = z := ⟨_, rfl⟩
              obtain ⟨nu, hnu⟩ : ∃ z, U1.length = z := ⟨_, rfl⟩
              rw [hnd, hnu] at HLN
              obtain ⟨ra, rc, hra⟩ := LN1.out.lr.1.shape
              obtain ⟨qa, qc, hqa⟩ := LN1.out.lq.1.shape
              have hld := congrArg List.length LN1.out.ed
              have hlu := congrArg List.length LN1.out.eu
              rw [List.length_map, List.length_map] at hld hlu
              rw [← hld, hnd] at hra
              rw [← hlu, hnu] at hqa
              subst hra hqa
              clear hld hlu
              go_wp2_with fail
              refine HLN.out.mono ?_
              rintro e wl ⟨rfl, hb⟩
              have LX := Lib.hid (LN1.out.step hb)
              have GLx := Lib.hid (GL0.out.step hb)
              have WLx := Lib.hid (WL0.out.step hb)
              have tnd : ((nd : Int) != (nd : Int)) = false := by simp
              have tnu : ((nu : Int) != (nu : Int)) = false := by simp
              clear hb HLN LN1 GL0 WL0 hnd hnu
              have TH := Lib.hid (theirs_any wl _ [] GLx.out (by have := GN.out; omega))
              go_wp2_with fail
              refine TH.out.mono ?_
              rintro e wt ⟨r1, rfl, ho, hb⟩
              have G1 := Lib.hid (own_liesK encH_len ho)
              have LY := Lib.hid (LX.out.step hb)
              have WLy := Lib.hid (WLx.out.step hb)
              clear ho hb TH LX GLx WLx
              have CS := Lib.hid (csame_any wt r1 _ [] G1.out WLy.out)
              go_wp2_with fail
              refine CS.out.mono ?_
              rintro e wz ⟨rfl, hb⟩
              have LN := Lib.hid (LY.out.step hb)
              have d0 := cell_row (j := 0) LN.out.rbox rfl
              have d1 := cell_row (j := 1) LN.out.rbox rfl
              clear hb CS LY WLy G1
              go_wp2
              go_roundw
              case rel => exact ⟨i + 1, by go_num, by omega, by omega, _, _, _, _, _, _, _, _, LN⟩
              case measure => simp [intOf]; omega
            · rw [List.concat_eq_append] at hX
              subst hX
              obtain ⟨Y', y, hY, hE, hxy⟩ := map_snoc ED.out
              subst hY
              have hyl : y.l = x.l := hxy.symm
              have HU := Lib.hid (undo_snoc wr w.heap.size w.heap.size vd vu X' U x KK.out.his KK.out.bel.size (by have := DL6.out; rw [List.length_append] at this; omega))
              have EE := Lib.hid hE
              have YE := Lib.hid (EL.out y (.inl (List.mem_append_right _ (List.mem_singleton.2 rfl))))
              have XO := Lib.hid (KK.out.his.own.el x (.inl (List.mem_append_right _ (List.mem_singleton.2 rfl))))
              have hlY : (Y' ++ [y]).length = Y'.length + 1 := by simp
              obtain ⟨n, hn⟩ : ∃ z, (Y' ++ [y]).length = z := ⟨_, rfl⟩
              have hn0 : 0 < n := by omega
              have hm : Y'.length = n - 1 := by omega
              have h7 : n ≤ 1000 := by have h := congrArg List.length ED.out; rw [List.length_map, List.length_map, hn] at h; have := DL6.out; omega
              have hgt : (0 : Int) < (n : Int) := by omega
              have hmn : (n : Int) - 1 < (n : Int) := by omega
              have hm0 : (0 : Int) ≤ (n : Int) - 1 := by omega
              have hmle : (n : Int) - 1 ≤ (n : Int) := by omega
              clear hxy
              go_wp2_with fail
              refine HU.out.mono ?_
              rintro e w1 ⟨rfl, va, hh, hk⟩
              obtain ⟨hb1, hb2, hb3, hb4⟩ := KK.out.hist hk
              have LT := Lib.hid hb3
              have LO := Lib.hid hb4
              have B1x := Lib.hid hb1
              have H1x := Lib.hid hh
              have XO1 := Lib.hid (own_kp XO.out hk (by simp))
              rw [hn] at hb2 LT
              have XB := Lib.hid hb2
              obtain ⟨sg, so, ys, hao, hys, hsg, hsc⟩ := LT.out.1.at' (show n - 1 < n by omega)
              have hys : y = ys := by
                rw [List.getElem?_append_right (by omega), hm, Nat.sub_self] at hys
                simpa using hys
              subst hys
              subst hao
              have cy := hsc 0 _ rfl
              rw [Nat.mul_one, Nat.add_zero, show y.v = .slice y.a y.l.length y.c from rfl, hyl] at cy
              have hcap : n ≤ rc := by
                obtain ⟨ao', cap', e, h1, _⟩ := LT.out.1
                injection e with e1 e2 e3
                rw [hn] at h1
                subst e3
                exact h1
              have hcap1 : (n : Int) ≤ (rc : Int) := by omega
              have hcap2 : (n : Int) - 1 ≤ (rc : Int) := by omega
              have xx := cell_row (j := 0) hb2 rfl
              have fx := frozen_of_row (j := 0) _ _ _ _ hb2
              have LI0 := Lib.hid (show LiesT 23 w1 (.slice (some ⟨sg, so, none⟩) (n - 1) rc) Y' from by
                have h := LT.out
                rw [← hm]
                exact LiesT.init h)
              have LN0 := Lib.hid (LI.set0 (i := i + 1) B1x.out H1x.out XB.out LI0.out LO.out EE.out EU.out (by have := DL6.out; rw [List.length_append] at this; omega) (by have := UI.out; omega) (fun z hz => EL.out z (hz.imp (fun h => List.mem_append_left _ h) id)))
              clear hb1 hb2 hb3 hb4 hh hk hsg hsc HU KK LT LO LI0 XO H1x B1x hn hm hlY
              go_upto_region 34 with (fail)
              have HKX := Lib.hid (show Kp [50] w.heap.size w1 (w1.setCell ⟨w.heap.size + 1, 0, none⟩ (.slice (some ⟨sg, so, none⟩) (n - 1) rc)) from Kp.set XB.out (by omega) (by simp))
              obtain ⟨wx, hwx⟩ : ∃ z, World.setCell w1 ⟨w.heap.size + 1, 0, none⟩ (.slice (some ⟨sg, so, none⟩) (n - 1) rc) = z := ⟨_, rfl⟩
              rw [hwx] at LN0 HKX ⊢
              have GL0 := Lib.hid (show LiesK encH 7 wx (.slice x.a x.l.length x.c) x.l from own_liesK encH_len (own_kp XO1.out HKX.out (by simp)))
              have WL0 := Lib.hid (show LiesK encH 7 wx (.slice y.a x.l.length y.c) x.l from by
                have h := YE.out.1.step LN0.out.bel
                rw [show y.v = .slice y.a y.l.length y.c from rfl, hyl] at h
                exact h)
              have GN := Lib.hid (show x.l.length ≤ 10 from by rw [← hyl]; exact YE.out.2)
              clear xx fx cy hwx XB XO1 HKX YE
              obtain ⟨D1, U1, R1, Q1, vd1, vu1, rd1, ru1, LN1⟩ : ∃ D1 U1 R1 Q1 a b c d, Hid (LI w _ (i + 1) D1 U1 R1 Q1 a b c d) := ⟨_, _, _, _, _, _, _, _, LN0⟩
              clear LN0
              have HLN := Lib.hid (hlen_any _ _ _ _ _ _ _ LN1.out.his)
              obtain ⟨nd, hnd⟩ : ∃ z, D1.length = z := ⟨_, rfl⟩
              obtain ⟨nu, hnu⟩ : ∃ z, U1.length = z := ⟨_, rfl⟩
              rw [hnd, hnu] at HLN
              obtain ⟨ra, rc, hra⟩ := LN1.out.lr.1.shape
              obtain ⟨qa, qc, hqa⟩ := LN1.out.lq.1.shape
              have hld := congrArg List.length LN1.out.ed
              have hlu := congrArg List.length LN1.out.eu
              rw [List.length_map, List.length_map] at hld hlu
              rw [← hld, hnd] at hra
              rw [← hlu, hnu] at hqa
              subst hra hqa
              clear hld hlu
              go_wp2_with fail
              refine HLN.out.mono ?_
              rintro e wl ⟨rfl, hb⟩
              have LX := Lib.hid (LN1.out.step hb)
              have GLx := Lib.hid (GL0.out.step hb)
              have WLx := Lib.hid (WL0.out.step hb)
              have tnd : ((nd : Int) != (nd : Int)) = false := by simp
              have tnu : ((nu : Int) != (nu : Int)) = false := by simp
              clear hb HLN LN1 GL0 WL0 hnd hnu
              have TH := Lib.hid (theirs_any wl _ x.l GLx.out (by have := GN.out; omega))
              go_wp2_with fail
              refine TH.out.mono ?_
              rintro e wt ⟨r1, rfl, ho, hb⟩
              have G1 := Lib.hid (own_liesK encH_len ho)
              have LY := Lib.hid (LX.out.step hb)
              have WLy := Lib.hid (WLx.out.step hb)
              clear ho hb TH LX GLx WLx
              have CS := Lib.hid (csame_any wt r1 _ x.l G1.out WLy.out)
              go_wp2_with fail
              refine CS.out.mono ?_
              rintro e wz ⟨rfl, hb⟩
              have LN := Lib.hid (LY.out.step hb)
              have d0 := cell_row (j := 0) LN.out.rbox rfl
              have d1 := cell_row (j := 1) LN.out.rbox rfl
              clear hb CS LY WLy G1
              go_wp2
              go_roundw
              case rel => exact ⟨i + 1, by go_num, by omega, by omega, _, _, _, _, _, _, _, _, LN⟩
              case measure => simp [intOf]; omega
          by_cases k3 : kk = 3
          · subst k3
            rcases List.eq_nil_or_concat D with hX | ⟨X', x, hX⟩
            · subst hX
              have hY : R = [] := by have h := congrArg List.length ED.out; rw [List.length_map, List.length_map] at h; exact List.eq_nil_of_length_eq_zero h.symm
              subst hY
              have HU := Lib.hid (undo_nil wr w.heap.size w.heap.size vd vu U KK.out.his)
              go_wp2_with fail
              refine HU.out.mono ?_
              rintro e w1 ⟨rfl, hb⟩
              have LN0 := Lib.hid ((KK.out.step hb).wide (Nat.le_succ i))
              clear hb HU KK
              have xf := cell_row (j := 0) LN0.out.rbox rfl
              go_upto_region 34 with (fail)
              have GL0 := Lib.hid (LiesK.nil (enc := encH) (k := 7) w1)
              have WL0 := Lib.hid (LiesK.nil (enc := encH) (k := 7) w1)
              have GN := Lib.hid (show ([] : List Ch).length ≤ 10 from Nat.zero_le _)
              clear xf
              obtain ⟨D1, U1, R1, Q1, vd1, vu1, rd1, ru1, LN1⟩ : ∃ D1 U1 R1 Q1 a b c d, Hid (LI w _ (i + 1) D1 U1 R1 Q1 a b c d) := ⟨_, _, _, _, _, _, _, _, LN0⟩
              clear LN0
              have HLN := Lib.hid (hlen_any _ _ _ _ _ _ _ LN1.out.his)
              obtain ⟨nd, hnd⟩ : ∃ z, D1.length = z := ⟨_, rfl⟩
              obtain ⟨nu, hnu⟩ : ∃ z, U1.length = z := ⟨_, rfl⟩
              rw [hnd, hnu] at HLN
              obtain ⟨ra, rc, hra⟩ := LN1.out.lr.1.shape
              obtain ⟨qa, qc, hqa⟩ := LN1.out.lq.1.shape
              have hld := congrArg List.length LN1.out.ed
              have hlu := congrArg List.length LN1.out.eu
              rw [List.length_map, List.length_map] at hld hlu
              rw [← hld, hnd] at hra
              rw [← hlu, hnu] at hqa
              subst hra hqa
              clear hld hlu
              go_wp2_with fail
              refine HLN.out.mono ?_
              rintro e wl ⟨rfl, hb⟩
              have LX := Lib.hid (LN1.out.step hb)
              have GLx := Lib.hid (GL0.out.step hb)
              have WLx := Lib.hid (WL0.out.step hb)
              have tnd : ((nd : Int) != (nd : Int)) = false := by simp
              have tnu : ((nu : Int) != (nu : Int)) = false := by simp
              clear hb HLN LN1 GL0 WL0 hnd hnu
              have TH := Lib.hid (theirs_any wl _ [] GLx.out (by have := GN.out; omega))
              go_wp2_with fail
              refine TH.out.mono ?_
              rintro e wt ⟨r1, rfl, ho, hb⟩
              have G1 := Lib.hid (own_liesK encH_len ho)
              have LY := Lib.hid (LX.out.step hb)
              have WLy := Lib.hid (WLx.out.step hb)
              clear ho hb TH LX GLx WLx
              have CS := Lib.hid (csame_any wt r1 _ [] G1.out WLy.out)
              go_wp2_with fail
              refine CS.out.mono ?_
              rintro e wz ⟨rfl, hb⟩
              have LN := Lib.hid (LY.out.step hb)
              have d0 := cell_row (j := 0) LN.out.rbox rfl
              have d1 := cell_row (j := 1) LN.out.rbox rfl
              clear hb CS LY WLy G1
              go_wp2
              go_roundw
              case rel => exact ⟨i + 1, by go_num, by omega, by omega, _, _, _, _, _, _, _, _, LN⟩
              case measure => simp [intOf]; omega
            · rw [List.concat_eq_append] at hX
              subst hX
              obtain ⟨Y', y, hY, hE, hxy⟩ := map_snoc ED.out
              subst hY
              have hyl : y.l = x.l := hxy.symm
              have HU := Lib.hid (undo_snoc wr w.heap.size w.heap.size vd vu X' U x KK.out.his KK.out.bel.size (by have := DL6.out; rw [List.length_append] at this; omega))
              have EE := Lib.hid hE
              have YE := Lib.hid (EL.out y (.inl (List.mem_append_right _ (List.mem_singleton.2 rfl))))
              have XO := Lib.hid (KK.out.his.own.el x (.inl (List.mem_append_right _ (List.mem_singleton.2 rfl))))
              have hlY : (Y' ++ [y]).length = Y'.length + 1 := by simp
              obtain ⟨n, hn⟩ : ∃ z, (Y' ++ [y]).length = z := ⟨_, rfl⟩
              have hn0 : 0 < n := by omega
              have hm : Y'.length = n - 1 := by omega
              have h7 : n ≤ 1000 := by have h := congrArg List.length ED.out; rw [List.length_map, List.length_map, hn] at h; have := DL6.out; omega
              have hgt : (0 : Int) < (n : Int) := by omega
              have hmn : (n : Int) - 1 < (n : Int) := by omega
              have hm0 : (0 : Int) ≤ (n : Int) - 1 := by omega
              have hmle : (n : Int) - 1 ≤ (n : Int) := by omega
              clear hxy
              go_wp2_with fail
              refine HU.out.mono ?_
              rintro e w1 ⟨rfl, va, hh, hk⟩
              obtain ⟨hb1, hb2, hb3, hb4⟩ := KK.out.hist hk
              have LT := Lib.hid hb3
              have LO := Lib.hid hb4
              have B1x := Lib.hid hb1
              have H1x := Lib.hid hh
              have XO1 := Lib.hid (own_kp XO.out hk (by simp))
              rw [hn] at hb2 LT
              have XB := Lib.hid hb2
              obtain ⟨sg, so, ys, hao, hys, hsg, hsc⟩ := LT.out.1.at' (show n - 1 < n by omega)
              have hys : y = ys := by
                rw [List.getElem?_append_right (by omega), hm, Nat.sub_self] at hys
                simpa using hys
              subst hys
              subst hao
              have cy := hsc 0 _ rfl
              rw [Nat.mul_one, Nat.add_zero, show y.v = .slice y.a y.l.length y.c from rfl, hyl] at cy
              have hcap : n ≤ rc := by
                obtain ⟨ao', cap', e, h1, _⟩ := LT.out.1
                injection e with e1 e2 e3
                rw [hn] at h1
                subst e3
                exact h1
              have hcap1 : (n : Int) ≤ (rc : Int) := by omega
              have hcap2 : (n : Int) - 1 ≤ (rc : Int) := by omega
              have xx := cell_row (j := 0) hb2 rfl
              have fx := frozen_of_row (j := 0) _ _ _ _ hb2
              have LI0 := Lib.hid (show LiesT 23 w1 (.slice (some ⟨sg, so, none⟩) (n - 1) rc) Y' from by
                have h := LT.out
                rw [← hm]
                exact LiesT.init h)
              have LN0 := Lib.hid (LI.set0 (i := i + 1) B1x.out H1x.out XB.out LI0.out LO.out EE.out EU.out (by have := DL6.out; rw [List.length_append] at this; omega) (by have := UI.out; omega) (fun z hz => EL.out z (hz.imp (fun h => List.mem_append_left _ h) id)))
              clear hb1 hb2 hb3 hb4 hh hk hsg hsc HU KK LT LO LI0 XO H1x B1x hn hm hlY
              go_upto_region 34 with (fail)
              have HKX := Lib.hid (show Kp [50] w.heap.size w1 (w1.setCell ⟨w.heap.size + 1, 0, none⟩ (.slice (some ⟨sg, so, none⟩) (n - 1) rc)) from Kp.set XB.out (by omega) (by simp))
              obtain ⟨wx, hwx⟩ : ∃ z, World.setCell w1 ⟨w.heap.size + 1, 0, none⟩ (.slice (some ⟨sg, so, none⟩) (n - 1) rc) = z := ⟨_, rfl⟩
              rw [hwx] at LN0 HKX ⊢
              have GL0 := Lib.hid (show LiesK encH 7 wx (.slice x.a x.l.length x.c) x.l from own_liesK encH_len (own_kp XO1.out HKX.out (by simp)))
              have WL0 := Lib.hid (show LiesK encH 7 wx (.slice y.a x.l.length y.c) x.l from by
                have h := YE.out.1.step LN0.out.bel
                rw [show y.v = .slice y.a y.l.length y.c from rfl, hyl] at h
                exact h)
              have GN := Lib.hid (show x.l.length ≤ 10 from by rw [← hyl]; exact YE.out.2)
              clear xx fx cy hwx XB XO1 HKX YE
              obtain ⟨D1, U1, R1, Q1, vd1, vu1, rd1, ru1, LN1⟩ : ∃ D1 U1 R1 Q1 a b c d, Hid (LI w _ (i + 1) D1 U1 R1 Q1 a b c d) := ⟨_, _, _, _, _, _, _, _, LN0⟩
              clear LN0
              have HLN := Lib.hid (hlen_any _ _ _ _ _ _ _ LN1.out.his)
              obtain ⟨nd, hnd⟩ : ∃ z, D1.length = z := ⟨_, rfl⟩
              obtain ⟨nu, hnu⟩ : ∃ z, U1.length = z := ⟨_, rfl⟩
              rw [hnd, hnu] at HLN
              obtain ⟨ra, rc, hra⟩ := LN1.out.lr.1.shape
              obtain ⟨qa, qc, hqa⟩ := LN1.out.lq.1.shape
              have hld := congrArg List.length LN1.out.ed
              have hlu := congrArg List.length LN1.out.eu
              rw [List.length_map, List.length_map] at hld hlu
              rw [← hld, hnd] at hra
              rw [← hlu, hnu] at hqa
              subst hra hqa
              clear hld hlu
              go_wp2_with fail
              refine HLN.out.mono ?_
              rintro e wl ⟨rfl, hb⟩
              have LX := Lib.hid (LN1.out.step hb)
              have GLx := Lib.hid (GL0.out.step hb)
              have WLx := Lib.hid (WL0.out.step hb)
              have tnd : ((nd : Int) != (nd : Int)) = false := by simp
              have tnu : ((nu : Int) != (nu : Int)) = false := by simp
              clear hb HLN LN1 GL0 WL0 hnd hnu
              have TH := Lib.hid (theirs_any wl _ x.l GLx.out (by have := GN.out; omega))
              go_wp2_with fail
              refine TH.out.mono ?_
              rintro e wt ⟨r1, rfl, ho, hb⟩
              have G1 := Lib.hid (own_liesK encH_len ho)
              have LY := Lib.hid (LX.out.step hb)
              have WLy := Lib.hid (WLx.out.step hb)
              clear ho hb TH LX GLx WLx
              have CS := Lib.hid (csame_any wt r1 _ x.l G1.out WLy.out)
              go_wp2_with fail
              refine CS.out.mono ?_
              rintro e wz ⟨rfl, hb⟩
              have LN := Lib.hid (LY.out.step hb)
              have d0 := cell_row (j := 0) LN.out.rbox rfl
              have d1 := cell_row (j := 1) LN.out.rbox rfl
              clear hb CS LY WLy G1
              go_wp2
              go_roundw
              case rel => exact ⟨i + 1, by go_num, by omega, by omega, _, _, _, _, _, _, _, _, LN⟩
              case measure => simp [intOf]; omega
          by_cases k4 : kk = 4
          · subst k4
            have MI := Lib.hid (mine_any wr _ a.u.l (UL.out wr KK.out.bel) (by have := A10.out; omega))
            go_wp2_with fail
            refine MI.out.mono ?_
            rintro e wm ⟨r0, rfl, ho, hb⟩
            have MV := Lib.hid (own_liesK encH_len ho)
            have KM := Lib.hid (KK.out.step hb)
            clear ho hb MI KK
            have DC := Lib.hid (undone_any wm w.heap.size w.heap.size vu vd r0 D U a.u.l KM.out.his KM.out.bel.size MV.out (by have := A10.out; omega) (by have := UL6.out; omega))
            go_wp2_with fail
            refine DC.out.mono ?_
            rintro e wd ⟨x, ⟨rfl, hxl⟩, va, hh, hk⟩
            have XL := Lib.hid hxl
            obtain ⟨hb1, hb2, hb3, hb4⟩ := KM.out.hist hk
            have BD := Lib.hid hb1
            have UD0 := Lib.hid (show UDS w vd va D (U ++ [x]) R Q (.slice ra R.length rc) (.slice qa Q.length qc) wd from ⟨hh, hb2, hb3, hb4⟩)
            have FR := Lib.hid (show Fr wd wd.drew from ⟨(Below.refl _ _).drew⟩)
            clear hxl hh hk hb1 hb2 hb3 hb4 DC KM MV
            go_upto_region 27 with (fail)
            refine wp_region_held_drew (S := fun w' => Below w.heap.size w w') (by kernel_rfl) ((BD.out.trans ((Below.refl wd.heap.size wd).drew.mono BD.out.size))) (fun hHeld => ?_)
            have BV := Lib.hid (show Below w.heap.size w wd.drew from (BD.out.trans ((Below.refl wd.heap.size wd).drew.mono BD.out.size)))
            clear hHeld
            refine take_at (i := 0) 100 ?_ rfl rfl (by kernel_rfl) (by kernel_rfl) (by kernel_rfl) (fun _ _ _ h => h) (.inl ⟨rfl, ?_⟩) BV.out ?_
            rotate_left 1
            · intro w hSw; go_simp; try with_reducible rfl
            simp only [Act.put, List.setIfInBounds_toArray, List.set_cons_zero, List.set_cons_succ]
            refine take_at (i := 1) 101 ?_ rfl rfl (by kernel_rfl) (by kernel_rfl) (by kernel_rfl) (fun _ _ _ h => h) (.inl ⟨rfl, ?_⟩) BV.out ?_
            rotate_left 1
            · intro w hSw; go_simp; try with_reducible rfl
            simp only [Act.put, List.setIfInBounds_toArray, List.set_cons_zero, List.set_cons_succ]
            refine take_at (i := 4) 104 ?_ rfl rfl (by kernel_rfl) (by kernel_rfl) (by kernel_rfl) (fun _ _ _ h => h) (.inl ⟨rfl, ?_⟩) BV.out ?_
            rotate_left 1
            · intro w hSw; go_simp; try with_reducible rfl
            simp only [Act.put, List.setIfInBounds_toArray, List.set_cons_zero, List.set_cons_succ]
            refine take_at (i := 5) 105 ?_ rfl rfl (by kernel_rfl) (by kernel_rfl) (by kernel_rfl) (fun _ _ _ h => h) (.inl ⟨rfl, ?_⟩) BV.out ?_
            rotate_left 1
            · intro w hSw; go_simp; try with_reducible rfl
            simp only [Act.put, List.setIfInBounds_toArray, List.set_cons_zero, List.set_cons_succ]
            refine take_at (i := 6) 106 (.pointer (some ⟨g, o + i * 2, none⟩)) rfl rfl (by kernel_rfl) (by kernel_rfl) (by kernel_rfl) (fun _ _ _ h => h) (yields_ix (.tmp 104) (.tmp 105) 43 (.slice (some ⟨g, o, none⟩) al.length cap) (.int .i64 (i : Int)) _ (fun W => IX.out W) rfl rfl rfl rfl) BV.out ?_
            simp only [Act.put, List.setIfInBounds_toArray, List.set_cons_zero, List.set_cons_succ]
            refine take_at (i := 7) 107 ?_ rfl rfl (by kernel_rfl) (by kernel_rfl) (by kernel_rfl) (fun _ _ _ h => h) (.inl ⟨rfl, ?_⟩) BV.out ?_
            rotate_left 1
            · intro w hSw; go_simp; try with_reducible rfl
            simp only [Act.put, List.setIfInBounds_toArray, List.set_cons_zero, List.set_cons_succ]
            refine take_at (i := 8) 108 (.slice a.u.a a.u.l.length a.u.c) rfl rfl (by kernel_rfl) (by kernel_rfl) (by kernel_rfl) (fun _ _ _ h => h) (yields_ld (.tmp 107) 23 (.pointer (some ⟨g, o + i * 2 + 1, none⟩)) _ (fun W hb => ld23c (W := W) ((hb.cell (p := ⟨g, o + i * 2 + 1, none⟩) AG.out).trans AC1.out)) rfl rfl rfl) BV.out ?_
            simp only [Act.put, List.setIfInBounds_toArray, List.set_cons_zero, List.set_cons_succ]
            refine wpAnyH_ready (rs := [2, 9]) (by kernel_rfl) (by simp) (br_ld (i := 2) 102 48 (.tmp 101) (.pointer (some ⟨w.heap.size + 1, 1, none⟩)) (.slice qa Q.length qc) rfl rfl rfl rfl rfl (ld48 (j := 1) (UD0.out.step FR.out.bel).box rfl) BV.out (fun _ => ?_) (br_bslice (i := 9) 109 48 1 _ #[(0, .slice a.u.a a.u.l.length a.u.c)] _ _ rfl rfl rfl rfl rfl (bsL48 wd.drew a.u) (BV.out.trans ((vstep wd.drew _).mono BV.out.size)) (fun _ => ?_) AllReadyH.nil))
            · simp only [Act.put, List.setIfInBounds_toArray, List.set_cons_zero, List.set_cons_succ]
              refine wpAnyH_ready (rs := [3, 9]) (by kernel_rfl) (by simp) (br_appx (fun u w7 => w7.ownsRow wd.heap.size 23 1 u Q.length (Q.flatMap encL) ∧ Below wd.drew.heap.size wd.drew w7) (i := 3) 103 (.tmp 100) (.tmp 102) 48 48 rfl rfl rfl rfl (.slice none 0 0) (.slice qa Q.length qc) rfl rfl (app_nil wd.drew wd.heap.size _ Q FR.out.bel.size (UD0.out.step FR.out.bel).lq (by have := QL6.out; omega)) (fun u w7 hx => BV.out.trans (hx.2.mono BV.out.size)) ?_ (br_bslice (i := 9) 109 48 1 _ #[(0, .slice a.u.a a.u.l.length a.u.c)] _ _ rfl rfl rfl rfl rfl (bsL48 wd.drew a.u) (BV.out.trans ((vstep wd.drew _).mono BV.out.size)) (fun _ => ?_) AllReadyH.nil))
              · rintro va v2 ⟨ho, hb⟩
                have OV := Lib.hid ho
                clear ho
                have BV := Lib.hid (BV.out.trans (hb.mono BV.out.size))
                have FR := Lib.hid (FR.out.step hb)
                clear hb
                simp only [Act.put, List.setIfInBounds_toArray, List.set_cons_zero, List.set_cons_succ]
                refine wpAnyH_ready (rs := [9]) (by kernel_rfl) (by simp) (br_bslice (i := 9) 109 48 1 _ #[(0, .slice a.u.a a.u.l.length a.u.c)] _ _ rfl rfl rfl rfl rfl (bsL48 v2 a.u) (BV.out.trans ((vstep v2 _).mono BV.out.size)) (fun _ => ?_) AllReadyH.nil)
                obtain ⟨v3, hv3⟩ : ∃ zz, v2.alloc (.cells (encL a.u).toArray 23) = zz := ⟨_, rfl⟩
                have hb : Below v2.heap.size v2 v3 := by rw [← hv3]; exact vstep v2 _
                have X1 := Lib.hid (show LiesK encL 1 v3 (.slice (some ⟨v2.heap.size, 0, none⟩) 1 1) [a.u] from by rw [← hv3]; exact one_liesK encL_len (heap_alloc_new v2 _))
                rw [hv3]
                obtain ⟨kx, hkx⟩ : ∃ zz, v2.heap.size = zz := ⟨_, rfl⟩
                have hb0 : Below v2.heap.size v2 v3 := hb
                rw [hkx] at X1 ⊢
                have BV := Lib.hid (BV.out.trans (hb.mono BV.out.size))
                have FR := Lib.hid (FR.out.step hb)
                have OV := Lib.hid (own_belowK OV.out hb)
                clear hb
                clear hv3 hkx hb0
                simp only [Act.put, List.setIfInBounds_toArray, List.set_cons_zero, List.set_cons_succ]
                refine wpAnyH_ready (rs := [10]) (by kernel_rfl) (by simp) (br_appx (fun u w7 => w7.ownsRow wd.heap.size 23 1 u (Q ++ [a.u]).length ((Q ++ [a.u]).flatMap encL) ∧ Below wd.heap.size v3 w7) (i := 10) 110 (.tmp 103) (.tmp 109) 48 48 rfl rfl rfl rfl _ _ rfl rfl (app_one v3 wd.heap.size _ _ Q a.u FR.out.bel.size OV.out X1.out (by have := QL6.out; omega)) (fun u w7 hx => BV.out.trans (hx.2.mono BD.out.size)) ?_ AllReadyH.nil)
                rintro vb v4 ⟨ho, hb⟩
                have OW := Lib.hid ho
                have US := Lib.hid (UD0.out.step (FR.out.bel.trans hb))
                have BV := Lib.hid (BV.out.trans (hb.mono BD.out.size))
                obtain ⟨ta, tc, rfl⟩ := own_shapeK ho
                clear ho
                simp only [Act.put, List.setIfInBounds_toArray, List.set_cons_zero, List.set_cons_succ]
                refine take_at (i := 11) 111 ?_ rfl rfl (by kernel_rfl) (by kernel_rfl) (by kernel_rfl) (fun _ _ _ h => h) (.inl ⟨rfl, ?_⟩) BV.out ?_
                rotate_left 1
                · intro w hSw; go_simp; try with_reducible rfl
                simp only [Act.put, List.setIfInBounds_toArray, List.set_cons_zero, List.set_cons_succ]
                have LN0 := Lib.hid (LI.set1 (i := i + 1) (Q := Q ++ [a.u]) BV.out US.out.his US.out.box US.out.lr (LiesT.of_own OW.out) ED.out (by rw [List.map_append, List.map_append, EU.out, List.map_cons, List.map_cons, XL.out]) DL6.out (by rw [List.length_append]; have := UI.out; simp; omega) (fun y hy => by
                    rcases hy with hy | hy
                    · exact EL.out y (.inl hy)
                    · rcases List.mem_append.1 hy with hy | hy
                      · exact EL.out y (.inr hy)
                      · rw [List.mem_singleton.1 hy]
                        exact ⟨U0.out, A10.out⟩))
                refine wpAnyH_ready (rs := [12]) (by kernel_rfl) (by simp) (br_store (i := 12) 48 (.tmp 111) (.tmp 110) (.pointer (some ⟨w.heap.size + 1, 1, none⟩)) _ _ rfl rfl rfl rfl rfl rfl (st48 (j := 1) US.out.box rfl) LN0.out.bel (fun _ => ?_) AllReadyH.nil)
                simp only [Act.put, List.setIfInBounds_toArray, List.set_cons_zero, List.set_cons_succ]
                refine wpAnyH_done (by kernel_rfl) ?_ _
                obtain ⟨wx, hwx⟩ : ∃ z, World.setCell v4 ⟨w.heap.size + 1, 1, none⟩ (.slice ta (Q ++ [a.u]).length tc) = z := ⟨_, rfl⟩
                rw [hwx] at LN0 ⊢
                have GL0 := Lib.hid (LiesK.nil (enc := encH) (k := 7) wx)
                have WL0 := Lib.hid (LiesK.nil (enc := encH) (k := 7) wx)
                have GN := Lib.hid (show ([] : List Ch).length ≤ 10 from Nat.zero_le _)
                clear hwx US OW UD0
                obtain ⟨D1, U1, R1, Q1, vd1, vu1, rd1, ru1, LN1⟩ : ∃ D1 U1 R1 Q1 a b c d, Hid (LI w _ (i + 1) D1 U1 R1 Q1 a b c d) := ⟨_, _, _, _, _, _, _, _, LN0⟩
                clear LN0
                have HLN := Lib.hid (hlen_any _ _ _ _ _ _ _ LN1.out.his)
                obtain ⟨nd, hnd⟩ : ∃ z, D1.length = z := ⟨_, rfl⟩
                obtain ⟨nu, hnu⟩ : ∃ z, U1.length = z := ⟨_, rfl⟩
                rw [hnd, hnu] at HLN
                obtain ⟨ra, rc, hra⟩ := LN1.out.lr.1.shape
                obtain ⟨qa, qc, hqa⟩ := LN1.out.lq.1.shape
                have hld := congrArg List.length LN1.out.ed
                have hlu := congrArg List.length LN1.out.eu
                rw [List.length_map, List.length_map] at hld hlu
                rw [← hld, hnd] at hra
                rw [← hlu, hnu] at hqa
                subst hra hqa
                clear hld hlu
                go_wp2_with fail
                refine HLN.out.mono ?_
                rintro e wl ⟨rfl, hb⟩
                have LX := Lib.hid (LN1.out.step hb)
                have GLx := Lib.hid (GL0.out.step hb)
                have WLx := Lib.hid (WL0.out.step hb)
                have tnd : ((nd : Int) != (nd : Int)) = false := by simp
                have tnu : ((nu : Int) != (nu : Int)) = false := by simp
                clear hb HLN LN1 GL0 WL0 hnd hnu
                have TH := Lib.hid (theirs_any wl _ [] GLx.out (by have := GN.out; omega))
                go_wp2_with fail
                refine TH.out.mono ?_
                rintro e wt ⟨r1, rfl, ho, hb⟩
                have G1 := Lib.hid (own_liesK encH_len ho)
                have LY := Lib.hid (LX.out.step hb)
                have WLy := Lib.hid (WLx.out.step hb)
                clear ho hb TH LX GLx WLx
                have CS := Lib.hid (csame_any wt r1 _ [] G1.out WLy.out)
                go_wp2_with fail
                refine CS.out.mono ?_
                rintro e wz ⟨rfl, hb⟩
                have LN := Lib.hid (LY.out.step hb)
                have d0 := cell_row (j := 0) LN.out.rbox rfl
                have d1 := cell_row (j := 1) LN.out.rbox rfl
                clear hb CS LY WLy G1
                go_wp2
                go_roundw
                case rel => exact ⟨i + 1, by go_num, by omega, by omega, _, _, _, _, _, _, _, _, LN⟩
                case measure => simp [intOf]; omega
              · obtain ⟨v6, hv6⟩ : ∃ zz, wd.drew.alloc (.cells (encL a.u).toArray 23) = zz := ⟨_, rfl⟩
                have hb : Below wd.drew.heap.size wd.drew v6 := by rw [← hv6]; exact vstep wd.drew _
                have X1 := Lib.hid (show LiesK encL 1 v6 (.slice (some ⟨wd.drew.heap.size, 0, none⟩) 1 1) [a.u] from by rw [← hv6]; exact one_liesK encL_len (heap_alloc_new wd.drew _))
                rw [hv6]
                obtain ⟨kx, hkx⟩ : ∃ zz, wd.drew.heap.size = zz := ⟨_, rfl⟩
                have hb0 : Below wd.drew.heap.size wd.drew v6 := hb
                rw [hkx] at X1 ⊢
                have BV := Lib.hid (BV.out.trans (hb.mono BV.out.size))
                have FR := Lib.hid (FR.out.step hb)
                clear hb
                clear hv6 hkx hb0
                simp only [Act.put, List.setIfInBounds_toArray, List.set_cons_zero, List.set_cons_succ]
                refine wpAnyH_ready (rs := [3]) (by kernel_rfl) (by simp) (br_appx (fun u w7 => w7.ownsRow wd.heap.size 23 1 u Q.length (Q.flatMap encL) ∧ Below v6.heap.size v6 w7) (i := 3) 103 (.tmp 100) (.tmp 102) 48 48 rfl rfl rfl rfl (.slice none 0 0) (.slice qa Q.length qc) rfl rfl (app_nil v6 wd.heap.size _ Q FR.out.bel.size (UD0.out.step FR.out.bel).lq (by have := QL6.out; omega)) (fun u w7 hx => BV.out.trans (hx.2.mono BV.out.size)) ?_ AllReadyH.nil)
                rintro va v7 ⟨ho, hb⟩
                have OV := Lib.hid ho
                clear ho
                have BV := Lib.hid (BV.out.trans (hb.mono BV.out.size))
                have FR := Lib.hid (FR.out.step hb)
                have X1 := Lib.hid (X1.out.step hb)
                clear hb
                simp only [Act.put, List.setIfInBounds_toArray, List.set_cons_zero, List.set_cons_succ]
                refine wpAnyH_ready (rs := [10]) (by kernel_rfl) (by simp) (br_appx (fun u w7 => w7.ownsRow wd.heap.size 23 1 u (Q ++ [a.u]).length ((Q ++ [a.u]).flatMap encL) ∧ Below wd.heap.size v7 w7) (i := 10) 110 (.tmp 103) (.tmp 109) 48 48 rfl rfl rfl rfl _ _ rfl rfl (app_one v7 wd.heap.size _ _ Q a.u FR.out.bel.size OV.out X1.out (by have := QL6.out; omega)) (fun u w7 hx => BV.out.trans (hx.2.mono BD.out.size)) ?_ AllReadyH.nil)
                rintro vb v8 ⟨ho, hb⟩
                have OW := Lib.hid ho
                have US := Lib.hid (UD0.out.step (FR.out.bel.trans hb))
                have BV := Lib.hid (BV.out.trans (hb.mono BD.out.size))
                obtain ⟨ta, tc, rfl⟩ := own_shapeK ho
                clear ho
                simp only [Act.put, List.setIfInBounds_toArray, List.set_cons_zero, List.set_cons_succ]
                refine take_at (i := 11) 111 ?_ rfl rfl (by kernel_rfl) (by kernel_rfl) (by kernel_rfl) (fun _ _ _ h => h) (.inl ⟨rfl, ?_⟩) BV.out ?_
                rotate_left 1
                · intro w hSw; go_simp; try with_reducible rfl
                simp only [Act.put, List.setIfInBounds_toArray, List.set_cons_zero, List.set_cons_succ]
                have LN0 := Lib.hid (LI.set1 (i := i + 1) (Q := Q ++ [a.u]) BV.out US.out.his US.out.box US.out.lr (LiesT.of_own OW.out) ED.out (by rw [List.map_append, List.map_append, EU.out, List.map_cons, List.map_cons, XL.out]) DL6.out (by rw [List.length_append]; have := UI.out; simp; omega) (fun y hy => by
                    rcases hy with hy | hy
                    · exact EL.out y (.inl hy)
                    · rcases List.mem_append.1 hy with hy | hy
                      · exact EL.out y (.inr hy)
                      · rw [List.mem_singleton.1 hy]
                        exact ⟨U0.out, A10.out⟩))
                refine wpAnyH_ready (rs := [12]) (by kernel_rfl) (by simp) (br_store (i := 12) 48 (.tmp 111) (.tmp 110) (.pointer (some ⟨w.heap.size + 1, 1, none⟩)) _ _ rfl rfl rfl rfl rfl rfl (st48 (j := 1) US.out.box rfl) LN0.out.bel (fun _ => ?_) AllReadyH.nil)
                simp only [Act.put, List.setIfInBounds_toArray, List.set_cons_zero, List.set_cons_succ]
                refine wpAnyH_done (by kernel_rfl) ?_ _
                obtain ⟨wx, hwx⟩ : ∃ z, World.setCell v8 ⟨w.heap.size + 1, 1, none⟩ (.slice ta (Q ++ [a.u]).length tc) = z := ⟨_, rfl⟩
                rw [hwx] at LN0 ⊢
                have GL0 := Lib.hid (LiesK.nil (enc := encH) (k := 7) wx)
                have WL0 := Lib.hid (LiesK.nil (enc := encH) (k := 7) wx)
                have GN := Lib.hid (show ([] : List Ch).length ≤ 10 from Nat.zero_le _)
                clear hwx US OW UD0
                obtain ⟨D1, U1, R1, Q1, vd1, vu1, rd1, ru1, LN1⟩ : ∃ D1 U1 R1 Q1 a b c d, Hid (LI w _ (i + 1) D1 U1 R1 Q1 a b c d) := ⟨_, _, _, _, _, _, _, _, LN0⟩
                clear LN0
                have HLN := Lib.hid (hlen_any _ _ _ _ _ _ _ LN1.out.his)
                obtain ⟨nd, hnd⟩ : ∃ z, D1.length = z := ⟨_, rfl⟩
                obtain ⟨nu, hnu⟩ : ∃ z, U1.length = z := ⟨_, rfl⟩
                rw [hnd, hnu] at HLN
                obtain ⟨ra, rc, hra⟩ := LN1.out.lr.1.shape
                obtain ⟨qa, qc, hqa⟩ := LN1.out.lq.1.shape
                have hld := congrArg List.length LN1.out.ed
                have hlu := congrArg List.length LN1.out.eu
                rw [List.length_map, List.length_map] at hld hlu
                rw [← hld, hnd] at hra
                rw [← hlu, hnu] at hqa
                subst hra hqa
                clear hld hlu
                go_wp2_with fail
                refine HLN.out.mono ?_
                rintro e wl ⟨rfl, hb⟩
                have LX := Lib.hid (LN1.out.step hb)
                have GLx := Lib.hid (GL0.out.step hb)
                have WLx := Lib.hid (WL0.out.step hb)
                have tnd : ((nd : Int) != (nd : Int)) = false := by simp
                have tnu : ((nu : Int) != (nu : Int)) = false := by simp
                clear hb HLN LN1 GL0 WL0 hnd hnu
                have TH := Lib.hid (theirs_any wl _ [] GLx.out (by have := GN.out; omega))
                go_wp2_with fail
                refine TH.out.mono ?_
                rintro e wt ⟨r1, rfl, ho, hb⟩
                have G1 := Lib.hid (own_liesK encH_len ho)
                have LY := Lib.hid (LX.out.step hb)
                have WLy := Lib.hid (WLx.out.step hb)
                clear ho hb TH LX GLx WLx
                have CS := Lib.hid (csame_any wt r1 _ [] G1.out WLy.out)
                go_wp2_with fail
                refine CS.out.mono ?_
                rintro e wz ⟨rfl, hb⟩
                have LN := Lib.hid (LY.out.step hb)
                have d0 := cell_row (j := 0) LN.out.rbox rfl
                have d1 := cell_row (j := 1) LN.out.rbox rfl
                clear hb CS LY WLy G1
                go_wp2
                go_roundw
                case rel => exact ⟨i + 1, by go_num, by omega, by omega, _, _, _, _, _, _, _, _, LN⟩
                case measure => simp [intOf]; omega
            · obtain ⟨v10, hv10⟩ : ∃ zz, wd.drew.alloc (.cells (encL a.u).toArray 23) = zz := ⟨_, rfl⟩
              have hb : Below wd.drew.heap.size wd.drew v10 := by rw [← hv10]; exact vstep wd.drew _
              have X1 := Lib.hid (show LiesK encL 1 v10 (.slice (some ⟨wd.drew.heap.size, 0, none⟩) 1 1) [a.u] from by rw [← hv10]; exact one_liesK encL_len (heap_alloc_new wd.drew _))
              rw [hv10]
              obtain ⟨kx, hkx⟩ : ∃ zz, wd.drew.heap.size = zz := ⟨_, rfl⟩
              have hb0 : Below wd.drew.heap.size wd.drew v10 := hb
              rw [hkx] at X1 ⊢
              have BV := Lib.hid (BV.out.trans (hb.mono BV.out.size))
              have FR := Lib.hid (FR.out.step hb)
              clear hb
              clear hv10 hkx hb0
              simp only [Act.put, List.setIfInBounds_toArray, List.set_cons_zero, List.set_cons_succ]
              refine wpAnyH_ready (rs := [2]) (by kernel_rfl) (by simp) (br_ld (i := 2) 102 48 (.tmp 101) (.pointer (some ⟨w.heap.size + 1, 1, none⟩)) (.slice qa Q.length qc) rfl rfl rfl rfl rfl (ld48 (j := 1) (UD0.out.step FR.out.bel).box rfl) BV.out (fun _ => ?_) AllReadyH.nil)
              simp only [Act.put, List.setIfInBounds_toArray, List.set_cons_zero, List.set_cons_succ]
              refine wpAnyH_ready (rs := [3]) (by kernel_rfl) (by simp) (br_appx (fun u w7 => w7.ownsRow wd.heap.size 23 1 u Q.length (Q.flatMap encL) ∧ Below v10.heap.size v10 w7) (i := 3) 103 (.tmp 100) (.tmp 102) 48 48 rfl rfl rfl rfl (.slice none 0 0) (.slice qa Q.length qc) rfl rfl (app_nil v10 wd.heap.size _ Q FR.out.bel.size (UD0.out.step FR.out.bel).lq (by have := QL6.out; omega)) (fun u w7 hx => BV.out.trans (hx.2.mono BV.out.size)) ?_ AllReadyH.nil)
              rintro va v12 ⟨ho, hb⟩
              have OV := Lib.hid ho
              clear ho
              have BV := Lib.hid (BV.out.trans (hb.mono BV.out.size))
              have FR := Lib.hid (FR.out.step hb)
              have X1 := Lib.hid (X1.out.step hb)
              clear hb
              simp only [Act.put, List.setIfInBounds_toArray, List.set_cons_zero, List.set_cons_succ]
              refine wpAnyH_ready (rs := [10]) (by kernel_rfl) (by simp) (br_appx (fun u w7 => w7.ownsRow wd.heap.size 23 1 u (Q ++ [a.u]).length ((Q ++ [a.u]).flatMap encL) ∧ Below wd.heap.size v12 w7) (i := 10) 110 (.tmp 103) (.tmp 109) 48 48 rfl rfl rfl rfl _ _ rfl rfl (app_one v12 wd.heap.size _ _ Q a.u FR.out.bel.size OV.out X1.out (by have := QL6.out; omega)) (fun u w7 hx => BV.out.trans (hx.2.mono BD.out.size)) ?_ AllReadyH.nil)
              rintro vb v13 ⟨ho, hb⟩
              have OW := Lib.hid ho
              have US := Lib.hid (UD0.out.step (FR.out.bel.trans hb))
              have BV := Lib.hid (BV.out.trans (hb.mono BD.out.size))
              obtain ⟨ta, tc, rfl⟩ := own_shapeK ho
              clear ho
              simp only [Act.put, List.setIfInBounds_toArray, List.set_cons_zero, List.set_cons_succ]
              refine take_at (i := 11) 111 ?_ rfl rfl (by kernel_rfl) (by kernel_rfl) (by kernel_rfl) (fun _ _ _ h => h) (.inl ⟨rfl, ?_⟩) BV.out ?_
              rotate_left 1
              · intro w hSw; go_simp; try with_reducible rfl
              simp only [Act.put, List.setIfInBounds_toArray, List.set_cons_zero, List.set_cons_succ]
              have LN0 := Lib.hid (LI.set1 (i := i + 1) (Q := Q ++ [a.u]) BV.out US.out.his US.out.box US.out.lr (LiesT.of_own OW.out) ED.out (by rw [List.map_append, List.map_append, EU.out, List.map_cons, List.map_cons, XL.out]) DL6.out (by rw [List.length_append]; have := UI.out; simp; omega) (fun y hy => by
                  rcases hy with hy | hy
                  · exact EL.out y (.inl hy)
                  · rcases List.mem_append.1 hy with hy | hy
                    · exact EL.out y (.inr hy)
                    · rw [List.mem_singleton.1 hy]
                      exact ⟨U0.out, A10.out⟩))
              refine wpAnyH_ready (rs := [12]) (by kernel_rfl) (by simp) (br_store (i := 12) 48 (.tmp 111) (.tmp 110) (.pointer (some ⟨w.heap.size + 1, 1, none⟩)) _ _ rfl rfl rfl rfl rfl rfl (st48 (j := 1) US.out.box rfl) LN0.out.bel (fun _ => ?_) AllReadyH.nil)
              simp only [Act.put, List.setIfInBounds_toArray, List.set_cons_zero, List.set_cons_succ]
              refine wpAnyH_done (by kernel_rfl) ?_ _
              obtain ⟨wx, hwx⟩ : ∃ z, World.setCell v13 ⟨w.heap.size + 1, 1, none⟩ (.slice ta (Q ++ [a.u]).length tc) = z := ⟨_, rfl⟩
              rw [hwx] at LN0 ⊢
              have GL0 := Lib.hid (LiesK.nil (enc := encH) (k := 7) wx)
              have WL0 := Lib.hid (LiesK.nil (enc := encH) (k := 7) wx)
              have GN := Lib.hid (show ([] : List Ch).length ≤ 10 from Nat.zero_le _)
              clear hwx US OW UD0
              obtain ⟨D1, U1, R1, Q1, vd1, vu1, rd1, ru1, LN1⟩ : ∃ D1 U1 R1 Q1 a b c d, Hid (LI w _ (i + 1) D1 U1 R1 Q1 a b c d) := ⟨_, _, _, _, _, _, _, _, LN0⟩
              clear LN0
              have HLN := Lib.hid (hlen_any _ _ _ _ _ _ _ LN1.out.his)
              obtain ⟨nd, hnd⟩ : ∃ z, D1.length = z := ⟨_, rfl⟩
              obtain ⟨nu, hnu⟩ : ∃ z, U1.length = z := ⟨_, rfl⟩
              rw [hnd, hnu] at HLN
              obtain ⟨ra, rc, hra⟩ := LN1.out.lr.1.shape
              obtain ⟨qa, qc, hqa⟩ := LN1.out.lq.1.shape
              have hld := congrArg List.length LN1.out.ed
              have hlu := congrArg List.length LN1.out.eu
              rw [List.length_map, List.length_map] at hld hlu
              rw [← hld, hnd] at hra
              rw [← hlu, hnu] at hqa
              subst hra hqa
              clear hld hlu
              go_wp2_with fail
              refine HLN.out.mono ?_
              rintro e wl ⟨rfl, hb⟩
              have LX := Lib.hid (LN1.out.step hb)
              have GLx := Lib.hid (GL0.out.step hb)
              have WLx := Lib.hid (WL0.out.step hb)
              have tnd : ((nd : Int) != (nd : Int)) = false := by simp
              have tnu : ((nu : Int) != (nu : Int)) = false := by simp
              clear hb HLN LN1 GL0 WL0 hnd hnu
              have TH := Lib.hid (theirs_any wl _ [] GLx.out (by have := GN.out; omega))
              go_wp2_with fail
              refine TH.out.mono ?_
              rintro e wt ⟨r1, rfl, ho, hb⟩
              have G1 := Lib.hid (own_liesK encH_len ho)
              have LY := Lib.hid (LX.out.step hb)
              have WLy := Lib.hid (WLx.out.step hb)
              clear ho hb TH LX GLx WLx
              have CS := Lib.hid (csame_any wt r1 _ [] G1.out WLy.out)
              go_wp2_with fail
              refine CS.out.mono ?_
              rintro e wz ⟨rfl, hb⟩
              have LN := Lib.hid (LY.out.step hb)
              have d0 := cell_row (j := 0) LN.out.rbox rfl
              have d1 := cell_row (j := 1) LN.out.rbox rfl
              clear hb CS LY WLy G1
              go_wp2
              go_roundw
              case rel => exact ⟨i + 1, by go_num, by omega, by omega, _, _, _, _, _, _, _, _, LN⟩
              case measure => simp [intOf]; omega
          by_cases k5 : kk = 5
          · subst k5
            rcases List.eq_nil_or_concat U with hX | ⟨X', x, hX⟩
            · subst hX
              have hY : Q = [] := by have h := congrArg List.length EU.out; rw [List.length_map, List.length_map] at h; exact List.eq_nil_of_length_eq_zero h.symm
              subst hY
              have HU := Lib.hid (redo_nil wr w.heap.size w.heap.size vd vu D KK.out.his)
              go_wp2_with fail
              refine HU.out.mono ?_
              rintro e w1 ⟨rfl, hb⟩
              have LN0 := Lib.hid ((KK.out.step hb).wide (Nat.le_succ i))
              clear hb HU KK
              have xf := cell_row (j := 1) LN0.out.rbox rfl
              go_upto_region 34 with (fail)
              have GL0 := Lib.hid (LiesK.nil (enc := encH) (k := 7) w1)
              have WL0 := Lib.hid (LiesK.nil (enc := encH) (k := 7) w1)
              have GN := Lib.hid (show ([] : List Ch).length ≤ 10 from Nat.zero_le _)
              clear xf
              obtain ⟨D1, U1, R1, Q1, vd1, vu1, rd1, ru1, LN1⟩ : ∃ D1 U1 R1 Q1 a b c d, Hid (LI w _ (i + 1) D1 U1 R1 Q1 a b c d) := ⟨_, _, _, _, _, _, _, _, LN0⟩
              clear LN0
              have HLN := Lib.hid (hlen_any _ _ _ _ _ _ _ LN1.out.his)
              obtain ⟨nd, hnd⟩ : ∃ z, D1.length = z := ⟨_, rfl⟩
              obtain ⟨nu, hnu⟩ : ∃ z, U1.length = z := ⟨_, rfl⟩
              rw [hnd, hnu] at HLN
              obtain ⟨ra, rc, hra⟩ := LN1.out.lr.1.shape
              obtain ⟨qa, qc, hqa⟩ := LN1.out.lq.1.shape
              have hld := congrArg List.length LN1.out.ed
              have hlu := congrArg List.length LN1.out.eu
              rw [List.length_map, List.length_map] at hld hlu
              rw [← hld, hnd] at hra
              rw [← hlu, hnu] at hqa
              subst hra hqa
              clear hld hlu
              go_wp2_with fail
              refine HLN.out.mono ?_
              rintro e wl ⟨rfl, hb⟩
              have LX := Lib.hid (LN1.out.step hb)
              have GLx := Lib.hid (GL0.out.step hb)
              have WLx := Lib.hid (WL0.out.step hb)
              have tnd : ((nd : Int) != (nd : Int)) = false := by simp
              have tnu : ((nu : Int) != (nu : Int)) = false := by simp
              clear hb HLN LN1 GL0 WL0 hnd hnu
              have TH := Lib.hid (theirs_any wl _ [] GLx.out (by have := GN.out; omega))
              go_wp2_with fail
              refine TH.out.mono ?_
              rintro e wt ⟨r1, rfl, ho, hb⟩
              have G1 := Lib.hid (own_liesK encH_len ho)
              have LY := Lib.hid (LX.out.step hb)
              have WLy := Lib.hid (WLx.out.step hb)
              clear ho hb TH LX GLx WLx
              have CS := Lib.hid (csame_any wt r1 _ [] G1.out WLy.out)
              go_wp2_with fail
              refine CS.out.mono ?_
              rintro e wz ⟨rfl, hb⟩
              have LN := Lib.hid (LY.out.step hb)
              have d0 := cell_row (j := 0) LN.out.rbox rfl
              have d1 := cell_row (j := 1) LN.out.rbox rfl
              clear hb CS LY WLy G1
              go_wp2
              go_roundw
              case rel => exact ⟨i + 1, by go_num, by omega, by omega, _, _, _, _, _, _, _, _, LN⟩
              case measure => simp [intOf]; omega
            · rw [List.concat_eq_append] at hX
              subst hX
              obtain ⟨Y', y, hY, hE, hxy⟩ := map_snoc EU.out
              subst hY
              have hyl : y.l = x.l := hxy.symm
              have HU := Lib.hid (redo_snoc wr w.heap.size w.heap.size vd vu D X' x KK.out.his KK.out.bel.size (by have := UL6.out; rw [List.length_append] at this; omega))
              have EE := Lib.hid hE
              have YE := Lib.hid (EL.out y (.inr (List.mem_append_right _ (List.mem_singleton.2 rfl))))
              have XO := Lib.hid (KK.out.his.own.el x (.inr (List.mem_append_right _ (List.mem_singleton.2 rfl))))
              have hlY : (Y' ++ [y]).length = Y'.length + 1 := by simp
              obtain ⟨n, hn⟩ : ∃ z, (Y' ++ [y]).length = z := ⟨_, rfl⟩
              have hn0 : 0 < n := by omega
              have hm : Y'.length = n - 1 := by omega
              have h7 : n ≤ 1000 := by have h := congrArg List.length EU.out; rw [List.length_map, List.length_map, hn] at h; have := UL6.out; omega
              have hgt : (0 : Int) < (n : Int) := by omega
              have hmn : (n : Int) - 1 < (n : Int) := by omega
              have hm0 : (0 : Int) ≤ (n : Int) - 1 := by omega
              have hmle : (n : Int) - 1 ≤ (n : Int) := by omega
              clear hxy
              go_wp2_with fail
              refine HU.out.mono ?_
              rintro e w1 ⟨rfl, va, hh, hk⟩
              obtain ⟨hb1, hb2, hb3, hb4⟩ := KK.out.hist hk
              have LT := Lib.hid hb4
              have LO := Lib.hid hb3
              have B1x := Lib.hid hb1
              have H1x := Lib.hid hh
              have XO1 := Lib.hid (own_kp XO.out hk (by simp))
              rw [hn] at hb2 LT
              have XB := Lib.hid hb2
              obtain ⟨sg, so, ys, hao, hys, hsg, hsc⟩ := LT.out.1.at' (show n - 1 < n by omega)
              have hys : y = ys := by
                rw [List.getElem?_append_right (by omega), hm, Nat.sub_self] at hys
                simpa using hys
              subst hys
              subst hao
              have cy := hsc 0 _ rfl
              rw [Nat.mul_one, Nat.add_zero, show y.v = .slice y.a y.l.length y.c from rfl, hyl] at cy
              have hcap : n ≤ qc := by
                obtain ⟨ao', cap', e, h1, _⟩ := LT.out.1
                injection e with e1 e2 e3
                rw [hn] at h1
                subst e3
                exact h1
              have hcap1 : (n : Int) ≤ (qc : Int) := by omega
              have hcap2 : (n : Int) - 1 ≤ (qc : Int) := by omega
              have xx := cell_row (j := 1) hb2 rfl
              have fx := frozen_of_row (j := 1) _ _ _ _ hb2
              have LI0 := Lib.hid (show LiesT 23 w1 (.slice (some ⟨sg, so, none⟩) (n - 1) qc) Y' from by
                have h := LT.out
                rw [← hm]
                exact LiesT.init h)
              have LN0 := Lib.hid (LI.set1 (i := i + 1) B1x.out H1x.out XB.out LO.out LI0.out ED.out EE.out (by have := DL6.out; omega) (by have := UI.out; rw [List.length_append] at this; omega) (fun z hz => EL.out z (hz.imp id (fun h => List.mem_append_left _ h))))
              clear hb1 hb2 hb3 hb4 hh hk hsg hsc HU KK LT LO LI0 XO H1x B1x hn hm hlY
              go_upto_region 34 with (fail)
              have HKX := Lib.hid (show Kp [50] w.heap.size w1 (w1.setCell ⟨w.heap.size + 1, 1, none⟩ (.slice (some ⟨sg, so, none⟩) (n - 1) qc)) from Kp.set XB.out (by omega) (by simp))
              obtain ⟨wx, hwx⟩ : ∃ z, World.setCell w1 ⟨w.heap.size + 1, 1, none⟩ (.slice (some ⟨sg, so, none⟩) (n - 1) qc) = z := ⟨_, rfl⟩
              rw [hwx] at LN0 HKX ⊢
              have GL0 := Lib.hid (show LiesK encH 7 wx (.slice x.a x.l.length x.c) x.l from own_liesK encH_len (own_kp XO1.out HKX.out (by simp)))
              have WL0 := Lib.hid (show LiesK encH 7 wx (.slice y.a x.l.length y.c) x.l from by
                have h := YE.out.1.step LN0.out.bel
                rw [show y.v = .slice y.a y.l.length y.c from rfl, hyl] at h
                exact h)
              have GN := Lib.hid (show x.l.length ≤ 10 from by rw [← hyl]; exact YE.out.2)
              clear xx fx cy hwx XB XO1 HKX YE
              obtain ⟨D1, U1, R1, Q1, vd1, vu1, rd1, ru1, LN1⟩ : ∃ D1 U1 R1 Q1 a b c d, Hid (LI w _ (i + 1) D1 U1 R1 Q1 a b c d) := ⟨_, _, _, _, _, _, _, _, LN0⟩
              clear LN0
              have HLN := Lib.hid (hlen_any _ _ _ _ _ _ _ LN1.out.his)
              obtain ⟨nd, hnd⟩ : ∃ z, D1.length = z := ⟨_, rfl⟩
              obtain ⟨nu, hnu⟩ : ∃ z, U1.length = z := ⟨_, rfl⟩
              rw [hnd, hnu] at HLN
              obtain ⟨ra, rc, hra⟩ := LN1.out.lr.1.shape
              obtain ⟨qa, qc, hqa⟩ := LN1.out.lq.1.shape
              have hld := congrArg List.length LN1.out.ed
              have hlu := congrArg List.length LN1.out.eu
              rw [List.length_map, List.length_map] at hld hlu
              rw [← hld, hnd] at hra
              rw [← hlu, hnu] at hqa
              subst hra hqa
              clear hld hlu
              go_wp2_with fail
              refine HLN.out.mono ?_
              rintro e wl ⟨rfl, hb⟩
              have LX := Lib.hid (LN1.out.step hb)
              have GLx := Lib.hid (GL0.out.step hb)
              have WLx := Lib.hid (WL0.out.step hb)
              have tnd : ((nd : Int) != (nd : Int)) = false := by simp
              have tnu : ((nu : Int) != (nu : Int)) = false := by simp
              clear hb HLN LN1 GL0 WL0 hnd hnu
              have TH := Lib.hid (theirs_any wl _ x.l GLx.out (by have := GN.out; omega))
              go_wp2_with fail
              refine TH.out.mono ?_
              rintro e wt ⟨r1, rfl, ho, hb⟩
              have G1 := Lib.hid (own_liesK encH_len ho)
              have LY := Lib.hid (LX.out.step hb)
              have WLy := Lib.hid (WLx.out.step hb)
              clear ho hb TH LX GLx WLx
              have CS := Lib.hid (csame_any wt r1 _ x.l G1.out WLy.out)
              go_wp2_with fail
              refine CS.out.mono ?_
              rintro e wz ⟨rfl, hb⟩
              have LN := Lib.hid (LY.out.step hb)
              have d0 := cell_row (j := 0) LN.out.rbox rfl
              have d1 := cell_row (j := 1) LN.out.rbox rfl
              clear hb CS LY WLy G1
              go_wp2
              go_roundw
              case rel => exact ⟨i + 1, by go_num, by omega, by omega, _, _, _, _, _, _, _, _, LN⟩
              case measure => simp [intOf]; omega
          · have t0 : (kk == 0) = false := by simp; omega
            have t1 : (kk == 1) = false := by simp; omega
            have t2 : (kk == 2) = false := by simp; omega
            have t3 : (kk == 3) = false := by simp; omega
            have t4 : (kk == 4) = false := by simp; omega
            have t5 : (kk == 5) = false := by simp; omega
            go_upto_region 34 with (fail)
            have LN0 := Lib.hid (KK.out.wide (Nat.le_succ i))
            have GL0 := Lib.hid (LiesK.nil (enc := encH) (k := 7) wr)
            have WL0 := Lib.hid (LiesK.nil (enc := encH) (k := 7) wr)
            have GN := Lib.hid (show ([] : List Ch).length ≤ 10 from Nat.zero_le _)
            clear KK
            obtain ⟨D1, U1, R1, Q1, vd1, vu1, rd1, ru1, LN1⟩ : ∃ D1 U1 R1 Q1 a b c d, Hid (LI w _ (i + 1) D1 U1 R1 Q1 a b c d) := ⟨_, _, _, _, _, _, _, _, LN0⟩
            clear LN0
            have HLN := Lib.hid (hlen_any _ _ _ _ _ _ _ LN1.out.his)
            obtain ⟨nd, hnd⟩ : ∃ z, D1.length = z := ⟨_, rfl⟩
            obtain ⟨nu, hnu⟩ : ∃ z, U1.length = z := ⟨_, rfl⟩
            rw [hnd, hnu] at HLN
            obtain ⟨ra, rc, hra⟩ := LN1.out.lr.1.shape
            obtain ⟨qa, qc, hqa⟩ := LN1.out.lq.1.shape
            have hld := congrArg List.length LN1.out.ed
            have hlu := congrArg List.length LN1.out.eu
            rw [List.length_map, List.length_map] at hld hlu
            rw [← hld, hnd] at hra
            rw [← hlu, hnu] at hqa
            subst hra hqa
            clear hld hlu
            go_wp2_with fail
            refine HLN.out.mono ?_
            rintro e wl ⟨rfl, hb⟩
            have LX := Lib.hid (LN1.out.step hb)
            have GLx := Lib.hid (GL0.out.step hb)
            have WLx := Lib.hid (WL0.out.step hb)
            have tnd : ((nd : Int) != (nd : Int)) = false := by simp
            have tnu : ((nu : Int) != (nu : Int)) = false := by simp
            clear hb HLN LN1 GL0 WL0 hnd hnu
            have TH := Lib.hid (theirs_any wl _ [] GLx.out (by have := GN.out; omega))
            go_wp2_with fail
            refine TH.out.mono ?_
            rintro e wt ⟨r1, rfl, ho, hb⟩
            have G1 := Lib.hid (own_liesK encH_len ho)
            have LY := Lib.hid (LX.out.step hb)
            have WLy := Lib.hid (WLx.out.step hb)
            clear ho hb TH LX GLx WLx
            have CS := Lib.hid (csame_any wt r1 _ [] G1.out WLy.out)
            go_wp2_with fail
            refine CS.out.mono ?_
            rintro e wz ⟨rfl, hb⟩
            have LN := Lib.hid (LY.out.step hb)
            have d0 := cell_row (j := 0) LN.out.rbox rfl
            have d1 := cell_row (j := 1) LN.out.rbox rfl
            clear hb CS LY WLy G1
            go_wp2
            go_roundw
            case rel => exact ⟨i + 1, by go_num, by omega, by omega, _, _, _, _, _, _, _, _, LN⟩
            case measure => simp [intOf]; omega
        · have hd10 : (10 : Int) < (a.u.l.length : Int) := by omega
          have AW1 := Lib.hid (fun W => hawake_any W)
          have B0 := Lib.hid KK.out.bel
          clear KK
          go_wp2_with fail
          refine (AW1.out _).mono ?_
          rintro e w1 ⟨rfl, hb⟩
          have B1 := Lib.hid (B0.out.trans (hb.mono B0.out.size))
          clear hb
          go_wp2
          go_returns
          exact ⟨rfl, B1.out⟩
      · have e2 : i = 200 := by omega
        subst e2
        have AW1 := Lib.hid (fun W => hawake_any W)
        have B0 := Lib.hid KK.out.bel
        clear KK
        go_wp2_with fail
        refine (did_none _ _).mono ?_
        rintro e w1 ⟨rfl, hb⟩
        have B1 := Lib.hid (B0.out.trans (hb.mono B0.out.size))
        clear hb
        go_wp2_with fail
        refine (undone_none _ _).mono ?_
        rintro e w2 ⟨rfl, hb⟩
        have B2 := Lib.hid (B1.out.trans (hb.mono B1.out.size))
        clear hb
        go_wp2_with fail
        refine (undo_none _).mono ?_
        rintro e w3 ⟨rfl, hb⟩
        have B3 := Lib.hid (B2.out.trans (hb.mono B2.out.size))
        clear hb
        go_wp2_with fail
        refine (redo_none _).mono ?_
        rintro e w4 ⟨rfl, hb⟩
        have B4 := Lib.hid (B3.out.trans (hb.mono B3.out.size))
        clear hb
        go_wp2_with fail
        refine (hlen_none _).mono ?_
        rintro e w5 ⟨rfl, hb⟩
        have B5 := Lib.hid (B4.out.trans (hb.mono B4.out.size))
        clear hb
        go_wp2_with fail
        refine (AW1.out _).mono ?_
        rintro e w6 ⟨rfl, hb⟩
        have B6 := Lib.hid (B5.out.trans (hb.mono B5.out.size))
        clear hb
        go_wp2
        go_returns
        exact ⟨rfl, B6.out⟩
    · have hnl : ¬ ((i : Int) < (al.length : Int)) := by omega
      have AW1 := Lib.hid (fun W => hawake_any W)
      have B0 := Lib.hid KK.out.bel
      clear KK
      go_wp2_with fail
      refine (did_none _ _).mono ?_
      rintro e w1 ⟨rfl, hb⟩
      have B1 := Lib.hid (B0.out.trans (hb.mono B0.out.size))
      clear hb
      go_wp2_with fail
      refine (undone_none _ _).mono ?_
      rintro e w2 ⟨rfl, hb⟩
      have B2 := Lib.hid (B1.out.trans (hb.mono B1.out.size))
      clear hb
      go_wp2_with fail
      refine (undo_none _).mono ?_
      rintro e w3 ⟨rfl, hb⟩
      have B3 := Lib.hid (B2.out.trans (hb.mono B2.out.size))
      clear hb
      go_wp2_with fail
      refine (redo_none _).mono ?_
      rintro e w4 ⟨rfl, hb⟩
      have B4 := Lib.hid (B3.out.trans (hb.mono B3.out.size))
      clear hb
      go_wp2_with fail
      refine (hlen_none _).mono ?_
      rintro e w5 ⟨rfl, hb⟩
      have B5 := Lib.hid (B4.out.trans (hb.mono B4.out.size))
      clear hb
      go_wp2_with fail
      refine (AW1.out _).mono ?_
      rintro e w6 ⟨rfl, hb⟩
      have B6 := Lib.hid (B5.out.trans (hb.mono B5.out.size))
      clear hb
      go_wp2
      go_returns
      exact ⟨rfl, B6.out⟩
end Go.Proofs.Ythbmbpnpigpgpaa
