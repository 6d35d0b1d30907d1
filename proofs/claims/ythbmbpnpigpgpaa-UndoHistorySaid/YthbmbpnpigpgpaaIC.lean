/- A history's calls: last, Undo, Redo, Len, Did, Undone. Made by genic38.py. -/
import Derived.Test.YthbmbpnpigpgpaaIB
set_option linter.unusedVariables false
set_option linter.unusedSimpArgs false
set_option maxRecDepth 100000
namespace Go.Proofs.Ythbmbpnpigpgpaa
open Go.RowKit Go.Shelf

section
variable {P : Program} {md : Region.Mode} {ops : Array Oper} {Q : Exit → Act → World → Prop} {S : World → Prop} {i fuel : Nat} {oi : Oper} {listed : Array Bool} {a : Act} {w : World}
theorem br_ld (d : Nat) (ty : TypeId) (x : Operand) (p u : Value) {rs : List Nat} (hi : ops[i]? = some oi) (hd : oi.dst = some d) (hw : Region.wanted oi (yielded ops a.tmps) = true)
    (ho : oi.op = .load ty x) (hx : a.eval x = p) (hrun : (Instr.loadAt ty p).run P w = .ok u w) (hS : S w)
    (h : S w → wpAnyH P md ops Q S fuel (listed.setIfInBounds i true) (a.put (some d) u) w)
    (hrs : AllReadyH P md ops Q S fuel listed a w rs) : AllReadyH P md ops Q S fuel listed a w (i :: rs) := by
  refine AllReadyH.cons hi (fun K hK => ?_) hrs
  rw [if_pos hw]
  unfold Oper.wp execOp
  simp only [ho, hx, hrun, Sem.run_bind, Sem.run_pure, Result.andThen_ok]
  show K _ _
  rw [hd]
  exact hK.out _ _ hS h
end
theorem ld45 {W : World} {q j : Nat} {v : Value} {cs : Array Value} (h : W.heap[q]? = some (.cells cs 47 (0, 0))) (hj : cs[j]? = some v) : (Instr.loadAt 45 (.pointer (some ⟨q, j, none⟩))).run Try.prog W = .ok v W := by
  have c0 := cell_row (j := j) h hj
  clear h hj
  go_simp
theorem st45 {W : World} {q j : Nat} {v u : Value} {cs : Array Value} (h : W.heap[q]? = some (.cells cs 47 (0, 0))) (hj : cs[j]? = some u) (hv : ∃ a n c, v = .slice a n c) : (Instr.storeAt 45 (.pointer (some ⟨q, j, none⟩)) v).run Try.prog W = .ok () (W.setCell ⟨q, j, none⟩ v) := by
  obtain ⟨a, n, c, rfl⟩ := hv
  have c0 := cell_row (j := j) h hj
  have f0 := frozen_of_row (j := j) _ _ _ _ h
  clear h hj
  go_simp
theorem bsL45 (W : World) (x : Ls) : (Instr.buildSlice 45 1 #[(0, .slice x.a x.l.length x.c)]).run Try.prog W = .ok (.slice (some ⟨W.heap.size, 0, none⟩) 1 1) (W.alloc (.cells (encL x).toArray 30)) := by
  go_simp
  try rfl
theorem run_pushS {α : Type} {enc : α → List Value} {k : Nat} {P : Program} (w : World) (t : TypeId) (ty : TypeId) (hk : ∀ x, (enc x).length = k) (hk0 : 0 < k) (h1 : ∀ x, ∀ v ∈ enc x, v.oneCell' = true)
    (base : Nat) (e : TypeId) (i : TypeInfo) (z : Value) (bytes : Nat) (ht : P.underlying t = some (.slice e)) (hi : P.info? e = some i) (hz : i.zero = some z)
    (hsize : i.size = k) (hby : i.bytes = bytes) (hzs : z.cells.size = k) (v : Value) (l : List α) (p : α) (g : Nat) (hb : w.heap[g]? = some (.cells (enc p).toArray e (0, 0)))
    (hown : w.ownsRow base e k v l.length (l.flatMap enc)) (h63 : l.length + 1 ≤ maxLen) (hbytes : (l.length + 1) * bytes ≤ 140737488355328) (hbase : base ≤ w.heap.size) :
    ∃ v' w', (Builtin.append_ #[t, t] ty #[v, .slice (some ⟨g, 0, none⟩) 1 1]).run P w = .ok v' w' ∧ (w'.ownsRow base e k v' (l ++ [p]).length ((l ++ [p]).flatMap enc) ∧ Sprung w v v') ∧ w.grownBy w' v.ownBlock := by
  obtain ⟨v', w', h2, h3, h4, h5⟩ := run_append_src_own (P := P) w base t t ty e i z k bytes ht hi hz hsize hby hzs hk0 v l.length (l.flatMap enc) hown (.slice (some ⟨g, 0, none⟩) 1 1) 1 ([p].flatMap enc) ((one_liesK hk hb).src ht hk hk0 h1) h63 hbytes hbase
  exact ⟨v', w', h2, ⟨by rw [List.length_append, List.flatMap_append]; exact h3, h5⟩, h4⟩
set_option maxHeartbeats 3200000 in
theorem last0_nil (w : World) (B q : Nat) (vd vu : Value) (U : List Ls) (H : HI w B q vd vu [] U) :
    Calls Try.prog 46 #[.pointer (some ⟨q, 0, none⟩)] w fun e w' => e = .returned (.tuple #[.slice none 0 0, .bool false]) ∧ Below w.heap.size w w' := by
  obtain ⟨ao, cap, e⟩ := own_shapeK H.own.od
  have c0 := cell_row (j := 0) H.box rfl
  rw [e] at c0
  clear H e
  go_enter Try.func46, Try.ntmps46
  go_wp2
  go_returns
  exact ⟨rfl, Below.refl _ _⟩
set_option maxHeartbeats 3200000 in
theorem last0_snoc (w : World) (B q : Nat) (vd vu : Value) (D U : List Ls) (x : Ls) (H : HI w B q vd vu (D ++ [x]) U) (hB : B ≤ w.heap.size) (hl : D.length ≤ 1000) :
    Calls Try.prog 46 #[.pointer (some ⟨q, 0, none⟩)] w fun e w' => e = .returned (.tuple #[.slice x.a x.l.length x.c, .bool true]) ∧ ∃ va, HI w' B q va vu D U ∧ Kp [30, 47] B w w' := by
  have HO0 := Lib.hid H.own
  have HB := Lib.hid H.box
  have HG := Lib.hid H.ge
  obtain ⟨m, hm⟩ : ∃ m, D.length = m := ⟨_, rfl⟩
  have hL : (D ++ [x]).length = m + 1 := by simp [hm]
  obtain ⟨ao, cap, e⟩ := own_shapeK HO0.out.od
  subst e
  have OD := Lib.hid HO0.out.od
  obtain ⟨g, hg⟩ : ∃ g, ao = some ⟨g, 0, none⟩ := by
    rcases OD.out.2 with ⟨_, e⟩ | ⟨g, _, _, e, _⟩
    · rw [hL] at e; omega
    · injection e with e; exact ⟨g, e⟩
  subst hg
  rw [hL] at OD HB
  have cg := OD.out.cells (g := g) rfl m x.v (by
    rw [List.flatMap_append, List.getElem?_append_right (by rw [flatL_len]; omega), flatL_len, hm, Nat.sub_self]
    rfl)
  rw [rk_addr, Nat.zero_add] at cg
  have hv : x.v = .slice x.a x.l.length x.c := rfl
  rw [hv] at cg
  have DL := Lib.hid (del_any w B g (m + 1) cap m (m + 1) (D ++ [x]) OD.out hL (by omega) (by omega) (by omega))
  rw [Nat.sub_self, Nat.add_zero, show (D ++ [x]).take m ++ (D ++ [x]).drop (m + 1) = D from by rw [← hm, List.take_left, List.drop_of_length_le (by simp), List.append_nil]] at DL
  have hcap : m + 1 ≤ cap ∧ cap ≤ 9223372036854775807 := by
    rcases OD.out.2 with ⟨e, _⟩ | ⟨g', cap', cur, e, _, _, hn, hmx, _⟩
    · cases e
    · injection e with e1 e2 e3
      subst e3
      unfold maxLen at hmx
      exact ⟨hn, hmx⟩
  obtain ⟨n, hn⟩ : ∃ n, m + 1 = n := ⟨_, rfl⟩
  rw [hn] at DL HB hcap
  have em : (m : Int) = (n : Int) - 1 := by omega
  rw [em] at DL
  rw [show m = n - 1 by omega] at cg
  have hne : ((n : Int) == 0) = false := by simp; omega
  have hmn : (m : Int) < (n : Int) := by omega
  have hm0 : (0 : Int) ≤ (m : Int) := by omega
  have hw : wrap64 ((n : Int) - 1) = (m : Int) := by unfold wrap64; omega
  have c0 := cell_row (j := 0) HB.out rfl
  have FIN := Lib.hid (fun (w1 : World) (h1 : w1.ownsRow B 30 1 (.slice (some ⟨g, 0, none⟩) m cap) m (D.flatMap encL)) (hgr : w.grownBy w1 (some g)) =>
    have hk : Kp [30] B w w1 := HO.rowKp HO0.out hB hgr
    have hx := hk.oth _ _ _ _ HB.out (by simp)
    show w1.heap[q]? = some (.cells _ 47 (0, 0)) ∧ (HI (w1.setCell ⟨q, 0, none⟩ (.slice (some ⟨g, 0, none⟩) m cap)) B q (.slice (some ⟨g, 0, none⟩) m cap) vu D U ∧ Kp [30, 47] B w (w1.setCell ⟨q, 0, none⟩ (.slice (some ⟨g, 0, none⟩) m cap))) from
    ⟨hx, HI.set0 hx HG.out (HO.cut HO0.out hB (va := .slice (some ⟨g, 0, none⟩) m cap) (by rw [hm]; exact h1) hgr rfl (fun y hy => List.mem_append_left _ hy)), (hk.wide (by simp)).trans ((Kp.set (S := [47]) hx HG.out (by simp)).wide (by simp))⟩)
  clear H HO0 OD
  go_enter Try.func46, Try.ntmps46
  go_wp2_with fail
  refine DL.out.mono ?_
  rintro e w1 ⟨rfl, ho, hgr⟩
  have F1 := Lib.hid (FIN.out w1 ho hgr)
  have x0 := cell_row (j := 0) F1.out.1 rfl
  have f0 := frozen_of_row (j := 0) _ _ _ _ F1.out.1
  clear ho hgr DL
  go_wp2
  go_returns
  exact ⟨rfl, _, F1.out.2⟩
theorem undo_nil (w : World) (B q : Nat) (vd vu : Value) (U : List Ls) (H : HI w B q vd vu [] U) :
    Calls Try.prog 22 #[.pointer (some ⟨q, 0, none⟩)] w fun e w' => e = .returned (.tuple #[.slice none 0 0, .bool false]) ∧ Below w.heap.size w w' := by
  have L := Lib.hid (last0_nil w B q vd vu U H)
  clear H
  go_enter Try.func22, Try.ntmps22
  go_wp2_with fail
  refine L.out.mono ?_
  rintro e w1 ⟨rfl, hb⟩
  have FB := Lib.hid hb
  clear hb L
  go_wp2
  go_returns
  exact ⟨rfl, FB.out⟩
theorem undo_snoc (w : World) (B q : Nat) (vd vu : Value) (D U : List Ls) (x : Ls) (H : HI w B q vd vu (D ++ [x]) U) (hB : B ≤ w.heap.size) (hl : D.length ≤ 1000) :
    Calls Try.prog 22 #[.pointer (some ⟨q, 0, none⟩)] w fun e w' => e = .returned (.tuple #[.slice x.a x.l.length x.c, .bool true]) ∧ ∃ va, HI w' B q va vu D U ∧ Kp [30, 47] B w w' := by
  have L := Lib.hid (last0_snoc w B q vd vu D U x H hB hl)
  clear H
  go_enter Try.func22, Try.ntmps22
  go_wp2_with fail
  refine L.out.mono ?_
  rintro e w1 ⟨rfl, hh⟩
  have F := Lib.hid hh
  clear hh L
  go_wp2
  go_returns
  exact ⟨rfl, F.out⟩
theorem undo_none (w : World) : Calls Try.prog 22 #[.pointer none] w fun e w' => e = .returned (.tuple #[.slice none 0 0, .bool false]) ∧ Below w.heap.size w w' := by
  go_enter Try.func22, Try.ntmps22
  go_wp2
  go_returns
  first | exact ⟨⟨rfl, rfl⟩, Below.refl _ _⟩ | exact ⟨rfl, Below.refl _ _⟩ | exact Below.refl _ _
set_option maxHeartbeats 3200000 in
theorem last1_nil (w : World) (B q : Nat) (vd vu : Value) (D : List Ls) (H : HI w B q vd vu D []) :
    Calls Try.prog 46 #[.pointer (some ⟨q, 1, none⟩)] w fun e w' => e = .returned (.tuple #[.slice none 0 0, .bool false]) ∧ Below w.heap.size w w' := by
  obtain ⟨ao, cap, e⟩ := own_shapeK H.own.ou
  have c0 := cell_row (j := 1) H.box rfl
  rw [e] at c0
  clear H e
  go_enter Try.func46, Try.ntmps46
  go_wp2
  go_returns
  exact ⟨rfl, Below.refl _ _⟩
set_option maxHeartbeats 3200000 in
theorem last1_snoc (w : World) (B q : Nat) (vd vu : Value) (D U : List Ls) (x : Ls) (H : HI w B q vd vu D (U ++ [x])) (hB : B ≤ w.heap.size) (hl : U.length ≤ 1000) :
    Calls Try.prog 46 #[.pointer (some ⟨q, 1, none⟩)] w fun e w' => e = .returned (.tuple #[.slice x.a x.l.length x.c, .bool true]) ∧ ∃ va, HI w' B q vd va D U ∧ Kp [30, 47] B w w' := by
  have HO0 := Lib.hid H.own.swap
  have HB := Lib.hid H.box
  have HG := Lib.hid H.ge
  obtain ⟨m, hm⟩ : ∃ m, U.length = m := ⟨_, rfl⟩
  have hL : (U ++ [x]).length = m + 1 := by simp [hm]
  obtain ⟨ao, cap, e⟩ := own_shapeK HO0.out.od
  subst e
  have OD := Lib.hid HO0.out.od
  obtain ⟨g, hg⟩ : ∃ g, ao = some ⟨g, 0, none⟩ := by
    rcases OD.out.2 with ⟨_, e⟩ | ⟨g, _, _, e, _⟩
    · rw [hL] at e; omega
    · injection e with e; exact ⟨g, e⟩
  subst hg
  rw [hL] at OD HB
  have cg := OD.out.cells (g := g) rfl m x.v (by
    rw [List.flatMap_append, List.getElem?_append_right (by rw [flatL_len]; omega), flatL_len, hm, Nat.sub_self]
    rfl)
  rw [rk_addr, Nat.zero_add] at cg
  have hv : x.v = .slice x.a x.l.length x.c := rfl
  rw [hv] at cg
  have DL := Lib.hid (del_any w B g (m + 1) cap m (m + 1) (U ++ [x]) OD.out hL (by omega) (by omega) (by omega))
  rw [Nat.sub_self, Nat.add_zero, show (U ++ [x]).take m ++ (U ++ [x]).drop (m + 1) = U from by rw [← hm, List.take_left, List.drop_of_length_le (by simp), List.append_nil]] at DL
  have hcap : m + 1 ≤ cap ∧ cap ≤ 9223372036854775807 := by
    rcases OD.out.2 with ⟨e, _⟩ | ⟨g', cap', cur, e, _, _, hn, hmx, _⟩
    · cases e
    · injection e with e1 e2 e3
      subst e3
      unfold maxLen at hmx
      exact ⟨hn, hmx⟩
  obtain ⟨n, hn⟩ : ∃ n, m + 1 = n := ⟨_, rfl⟩
  rw [hn] at DL HB hcap
  have em : (m : Int) = (n : Int) - 1 := by omega
  rw [em] at DL
  rw [show m = n - 1 by omega] at cg
  have hne : ((n : Int) == 0) = false := by simp; omega
  have hmn : (m : Int) < (n : Int) := by omega
  have hm0 : (0 : Int) ≤ (m : Int) := by omega
  have hw : wrap64 ((n : Int) - 1) = (m : Int) := by unfold wrap64; omega
  have c0 := cell_row (j := 1) HB.out rfl
  have FIN := Lib.hid (fun (w1 : World) (h1 : w1.ownsRow B 30 1 (.slice (some ⟨g, 0, none⟩) m cap) m (U.flatMap encL)) (hgr : w.grownBy w1 (some g)) =>
    have hk : Kp [30] B w w1 := HO.rowKp HO0.out hB hgr
    have hx := hk.oth _ _ _ _ HB.out (by simp)
    show w1.heap[q]? = some (.cells _ 47 (0, 0)) ∧ (HI (w1.setCell ⟨q, 1, none⟩ (.slice (some ⟨g, 0, none⟩) m cap)) B q vd (.slice (some ⟨g, 0, none⟩) m cap) D U ∧ Kp [30, 47] B w (w1.setCell ⟨q, 1, none⟩ (.slice (some ⟨g, 0, none⟩) m cap))) from
    ⟨hx, HI.set1 hx HG.out ((HO.cut HO0.out hB (va := .slice (some ⟨g, 0, none⟩) m cap) (by rw [hm]; exact h1) hgr rfl (fun y hy => List.mem_append_left _ hy)).swap), (hk.wide (by simp)).trans ((Kp.set (S := [47]) hx HG.out (by simp)).wide (by simp))⟩)
  clear H HO0 OD
  go_enter Try.func46, Try.ntmps46
  go_wp2_with fail
  refine DL.out.mono ?_
  rintro e w1 ⟨rfl, ho, hgr⟩
  have F1 := Lib.hid (FIN.out w1 ho hgr)
  have x0 := cell_row (j := 1) F1.out.1 rfl
  have f0 := frozen_of_row (j := 1) _ _ _ _ F1.out.1
  clear ho hgr DL
  go_wp2
  go_returns
  exact ⟨rfl, _, F1.out.2⟩
theorem redo_nil (w : World) (B q : Nat) (vd vu : Value) (D : List Ls) (H : HI w B q vd vu D []) :
    Calls Try.prog 24 #[.pointer (some ⟨q, 0, none⟩)] w fun e w' => e = .returned (.tuple #[.slice none 0 0, .bool false]) ∧ Below w.heap.size w w' := by
  have L := Lib.hid (last1_nil w B q vd vu D H)
  clear H
  go_enter Try.func24, Try.ntmps24
  go_wp2_with fail
  refine L.out.mono ?_
  rintro e w1 ⟨rfl, hb⟩
  have FB := Lib.hid hb
  clear hb L
  go_wp2
  go_returns
  exact ⟨rfl, FB.out⟩
theorem redo_snoc (w : World) (B q : Nat) (vd vu : Value) (D U : List Ls) (x : Ls) (H : HI w B q vd vu D (U ++ [x])) (hB : B ≤ w.heap.size) (hl : U.length ≤ 1000) :
    Calls Try.prog 24 #[.pointer (some ⟨q, 0, none⟩)] w fun e w' => e = .returned (.tuple #[.slice x.a x.l.length x.c, .bool true]) ∧ ∃ va, HI w' B q vd va D U ∧ Kp [30, 47] B w w' := by
  have L := Lib.hid (last1_snoc w B q vd vu D U x H hB hl)
  clear H
  go_enter Try.func24, Try.ntmps24
  go_wp2_with fail
  refine L.out.mono ?_
  rintro e w1 ⟨rfl, hh⟩
  have F := Lib.hid hh
  clear hh L
  go_wp2
  go_returns
  exact ⟨rfl, F.out⟩
theorem redo_none (w : World) : Calls Try.prog 24 #[.pointer none] w fun e w' => e = .returned (.tuple #[.slice none 0 0, .bool false]) ∧ Below w.heap.size w w' := by
  go_enter Try.func24, Try.ntmps24
  go_wp2
  go_returns
  first | exact ⟨⟨rfl, rfl⟩, Below.refl _ _⟩ | exact ⟨rfl, Below.refl _ _⟩ | exact Below.refl _ _
theorem hlen_any (w : World) (B q : Nat) (vd vu : Value) (D U : List Ls) (H : HI w B q vd vu D U) :
    Calls Try.prog 25 #[.pointer (some ⟨q, 0, none⟩)] w fun e w' => e = .returned (.tuple #[.int .i64 (D.length : Int), .int .i64 (U.length : Int)]) ∧ Below w.heap.size w w' := by
  obtain ⟨a1, n1, e1⟩ := own_shapeK H.own.od
  obtain ⟨a2, n2, e2⟩ := own_shapeK H.own.ou
  have c0 := cell_row (j := 0) H.box rfl
  have c1 := cell_row (j := 1) H.box rfl
  rw [e1] at c0
  rw [e2] at c1
  clear H e1 e2
  go_enter Try.func25, Try.ntmps25
  go_wp2
  go_quiet (fail)
  go_wp2
  go_returns
  first | exact ⟨⟨rfl, rfl⟩, below_drewH _ _⟩ | exact ⟨rfl, below_drewH _ _⟩ | exact below_drewH _ _
theorem hlen_none (w : World) : Calls Try.prog 25 #[.pointer none] w fun e w' => e = .returned (.tuple #[.int .i64 0, .int .i64 0]) ∧ Below w.heap.size w w' := by
  go_enter Try.func25, Try.ntmps25
  go_wp2
  go_returns
  first | exact ⟨⟨rfl, rfl⟩, Below.refl _ _⟩ | exact ⟨rfl, Below.refl _ _⟩ | exact Below.refl _ _
theorem did_none (w : World) (v : Value) : Calls Try.prog 20 #[.pointer none, v] w fun e w' => e = .returned (.tuple #[]) ∧ Below w.heap.size w w' := by
  go_enter Try.func20, Try.ntmps20
  go_wp2
  go_returns
  first | exact ⟨⟨rfl, rfl⟩, Below.refl _ _⟩ | exact ⟨rfl, Below.refl _ _⟩ | exact Below.refl _ _
theorem undone_none (w : World) (v : Value) : Calls Try.prog 23 #[.pointer none, v] w fun e w' => e = .returned (.tuple #[]) ∧ Below w.heap.size w w' := by
  go_enter Try.func23, Try.ntmps23
  go_wp2
  go_returns
  first | exact ⟨⟨rfl, rfl⟩, Below.refl _ _⟩ | exact ⟨rfl, Below.refl _ _⟩ | exact Below.refl _ _
/-- What stands within Did's and Undone's one region. -/
structure HQS (w0 : World) (B q : Nat) (cs : Array Value) (vd vu : Value) (D U : List Ls) (W : World) : Prop where
  box : W.heap[q]? = some (.cells cs 47 (0, 0))
  own : HO W B vd vu D U
  size : B ≤ W.heap.size
  kp : Kp [30, 47] B w0 W
theorem HQS.step {w0 W W' : World} {B q : Nat} {cs : Array Value} {vd vu : Value} {D U : List Ls} (h : HQS w0 B q cs vd vu D U W) (hb : Below W.heap.size W W') : HQS w0 B q cs vd vu D U W' :=
  ⟨(hb.block _ (lt_of_block h.box)).trans h.box, h.own.step hb, Nat.le_trans h.size hb.size, h.kp.step hb h.size⟩
def trim (L : List Ls) : List Ls := if 64 < L.length then L.drop 1 else L
end Go.Proofs.Ythbmbpnpigpgpaa
