/- Merged by tools/merge.py: KA, KB, KC, KD, KE, KF, KG, KH, KI, KJ, KK, KL, KM. -/
import Derived.Test.YtgbihpfpiaacfaaGreatDoorJZ

set_option linter.unusedVariables false
set_option linter.unusedSimpArgs false
set_option maxRecDepth 100000
namespace Go.Proofs.YtgbihpfpiaacfaaGreatDoor
open Go.RowKit Go.Shelf Go.WideMaps Go.Maps

theorem allP_roll {gs : Nat → List (List Nat)} {f M : Nat} : allP (fun m => if m = f + M + 1 then [] else gs m) f (M + 1) = allP gs f M := by
  unfold allP
  rw [List.range'_concat (n := M + 1), Nat.one_mul, List.flatMap_append]
  rw [flat_same (gs := gs) (List.range' f (M + 1)) (fun k hk => by have := List.mem_range'_1.1 hk; rw [if_neg (by omega)])]
  simp [Nat.add_assoc]
theorem jroll (w : World) (B q d : Nat) (s : DS) (most : Int) (f M : Nat) (gs : Nat → List (List Nat)) (h : JS w B q d s most f M gs) (hf1 : 1 ≤ f) (hfM : f + M + 1 < 100) :
    Calls Tryz.prog 16 #[.pointer (some ⟨q, 0, none⟩)] w fun e w' => e = .returned (.int .i64 0) ∧ ∃ s', JS w' B q d s' most f (M + 1) (fun m => if m = f + M + 1 then [] else gs m) ∧ Far (Lh d s q) w w' ∧ s'.room = s.room ∧ usedF s'.l = usedF s.l := by
  have hr := DK.rise h.jk.dk
  have hl := h.sg.len
  have h8 := h.sg.new hfM
  have hg := (fnd_none h8).1
  refine (roll_ok w B q d s most f (f + M) _ h.jk (by omega) (by omega) h8 h.sg.ar).mono ?_
  rintro e w' ⟨rfl, m', hj, hfar, -⟩
  have hadd := SG.add (fb' := fun m => cat ((fun m => if m = f + M + 1 then [] else gs m) m)) h.sg hr hfM none 0 m' (fun k hk => by dsimp only; rw [if_neg (by omega)])
  dsimp only at hadd
  rw [if_pos rfl] at hadd
  refine ⟨rfl, _, ⟨?_, hadd⟩, hfar, rfl, ?_⟩
  · have el : (0 : Int) = (((cat ((fun m => if m = f + M + 1 then ([] : List (List Nat)) else gs m) (f + (M + 1)))).length : Nat) : Int) := by
      dsimp only
      rw [if_pos (by omega)]
      rfl
    rw [← el]
    exact hj
  · show usedF (setF s.l (zf (sg (f + M + 1)))) = _
    rw [used_add (y := zf (sg (f + M + 1))) hg]
    rfl
theorem first_jk (w : World) (q d : Nat) (a1 a2 a3 a4 : Int) (h : w.heap[q]? = some (.cells #[pv d, .int .i64 a1, .int .i64 a2, .int .i64 a3, .int .i64 a4] 74 (0, 0))) : Calls Tryz.prog 22 #[.pointer (some ⟨q, 0, none⟩)] w fun e w' => e = .returned (.int .i64 a2) ∧ w = w' := by
  have c4 : w.cell? ⟨q, 2, none⟩ = some (.int .i64 a2) := (cell_of_row _ _ _ _ _ _ h).trans rfl
  clear h
  go_enter Tryz.func22, Tryz.ntmps22
  go_wp2
  go_returns
  exact ⟨rfl, rfl⟩
theorem last_jk (w : World) (q d : Nat) (a1 a2 a3 a4 : Int) (h : w.heap[q]? = some (.cells #[pv d, .int .i64 a1, .int .i64 a2, .int .i64 a3, .int .i64 a4] 74 (0, 0))) : Calls Tryz.prog 23 #[.pointer (some ⟨q, 0, none⟩)] w fun e w' => e = .returned (.int .i64 a3) ∧ w = w' := by
  have c4 : w.cell? ⟨q, 3, none⟩ = some (.int .i64 a3) := (cell_of_row _ _ _ _ _ _ h).trans rfl
  clear h
  go_enter Tryz.func23, Tryz.ntmps23
  go_wp2
  go_returns
  exact ⟨rfl, rfl⟩
end Go.Proofs.YtgbihpfpiaacfaaGreatDoor

set_option linter.unusedVariables false
set_option linter.unusedSimpArgs false
set_option maxRecDepth 100000
namespace Go.Proofs.YtgbihpfpiaacfaaGreatDoor
open Go.RowKit Go.Shelf Go.WideMaps Go.Maps

theorem rise_drop {l : List Fl} (h : Rise l) (nm : ByteArray) : Rise (dropF l nm) := by
  unfold Rise dropF
  exact h.filter _
theorem get_drop {l : List Fl} (hr : Rise l) {nm m : ByteArray} (h : m ≠ nm) : getF (dropF l nm) m = getF l m := by
  have mem : ∀ x : Fl, x.n ≠ nm → (x ∈ dropF l nm ↔ x ∈ l) := fun x hx => by
    unfold dropF
    rw [List.mem_filter]
    constructor
    · exact fun e => e.1
    · exact fun e => ⟨e, by simp [isN, hx]⟩
  cases hg : getF l m with
  | some x =>
    have h1 := (get_some hr).1 hg
    exact (get_some (rise_drop hr nm)).2 ⟨(mem x (by rw [h1.2]; exact h)).2 h1.1, h1.2⟩
  | none =>
    refine get_none.2 (fun x hx e => ?_)
    exact get_none.1 hg x ((mem x (by rw [e]; exact h)).1 hx) e
theorem used_drop {l : List Fl} (hr : Rise l) {x : Fl} (hx : x ∈ l) : usedF l = x.b.length + usedF (dropF l x.n) := by
  have h2 := set_perm (l := l) x
  have h3 : setF l x = l := by
    obtain ⟨i, hi⟩ := List.mem_iff_getElem?.1 hx
    rw [set_at hr hi rfl]
    exact List.ext_getElem? (fun j => by
      by_cases e : i = j
      · subst e
        rw [List.getElem?_set_self (List.getElem?_eq_some_iff.1 hi).1, hi]
      · rw [List.getElem?_set_ne e])
  rw [h3] at h2
  have := usedF_perm h2
  rw [usedF_cons] at this
  exact this
theorem SG.drop {s : DS} {f M : Nat} {fb : Nat → List Nat} (h : SG s f (M + 1) fb) (hr : Rise s.l) (hM : f + M + 1 < 100) : SG { s with l := dropF s.l (sg f) } (f + 1) M fb := by
  obtain ⟨ks, k1, k2⟩ := h.ks
  refine ⟨h.dn, h.ar, ⟨ks.filter (fun k => !decide (sg k = sg f)), ?_, ?_⟩, fun m m1 m2 => ?_⟩
  · show (dropF s.l (sg f)).map (·.n) = _
    have e : (s.l.map (·.n)).filter (fun z => !decide (z = sg f)) = (ks.map sg).filter (fun z => !decide (z = sg f)) := by rw [show s.l.map (·.n) = ks.map sg from k1]
    rw [List.filter_map, List.filter_map] at e
    exact e
  · refine (k2.filter _).trans ?_
    rw [show List.range' f (M + 1 + 1) = f :: List.range' (f + 1) (M + 1) from rfl, List.filter_cons_of_neg (by simp)]
    rw [List.filter_eq_self.2 (fun k hk => by
      have := List.mem_range'_1.1 hk
      have hne : sg k ≠ sg f := fun e => by have := sg_inj (by omega) (by omega) e; omega
      simp [hne])]
  · obtain ⟨z, z1, z2⟩ := h.at_ m (by omega) (by omega)
    have hne : sg m ≠ sg f := fun e => by have := sg_inj (by omega) (by omega) e; omega
    exact ⟨z, (get_drop hr hne).trans z1, z2⟩
theorem remove_fit (w : World) (B d : Nat) (s : DS) (h : DK w B d s) (nm : ByteArray) (hs : nm.size ≤ maxLen) (hl : s.l.length < 100000) (hf : fnd s nm = 0) (ha : s.ar = false) :
    Calls Tryz.prog 44 #[pv d, .string nm] w fun e w' => e = .returned (.int .i64 0) ∧ Out B d s { s with l := dropF s.l nm } w w' := by
  refine (remove_go w B d s h nm hs hl hf).mono ?_
  rintro e w' (⟨h1, _⟩ | ⟨_, rfl, ho⟩)
  · rw [tk_un ha] at h1; omega
  · rw [aft_un ha] at ho
    exact ⟨rfl, ho⟩
end Go.Proofs.YtgbihpfpiaacfaaGreatDoor

set_option linter.unusedVariables false
set_option linter.unusedSimpArgs false
set_option maxRecDepth 100000
namespace Go.Proofs.YtgbihpfpiaacfaaGreatDoor
open Go.RowKit Go.Shelf Go.WideMaps Go.Maps

def firstOf (q : Nat) (W : World) : Nat := match W.cell? ⟨q, 2, none⟩ with
  | some (.int _ x) => x.toNat
  | _ => 0
structure DP (w W : World) (B q d : Nat) (s : DS) (most : Int) (f M : Nat) (gs : Nat → List (List Nat)) (k : Nat) (sk : DS) : Prop where
  js : JS W B q d sk most (f + k) (M - k) gs
  far : Far (Lh d s q) w W
  sub : ∀ j, Has d sk j → Has d s j ∨ w.heap.size ≤ j
  rm : sk.room = s.room
  us : usedF s.l = ((List.range' f k).map (fun m => (cat (gs m)).length)).sum + usedF sk.l
theorem DP.next {w wr WD w6 : World} {B q d : Nat} {s : DS} {most : Int} {f M : Nat} {gs : Nat → List (List Nat)} {k : Nat} {sk : DS} (hD : DP w wr B q d s most f M gs k sk) (BD : Below wr.heap.size wr WD) (HO : Out B d sk { sk with l := dropF sk.l (sg (f + k)) } WD w6) (hkM : k < M) (hf1 : 1 ≤ f) (hfM : f + M < 100) (hq : q < w.heap.size) :
    DP w (w6.setCell ⟨q, 2, none⟩ (.int .i64 ((f : Int) + (k : Int) + 1))) B q d s most f M gs (k + 1) { sk with l := dropF sk.l (sg (f + k)) } := by
  have JD := hD.js.step BD
  have J6 := JD.jk.out HO
  have hr := DK.rise JD.jk.dk
  obtain ⟨r, e⟩ : ∃ r, M - k = r + 1 := ⟨M - k - 1, by omega⟩
  have e1 : M - (k + 1) = r := by omega
  have hF := JD.sg.fnd (m := f + k) (by omega) (by omega)
  have hx := get_mem (fnd_some hF.1).1
  have X2 := row_setC (j := 2) (u := .int .i64 ((f : Int) + (k : Int) + 1)) J6.box
  have fs := far_set w6 q 2 (.int .i64 ((f : Int) + (k : Int) + 1))
  have hws : w.heap.size ≤ WD.heap.size := Nat.le_trans hD.far.size BD.size
  refine ⟨⟨⟨J6.dk.still fs (fun j hj e => J6.nq (e ▸ hj)), ?_, J6.nq, J6.bq⟩, ?_⟩, ?_, fun j hj => ?_, hD.rm, ?_⟩
  · have l1 : f + (k + 1) + (M - (k + 1)) = f + k + (M - k) := by omega
    rw [l1]
    exact X2
  · rw [e1, show f + (k + 1) = f + k + 1 from rfl]
    have h2 := JD.sg
    rw [e] at h2
    exact h2.drop hr (by omega)
  · refine ((hD.far.trans (Far.of_below (P := fun _ => False) BD) (fun _ _ e => e.elim)).trans HO.far (fun j hj e => (hD.sub j e).elim .inl (fun e2 => by omega))).trans fs (fun j hj e => .inr e)
  · rcases HO.sub j hj with e2 | e2
    · exact hD.sub j e2
    · exact .inr (by omega)
  · have h1 := used_drop hr hx.1
    rw [hx.2] at h1
    have h2 : (fval sk (sg (f + k))).b.length = (cat (gs (f + k))).length := by rw [hF.2.1, bi_len]
    rw [h2] at h1
    have h3 := hD.us
    rw [List.range'_concat, Nat.one_mul, List.map_append, List.sum_append]
    simp only [List.map_cons, List.map_nil, List.sum_cons, List.sum_nil]
    show usedF s.l = _ + usedF (dropF sk.l (sg (f + k)))
    omega
set_option maxHeartbeats 6400000 in
theorem drop_any (w : World) (B q d : Nat) (s : DS) (most : Int) (f M : Nat) (gs : Nat → List (List Nat)) (h : JS w B q d s most f M gs) (hf1 : 1 ≤ f) (hfM : f + M < 100) (n : Int) :
    Calls Tryz.prog 18 #[.pointer (some ⟨q, 0, none⟩), .int .i64 n] w fun e w' => e = .returned (.int .i64 0) ∧ ∃ (k : Nat) (s' : DS), k ≤ M ∧ (k = 0 ∨ ((f + k : Nat) : Int) ≤ n) ∧ (k = M ∨ n ≤ ((f + k : Nat) : Int)) ∧ DP w w' B q d s most f M gs k s' := by
  have I0 := Lib.hid (show DP w w B q d s most f M gs 0 s from ⟨h, Far.refl _ _, fun j e => .inl e, rfl, by simp⟩)
  have HB := Lib.hid (show B ≤ q ∧ q < w.heap.size from ⟨h.jk.bq, h.jk.lt⟩)
  clear h
  go_enter Tryz.func18, Tryz.ntmps18
  go_wp2_with fail
  go_loopw [5] (fun _ wr => ∃ (k : Nat) (sk : DS), k ≤ M ∧ (k = 0 ∨ ((f + k : Nat) : Int) ≤ n) ∧ Hid (DP w wr B q d s most f M gs k sk)) (fun _ wr => f + M - firstOf q wr)
  case atStart => exact ⟨0, s, Nat.zero_le _, .inl rfl, I0⟩
  case round =>
    obtain ⟨k, sk, hk, hkn, hD⟩ := hrel
    have c0 : wr.cell? ⟨q, 0, none⟩ = some (pv d) := (cell_of_row _ _ _ _ _ _ hD.out.js.jk.box).trans rfl
    have c2 : wr.cell? ⟨q, 2, none⟩ = some (.int .i64 ((f + k : Nat) : Int)) := (cell_of_row _ _ _ _ _ _ hD.out.js.jk.box).trans rfl
    have c3 : wr.cell? ⟨q, 3, none⟩ = some (.int .i64 ((f + M : Nat) : Int)) := by
      have : wr.cell? ⟨q, 3, none⟩ = some (.int .i64 ((f + k + (M - k) : Nat) : Int)) := (cell_of_row _ _ _ _ _ _ hD.out.js.jk.box).trans rfl
      rwa [show f + k + (M - k) = f + M from by omega] at this
    have FO := Lib.hid (show firstOf q wr = f + k from by unfold firstOf; rw [c2]; exact Int.toNat_natCast _)
    by_cases hlt : ((f + k : Nat) : Int) < min n ((f + M : Nat) : Int)
    · go_wp2_with fail
      go_quiet (fail)
      go_wp2_with fail
      have BD := Lib.hid (show Below wr.heap.size wr (wr.drewN nq) from ⟨rfl, rfl, rfl, Nat.le_refl _, fun _ _ => rfl⟩)
      obtain ⟨WD, hWD⟩ : ∃ z, wr.drewN nq = z := ⟨_, rfl⟩
      rw [hWD] at BD ⊢
      have JD := Lib.hid (hD.out.js.step BD.out)
      have hkM : k < M := by
        rcases Nat.lt_or_ge k M with h | h
        · exact h
        · exfalso
          have := Int.min_le_right n ((f + M : Nat) : Int)
          omega
      obtain ⟨r, hr⟩ : ∃ r, M - k = r + 1 := ⟨M - k - 1, by omega⟩
      have hkn2 : ((f + (k + 1) : Nat) : Int) ≤ n := by have := Int.min_le_left n ((f + M : Nat) : Int); omega
      have KR := Lib.hid (And.intro hkM (And.intro hr hkn2))
      have NM := Lib.hid (show ∀ W, Calls Tryz.prog 37 #[.int .i64 ((f : Int) + (k : Int))] W (fun e w' => e = .returned (.string (sg (f + k))) ∧ W = w') from fun W => name_any W (f + k) (by omega) (by omega))
      have FN := Lib.hid (JD.out.sg.fnd (m := f + k) (by omega) (by omega))
      have CR := Lib.hid (show ∀ W, Below WD.heap.size WD W → Calls Tryz.prog 44 #[pv d, .string (sg (f + k))] W (fun e w' => e = .returned (.int .i64 0) ∧ Out B d sk { sk with l := dropF sk.l (sg (f + k)) } W w') from fun W hb =>
        remove_fit W B d sk (JD.out.jk.dk.step hb) (sg (f + k)) (by have := sg_size (n := f + k) (by omega); unfold maxLen; omega) (by have := JD.out.sg.len; omega) FN.out.1 JD.out.sg.ar)
      have d0 : WD.cell? ⟨q, 0, none⟩ = some (pv d) := (cell_of_row _ _ _ _ _ _ JD.out.jk.box).trans rfl
      have d2 : WD.cell? ⟨q, 2, none⟩ = some (.int .i64 ((f : Int) + (k : Int))) := (cell_of_row _ _ _ _ _ _ JD.out.jk.box).trans rfl
      have hw2 : wrap64 ((f : Int) + (k : Int) + 1) = (f : Int) + (k : Int) + 1 := by unfold wrap64; omega
      have hw3 : IntKind.i64.wrap ((f : Int) + (k : Int) + 1) = (f : Int) + (k : Int) + 1 := by rw [IntKind.wrap_i64]; omega
      clear hWD c0 c2 c3 hlt hkM hr hkn2
      go_region_with (first
        | (refine (NM.out _).mono ?_; rintro e wz ⟨rfl, hwz⟩; subst hwz)
        | (refine (CR.out _ (by first | exact Below.refl _ _ | exact (Below.refl _ _).drew)).mono ?_; rintro e w6 ⟨rfl, ho⟩; have HO := Lib.hid (show Out B d sk { sk with l := dropF sk.l (sg (f + k)) } WD w6 from ⟨ho.dk, (Far.of_below (P := Has d sk) (show Below WD.heap.size WD _ from by first | exact Below.refl _ _ | exact (Below.refl _ _).drew)).trans ho.far (fun _ _ e => e), ho.sub⟩); clear ho))
      all_goals have J6 := Lib.hid (JD.out.jk.out HO.out)
      all_goals have e2 : w6.cell? ⟨q, 2, none⟩ = some (.int .i64 ((f : Int) + (k : Int))) := (cell_of_row _ _ _ _ _ _ J6.out.box).trans rfl
      all_goals have f2 := frozen_of_row (j := 2) _ _ _ _ J6.out.box
      all_goals have X2 := Lib.hid (row_setC (j := 2) (u := .int .i64 ((f : Int) + (k : Int) + 1)) J6.out.box)
      all_goals clear d0 d2
      all_goals go_wp2
      all_goals go_roundw
      all_goals first
        | exact ⟨k + 1, _, KR.out.1, .inr KR.out.2.2, Lib.hid (hD.out.next BD.out HO.out KR.out.1 hf1 hfM HB.out.2)⟩
        | (have e9 : firstOf q (w6.setCell ⟨q, 2, none⟩ (.int .i64 ((f : Int) + (k : Int) + 1))) = f + k + 1 := by
             unfold firstOf
             rw [show (w6.setCell ⟨q, 2, none⟩ (.int .i64 ((f : Int) + (k : Int) + 1))).cell? ⟨q, 2, none⟩ = some (.int .i64 ((f : Int) + (k : Int) + 1)) from (cell_of_row _ _ _ _ _ _ X2.out).trans rfl]
             show ((f : Int) + (k : Int) + 1).toNat = _
             omega
           rw [e9, FO.out]
           have := KR.out.1
           omega)
    · go_wp2_with fail
      go_quiet (fail)
      go_wp2
      go_returns
      exact ⟨rfl, k, sk, hk, hkn, by have := hlt; omega, hD.out.js.step ⟨rfl, rfl, rfl, Nat.le_refl _, fun _ _ => rfl⟩, hD.out.far.trans (Far.of_below (P := fun _ => False) (show Below wr.heap.size wr (wr.drewN _) from ⟨rfl, rfl, rfl, Nat.le_refl _, fun _ _ => rfl⟩)) (fun _ _ e => e.elim), hD.out.sub, hD.out.rm, hD.out.us⟩
end Go.Proofs.YtgbihpfpiaacfaaGreatDoor

set_option linter.unusedVariables false
set_option linter.unusedSimpArgs false
set_option maxRecDepth 100000
namespace Go.Proofs.YtgbihpfpiaacfaaGreatDoor
open Go.RowKit Go.Shelf Go.WideMaps Go.Maps

theorem cat_take {L : List (List Nat)} {i : Nat} {b : List Nat} (h : L[i]? = some b) : (cat (L.take (i + 1))).length = (cat (L.take i)).length + (b.length + 8) := by
  rw [List.take_add_one, h]
  show (cat (L.take i ++ [b])).length = _
  rw [cat_snoc, List.length_append, Rc.rec_length]
theorem cat_mono (L : List (List Nat)) (i : Nat) : (cat (L.take i)).length ≤ (cat L).length := by
  have h := congrArg (fun l => (cat l).length) (List.take_append_drop i L)
  unfold cat at *
  simp only [List.flatMap_append, List.length_append] at h
  omega
theorem len_cat : ∀ L : List (List Nat), L.length ≤ (cat L).length
  | [] => Nat.zero_le _
  | x :: L => by
    have ih := len_cat L
    have e : cat (x :: L) = Rc.rec x ++ cat L := by simp [cat]
    rw [e, List.length_append, Rc.rec_length, List.length_cons]
    omega
set_option maxHeartbeats 1600000 in
theorem rsize_any (w : World) (E : Nat) (v : Value) (L : List (List Nat)) (h : Says w E v L) (hs : (cat L).length ≤ 1000000) : Calls Tryz.prog 45 #[v] w fun e w' => e = .returned (.int .i64 (((cat L).length : Nat) : Int)) ∧ w = w' := by
  obtain ⟨vs, r1, l1, e1⟩ := h
  obtain ⟨a1, p1, rfl⟩ := own_shapeK r1
  rw [l1] at r1 ⊢
  have X1 := Lib.hid (And.intro l1 (And.intro r1 e1))
  have HS := Lib.hid hs
  clear r1 e1 hs
  go_enter Tryz.func45, Tryz.ntmps45
  go_wp2_with fail
  go_loopw [3, 4] (fun nv iv wr => ∃ i : Nat, nv = .int .i64 (((cat (L.take i)).length : Nat) : Int) ∧ iv = .int .i64 (i : Int) ∧ i ≤ L.length ∧ wr = w) (fun _ iv _ => L.length - (intOf iv).toNat)
  case atStart => exact ⟨0, rfl, rfl, Nat.zero_le _, rfl⟩
  case round =>
    obtain ⟨i, rfl, rfl, hi, rfl⟩ := hrel
    by_cases hlt : i < L.length
    · obtain ⟨b, hb⟩ : ∃ b, L[i]? = some b := ⟨_, List.getElem?_eq_getElem hlt⟩
      obtain ⟨u1, hu1⟩ : ∃ u, vs[i]? = some u := ⟨_, List.getElem?_eq_getElem (by rw [l1]; exact hlt)⟩
      obtain ⟨g1, rfl⟩ : ∃ g, a1 = some ⟨g, 0, none⟩ := by
        rcases X1.out.2.1.2 with ⟨e, e'⟩ | ⟨g, cap, _, e, _⟩
        · rw [e'] at hlt; exact absurd hlt (Nat.not_lt_zero _)
        · injection e with e _ _; exact ⟨g, e⟩
      have c1 : wr.cell? ⟨g1, i, none⟩ = some u1 := by
        have := X1.out.2.1.cells (g := g1) rfl i u1 hu1
        rwa [rk_addr, Nat.zero_add] at this
      obtain ⟨b1, q1, rfl⟩ := Rc.lies_shape (X1.out.2.2 i u1 b hu1 hb)
      have CT := Lib.hid (cat_take hb)
      have CM := Lib.hid (cat_mono L (i + 1))
      obtain ⟨N, hN⟩ : ∃ N, (cat (L.take i)).length = N := ⟨_, rfl⟩
      have HN := Lib.hid hN
      rw [hN]
      have hw1 : wrap64 ((N : Int) + (b.length : Int)) = (N : Int) + (b.length : Int) := by have := CT.out; have := CM.out; have := HS.out; unfold wrap64; omega
      have hw2 : wrap64 ((N : Int) + (b.length : Int) + 8) = (N : Int) + (b.length : Int) + 8 := by have := CT.out; have := CM.out; have := HS.out; unfold wrap64; omega
      have LC := len_cat L
      have hwi : wrap64 ((i : Int) + 1) = ((i + 1 : Nat) : Int) := by have := HS.out; unfold wrap64; omega
      clear hb hu1 hN LC
      go_wp2
      go_roundw
      case rel => exact ⟨i + 1, by rw [show (((cat (L.take (i + 1))).length : Nat) : Int) = (N : Int) + (b.length : Int) + 8 from by have := CT.out; have := HN.out; omega]; first | rfl | rw [hw2], by first | (rw [hwi]) | go_num, by omega, by first | rfl | trivial⟩
      case measure => first | (rw [hwi]; simp [intOf]; omega) | (simp [intOf, hwi]; omega)
    · have e : i = L.length := by omega
      rw [e, List.take_length]
      have hno : ¬ ((L.length : Int) < (L.length : Int)) := by omega
      go_wp2
      go_returns
      exact ⟨rfl, rfl⟩
end Go.Proofs.YtgbihpfpiaacfaaGreatDoor

set_option linter.unusedVariables false
set_option linter.unusedSimpArgs false
set_option maxRecDepth 100000
namespace Go.Proofs.YtgbihpfpiaacfaaGreatDoor
open Go.RowKit Go.Shelf Go.WideMaps Go.Maps

/-- The reference's journal, as a value. -/
def enV (u : Value) : List Value := [u]
structure RLog (w0 w : World) (sv : Value) (ss : List Value) (Ss : List (List (List Nat))) : Prop where
  row : LiesK enV 1 w sv ss
  typ : ∃ g o n c cs, sv = .slice (some ⟨g, o, none⟩) n c ∧ w0.heap.size ≤ g ∧ w.heap[g]? = some (.cells cs 30 (0, 0))
  len : ss.length = Ss.length
  each : ∀ (i : Nat) u L, ss[i]? = some u → Ss[i]? = some L → ∃ vs : List Value, w.ownsRow w0.heap.size 39 1 u vs.length vs ∧ vs.length = L.length ∧ ∀ (j : Nat) x b, vs[j]? = some x → L[j]? = some b → Rc.Lies w0 x b
  bel : Below w0.heap.size w0 w
theorem RLog.step {w0 w w' : World} {sv : Value} {ss : List Value} {Ss : List (List (List Nat))} (h : RLog w0 w sv ss Ss) (hb : Below w.heap.size w w') : RLog w0 w' sv ss Ss := by
  refine ⟨h.row.step hb, ?_, h.len, fun i u L hu hL => ?_, h.bel.trans (hb.mono h.bel.size)⟩
  · obtain ⟨g, o, n, c, cs, e, hg, hk⟩ := h.typ
    exact ⟨g, o, n, c, cs, e, hg, (hb.block g (lt_of_block hk)).trans hk⟩
  · obtain ⟨vs, h1, h2⟩ := h.each i u L hu hL
    exact ⟨vs, own_belowK h1 hb, h2⟩
theorem RLog.far' {w0 w w' : World} {sv : Value} {ss : List Value} {Ss : List (List (List Nat))} (h : RLog w0 w sv ss Ss) {P : Nat → Prop} (hf : Far P w w') (h30 : ∀ k, sv.ownBlock = some k → ¬ P k) (h39 : ∀ u ∈ ss, ∀ k, u.ownBlock = some k → ¬ P k) (hP : ∀ k, P k → w0.heap.size ≤ k) : RLog w0 w' sv ss Ss := by
  obtain ⟨g, o, n, c, cs, e, hg, hk⟩ := h.typ
  subst e
  refine ⟨h.row.far hf (fun j e => h30 j e), ⟨g, o, n, c, cs, rfl, hg, (hf.block g (lt_of_block hk) (h30 g rfl)).trans hk⟩, h.len, fun i u L hu hL => ?_, h.bel.trans (hf.below h.bel.size hP)⟩
  obtain ⟨vs, h1, h2⟩ := h.each i u L hu hL
  exact ⟨vs, hf.row h1 (fun j e hj => h39 u (List.mem_of_getElem? hu) j e hj), h2⟩
theorem RLog.own {w0 w : World} {sv : Value} {ss : List Value} {Ss : List (List (List Nat))} (h : RLog w0 w sv ss Ss) {u : Value} (hu : u ∈ ss) {k : Nat} (hk : u.ownBlock = some k) : k < w.heap.size ∧ ∃ cs, w.heap[k]? = some (.cells cs 39 (0, 0)) := by
  obtain ⟨i, hi⟩ := List.mem_iff_getElem?.1 hu
  obtain ⟨L, hL⟩ : ∃ L, Ss[i]? = some L := ⟨_, List.getElem?_eq_getElem (by rw [← h.len]; exact (List.getElem?_eq_some_iff.1 hi).1)⟩
  obtain ⟨vs, h1, _⟩ := h.each i u L hi hL
  obtain ⟨cs, hc⟩ := own39 h1 hk
  exact ⟨lt_of_block hc, cs, hc⟩
theorem RLog.shapeN {w0 w : World} {sv : Value} {ss : List Value} {Ss : List (List (List Nat))} (h : RLog w0 w sv ss Ss) {n : Nat} (hn : Ss.length = n) : ∃ ao cap, sv = .slice ao n cap := by
  obtain ⟨a, c, e⟩ := h.row.shape
  exact ⟨a, c, by rw [e, h.len, hn]⟩
theorem RLog.lt {w0 w : World} {sv : Value} {ss : List Value} {Ss : List (List (List Nat))} (h : RLog w0 w sv ss Ss) {k : Nat} (hk : sv.ownBlock = some k) : k < w.heap.size ∧ ∃ cs, w.heap[k]? = some (.cells cs 30 (0, 0)) := by
  obtain ⟨g, o, n, c, cs, e, hg, hh⟩ := h.typ
  subst e
  have e : g = k := by simpa [Value.ownBlock] using hk
  subst e
  exact ⟨lt_of_block hh, cs, hh⟩
theorem RLog.far {w0 w w' : World} {sv : Value} {ss : List Value} {Ss : List (List (List Nat))} (h : RLog w0 w sv ss Ss) {P : Nat → Prop} (hf : Far P w w') (h30 : ∀ k cs, w.heap[k]? = some (.cells cs 30 (0, 0)) → ¬ P k) (h39 : ∀ k cs, w.heap[k]? = some (.cells cs 39 (0, 0)) → ¬ P k) (hP : ∀ k, P k → w0.heap.size ≤ k) : RLog w0 w' sv ss Ss :=
  h.far' hf (fun k e => by obtain ⟨_, cs, hc⟩ := h.lt e; exact h30 k cs hc) (fun u hu k e => by obtain ⟨_, cs, hc⟩ := h.own hu e; exact h39 k cs hc) hP
theorem RLog.says {w0 w : World} {sv : Value} {ss : List Value} {Ss : List (List (List Nat))} (h : RLog w0 w sv ss Ss) (i : Nat) (u : Value) (L : List (List Nat)) (hu : ss[i]? = some u) (hL : Ss[i]? = some L) : Says w w0.heap.size u L := by
  obtain ⟨vs, h1, h2, h3⟩ := h.each i u L hu hL
  exact ⟨vs, h1, h2, fun j x b hx hb => (h3 j x b hx hb).later h.bel⟩
set_option maxHeartbeats 1600000 in
theorem rlast_any (w0 w : World) (f most : Int) (sv : Value) (ss : List Value) (Ss : List (List (List Nat))) (h : RLog w0 w sv ss Ss) (hf : 0 ≤ f ∧ f ≤ 1000000) (hs : Ss.length ≤ 1000000) :
    Calls Tryz.prog 24 #[.agg #[.int .i64 f, sv, .int .i64 most]] w fun e w' => e = .returned (.int .i64 (f + (Ss.length : Int) - 1)) ∧ Below w.heap.size w w' := by
  obtain ⟨sa, sc, rfl⟩ := h.row.shape
  have HL := h.len
  rw [HL]
  have BA := Lib.hid (vstep w (.cells #[.int .i64 f, .slice sa Ss.length sc, .int .i64 most] 37))
  have hw1 : wrap64 (f + (Ss.length : Int)) = f + (Ss.length : Int) := by unfold wrap64; omega
  have hw2 : wrap64 (f + (Ss.length : Int) - 1) = f + (Ss.length : Int) - 1 := by unfold wrap64; omega
  clear h HL
  go_enter Tryz.func24, Tryz.ntmps24
  go_wp2
  go_returns
  exact ⟨rfl, BA.out⟩
set_option maxHeartbeats 1600000 in
theorem rlen_any (w0 w : World) (f most : Int) (sv : Value) (ss : List Value) (Ss : List (List (List Nat))) (L : List (List Nat)) (M : Nat) (h : RLog w0 w sv ss Ss) (hM : Ss.length = M + 1) (hL : Ss[M]? = some L) (hs : M ≤ 1000000) (hc : (cat L).length ≤ 1000000) :
    Calls Tryz.prog 26 #[.agg #[.int .i64 f, sv, .int .i64 most]] w fun e w' => e = .returned (.int .i64 (((cat L).length : Nat) : Int)) ∧ Below w.heap.size w w' := by
  have HL := h.len
  obtain ⟨u, hu⟩ : ∃ u, ss[M]? = some u := ⟨_, List.getElem?_eq_getElem (by omega)⟩
  have SA := h.says M u L hu hL
  obtain ⟨sa, sc, rfl⟩ := h.row.shape
  obtain ⟨g, o, p, rfl, hx, hg, a0⟩ := h.row.at' (i := M) (by omega)
  have hp : p = u := by rw [hu] at hx; injection hx with hx; exact hx.symm
  subst hp
  have k0 : w.cell? ⟨g, o + M, none⟩ = some p := by simpa using a0 0 p rfl
  rw [HL, hM]
  obtain ⟨ua, uc, hv⟩ : ∃ ua uc, p = .slice ua L.length uc := by
    obtain ⟨vs, r1, l1, _⟩ := SA
    obtain ⟨a, c, e⟩ := own_shapeK r1
    exact ⟨a, c, by rw [e, l1]⟩
  subst hv
  have BA := Lib.hid (vstep w (.cells #[.int .i64 f, .slice (some ⟨g, o, none⟩) (M + 1) sc, .int .i64 most] 37))
  have RS := Lib.hid (rsize_any (w.alloc (.cells #[.int .i64 f, .slice (some ⟨g, o, none⟩) (M + 1) sc, .int .i64 most] 37)) w0.heap.size _ L (SA.step BA.out) hc)
  have cg : (w.alloc (.cells #[.int .i64 f, .slice (some ⟨g, o, none⟩) (M + 1) sc, .int .i64 most] 37)).cell? ⟨g, o + M, none⟩ = some (.slice ua L.length uc) := (BA.out.cell (p := ⟨g, o + M, none⟩) (World.block_lt_of_cell? w _ k0)).trans k0
  have hw1 : wrap64 ((M : Int) + 1 - 1) = (M : Int) := by unfold wrap64; omega
  have hw2 : wrap64 (M : Int) = (M : Int) := by unfold wrap64; omega
  have hw3 : wrap64 (((M + 1 : Nat) : Int) - 1) = (M : Int) := by unfold wrap64; omega
  clear h HL hu SA hL hM hx a0 k0 hg
  go_enter Tryz.func26, Tryz.ntmps26
  go_wp2_with fail
  refine RS.out.mono ?_
  rintro e w1 ⟨rfl, rfl⟩
  go_wp2
  go_returns
  exact ⟨rfl, BA.out⟩
end Go.Proofs.YtgbihpfpiaacfaaGreatDoor

set_option linter.unusedVariables false
set_option linter.unusedSimpArgs false
set_option maxRecDepth 100000
namespace Go.Proofs.YtgbihpfpiaacfaaGreatDoor
open Go.RowKit Go.Shelf Go.WideMaps Go.Maps

def sizes (Ss : List (List (List Nat))) : Nat := (Ss.map (fun L => (cat L).length)).sum
theorem sizes_take {Ss : List (List (List Nat))} {i : Nat} {L : List (List Nat)} (h : Ss[i]? = some L) : sizes (Ss.take (i + 1)) = sizes (Ss.take i) + (cat L).length := by
  unfold sizes
  rw [List.take_add_one, h]
  simp
theorem sizes_mono (Ss : List (List (List Nat))) (i : Nat) : sizes (Ss.take i) ≤ sizes Ss := by
  have h := congrArg sizes (List.take_append_drop i Ss)
  unfold sizes at *
  simp only [List.map_append, List.sum_append] at h
  omega
set_option maxHeartbeats 3200000 in
theorem rused_any (w0 w : World) (f most : Int) (sv : Value) (ss : List Value) (Ss : List (List (List Nat))) (h : RLog w0 w sv ss Ss) (hs : Ss.length ≤ 1000000) (hc : sizes Ss ≤ 1000000) :
    Calls Tryz.prog 28 #[.agg #[.int .i64 f, sv, .int .i64 most]] w fun e w' => e = .returned (.int .i64 ((sizes Ss : Nat) : Int)) ∧ Below w.heap.size w w' := by
  obtain ⟨sa, sc, rfl⟩ := h.row.shape
  have l1 := h.len
  have HR := Lib.hid h
  rw [l1]
  have BA := Lib.hid (vstep w (.cells #[.int .i64 f, .slice sa Ss.length sc, .int .i64 most] 37))
  have NB := Lib.hid (heap_alloc_new w (.cells #[.int .i64 f, .slice sa Ss.length sc, .int .i64 most] 37))
  obtain ⟨W1, hW1⟩ : ∃ z, w.alloc (.cells #[.int .i64 f, .slice sa Ss.length sc, .int .i64 most] 37) = z := ⟨_, rfl⟩
  rw [hW1] at BA NB
  have HW := Lib.hid hW1
  have H1 := Lib.hid (HR.out.step BA.out)
  have HC := Lib.hid (And.intro hs hc)
  clear h hW1 hs hc
  go_enter Tryz.func28, Tryz.ntmps28
  go_wp2_with fail
  go_loopw [3, 4] (fun nv iv wr => ∃ i : Nat, nv = .int .i64 ((sizes (Ss.take i) : Nat) : Int) ∧ iv = .int .i64 (i : Int) ∧ i ≤ Ss.length ∧ wr = W1) (fun _ iv _ => Ss.length - (intOf iv).toNat)
  case atStart => exact ⟨0, rfl, rfl, Nat.zero_le _, HW.out⟩
  case round =>
    obtain ⟨i, rfl, rfl, hi, rfl⟩ := hrel
    have d1 : wr.cell? ⟨w.heap.size, 1, none⟩ = some (.slice sa Ss.length sc) := (cell_of_row _ _ _ _ _ _ NB.out).trans rfl
    by_cases hlt : i < Ss.length
    · obtain ⟨L, hL⟩ : ∃ L, Ss[i]? = some L := ⟨_, List.getElem?_eq_getElem hlt⟩
      obtain ⟨g1, o1, u1, rfl, hu1, hg1, a0⟩ := H1.out.row.at' (i := i) (by rw [l1]; exact hlt)
      have SA := H1.out.says i u1 L hu1 hL
      have c1 : wr.cell? ⟨g1, o1 + i, none⟩ = some u1 := by simpa using a0 0 u1 rfl
      obtain ⟨ua, uc, hv⟩ : ∃ ua uc, u1 = .slice ua L.length uc := by
        obtain ⟨vs, r1, l1, _⟩ := SA
        obtain ⟨a, c, e⟩ := own_shapeK r1
        exact ⟨a, c, by rw [e, l1]⟩
      subst hv
      have CT := Lib.hid (sizes_take hL)
      have CM := Lib.hid (sizes_mono Ss (i + 1))
      have RS := Lib.hid (rsize_any wr w0.heap.size _ L SA (by have := CT.out; have := CM.out; have := HC.out; omega))
      obtain ⟨N, hN⟩ : ∃ N, sizes (Ss.take i) = N := ⟨_, rfl⟩
      have HN := Lib.hid hN
      rw [hN]
      have hw1 : wrap64 ((N : Int) + ((cat L).length : Int)) = (N : Int) + ((cat L).length : Int) := by have := CT.out; have := CM.out; have := HC.out; unfold wrap64; omega
      have hwi : wrap64 ((i : Int) + 1) = ((i + 1 : Nat) : Int) := by have := HC.out; unfold wrap64; omega
      clear hL hu1 hN SA a0 hg1
      go_wp2_with fail
      refine RS.out.mono ?_
      rintro e w5 ⟨rfl, rfl⟩
      go_wp2
      go_roundw
      case rel => exact ⟨i + 1, by rw [show ((sizes (Ss.take (i + 1)) : Nat) : Int) = (N : Int) + ((cat L).length : Int) from by have := CT.out; have := HN.out; omega]; first | rfl | rw [hw1], by first | (rw [hwi]) | go_num, by omega, by first | rfl | trivial⟩
      case measure => first | (rw [hwi]; simp [intOf]; omega) | (simp [intOf, hwi]; omega)
    · have e : i = Ss.length := by omega
      rw [e, List.take_length]
      have hno : ¬ ((Ss.length : Int) < (Ss.length : Int)) := by omega
      go_wp2
      go_returns
      exact ⟨rfl, BA.out⟩
end Go.Proofs.YtgbihpfpiaacfaaGreatDoor

set_option linter.unusedVariables false
set_option linter.unusedSimpArgs false
set_option maxRecDepth 100000
namespace Go.Proofs.YtgbihpfpiaacfaaGreatDoor
open Go.RowKit Go.Shelf Go.WideMaps Go.Maps

set_option maxHeartbeats 1600000 in
theorem rnew_any (w0 w : World) (hw : Below w0.heap.size w0 w) (most : Int) : Calls Tryz.prog 13 #[.int .i64 most] w fun e w' => ∃ sv, e = .returned (.agg #[.int .i64 1, sv, .int .i64 most]) ∧ RLog w0 w' sv [.slice none 0 0] [[]] ∧ Below w.heap.size w w' := by
  have HWW := Lib.hid hw
  clear hw
  go_enter Tryz.func13, Tryz.ntmps13
  go_wp2
  go_returns
  have b1 := vstep w (.cells #[.int .i64 1, .slice (some ⟨w.heap.size + 1, 0, none⟩) 1 1, .int .i64 most] 37)
  have b2 := vstep (w.alloc (.cells #[.int .i64 1, .slice (some ⟨w.heap.size + 1, 0, none⟩) 1 1, .int .i64 most] 37)) (.cells #[.slice none 0 0] 30)
  have n2 := heap_alloc_new (w.alloc (.cells #[.int .i64 1, .slice (some ⟨w.heap.size + 1, 0, none⟩) 1 1, .int .i64 most] 37)) (.cells #[.slice none 0 0] 30)
  rw [World.size_alloc] at n2
  refine ⟨_, rfl, ⟨one_liesK (enc := enV) (p := .slice none 0 0) (fun _ => rfl) n2, ⟨_, _, _, _, _, rfl, by have := HWW.out.size; omega, n2⟩, rfl, fun i u L hu hL => ?_, HWW.out.trans ((b1.trans (b2.mono b1.size)).mono HWW.out.size)⟩, b1.trans (b2.mono b1.size)⟩
  match i with
  | 0 =>
    have hu : Value.slice none 0 0 = u := by simpa using hu
    have hL : [] = L := by simpa using hL
    subst hu hL
    exact ⟨[], World.ownsRow_nil _ _ _ _, rfl, fun j x b hx _ => (by simp at hx)⟩
  | i + 1 => simp at hu
end Go.Proofs.YtgbihpfpiaacfaaGreatDoor

set_option linter.unusedVariables false
set_option linter.unusedSimpArgs false
set_option maxRecDepth 100000
namespace Go.Proofs.YtgbihpfpiaacfaaGreatDoor
open Go.RowKit Go.Shelf Go.WideMaps Go.Maps

theorem info30 : (Tryz.prog.info? 30).map (fun i => (i.zero, i.size, i.bytes)) = some (some (.slice none 0 0), 1, 24) := by kernel_rfl
theorem Tryz.u35 : Tryz.prog.underlying 35 = some (.slice 30) := by kernel_rfl
theorem RLog.slice {w0 w : World} {sv : Value} {ss : List Value} {Ss : List (List (List Nat))} (h : RLog w0 w sv ss Ss) : ∀ u ∈ ss, ∃ a n c, u = .slice a n c := by
  intro u hu
  obtain ⟨i, hi⟩ := List.mem_iff_getElem?.1 hu
  have hl : i < Ss.length := by rw [← h.len]; exact (List.getElem?_eq_some_iff.1 hi).1
  obtain ⟨vs, r1, l1, _⟩ := h.each i u Ss[i] hi (List.getElem?_eq_getElem hl)
  obtain ⟨a, c, e⟩ := own_shapeK r1
  exact ⟨a, _, c, e⟩
theorem RLog.src {w0 w : World} {sv : Value} {ss : List Value} {Ss : List (List (List Nat))} (h : RLog w0 w sv ss Ss) : Src Tryz.prog 1 35 sv ss.length ss w := by
  obtain ⟨ao, cap, rfl, hn, hm, h0, hc⟩ := h.row
  cases ao with
  | none =>
    obtain ⟨rfl, rfl⟩ := h0 rfl
    exact Src.ofNil _ Tryz.u35 0
  | some b =>
    refine Src.ofSlice _ Tryz.u35 _ _ _ _ (by simp) (fun j y hj => ?_) (fun y hy => by obtain ⟨a, n, c, rfl⟩ := h.slice y hy; rfl)
    obtain ⟨g, o, rfl, _, hcs⟩ := hc b rfl (fun e => by rw [e] at hj; simp at hj)
    have := hcs j y hj 0 y rfl
    rw [Rc.add_addr]
    simpa using this
end Go.Proofs.YtgbihpfpiaacfaaGreatDoor

set_option linter.unusedVariables false
set_option linter.unusedSimpArgs false
set_option maxRecDepth 100000
namespace Go.Proofs.YtgbihpfpiaacfaaGreatDoor
open Go.RowKit Go.Shelf Go.WideMaps Go.Maps

theorem flat_enV : ∀ l : List Value, l.flatMap enV = l
  | [] => rfl
  | x :: l => by rw [List.flatMap_cons, flat_enV l]; rfl
theorem RLog.snoc {w0 W : World} {sv : Value} {ss : List Value} {Ss : List (List (List Nat))} (h : RLog w0 W sv ss Ss) (k : Nat) (hk : k ≤ ss.length) {E : Nat} (hE : w0.heap.size ≤ E) {v u : Value} {L : List (List Nat)} (hrow : W.ownsRow E 30 1 v (k + 1) (ss.take k ++ [u]))
    (hu : ∃ vs : List Value, W.ownsRow w0.heap.size 39 1 u vs.length vs ∧ vs.length = L.length ∧ ∀ (j : Nat) x b, vs[j]? = some x → L[j]? = some b → Rc.Lies w0 x b) : RLog w0 W v (ss.take k ++ [u]) (Ss.take k ++ [L]) := by
  have hl : (ss.take k).length = k := by rw [List.length_take]; omega
  have hl2 : (Ss.take k).length = k := by rw [List.length_take, ← h.len]; omega
  refine ⟨own_liesK (enc := enV) (fun _ => rfl) (e := 30) (B := E) (by rw [flat_enV, List.length_append, hl]; exact hrow), ?_, by rw [List.length_append, List.length_append, hl, hl2]; rfl, fun i x y hx hy => ?_, h.bel⟩
  · rcases hrow.2 with ⟨_, e⟩ | ⟨g, cap, cur, e, hg, hc, _⟩
    · cases e
    · exact ⟨g, 0, _, cap, cur, e, Nat.le_trans hE hg, hc⟩
  · by_cases hi : i < k
    · rw [List.getElem?_append_left (by rw [hl]; exact hi), List.getElem?_take_of_lt hi] at hx
      rw [List.getElem?_append_left (by rw [hl2]; exact hi), List.getElem?_take_of_lt hi] at hy
      exact h.each i x y hx hy
    · have hi2 : i = k := by
        have := (List.getElem?_eq_some_iff.1 hx).1
        rw [List.length_append, hl] at this
        simp at this
        omega
      subst hi2
      rw [List.getElem?_append_right (by rw [hl]; exact Nat.le_refl _), hl, Nat.sub_self] at hx
      rw [List.getElem?_append_right (by rw [hl2]; exact Nat.le_refl _), hl2, Nat.sub_self] at hy
      have hx : u = x := by simpa using hx
      have hy : L = y := by simpa using hy
      subst hx hy
      exact hu
theorem src_one {W : World} {g : Nat} {u : Value} (hb : W.heap[g]? = some (.cells #[u] 30 (0, 0))) (hu : u.oneCell' = true) : Src Tryz.prog 1 35 (.slice (some ⟨g, 0, none⟩) 1 1) 1 [u] W := by
  refine Src.ofSlice _ Tryz.u35 _ _ _ _ rfl (fun j y hj => ?_) (fun y hy => by rw [List.mem_singleton.1 hy]; exact hu)
  have h0 : j = 0 := by have := (List.getElem?_eq_some_iff.1 hj).1; simp at this; exact this
  subst h0
  rw [rk_addr]
  exact (cell_of_row _ _ _ _ _ _ hb).trans (by simpa using hj)
theorem wpList_load_arr {P : Program} {w : World} {ops : Array Oper} {rest : List Oper} {o : Oper} {a : Act} {Q : Exit → Act → World → Prop} (hgd : o.guard = none) (x : Operand) (ty : TypeId)
    (ho : o.op = .load ty x) (v u : Value) (hx : a.eval x = v) (hl : (Instr.loadAt ty v).run P w = .ok u w)
    (h : wpList P ops Q rest (a.put o.dst u) w) : wpList P ops Q (o :: rest) a w :=
  wpList_plain hgd fun _ hK => by
    unfold Oper.wp execOp
    simp only [ho, hx, hl, Sem.run_bind, Sem.run_pure, Result.andThen_ok]
    exact hK _ _ h
theorem wpList_store_arr {P : Program} {w : World} {ops : Array Oper} {rest : List Oper} {o : Oper} {a : Act} {Q : Exit → Act → World → Prop} (hgd : o.guard = none) (x y : Operand) (ty : TypeId)
    (ho : o.op = .store ty x y) (p v : Value) (hx : a.eval x = p) (hy : a.eval y = v) (w' : World) (hl : (Instr.storeAt ty p v).run P w = .ok () w')
    (h : wpList P ops Q rest (a.put o.dst undef) w') : wpList P ops Q (o :: rest) a w :=
  wpList_plain hgd fun _ hK => by
    unfold Oper.wp execOp
    simp only [ho, hx, hy, hl, Sem.run_bind, Sem.run_pure, Result.andThen_ok]
    exact hK _ _ h
def set3 (W : World) (bx : Nat) (a b c : Value) : World := ((W.setCell ⟨bx, 0, none⟩ a).setCell ⟨bx, 1, none⟩ b).setCell ⟨bx, 2, none⟩ c
theorem far_set3 (W : World) (bx : Nat) (a b c : Value) : Far (fun k => k = bx) W (set3 W bx a b c) := ((far_set W bx 0 a).trans (far_set _ bx 1 b) (fun _ _ e => e)).trans (far_set _ bx 2 c) (fun _ _ e => e)
theorem row_set3 {W : World} {bx : Nat} {a b c a' b' c' : Value} {t : TypeId} {fr : Nat × Nat} (h : W.heap[bx]? = some (.cells #[a', b', c'] t fr)) : (set3 W bx a b c).heap[bx]? = some (.cells #[a, b, c] t fr) :=
  row_setC (j := 2) (u := c) (row_setC (j := 1) (u := b) (row_setC (j := 0) (u := a) h))
theorem ld37 {W : World} {g : Nat} {a b c : Value} {fr : Nat × Nat} (h : W.heap[g]? = some (.cells #[a, b, c] 37 fr)) : (Instr.loadAt 37 (.pointer (some ⟨g, 0, none⟩))).run Tryz.prog W = .ok (.agg #[a, b, c]) W := by
  have c0 : W.cell? ⟨g, 0, none⟩ = some a := (cell_of_row _ _ _ _ _ _ h).trans rfl
  have c1 : W.cell? ⟨g, 1, none⟩ = some b := (cell_of_row _ _ _ _ _ _ h).trans rfl
  have c2 : W.cell? ⟨g, 2, none⟩ = some c := (cell_of_row _ _ _ _ _ _ h).trans rfl
  clear h
  go_simp
theorem st37 {W : World} {g : Nat} {f m f' m' : Int} {a a' : Option Addr} {n c n' c' : Nat} (h : W.heap[g]? = some (.cells #[.int .i64 f', .slice a' n' c', .int .i64 m'] 37 (0, 0))) : (Instr.storeAt 37 (.pointer (some ⟨g, 0, none⟩)) (.agg #[.int .i64 f, .slice a n c, .int .i64 m])).run Tryz.prog W = .ok () (set3 W g (.int .i64 f) (.slice a n c) (.int .i64 m)) := by
  have X1 := row_setC (j := 0) (u := .int .i64 f) h
  have X2 := row_setC (j := 1) (u := .slice a n c) X1
  have c0 : W.cell? ⟨g, 0, none⟩ = some (.int .i64 f') := (cell_of_row _ _ _ _ _ _ h).trans rfl
  have c1 : (W.setCell ⟨g, 0, none⟩ (.int .i64 f)).cell? ⟨g, 1, none⟩ = some (.slice a' n' c') := (cell_of_row _ _ _ _ _ _ X1).trans rfl
  have c2 : ((W.setCell ⟨g, 0, none⟩ (.int .i64 f)).setCell ⟨g, 1, none⟩ (.slice a n c)).cell? ⟨g, 2, none⟩ = some (.int .i64 m') := (cell_of_row _ _ _ _ _ _ X2).trans rfl
  have f0 := frozen_of_row (j := 0) _ _ _ _ h
  have f1 := frozen_of_row (j := 1) _ _ _ _ X1
  have f2 := frozen_of_row (j := 2) _ _ _ _ X2
  unfold set3
  clear h X1 X2
  go_simp
set_option maxHeartbeats 6400000 in
theorem rroll_any (w0 w : World) (f most : Int) (sv : Value) (ss : List Value) (Ss : List (List (List Nat))) (h : RLog w0 w sv ss Ss) (hs : Ss.length ≤ 1000) :
    Calls Tryz.prog 17 #[.agg #[.int .i64 f, sv, .int .i64 most]] w fun e w' => ∃ sv' ss', e = .returned (.agg #[.int .i64 f, sv', .int .i64 most]) ∧ RLog w0 w' sv' ss' (Ss ++ [[]]) ∧ Below w.heap.size w w' := by
  have HR := Lib.hid h
  have hl := h.len
  obtain ⟨sa, sc, rfl⟩ := h.row.shape
  obtain ⟨n, hn⟩ : ∃ n, ss.length = n := ⟨_, rfl⟩
  have HN := Lib.hid hn
  rw [hn]
  clear h
  obtain ⟨i0, hi9, hz0, hz1, hz2⟩ := info_parts info30
  have b1 := vstep w (.cells #[.int .i64 f, .slice sa n sc, .int .i64 most] 37)
  have b2 := vstep (w.alloc (.cells #[.int .i64 f, .slice sa n sc, .int .i64 most] 37)) (.cells #[.int .i64 0, .slice none 0 0, .int .i64 0] 37)
  have b3 := vstep ((w.alloc (.cells #[.int .i64 f, .slice sa n sc, .int .i64 most] 37)).alloc (.cells #[.int .i64 0, .slice none 0 0, .int .i64 0] 37)) (.cells #[.int .i64 f, .slice none 0 0, .int .i64 most] 37)
  have n1 := heap_alloc_new w (.cells #[.int .i64 f, .slice sa n sc, .int .i64 most] 37)
  have n2 := heap_alloc_new (w.alloc (.cells #[.int .i64 f, .slice sa n sc, .int .i64 most] 37)) (.cells #[.int .i64 0, .slice none 0 0, .int .i64 0] 37)
  have n3 := heap_alloc_new ((w.alloc (.cells #[.int .i64 f, .slice sa n sc, .int .i64 most] 37)).alloc (.cells #[.int .i64 0, .slice none 0 0, .int .i64 0] 37)) (.cells #[.int .i64 f, .slice none 0 0, .int .i64 most] 37)
  have n1 := (b3.block _ (Nat.lt_of_lt_of_le (lt_of_block n1) (by simp))).trans ((b2.block _ (lt_of_block n1)).trans n1)
  have n2 := (b3.block _ (lt_of_block n2)).trans n2
  rw [World.size_alloc, World.size_alloc] at n3
  rw [World.size_alloc] at n2
  have B3 := Lib.hid ((b1.trans (b2.mono b1.size)).trans (b3.mono (Nat.le_trans b1.size b2.size)))
  obtain ⟨W3, hW3⟩ : ∃ z, ((w.alloc (.cells #[.int .i64 f, .slice sa n sc, .int .i64 most] 37)).alloc (.cells #[.int .i64 0, .slice none 0 0, .int .i64 0] 37)).alloc (.cells #[.int .i64 f, .slice none 0 0, .int .i64 most] 37) = z := ⟨_, rfl⟩
  rw [hW3] at n1 n2 n3 B3
  have HW := Lib.hid hW3
  have N2 := Lib.hid n2
  have N3 := Lib.hid n3
  have R3 := Lib.hid (HR.out.step B3.out)
  have S3 := Lib.hid R3.out.src
  rw [HN.out] at S3
  have HB := Lib.hid (show n ≤ 1000 from by omega)
  have OW := Lib.hid (World.ownsRow_nil W3 W3.heap.size 30 1)
  clear b1 b2 b3 n2 n3 hW3 hn hl hs
  obtain ⟨nv, hnv⟩ : ∃ z, Value.slice none 0 0 = z := ⟨_, rfl⟩
  have HNV := Lib.hid hnv
  have N1 := Lib.hid n1
  have cl1 : W3.cell? ⟨w.heap.size, 1, none⟩ = some (.slice sa n sc) := (cell_of_row _ _ _ _ _ _ N1.out).trans rfl
  have co1 : W3.cell? ⟨w.heap.size + 1 + 1, 1, none⟩ = some nv := (cell_of_row _ _ _ _ _ _ N3.out).trans (by rw [← hnv]; rfl)
  rw [hnv] at OW
  clear n1 hnv
  go_enter Tryz.func17, Tryz.ntmps17
  go_upto_region 2 with (fail)
  rw [HW.out]
  go_upto_region 3 with (at_builtin; go_loud (refine wpList_append_src_own rfl (.tmp 10) (.tmp 12) 35 35 rfl W3.heap.size 30 i0 (.slice none 0 0) 1 24 Tryz.u35 hi9 hz0 hz1 hz2 rfl (by decide) nv 0 [] rfl OW.out (.slice sa n sc) n ss rfl S3.out (by have := HB.out; unfold maxLen; omega) (by have := HB.out; omega) (Nat.le_refl _) ?_; intro v4 w4 hown hgr hsp; rw [Nat.zero_add, List.nil_append] at hown; have O4 := Lib.hid hown; have G4 := Lib.hid hgr; have M3 := Lib.hid ((hgr.block _ (lt_of_block N3.out) (by rw [← HNV.out]; simp [Value.ownBlock])).trans N3.out); have M2 := Lib.hid ((hgr.block _ (lt_of_block N2.out) (by rw [← HNV.out]; simp [Value.ownBlock])).trans N2.out); obtain ⟨va4, vc4, rfl⟩ := own_shapeK hown; have d1 := (cell_of_row (j := 1) _ _ _ _ _ M3.out).trans (show (#[Value.int .i64 f, .slice none 0 0, .int .i64 most] : Array Value)[1]? = some (.slice none 0 0) from rfl); have e1 := frozen_of_row (j := 1) _ _ _ _ M3.out; clear hown hgr hsp))
  obtain ⟨W5, hW5⟩ : ∃ z, w4.setCell ⟨w.heap.size + 1 + 1, 1, none⟩ (.slice va4 n vc4) = z := ⟨_, rfl⟩
  have M5 := Lib.hid (show W5.heap[w.heap.size + 1 + 1]? = some (.cells #[.int .i64 f, .slice va4 n vc4, .int .i64 most] 37 (0, 0)) from by rw [← hW5]; exact row_setC (j := 1) (u := .slice va4 n vc4) M3.out)
  have oth5 : ∀ g, g ≠ w.heap.size + 1 + 1 → W5.heap[g]? = w4.heap[g]? := fun g hne => by rw [← hW5]; exact Below.heap_setCell w4 ⟨w.heap.size + 1 + 1, 1, none⟩ (.slice va4 n vc4) g (fun e => hne e)
  have M25 := Lib.hid ((oth5 _ (by omega)).trans M2.out)
  have Z4 := Lib.hid (show W3.heap.size ≤ w4.heap.size from G4.out.size)
  have Z5 := Lib.hid (show w4.heap.size ≤ W5.heap.size from by rw [← hW5]; simp [World.setCell])
  have L3 := Lib.hid (show w.heap.size + 1 + 1 < W3.heap.size from lt_of_block N3.out)
  have BR5 := Lib.hid (show Below w.heap.size w W5 from by
    rw [← hW5]
    exact (B3.out.grown G4.out B3.out.size (fun k e => by rw [← HNV.out] at e; cases e)).setCell (p := ⟨w.heap.size + 1 + 1, 1, none⟩) (by show w.heap.size ≤ w.heap.size + 1 + 1; omega) _)
  have O5 := Lib.hid (show W5.ownsRow W3.heap.size 30 1 (.slice va4 n vc4) n ss from row_at O4.out (fun g e => oth5 g (fun e2 => by have := (O4.out.lt g e).1; have := L3.out; omega)))
  have R5 := Lib.hid (show RLog w0 W5 (.slice sa ss.length sc) ss Ss from by
    refine (R3.out.far (Far.of_grown (P := fun _ => False) G4.out (fun k e => by rw [← HNV.out] at e; cases e)) (fun _ _ _ e => e) (fun _ _ _ e => e) (fun _ e => e.elim)).far (P := fun k => k = w.heap.size + 1 + 1) (by rw [← hW5]; exact far_set _ _ _ _) (fun k cs hk e => ?_) (fun k cs hk e => ?_) (fun k e => ?_)
    · rw [e, M3.out] at hk; injection hk with hk; injection hk with _ hk _; cases hk
    · rw [e, M3.out] at hk; injection hk with hk; injection hk with _ hk _; cases hk
    · rw [e]; have := HR.out.bel.size; omega)
  rw [hW5]
  clear hW5 oth5 d1 e1 cl1 co1
  have c16 : W5.cell? ⟨w.heap.size + 1 + 1, 1, none⟩ = some (.slice va4 n vc4) := (cell_of_row _ _ _ _ _ _ M5.out).trans rfl
  have BX := Lib.hid (vstep W5 (.cells #[.slice none 0 0] 30))
  have NX := Lib.hid (heap_alloc_new W5 (.cells #[.slice none 0 0] 30))
  obtain ⟨W6, hW6⟩ : ∃ z, W5.alloc (.cells #[.slice none 0 0] 30) = z := ⟨_, rfl⟩
  rw [hW6] at BX NX
  have HW6 := Lib.hid hW6
  have O6 := Lib.hid (own_belowK O5.out BX.out)
  have M6 := Lib.hid ((BX.out.block _ (lt_of_block M5.out)).trans M5.out)
  have M26 := Lib.hid ((BX.out.block _ (lt_of_block M25.out)).trans M25.out)
  have SR6 := Lib.hid (src_one NX.out rfl)
  clear hW6
  go_upto_region 4 with (at_builtin; rw [HW6.out]; refine wpList_append_src_own rfl (.tmp 16) (.tmp 17) 35 35 rfl W3.heap.size 30 i0 (.slice none 0 0) 1 24 Tryz.u35 hi9 hz0 hz1 hz2 rfl (by decide) (.slice va4 n vc4) n ss rfl O6.out (.slice (some ⟨W5.heap.size, 0, none⟩) 1 1) 1 [.slice none 0 0] rfl SR6.out (by have := HB.out; unfold maxLen; omega) (by have := HB.out; omega) (by have := Z4.out; have := Z5.out; have := BX.out.size; omega) ?_; intro v7 w7 hown hgr hsp; have O7 := Lib.hid hown; have G7 := Lib.hid hgr; have NB7 := Lib.hid (fun k (e : Value.ownBlock (.slice va4 n vc4) = some k) => (O6.out.lt k e).1); have M7 := Lib.hid ((hgr.block _ (lt_of_block M6.out) (fun e => by have := NB7.out _ e.symm; have := L3.out; omega)).trans M6.out); have M27 := Lib.hid ((hgr.block _ (lt_of_block M26.out) (fun e => by have := NB7.out _ e.symm; have := L3.out; omega)).trans M26.out); obtain ⟨va7, vc7, rfl⟩ := own_shapeK hown; have d7 := (cell_of_row (j := 1) _ _ _ _ _ M7.out).trans (show (#[Value.int .i64 f, .slice va4 n vc4, .int .i64 most] : Array Value)[1]? = some (.slice va4 n vc4) from rfl); have e7 := frozen_of_row (j := 1) _ _ _ _ M7.out; clear hown hgr hsp)
  obtain ⟨W8, hW8⟩ : ∃ z, w7.setCell ⟨w.heap.size + 1 + 1, 1, none⟩ (.slice va7 (n + 1) vc7) = z := ⟨_, rfl⟩
  have M8 := Lib.hid (show W8.heap[w.heap.size + 1 + 1]? = some (.cells #[.int .i64 f, .slice va7 (n + 1) vc7, .int .i64 most] 37 (0, 0)) from by rw [← hW8]; exact row_setC (j := 1) (u := .slice va7 (n + 1) vc7) M7.out)
  have oth8 : ∀ g, g ≠ w.heap.size + 1 + 1 → W8.heap[g]? = w7.heap[g]? := fun g hne => by rw [← hW8]; exact Below.heap_setCell w7 ⟨w.heap.size + 1 + 1, 1, none⟩ (.slice va7 (n + 1) vc7) g (fun e => hne e)
  have M28 := Lib.hid ((oth8 _ (by omega)).trans M27.out)
  have F8 := Lib.hid (show Far (fun k => k = w.heap.size + 1 + 1) w7 W8 from by rw [← hW8]; exact far_set _ _ _ _)
  have O8 := Lib.hid (show W8.ownsRow W3.heap.size 30 1 (.slice va7 (n + 1) vc7) (n + 1) (ss ++ [.slice none 0 0]) from row_at O7.out (fun g e => oth8 g (fun e2 => by have := (O7.out.lt g e).1; have := L3.out; omega)))
  rw [hW8]
  clear hW8 oth8 d7 e7 c16
  have LD := Lib.hid (ld37 M8.out)
  have ST := Lib.hid (st37 (f := f) (m := most) (a := va7) (n := n + 1) (c := vc7) M28.out)
  go_wp2_with (first
    | (refine wpList_load_arr rfl (.tmp 3) 37 rfl (.pointer (some ⟨w.heap.size + 1 + 1, 0, none⟩)) (.agg #[.int .i64 f, .slice va7 (n + 1) vc7, .int .i64 most]) rfl LD.out ?_)
    | (refine wpList_store_arr rfl (.tmp 2) (.tmp 20) 37 rfl (.pointer (some ⟨w.heap.size + 1, 0, none⟩)) (.agg #[.int .i64 f, .slice va7 (n + 1) vc7, .int .i64 most]) rfl rfl _ ST.out ?_))
  have M9 := row_set3 (a := .int .i64 f) (b := .slice va7 (n + 1) vc7) (c := .int .i64 most) M28.out
  have F9 := far_set3 W8 (w.heap.size + 1) (.int .i64 f) (.slice va7 (n + 1) vc7) (.int .i64 most)
  generalize set3 W8 (w.heap.size + 1) (.int .i64 f) (.slice va7 (n + 1) vc7) (.int .i64 most) = W9 at *
  have c0 : W9.cell? ⟨w.heap.size + 1, 0, none⟩ = some (.int .i64 f) := (cell_of_row _ _ _ _ _ _ M9).trans rfl
  have c1 : W9.cell? ⟨w.heap.size + 1, 1, none⟩ = some (.slice va7 (n + 1) vc7) := (cell_of_row _ _ _ _ _ _ M9).trans rfl
  have c2 : W9.cell? ⟨w.heap.size + 1, 2, none⟩ = some (.int .i64 most) := (cell_of_row _ _ _ _ _ _ M9).trans rfl
  refine bodyPost_ret (v := .agg #[.int .i64 f, .slice va7 (n + 1) vc7, .int .i64 most]) (by simp [results, Tryz.results17, go_sem, c0, c1, c2]; try rfl) rfl ?_
  clear c0 c1 c2 LD ST
  have hb59 : Far (fun k => k = w.heap.size + 1 ∨ k = w.heap.size + 1 + 1 ∨ (Value.slice va4 n vc4).ownBlock = some k) W6 W9 :=
    ((Far.of_grown (P := fun k => k = w.heap.size + 1 ∨ k = w.heap.size + 1 + 1 ∨ (Value.slice va4 n vc4).ownBlock = some k) G7.out (fun k e => .inr (.inr e))).trans F8.out (fun k _ e => .inr (.inl e))).trans F9 (fun k _ e => .inl e)
  have O9 : W9.ownsRow W3.heap.size 30 1 (.slice va7 (n + 1) vc7) (n + 1) (ss ++ [.slice none 0 0]) := F9.row O8.out (fun j e hj => by have := (O8.out.lt j e).1; have := L3.out; omega)
  have R6 := R5.out.step BX.out
  have L6 : W3.heap.size ≤ W6.heap.size := by have := Z4.out; have := Z5.out; have := BX.out.size; omega
  have w03 : w0.heap.size ≤ w.heap.size := HR.out.bel.size
  have R9 : RLog w0 W9 (.slice sa ss.length sc) ss Ss := by
    refine R6.far' hb59 (fun k e hk => ?_) (fun u hu k e hk => ?_) (fun k hk => ?_)
    · have := (R3.out.lt e).1
      obtain ⟨cs, hc⟩ := (R6.lt e).2
      rcases hk with rfl | rfl | e2
      · rw [M26.out] at hc; injection hc with hc; injection hc with _ hc _; cases hc
      · rw [M6.out] at hc; injection hc with hc; injection hc with _ hc _; cases hc
      · have := NB7.out k e2; omega
    · obtain ⟨_, cs, hc⟩ := R6.own hu e
      rcases hk with rfl | rfl | e2
      · rw [M26.out] at hc; injection hc with hc; injection hc with _ hc _; cases hc
      · rw [M6.out] at hc; injection hc with hc; injection hc with _ hc _; cases hc
      · rcases O6.out.2 with ⟨q, _⟩ | ⟨g', cap, cur, q, _, hg, _⟩
        · rw [q] at e2; cases e2
        · rw [q] at e2
          have e : g' = k := by simpa [Value.ownBlock] using e2
          subst e
          rw [hg] at hc; injection hc with hc; injection hc with _ hc _; cases hc
    · rcases hk with rfl | rfl | e2
      · omega
      · omega
      · have := NB7.out k e2; have := L3.out; omega
  have tk : ss.take n = ss := List.take_of_length_le (by rw [HN.out]; exact Nat.le_refl _)
  have tk2 : Ss.take n = Ss := List.take_of_length_le (by rw [← R9.len, HN.out]; exact Nat.le_refl _)
  have FIN := R9.snoc (E := W3.heap.size) (v := .slice va7 (n + 1) vc7) (u := .slice none 0 0) (L := []) n (by rw [HN.out]; exact Nat.le_refl _) (by have := L3.out; omega) (by rw [tk]; exact O9) ⟨[], World.ownsRow_nil _ _ _ _, rfl, fun j x b hx _ => (by simp at hx)⟩
  rw [tk, tk2] at FIN
  refine ⟨_, _, rfl, FIN, (BR5.out.trans (BX.out.mono BR5.out.size)).trans (hb59.below (by have := L3.out; omega) (fun k hk => ?_))⟩
  rcases hk with rfl | rfl | e2
  · omega
  · omega
  · have := NB7.out k e2; have := L3.out; omega
end Go.Proofs.YtgbihpfpiaacfaaGreatDoor

set_option linter.unusedVariables false
set_option linter.unusedSimpArgs false
set_option maxRecDepth 100000
namespace Go.Proofs.YtgbihpfpiaacfaaGreatDoor
open Go.RowKit Go.Shelf Go.WideMaps Go.Maps

theorem step_append_src_own {P : Program} {w : World} {ops : Array Oper} {o : Oper} {a : Act} {K : Act → World → Prop} {Q : Exit → Act → World → Prop} {E : Prop} (hgd : o.guard = none) (s x : Operand) (t tx : TypeId)
    (ho : o.op = .call { callee := .builtin .append, args := #[s, x], argTypes := #[t, tx] })
    (base : Nat) (e : TypeId) (i : TypeInfo) (z : Value) (size bytes : Nat) (ht : P.underlying t = some (.slice e)) (hi : P.info? e = some i) (hz : i.zero = some z)
    (hsize : i.size = size) (hby : i.bytes = bytes) (hzs : z.cells.size = size) (hsz : 0 < size)
    (v : Value) (n : Nat) (xs : List Value) (hs : a.eval s = v) (hown : w.ownsRow base e size v n xs) (xv : Value) (m : Nat) (news : List Value) (hx : a.eval x = xv) (hsrc : Src P size tx xv m news w)
    (h63 : n + m ≤ maxLen) (hbytes : (n + m) * bytes ≤ 140737488355328) (hbase : base ≤ w.heap.size)
    (h : ∀ v' w', w'.ownsRow base e size v' (n + m) (xs ++ news) → w.grownBy w' v.ownBlock → Sprung w v v' → K (a.put o.dst v') w') :
    if Region.wanted o (yielded ops a.tmps) = true then Oper.wp P o a w K Q else E := by
  have hw : Region.wanted o (yielded ops a.tmps) = true := by simp [Region.wanted, hgd]
  rw [if_pos hw]
  obtain ⟨v', w', hr, h2, h3, h4⟩ := run_append_src_own (P := P) w base t tx o.type e i z size bytes ht hi hz hsize hby hzs hsz v n xs hown xv m news hsrc h63 hbytes hbase
  unfold Oper.wp
  simp only [execOp, ho, resolve, invoke, builtin, Sem.run_bind, Sem.run_pure, Result.andThen_ok, List.map_toArray, List.map_cons, List.map_nil, hs, hx, hr]
  exact h v' w' h2 h3 h4
theorem liesV_src {w : World} {t e : TypeId} (hu : Tryz.prog.underlying t = some (.slice e)) {sv : Value} {ss : List Value} (h : LiesK enV 1 w sv ss) (hs : ∀ u ∈ ss, ∃ a n c, u = .slice a n c) : Src Tryz.prog 1 t sv ss.length ss w := by
  obtain ⟨ao, cap, rfl, hn, hm, h0, hc⟩ := h
  cases ao with
  | none =>
    obtain ⟨rfl, rfl⟩ := h0 rfl
    exact Src.ofNil _ hu 0
  | some b =>
    refine Src.ofSlice _ hu _ _ _ _ (by simp) (fun j y hj => ?_) (fun y hy => by obtain ⟨a, n, c, rfl⟩ := hs y hy; rfl)
    obtain ⟨g, o, rfl, _, hcs⟩ := hc b rfl (fun e => by rw [e] at hj; simp at hj)
    have := hcs j y hj 0 y rfl
    rw [Rc.add_addr]
    simpa using this
theorem slh35 (W : World) (a : Option Addr) (L c n : Nat) (hn : n ≤ c) (hc : c ≤ maxLen) : (Instr.sliceAt 35 (.slice a L c) none (some (.int .i64 (n : Int))) none).run Tryz.prog W = .ok (.slice a n c) W := by
  have hnm : n ≤ 9223372036854775807 := by unfold maxLen at hc; omega
  go_simp
/-- The reference's Append upon what segments say. -/
def appS (most : Int) (M : Nat) (L : List (List Nat)) (Ss : List (List (List Nat))) (b : List Nat) : List (List (List Nat)) :=
  if (cat L).length = 0 ∨ (((cat L).length : Nat) : Int) + ((b.length + 8 : Nat) : Int) ≤ most then Ss.take M ++ [L ++ [b]] else Ss ++ [[b]]
theorem src_v39 {W : World} {g : Nat} {u : Value} (hb : W.heap[g]? = some (.cells #[u] 39 (0, 0))) (hu : u.oneCell' = true) : Src Tryz.prog 1 30 (.slice (some ⟨g, 0, none⟩) 1 1) 1 [u] W := by
  refine Src.ofSlice _ (by kernel_rfl : Tryz.prog.underlying 30 = some (.slice 39)) _ _ _ _ rfl (fun j y hj => ?_) (fun y hy => by rw [List.mem_singleton.1 hy]; exact hu)
  have h0 : j = 0 := by have := (List.getElem?_eq_some_iff.1 hj).1; simp at this; exact this
  subst h0
  rw [rk_addr]
  exact (cell_of_row _ _ _ _ _ _ hb).trans (by simpa using hj)
/-- What stands while the new journal is made: the old one's box l, the result's box l + 1, the new one's box m. -/
structure RA (w0 w W : World) (l m B1 : Nat) (f most : Int) (sv : Value) (ss : List Value) (Ss : List (List (List Nat))) (ov : Value) (on : Nat) (xs : List Value) : Prop where
  nl : W.heap[l]? = some (.cells #[.int .i64 f, sv, .int .i64 most] 37 (0, 0))
  nr : W.heap[l + 1]? = some (.cells #[.int .i64 0, .slice none 0 0, .int .i64 0] 37 (0, 0))
  no : W.heap[m]? = some (.cells #[.int .i64 f, ov, .int .i64 most] 37 (0, 0))
  row : W.ownsRow B1 30 1 ov on xs
  rl : RLog w0 W sv ss Ss
  old : ∀ u ∈ ss, ∀ k, u.ownBlock = some k → k < B1
  oldv : ∀ k, sv.ownBlock = some k → k < B1
  bel : Below w.heap.size w W
  lm : w.heap.size ≤ l ∧ l + 1 < m ∧ m < B1 ∧ w0.heap.size ≤ w.heap.size
  sz : B1 ≤ W.heap.size
section
variable {w0 w W W' : World} {l m B1 : Nat} {f most : Int} {sv : Value} {ss : List Value} {Ss : List (List (List Nat))} {ov ov' : Value} {on on' : Nat} {xs xs' : List Value}
theorem RA.step (h : RA w0 w W l m B1 f most sv ss Ss ov on xs) (hb : Below W.heap.size W W') : RA w0 w W' l m B1 f most sv ss Ss ov on xs :=
  ⟨(hb.block _ (lt_of_block h.nl)).trans h.nl, (hb.block _ (lt_of_block h.nr)).trans h.nr, (hb.block _ (lt_of_block h.no)).trans h.no, own_belowK h.row hb, h.rl.step hb, h.old, h.oldv, h.bel.trans (hb.mono h.bel.size), h.lm, Nat.le_trans h.sz hb.size⟩
theorem own30 {w : World} {E n : Nat} {v : Value} {xs : List Value} (h : w.ownsRow E 30 1 v n xs) {k : Nat} (hk : v.ownBlock = some k) : E ≤ k ∧ ∃ cs, w.heap[k]? = some (.cells cs 30 (0, 0)) := by
  rcases h.2 with ⟨q, _⟩ | ⟨g', cap, cur, q, hE, hg, _⟩
  · rw [q] at hk; cases hk
  · rw [q] at hk
    have e : g' = k := by simpa [Value.ownBlock] using hk
    subst e
    exact ⟨hE, cur, hg⟩
theorem own39E {w : World} {E n : Nat} {v : Value} {xs : List Value} (h : w.ownsRow E 39 1 v n xs) {k : Nat} (hk : v.ownBlock = some k) : E ≤ k ∧ ∃ cs, w.heap[k]? = some (.cells cs 39 (0, 0)) := by
  rcases h.2 with ⟨q, _⟩ | ⟨g', cap, cur, q, hE, hg, _⟩
  · rw [q] at hk; cases hk
  · rw [q] at hk
    have e : g' = k := by simpa [Value.ownBlock] using hk
    subst e
    exact ⟨hE, cur, hg⟩
theorem blk_ne {w : World} {j k : Nat} {cs cs' : Array Value} {t t' : TypeId} {fr fr' : Nat × Nat} (h1 : w.heap[j]? = some (.cells cs t fr)) (h2 : w.heap[k]? = some (.cells cs' t' fr')) (ht : t ≠ t') : j ≠ k := fun e => by
  rw [e, h2] at h1
  injection h1 with h1
  injection h1 with _ h1 _
  exact ht h1.symm
theorem RA.grown (h : RA w0 w W l m B1 f most sv ss Ss ov on xs) {r : Option Nat} (hg : W.grownBy W' r) (hr : ∀ k, r = some k → B1 ≤ k ∧ ∃ cs, W.heap[k]? = some (.cells cs 39 (0, 0))) : RA w0 w W' l m B1 f most sv ss Ss ov on xs := by
  have kp : ∀ {g : Nat} {cs : Array Value} {t : TypeId} {fr : Nat × Nat}, W.heap[g]? = some (.cells cs t fr) → t ≠ 39 → W'.heap[g]? = some (.cells cs t fr) := fun {g cs t fr} hb ht => (hg.block g (lt_of_block hb) (fun e => by
    obtain ⟨_, cs', hc⟩ := hr g e.symm
    exact blk_ne hb hc ht rfl)).trans hb
  have hf : Far (fun k => r = some k) W W' := Far.of_grown hg (fun k e => e)
  refine ⟨kp h.nl (by decide), kp h.nr (by decide), kp h.no (by decide), row_at h.row (fun g e => ?_), h.rl.far' hf (fun k e hk => ?_) (fun u hu k e hk => ?_) (fun k e => ?_), h.old, h.oldv, h.bel.grown hg h.bel.size (fun k e => ?_), h.lm, Nat.le_trans h.sz hg.size⟩
  · obtain ⟨_, cs, hc⟩ := own30 h.row e
    rw [kp hc (by decide), hc]
  · have := (hr k hk).1; have := h.oldv k e; omega
  · have := (hr k hk).1; have := h.old u hu k e; omega
  · have := (hr k e).1; have := h.lm; omega
  · have := (hr k e).1; have := h.lm; omega
theorem RA.app (h : RA w0 w W l m B1 f most sv ss Ss ov on xs) (hg : W.grownBy W' ov.ownBlock) (ho : W'.ownsRow B1 30 1 ov' on' xs') : W'.heap[m]? = some (.cells #[.int .i64 f, ov, .int .i64 most] 37 (0, 0)) ∧ RA w0 w (W'.setCell ⟨m, 1, none⟩ ov') l m B1 f most sv ss Ss ov' on' xs' := by
  have kp : ∀ {g : Nat} {cs : Array Value} {t : TypeId} {fr : Nat × Nat}, W.heap[g]? = some (.cells cs t fr) → t ≠ 30 → W'.heap[g]? = some (.cells cs t fr) := fun {g cs t fr} hb ht => (hg.block g (lt_of_block hb) (fun e => by
    obtain ⟨_, cs', hc⟩ := own30 h.row e.symm
    exact blk_ne hb hc ht rfl)).trans hb
  have no := kp h.no (by decide)
  have oth : ∀ g, g ≠ m → (W'.setCell ⟨m, 1, none⟩ ov').heap[g]? = W'.heap[g]? := fun g hne => Below.heap_setCell W' ⟨m, 1, none⟩ ov' g (fun e => hne e)
  have hf : Far (fun k => ov.ownBlock = some k ∨ k = m) W (W'.setCell ⟨m, 1, none⟩ ov') := (Far.of_grown hg (fun k e => .inl e)).trans (far_set W' m 1 ov') (fun k _ e => .inr e)
  refine ⟨no, (oth _ (by have := h.lm; omega)).trans (kp h.nl (by decide)), (oth _ (by have := h.lm; omega)).trans (kp h.nr (by decide)), row_setC (j := 1) (u := ov') no, row_at ho (fun g e => oth g (fun e2 => ?_)), h.rl.far' hf (fun k e hk => ?_) (fun u hu k e hk => ?_) (fun k hk => ?_), h.old, h.oldv, ?_, h.lm, ?_⟩
  · have := (own30 ho e).1; have := h.lm; omega
  · rcases hk with e2 | rfl
    · have := (own30 h.row e2).1; have := h.oldv k e; omega
    · obtain ⟨_, cs, hc⟩ := h.rl.lt e
      exact blk_ne h.no hc (by decide) rfl
  · rcases hk with e2 | rfl
    · have := (own30 h.row e2).1; have := h.old u hu k e; omega
    · obtain ⟨_, cs, hc⟩ := h.rl.own hu e
      exact blk_ne h.no hc (by decide) rfl
  · rcases hk with e2 | rfl
    · have := (own30 h.row e2).1; have := h.lm; omega
    · have := h.lm; omega
  · exact h.bel.trans (hf.below h.bel.size (fun k hk => by
      rcases hk with e2 | rfl
      · have := (own30 h.row e2).1; have := h.lm; omega
      · have := h.lm; omega))
  · show B1 ≤ (W'.setCell ⟨m, 1, none⟩ ov').heap.size
    have := h.sz
    have := hg.size
    simp [World.setCell]
    omega
theorem RA.keep39 (h : RA w0 w W l m B1 f most sv ss Ss ov on xs) (hg : W.grownBy W' ov.ownBlock) {E : Nat} {v : Value} {n : Nat} {ys : List Value} (ho : W.ownsRow E 39 1 v n ys) : W'.ownsRow E 39 1 v n ys :=
  row_at ho (fun k e => by
    obtain ⟨_, cs, hc⟩ := own39E ho e
    refine hg.block k (lt_of_block hc) (fun e3 => ?_)
    obtain ⟨_, cs', hc'⟩ := own30 h.row e3.symm
    exact blk_ne hc hc' (by decide) rfl)
/-- The end: the result is laid. -/
theorem RA.fin {u : Value} (h : RA w0 w W l m B1 f most sv ss Ss ov (on + 1) (ss.take on ++ [u])) {L : List (List Nat)} {vs : List Value} (hon : on ≤ ss.length) (hu : W.ownsRow B1 39 1 u vs.length vs) (hl : vs.length = L.length) (he : ∀ (j : Nat) x b, vs[j]? = some x → L[j]? = some b → Rc.Lies w0 x b) :
    RLog w0 (set3 W (l + 1) (.int .i64 f) ov (.int .i64 most)) ov (ss.take on ++ [u]) (Ss.take on ++ [L]) ∧ Below w.heap.size w (set3 W (l + 1) (.int .i64 f) ov (.int .i64 most)) := by
  have hf := far_set3 W (l + 1) (.int .i64 f) ov (.int .i64 most)
  have hl1 := h.lm
  have R9 := h.rl.far' hf (fun k e hk => by
      obtain ⟨_, cs, hc⟩ := h.rl.lt e
      rw [hk] at hc
      exact blk_ne h.nr hc (by decide) rfl) (fun u hu k e hk => by
      obtain ⟨_, cs, hc⟩ := h.rl.own hu e
      rw [hk] at hc
      exact blk_ne h.nr hc (by decide) rfl) (fun k e => by omega)
  refine ⟨R9.snoc (E := B1) on hon (by omega) (hf.row h.row (fun j e hj => ?_)) ⟨vs, own_lower (hf.row hu (fun j e hj => ?_)) (by omega), hl, he⟩, h.bel.trans (hf.below h.bel.size (fun k e => by omega))⟩
  · have := (own30 h.row e).1; omega
  · have := (hu.lt j e).1; omega
end
set_option maxHeartbeats 12800000 in
theorem rapp_fit (w0 w : World) (f most : Int) (sv : Value) (ss : List Value) (Ss : List (List (List Nat))) (L : List (List Nat)) (M : Nat) (h : RLog w0 w sv ss Ss) (hM : Ss.length = M + 1) (hL : Ss[M]? = some L) (hs : M ≤ 900) (hc : (cat L).length ≤ 100000) (v : Value) (b : List Nat) (hv : Rc.Lies w0 v b) (hb : b.length ≤ 1000) (hfit : (cat L).length = 0 ∨ (((cat L).length : Nat) : Int) + ((b.length + 8 : Nat) : Int) ≤ most) :
    Calls Tryz.prog 15 #[.agg #[.int .i64 f, sv, .int .i64 most], v] w fun e w' => ∃ sv' ss', e = .returned (.agg #[.int .i64 f, sv', .int .i64 most]) ∧ RLog w0 w' sv' ss' (Ss.take M ++ [L ++ [b]]) ∧ Below w.heap.size w w' := by
  obtain ⟨sa, sc, rfl⟩ := h.row.shape
  have hn : ss.length = M + 1 := by have := h.len; omega
  rw [hn] at h ⊢
  have HR := Lib.hid h
  obtain ⟨va, vc, rfl⟩ := Rc.lies_shape hv
  have HN := Lib.hid hn
  have b1 := vstep w (.cells #[.int .i64 f, .slice sa (M + 1) sc, .int .i64 most] 37)
  have b2 := vstep (w.alloc (.cells #[.int .i64 f, .slice sa (M + 1) sc, .int .i64 most] 37)) (.cells #[.int .i64 0, .slice none 0 0, .int .i64 0] 37)
  have n1 := heap_alloc_new w (.cells #[.int .i64 f, .slice sa (M + 1) sc, .int .i64 most] 37)
  have n2 := heap_alloc_new (w.alloc (.cells #[.int .i64 f, .slice sa (M + 1) sc, .int .i64 most] 37)) (.cells #[.int .i64 0, .slice none 0 0, .int .i64 0] 37)
  have n1 := (b2.block _ (lt_of_block n1)).trans n1
  rw [World.size_alloc] at n2
  have B2 := Lib.hid (b1.trans (b2.mono b1.size))
  obtain ⟨W2, hW2⟩ : ∃ z, (w.alloc (.cells #[.int .i64 f, .slice sa (M + 1) sc, .int .i64 most] 37)).alloc (.cells #[.int .i64 0, .slice none 0 0, .int .i64 0] 37) = z := ⟨_, rfl⟩
  rw [hW2] at n1 n2 B2
  have HW := Lib.hid hW2
  have N1 := Lib.hid n1
  have N2 := Lib.hid n2
  have R2 := Lib.hid (HR.out.step B2.out)
  have HL := Lib.hid hL
  have HM := Lib.hid hM
  have HB := Lib.hid (show M ≤ 900 ∧ (cat L).length ≤ 100000 ∧ b.length ≤ 1000 from ⟨hs, hc, hb⟩)
  have LV := Lib.hid hv
  have RL := Lib.hid (fun (W : World) (hW : Below W2.heap.size W2 W) => rlen_any w0 W f most (.slice sa (M + 1) sc) ss Ss L M (R2.out.step hW) HM.out HL.out (by omega) (by omega))
  have LD := Lib.hid (fun (W : World) (hW : Below W2.heap.size W2 W) => ld37 ((hW.block _ (lt_of_block N1.out)).trans N1.out))
  have LM2 := Lib.hid (fun (W : World) (hW : Below W2.heap.size W2 W) => ldI3 (W := W) (g := w.heap.size) (o := 2) (x := most) ((cell_of_row _ _ _ _ _ _ ((hW.block _ (lt_of_block N1.out)).trans N1.out)).trans rfl))
  clear b1 b2 n1 n2 hW2 hn hs hc hb hv hL hM h
  obtain ⟨c, hcc⟩ : ∃ c, (cat L).length = c := ⟨_, rfl⟩
  have HC := Lib.hid hcc
  rw [hcc] at RL hfit
  clear hcc
  go_enter Tryz.func15, Tryz.ntmps15
  go_upto_region 1 with (fail)
  rw [HW.out]
  by_cases h0 : 0 < c
  · have hd0 : decide ((0 : Int) < (c : Int)) = true := by simpa using h0
    have hw1 : IntKind.i64.wrap ((c : Int) + (b.length : Int)) = (c : Int) + (b.length : Int) := by have := HB.out; have := HC.out; rw [IntKind.wrap_i64]; omega
    have hw2 : IntKind.i64.wrap ((c : Int) + (b.length : Int) + 8) = (c : Int) + (b.length : Int) + 8 := by have := HB.out; have := HC.out; rw [IntKind.wrap_i64]; omega
    have hle : ¬ (most < (c : Int) + (b.length : Int) + 8) := by rcases hfit with e | e <;> omega
    refine wp_region_held_drew (S := fun w' => Below W2.heap.size W2 w') (by kernel_rfl) (Below.refl _ _).drew (fun hHeld => ?_)
    have BV := Lib.hid (show Below W2.heap.size W2 W2.drew from (Below.refl _ _).drew)
    clear hHeld
    refine take_at (i := 0) 8 (.agg #[.int .i64 f, .slice sa (M + 1) sc, .int .i64 most]) rfl rfl (by kernel_rfl) (by kernel_rfl) (by kernel_rfl) (fun _ _ _ h => h) (yields_ld (.tmp 2) 37 (.pointer (some ⟨w.heap.size, 0, none⟩)) _ (fun W hS => LD.out W hS) rfl rfl rfl) BV.out ?_
    simp only [Act.put, List.setIfInBounds_toArray, List.set_cons_zero, List.set_cons_succ]
    refine wpAnyH_ready (rs := [1]) (by kernel_rfl) (by simp) (br_call (i := 1) 9 26 #[.agg #[.int .i64 f, .slice sa (M + 1) sc, .int .i64 most]] rfl rfl rfl (by go_simp) ((RL.out _ BV.out).mono ?_) AllReadyH.nil)
    rintro e v1 ⟨rfl, hb⟩
    have BV := Lib.hid (BV.out.trans (hb.mono BV.out.size))
    clear hb
    refine ⟨_, rfl, BV.out, fun _ => ?_⟩
    simp only [Act.put, List.setIfInBounds_toArray, List.set_cons_zero, List.set_cons_succ]
    refine take_at (i := 2) 10 ?_ rfl rfl (by kernel_rfl) (by kernel_rfl) (by kernel_rfl) (fun _ _ _ h => h) (.inl ⟨rfl, ?_⟩) BV.out ?_
    rotate_left 1
    · intro w hSw; go_simp; try with_reducible rfl
    simp only [Act.put, List.setIfInBounds_toArray, List.set_cons_zero, List.set_cons_succ]
    refine take_at (i := 3) 11 ?_ rfl rfl (by kernel_rfl) (by kernel_rfl) (by kernel_rfl) (fun _ _ _ h => h) (.inl ⟨rfl, ?_⟩) BV.out ?_
    rotate_left 1
    · intro w hSw; go_simp; try with_reducible rfl
    simp only [Act.put, List.setIfInBounds_toArray, List.set_cons_zero, List.set_cons_succ]
    refine take_at (i := 4) 12 (.agg #[.int .i64 f, .slice sa (M + 1) sc, .int .i64 most]) rfl rfl (by kernel_rfl) (by kernel_rfl) (by kernel_rfl) (fun _ _ _ h => h) (yields_ld (.tmp 2) 37 (.pointer (some ⟨w.heap.size, 0, none⟩)) _ (fun W hS => LD.out W hS) rfl rfl rfl) BV.out ?_
    simp only [Act.put, List.setIfInBounds_toArray, List.set_cons_zero, List.set_cons_succ]
    refine take_at (i := 6) 14 ?_ rfl rfl (by kernel_rfl) (by kernel_rfl) (by kernel_rfl) (fun _ _ _ h => h) (.inl ⟨rfl, ?_⟩) BV.out ?_
    rotate_left 1
    · intro w hSw; go_simp; try with_reducible rfl
    simp only [Act.put, List.setIfInBounds_toArray, List.set_cons_zero, List.set_cons_succ]
    refine take_at (i := 7) 15 ?_ rfl rfl (by kernel_rfl) (by kernel_rfl) (by kernel_rfl) (fun _ _ _ h => h) (.inl ⟨rfl, ?_⟩) BV.out ?_
    rotate_left 1
    · intro w hSw; go_simp; try with_reducible rfl
    simp only [Act.put, List.setIfInBounds_toArray, List.set_cons_zero, List.set_cons_succ]
    refine take_at (i := 10) 18 ?_ rfl rfl (by kernel_rfl) (by kernel_rfl) (by kernel_rfl) (fun _ _ _ h => h) (.inl ⟨rfl, ?_⟩) BV.out ?_
    rotate_left 1
    · intro w hSw; go_simp; try with_reducible rfl
    simp only [Act.put, List.setIfInBounds_toArray, List.set_cons_zero, List.set_cons_succ]
    refine take_at (i := 11) 19 (.int .i64 most) rfl rfl (by kernel_rfl) (by kernel_rfl) (by kernel_rfl) (fun _ _ _ h => h) (yields_ld (.tmp 18) 3 (.pointer (some ⟨w.heap.size, 2, none⟩)) _ (fun W hS => LM2.out W hS) rfl rfl rfl) BV.out ?_
    simp only [Act.put, List.setIfInBounds_toArray, List.set_cons_zero, List.set_cons_succ]
    refine wpAnyH_ready (rs := [5]) (by kernel_rfl) (by simp) (br_call (i := 5) 13 26 #[.agg #[.int .i64 f, .slice sa (M + 1) sc, .int .i64 most]] rfl rfl rfl (by go_simp) ((RL.out _ BV.out).mono ?_) AllReadyH.nil)
    rintro e v2 ⟨rfl, hb⟩
    have BV := Lib.hid (BV.out.trans (hb.mono BV.out.size))
    clear hb
    refine ⟨_, rfl, BV.out, fun _ => ?_⟩
    simp only [Act.put, List.setIfInBounds_toArray, List.set_cons_zero, List.set_cons_succ]
    refine take_at (i := 8) 16 ?_ rfl rfl (by kernel_rfl) (by kernel_rfl) (by kernel_rfl) (fun _ _ _ h => h) (.inl ⟨rfl, ?_⟩) BV.out ?_
    rotate_left 1
    · intro w hSw; go_simp; try with_reducible rfl
    simp only [Act.put, List.setIfInBounds_toArray, List.set_cons_zero, List.set_cons_succ]
    refine take_at (i := 9) 17 ?_ rfl rfl (by kernel_rfl) (by kernel_rfl) (by kernel_rfl) (fun _ _ _ h => h) (.inl ⟨rfl, ?_⟩) BV.out ?_
    rotate_left 1
    · intro w hSw; go_simp; try with_reducible rfl
    simp only [Act.put, List.setIfInBounds_toArray, List.set_cons_zero, List.set_cons_succ]
    refine take_at (i := 12) 20 ?_ rfl rfl (by kernel_rfl) (by kernel_rfl) (by kernel_rfl) (fun _ _ _ h => h) (.inl ⟨rfl, ?_⟩) BV.out ?_
    rotate_left 1
    · intro w hSw; go_simp; try with_reducible rfl
    simp only [Act.put, List.setIfInBounds_toArray, List.set_cons_zero, List.set_cons_succ]
    refine take_at (i := 13) 21 ?_ rfl rfl (by kernel_rfl) (by kernel_rfl) (by kernel_rfl) (fun _ _ _ h => h) (.inl ⟨rfl, ?_⟩) BV.out ?_
    rotate_left 1
    · intro w hSw; go_simp; try with_reducible rfl
    simp only [Act.put, List.setIfInBounds_toArray, List.set_cons_zero, List.set_cons_succ]
    refine wpAnyH_done (by kernel_rfl) ?_ _
    have BA := Lib.hid (B2.out.trans (BV.out.mono B2.out.size))
    have NL := Lib.hid ((BV.out.block _ (lt_of_block N1.out)).trans N1.out)
    have NR := Lib.hid ((BV.out.block _ (lt_of_block N2.out)).trans N2.out)
    have R1 := Lib.hid (R2.out.step BV.out)
    have BM := Lib.hid (show M ≤ 1001 ∧ L.length ≤ 100000 from ⟨by have := HB.out.1; omega, by have := len_cat L; have := HB.out.2.1; omega⟩)
    clear BV RL LD LM2
    have E1 := Lib.hid (show ss.length = M + 1 from by rw [R1.out.len]; exact HM.out)
    have BB := Lib.hid (vstep v2 (.cells #[.int .i64 f, .slice none 0 0, .int .i64 most] 37))
    have NB := Lib.hid (heap_alloc_new v2 (.cells #[.int .i64 f, .slice none 0 0, .int .i64 most] 37))
    have ZB := Lib.hid (show (v2.alloc (.cells #[.int .i64 f, .slice none 0 0, .int .i64 most] 37)).heap.size = v2.heap.size + 1 from by simp)
    obtain ⟨WB, hWB⟩ : ∃ z, v2.alloc (.cells #[.int .i64 f, .slice none 0 0, .int .i64 most] 37) = z := ⟨_, rfl⟩
    rw [hWB] at BB NB ZB
    have HWB := Lib.hid hWB
    obtain ⟨mB, hmB⟩ : ∃ z, v2.heap.size = z := ⟨_, rfl⟩
    have HMB := Lib.hid hmB
    have A0 := Lib.hid (show RA w0 w WB w.heap.size mB WB.heap.size f most (.slice sa (M + 1) sc) ss Ss (.slice none 0 0) 0 [] from
      ⟨(BB.out.block _ (lt_of_block NL.out)).trans NL.out, (BB.out.block _ (lt_of_block NR.out)).trans NR.out, by rw [← hmB]; exact NB.out, World.ownsRow_nil _ _ _ _, R1.out.step BB.out, fun u hu k e => Nat.lt_of_lt_of_le (R1.out.own hu e).1 BB.out.size, fun k e => Nat.lt_of_lt_of_le (R1.out.lt e).1 BB.out.size, BA.out.trans (BB.out.mono BA.out.size), ⟨Nat.le_refl _, by have := lt_of_block NR.out; omega, by have := ZB.out; omega, HR.out.bel.size⟩, Nat.le_refl _⟩)
    have SLI := Lib.hid (show M + 1 ≤ sc ∧ sc ≤ maxLen from by obtain ⟨a, c, e, h1, h2, _⟩ := R1.out.row; injection e with _ e1 e2; subst e2; have := E1.out; omega)
    have SLH := fun W => slh35 W sa (M + 1) sc M (by have := SLI.out.1; omega) SLI.out.2
    have ca0 : v2.cell? ⟨w.heap.size, 0, none⟩ = some (.int .i64 f) := (cell_of_row _ _ _ _ _ _ NL.out).trans rfl
    have ca2 : v2.cell? ⟨w.heap.size, 2, none⟩ = some (.int .i64 most) := (cell_of_row _ _ _ _ _ _ NL.out).trans rfl
    have cb1 : WB.cell? ⟨w.heap.size, 1, none⟩ = some (.slice sa (M + 1) sc) := (cell_of_row _ _ _ _ _ _ A0.out.nl).trans rfl
    have co1 : WB.cell? ⟨mB, 1, none⟩ = some (.slice none 0 0) := (cell_of_row _ _ _ _ _ _ A0.out.no).trans rfl
    have hwm : wrap64 (((M + 1 : Nat) : Int) - 1) = (M : Int) := by have := BM.out.1; unfold wrap64; omega
    have hwm2 : wrap64 ((M : Int) + 1 - 1) = (M : Int) := by have := BM.out.1; unfold wrap64; omega
    have hwm3 : wrap64 (M : Int) = (M : Int) := by have := BM.out.1; unfold wrap64; omega
    have SVS := Lib.hid (fun u (hu : u ∈ ss) => R1.out.slice u hu)
    clear hWB hmB SLH
    go_upto_region 4 with (fail)
    rw [HWB.out, HMB.out]
    go_upto_region 5 with (fail)
    have SLH := fun W => slh35 W sa (M + 1) sc M (by have := SLI.out.1; omega) SLI.out.2
    rw [hwm3]
    clear ca0 ca2 hwm hwm2 hwm3
    have SR5 := Lib.hid (show ∀ W, Below WB.heap.size WB W → Src Tryz.prog 1 35 (.slice sa M sc) M (ss.take M) W from fun W hW => by
      have h1 := (A0.out.rl.step hW).row.take (j := M) (by omega)
      have h2 := liesV_src Tryz.u35 h1 (fun u hu => SVS.out u (List.mem_of_mem_take hu))
      rwa [List.length_take, E1.out, Nat.min_eq_left (by omega)] at h2)
    obtain ⟨i0, hi9, hz0, hz1, hz2⟩ := info_parts info30
    go_region_law (refine step_append_src_own rfl (.tmp 34) (.tmp 38) 35 35 rfl WB.heap.size 30 i0 (.slice none 0 0) 1 24 Tryz.u35 hi9 hz0 hz1 hz2 rfl (by decide) (.slice none 0 0) 0 [] rfl (World.ownsRow_nil _ _ _ _) (.slice sa M sc) M (ss.take M) rfl (SR5.out _ (by first | exact Below.refl _ _ | exact (Below.refl _ _).drew)) (by have := BM.out.1; unfold maxLen; omega) (by have := BM.out.1; omega) (by first | exact Nat.le_refl _ | simp) ?_; intro v4 w4 hown hgr hsp; rw [Nat.zero_add, List.nil_append] at hown; have A4 := Lib.hid ((A0.out.step (W' := _) (by first | exact Below.refl _ _ | exact (Below.refl _ _).drew)).app hgr hown); obtain ⟨va4, vc4, rfl⟩ := own_shapeK hown; have d1 := (cell_of_row (j := 1) _ _ _ _ _ A4.out.1).trans (show (#[Value.int .i64 f, .slice none 0 0, .int .i64 most] : Array Value)[1]? = some (.slice none 0 0) from rfl); have e1 := frozen_of_row (j := 1) _ _ _ _ A4.out.1; clear hown hgr hsp)
    all_goals
      obtain ⟨W5, hW5⟩ : ∃ z, w4.setCell ⟨mB, 1, none⟩ (.slice va4 M vc4) = z := ⟨_, rfl⟩
      have A5 := Lib.hid A4.out.2
      rw [hW5] at A5
      rw [hW5]
      clear hW5 d1 e1 A4 cb1 co1 SLH
      obtain ⟨g, o, u1, hsa, hu1, hg1, a0⟩ := A5.out.rl.row.at' (i := M) (by omega)
      obtain ⟨vs, r1, l2, e2⟩ := A5.out.rl.each M u1 L hu1 HL.out
      have cu : W5.cell? ⟨g, o + M, none⟩ = some u1 := by simpa using a0 0 u1 rfl
      obtain ⟨ua, uc, hv⟩ := own_shapeK r1
      have SR7 := Lib.hid (liesV_src (by kernel_rfl : Tryz.prog.underlying 30 = some (.slice 39)) (own_liesK (enc := enV) (fun _ => rfl) (by rw [flat_enV]; exact r1)) (fun x hx => by
        obtain ⟨j, hj⟩ := List.mem_iff_getElem?.1 hx
        obtain ⟨b', hb⟩ : ∃ b', L[j]? = some b' := ⟨_, List.getElem?_eq_getElem (by rw [← l2]; exact (List.getElem?_eq_some_iff.1 hj).1)⟩
        obtain ⟨a, c, e⟩ := Rc.lies_shape (e2 j x b' hj hb)
        exact ⟨a, _, c, e⟩))
      have VB := Lib.hid (show vs.length ≤ 100000 from by rw [l2]; exact BM.out.2)
      have E2 := Lib.hid (And.intro l2 e2)
      have cb5 : W5.cell? ⟨w.heap.size, 1, none⟩ = some (.slice sa (M + 1) sc) := (cell_of_row _ _ _ _ _ _ A5.out.nl).trans rfl
      rw [hv] at cu SR7
      rw [hsa] at cb5
      obtain ⟨i1, hj9, hy0, hy1, hy2⟩ := info_parts info39
      have hM1 : M ≤ 1001 := BM.out.1
      clear r1 l2 e2 a0 hg1 hu1 hv hsa
      go_upto_region 8 with (at_builtin; go_loud (refine wpList_append_src_own rfl (.tmp 41) (.tmp 46) 30 30 rfl WB.heap.size 39 i1 (.slice none 0 0) 1 24 (by kernel_rfl) hj9 hy0 hy1 hy2 rfl (by decide) (.slice none 0 0) 0 [] rfl (World.ownsRow_nil _ _ _ _) (.slice ua vs.length uc) vs.length vs rfl SR7.out (by have := VB.out; unfold maxLen; omega) (by have := VB.out; omega) A5.out.sz ?_; intro v8 w8 hown hgr hsp; rw [Nat.zero_add, List.nil_append] at hown; have A8 := Lib.hid (A5.out.grown hgr (fun k e => by cases e)); have R8 := Lib.hid hown; obtain ⟨va8, vc8, rfl⟩ := own_shapeK hown; clear hown hgr hsp))
      have HX := Lib.hid (heap_alloc_new w8 (.cells #[.slice va b.length vc] 39))
      have OX := Lib.hid (own_belowK R8.out (vstep w8 (.cells #[.slice va b.length vc] 39)))
      have AX := Lib.hid (A8.out.step (vstep w8 (.cells #[.slice va b.length vc] 39)))
      clear cu cb5
      go_upto_region 9 with (at_builtin; go_loud (refine wpList_pushVo rfl (.tmp 48) (.tmp 50) rfl WB.heap.size _ vs (.slice va b.length vc) w8.heap.size rfl rfl HX.out rfl OX.out VB.out AX.out.sz ?_; intro v9 w9 hown hgr; have A9 := Lib.hid (AX.out.grown hgr (fun k e => own39E OX.out e)); have R9 := Lib.hid hown; obtain ⟨va9, vc9, rfl⟩ := own_shapeK hown; clear hown hgr))
      have BX := Lib.hid (vstep w9 (.cells #[.slice va9 (vs.length + 1) vc9] 30))
      have NX := Lib.hid (heap_alloc_new w9 (.cells #[.slice va9 (vs.length + 1) vc9] 30))
      obtain ⟨WX, hWX⟩ : ∃ z, w9.alloc (.cells #[.slice va9 (vs.length + 1) vc9] 30) = z := ⟨_, rfl⟩
      rw [hWX] at BX NX
      have HWX := Lib.hid hWX
      have AY := Lib.hid (A9.out.step BX.out)
      have RY := Lib.hid (own_belowK R9.out BX.out)
      have SRX := Lib.hid (src_one NX.out rfl)
      have cm9 : w9.cell? ⟨mB, 1, none⟩ = some (.slice va4 M vc4) := (cell_of_row _ _ _ _ _ _ A9.out.no).trans rfl
      clear hWX A8 R8 HX OX AX A5
      go_upto_region 10 with (at_builtin; rw [HWX.out]; go_loud (refine wpList_append_src_own rfl (.tmp 53) (.tmp 55) 35 35 rfl WB.heap.size 30 i0 (.slice none 0 0) 1 24 Tryz.u35 hi9 hz0 hz1 hz2 rfl (by decide) (.slice va4 M vc4) M (ss.take M) rfl AY.out.row (.slice (some ⟨w9.heap.size, 0, none⟩) 1 1) 1 [.slice va9 (vs.length + 1) vc9] rfl SRX.out (by have := BM.out.1; unfold maxLen; omega) (by have := BM.out.1; omega) AY.out.sz ?_; intro v10 w10 hown hgr hsp; have A10 := Lib.hid (AY.out.app hgr hown); have R10 := Lib.hid (show w10.ownsRow WB.heap.size 39 1 (.slice va9 (vs.length + 1) vc9) (vs.length + 1) (vs ++ [.slice va b.length vc]) from AY.out.keep39 hgr RY.out); obtain ⟨va10, vc10, rfl⟩ := own_shapeK hown; have d10 := (cell_of_row (j := 1) _ _ _ _ _ A10.out.1).trans (show (#[Value.int .i64 f, .slice va4 M vc4, .int .i64 most] : Array Value)[1]? = some (.slice va4 M vc4) from rfl); have e10 := frozen_of_row (j := 1) _ _ _ _ A10.out.1; clear hown hgr hsp))
      obtain ⟨W11, hW11⟩ : ∃ z, w10.setCell ⟨mB, 1, none⟩ (.slice va10 (M + 1) vc10) = z := ⟨_, rfl⟩
      have A11 := Lib.hid A10.out.2
      have R11 := Lib.hid (show W11.ownsRow WB.heap.size 39 1 (.slice va9 (vs.length + 1) vc9) (vs.length + 1) (vs ++ [.slice va b.length vc]) from row_at R10.out (fun k e => by
        rw [← hW11]
        exact Below.heap_setCell w10 ⟨mB, 1, none⟩ (.slice va10 (M + 1) vc10) k (fun e2 => by
          have e2 : k = mB := e2
          have := (R10.out.lt k e).1
          have := A11.out.lm
          omega)))
      rw [hW11] at A11
      rw [hW11]
      clear hW11 d10 e10 cm9 A10 R10 AY RY A9 R9 BX NX SRX
      have LD := Lib.hid (ld37 A11.out.no)
      have ST := Lib.hid (st37 (f := f) (m := most) (a := va10) (n := M + 1) (c := vc10) A11.out.nr)
      go_wp2_with (first
        | (refine wpList_load_arr rfl (.tmp 5) 37 rfl (.pointer (some ⟨mB, 0, none⟩)) (.agg #[.int .i64 f, .slice va10 (M + 1) vc10, .int .i64 most]) rfl LD.out ?_)
        | (refine wpList_store_arr rfl (.tmp 4) (.tmp 58) 37 rfl (.pointer (some ⟨w.heap.size + 1, 0, none⟩)) (.agg #[.int .i64 f, .slice va10 (M + 1) vc10, .int .i64 most]) rfl rfl _ ST.out ?_))
      have M9 := row_set3 (a := .int .i64 f) (b := .slice va10 (M + 1) vc10) (c := .int .i64 most) A11.out.nr
      have FIN := A11.out.fin (L := L ++ [b]) (vs := vs ++ [.slice va b.length vc]) (by have := E1.out; omega) (by rw [List.length_append]; exact R11.out) (by rw [List.length_append, List.length_append, E2.out.1]; rfl) (fun j x y hx hy => by
        by_cases hj : j < vs.length
        · rw [List.getElem?_append_left hj] at hx
          rw [List.getElem?_append_left (by rw [← E2.out.1]; exact hj)] at hy
          exact E2.out.2 j x y hx hy
        · have hj2 : j = vs.length := by
            have := (List.getElem?_eq_some_iff.1 hx).1
            simp at this
            omega
          subst hj2
          rw [List.getElem?_append_right (Nat.le_refl _), Nat.sub_self] at hx
          rw [E2.out.1, List.getElem?_append_right (Nat.le_refl _), Nat.sub_self] at hy
          have hx : Value.slice va b.length vc = x := by simpa using hx
          have hy : b = y := by simpa using hy
          subst hx hy
          exact LV.out)
      generalize set3 W11 (w.heap.size + 1) (.int .i64 f) (.slice va10 (M + 1) vc10) (.int .i64 most) = W9 at *
      have c0 : W9.cell? ⟨w.heap.size + 1, 0, none⟩ = some (.int .i64 f) := (cell_of_row _ _ _ _ _ _ M9).trans rfl
      have c1 : W9.cell? ⟨w.heap.size + 1, 1, none⟩ = some (.slice va10 (M + 1) vc10) := (cell_of_row _ _ _ _ _ _ M9).trans rfl
      have c2 : W9.cell? ⟨w.heap.size + 1, 2, none⟩ = some (.int .i64 most) := (cell_of_row _ _ _ _ _ _ M9).trans rfl
      refine bodyPost_ret (v := .agg #[.int .i64 f, .slice va10 (M + 1) vc10, .int .i64 most]) (by simp [results, Tryz.results15, go_sem, c0, c1, c2]; try rfl) rfl ?_
      first
        | exact ⟨⟨_, rfl, _, FIN.1⟩, FIN.2⟩
        | exact ⟨_, _, rfl, FIN.1, FIN.2⟩
        | exact ⟨_, rfl, ⟨_, FIN.1⟩, FIN.2⟩
  · have hd0 : decide ((0 : Int) < (c : Int)) = false := by simpa using h0
    refine wp_region_held_drew (S := fun w' => Below W2.heap.size W2 w') (by kernel_rfl) (Below.refl _ _).drew (fun hHeld => ?_)
    have BV := Lib.hid (show Below W2.heap.size W2 W2.drew from (Below.refl _ _).drew)
    clear hHeld
    refine take_at (i := 0) 8 (.agg #[.int .i64 f, .slice sa (M + 1) sc, .int .i64 most]) rfl rfl (by kernel_rfl) (by kernel_rfl) (by kernel_rfl) (fun _ _ _ h => h) (yields_ld (.tmp 2) 37 (.pointer (some ⟨w.heap.size, 0, none⟩)) _ (fun W hS => LD.out W hS) rfl rfl rfl) BV.out ?_
    simp only [Act.put, List.setIfInBounds_toArray, List.set_cons_zero, List.set_cons_succ]
    refine wpAnyH_ready (rs := [1]) (by kernel_rfl) (by simp) (br_call (i := 1) 9 26 #[.agg #[.int .i64 f, .slice sa (M + 1) sc, .int .i64 most]] rfl rfl rfl (by go_simp) ((RL.out _ BV.out).mono ?_) AllReadyH.nil)
    rintro e v1 ⟨rfl, hb⟩
    have BV := Lib.hid (BV.out.trans (hb.mono BV.out.size))
    clear hb
    refine ⟨_, rfl, BV.out, fun _ => ?_⟩
    simp only [Act.put, List.setIfInBounds_toArray, List.set_cons_zero, List.set_cons_succ]
    refine take_at (i := 2) 10 ?_ rfl rfl (by kernel_rfl) (by kernel_rfl) (by kernel_rfl) (fun _ _ _ h => h) (.inl ⟨rfl, ?_⟩) BV.out ?_
    rotate_left 1
    · intro w hSw; go_simp; try with_reducible rfl
    simp only [Act.put, List.setIfInBounds_toArray, List.set_cons_zero, List.set_cons_succ]
    refine take_at (i := 3) 11 ?_ rfl rfl (by kernel_rfl) (by kernel_rfl) (by kernel_rfl) (fun _ _ _ h => h) (.inl ⟨rfl, ?_⟩) BV.out ?_
    rotate_left 1
    · intro w hSw; go_simp; try with_reducible rfl
    simp only [Act.put, List.setIfInBounds_toArray, List.set_cons_zero, List.set_cons_succ]
    refine take_at (i := 4) 12 undef rfl rfl (by kernel_rfl) (by kernel_rfl) (by kernel_rfl) (fun _ _ _ h => h) (.inr ⟨rfl, rfl⟩) BV.out ?_
    simp only [Act.put, List.setIfInBounds_toArray, List.set_cons_zero, List.set_cons_succ]
    refine take_at (i := 5) 13 undef rfl rfl (by kernel_rfl) (by kernel_rfl) (by kernel_rfl) (fun _ _ _ h => h) (.inr ⟨rfl, rfl⟩) BV.out ?_
    simp only [Act.put, List.setIfInBounds_toArray, List.set_cons_zero, List.set_cons_succ]
    refine take_at (i := 6) 14 undef rfl rfl (by kernel_rfl) (by kernel_rfl) (by kernel_rfl) (fun _ _ _ h => h) (.inr ⟨rfl, rfl⟩) BV.out ?_
    simp only [Act.put, List.setIfInBounds_toArray, List.set_cons_zero, List.set_cons_succ]
    refine take_at (i := 7) 15 undef rfl rfl (by kernel_rfl) (by kernel_rfl) (by kernel_rfl) (fun _ _ _ h => h) (.inr ⟨rfl, rfl⟩) BV.out ?_
    simp only [Act.put, List.setIfInBounds_toArray, List.set_cons_zero, List.set_cons_succ]
    refine take_at (i := 8) 16 undef rfl rfl (by kernel_rfl) (by kernel_rfl) (by kernel_rfl) (fun _ _ _ h => h) (.inr ⟨rfl, rfl⟩) BV.out ?_
    simp only [Act.put, List.setIfInBounds_toArray, List.set_cons_zero, List.set_cons_succ]
    refine take_at (i := 9) 17 undef rfl rfl (by kernel_rfl) (by kernel_rfl) (by kernel_rfl) (fun _ _ _ h => h) (.inr ⟨rfl, rfl⟩) BV.out ?_
    simp only [Act.put, List.setIfInBounds_toArray, List.set_cons_zero, List.set_cons_succ]
    refine take_at (i := 10) 18 undef rfl rfl (by kernel_rfl) (by kernel_rfl) (by kernel_rfl) (fun _ _ _ h => h) (.inr ⟨rfl, rfl⟩) BV.out ?_
    simp only [Act.put, List.setIfInBounds_toArray, List.set_cons_zero, List.set_cons_succ]
    refine take_at (i := 11) 19 undef rfl rfl (by kernel_rfl) (by kernel_rfl) (by kernel_rfl) (fun _ _ _ h => h) (.inr ⟨rfl, rfl⟩) BV.out ?_
    simp only [Act.put, List.setIfInBounds_toArray, List.set_cons_zero, List.set_cons_succ]
    refine take_at (i := 12) 20 undef rfl rfl (by kernel_rfl) (by kernel_rfl) (by kernel_rfl) (fun _ _ _ h => h) (.inr ⟨rfl, rfl⟩) BV.out ?_
    simp only [Act.put, List.setIfInBounds_toArray, List.set_cons_zero, List.set_cons_succ]
    refine take_at (i := 13) 21 ?_ rfl rfl (by kernel_rfl) (by kernel_rfl) (by kernel_rfl) (fun _ _ _ h => h) (.inl ⟨rfl, ?_⟩) BV.out ?_
    rotate_left 1
    · intro w hSw; go_simp; try with_reducible rfl
    simp only [Act.put, List.setIfInBounds_toArray, List.set_cons_zero, List.set_cons_succ]
    refine wpAnyH_done (by kernel_rfl) ?_ _
    have BA := Lib.hid (B2.out.trans (BV.out.mono B2.out.size))
    have NL := Lib.hid ((BV.out.block _ (lt_of_block N1.out)).trans N1.out)
    have NR := Lib.hid ((BV.out.block _ (lt_of_block N2.out)).trans N2.out)
    have R1 := Lib.hid (R2.out.step BV.out)
    have BM := Lib.hid (show M ≤ 1001 ∧ L.length ≤ 100000 from ⟨by have := HB.out.1; omega, by have := len_cat L; have := HB.out.2.1; omega⟩)
    clear BV RL LD LM2
    have E1 := Lib.hid (show ss.length = M + 1 from by rw [R1.out.len]; exact HM.out)
    have BB := Lib.hid (vstep v1 (.cells #[.int .i64 f, .slice none 0 0, .int .i64 most] 37))
    have NB := Lib.hid (heap_alloc_new v1 (.cells #[.int .i64 f, .slice none 0 0, .int .i64 most] 37))
    have ZB := Lib.hid (show (v1.alloc (.cells #[.int .i64 f, .slice none 0 0, .int .i64 most] 37)).heap.size = v1.heap.size + 1 from by simp)
    obtain ⟨WB, hWB⟩ : ∃ z, v1.alloc (.cells #[.int .i64 f, .slice none 0 0, .int .i64 most] 37) = z := ⟨_, rfl⟩
    rw [hWB] at BB NB ZB
    have HWB := Lib.hid hWB
    obtain ⟨mB, hmB⟩ : ∃ z, v1.heap.size = z := ⟨_, rfl⟩
    have HMB := Lib.hid hmB
    have A0 := Lib.hid (show RA w0 w WB w.heap.size mB WB.heap.size f most (.slice sa (M + 1) sc) ss Ss (.slice none 0 0) 0 [] from
      ⟨(BB.out.block _ (lt_of_block NL.out)).trans NL.out, (BB.out.block _ (lt_of_block NR.out)).trans NR.out, by rw [← hmB]; exact NB.out, World.ownsRow_nil _ _ _ _, R1.out.step BB.out, fun u hu k e => Nat.lt_of_lt_of_le (R1.out.own hu e).1 BB.out.size, fun k e => Nat.lt_of_lt_of_le (R1.out.lt e).1 BB.out.size, BA.out.trans (BB.out.mono BA.out.size), ⟨Nat.le_refl _, by have := lt_of_block NR.out; omega, by have := ZB.out; omega, HR.out.bel.size⟩, Nat.le_refl _⟩)
    have SLI := Lib.hid (show M + 1 ≤ sc ∧ sc ≤ maxLen from by obtain ⟨a, c, e, h1, h2, _⟩ := R1.out.row; injection e with _ e1 e2; subst e2; have := E1.out; omega)
    have SLH := fun W => slh35 W sa (M + 1) sc M (by have := SLI.out.1; omega) SLI.out.2
    have ca0 : v1.cell? ⟨w.heap.size, 0, none⟩ = some (.int .i64 f) := (cell_of_row _ _ _ _ _ _ NL.out).trans rfl
    have ca2 : v1.cell? ⟨w.heap.size, 2, none⟩ = some (.int .i64 most) := (cell_of_row _ _ _ _ _ _ NL.out).trans rfl
    have cb1 : WB.cell? ⟨w.heap.size, 1, none⟩ = some (.slice sa (M + 1) sc) := (cell_of_row _ _ _ _ _ _ A0.out.nl).trans rfl
    have co1 : WB.cell? ⟨mB, 1, none⟩ = some (.slice none 0 0) := (cell_of_row _ _ _ _ _ _ A0.out.no).trans rfl
    have hwm : wrap64 (((M + 1 : Nat) : Int) - 1) = (M : Int) := by have := BM.out.1; unfold wrap64; omega
    have hwm2 : wrap64 ((M : Int) + 1 - 1) = (M : Int) := by have := BM.out.1; unfold wrap64; omega
    have hwm3 : wrap64 (M : Int) = (M : Int) := by have := BM.out.1; unfold wrap64; omega
    have SVS := Lib.hid (fun u (hu : u ∈ ss) => R1.out.slice u hu)
    clear hWB hmB SLH
    go_upto_region 4 with (fail)
    rw [HWB.out, HMB.out]
    go_upto_region 5 with (fail)
    have SLH := fun W => slh35 W sa (M + 1) sc M (by have := SLI.out.1; omega) SLI.out.2
    rw [hwm3]
    clear ca0 ca2 hwm hwm2 hwm3
    have SR5 := Lib.hid (show ∀ W, Below WB.heap.size WB W → Src Tryz.prog 1 35 (.slice sa M sc) M (ss.take M) W from fun W hW => by
      have h1 := (A0.out.rl.step hW).row.take (j := M) (by omega)
      have h2 := liesV_src Tryz.u35 h1 (fun u hu => SVS.out u (List.mem_of_mem_take hu))
      rwa [List.length_take, E1.out, Nat.min_eq_left (by omega)] at h2)
    obtain ⟨i0, hi9, hz0, hz1, hz2⟩ := info_parts info30
    go_region_law (refine step_append_src_own rfl (.tmp 34) (.tmp 38) 35 35 rfl WB.heap.size 30 i0 (.slice none 0 0) 1 24 Tryz.u35 hi9 hz0 hz1 hz2 rfl (by decide) (.slice none 0 0) 0 [] rfl (World.ownsRow_nil _ _ _ _) (.slice sa M sc) M (ss.take M) rfl (SR5.out _ (by first | exact Below.refl _ _ | exact (Below.refl _ _).drew)) (by have := BM.out.1; unfold maxLen; omega) (by have := BM.out.1; omega) (by first | exact Nat.le_refl _ | simp) ?_; intro v4 w4 hown hgr hsp; rw [Nat.zero_add, List.nil_append] at hown; have A4 := Lib.hid ((A0.out.step (W' := _) (by first | exact Below.refl _ _ | exact (Below.refl _ _).drew)).app hgr hown); obtain ⟨va4, vc4, rfl⟩ := own_shapeK hown; have d1 := (cell_of_row (j := 1) _ _ _ _ _ A4.out.1).trans (show (#[Value.int .i64 f, .slice none 0 0, .int .i64 most] : Array Value)[1]? = some (.slice none 0 0) from rfl); have e1 := frozen_of_row (j := 1) _ _ _ _ A4.out.1; clear hown hgr hsp)
    all_goals
      obtain ⟨W5, hW5⟩ : ∃ z, w4.setCell ⟨mB, 1, none⟩ (.slice va4 M vc4) = z := ⟨_, rfl⟩
      have A5 := Lib.hid A4.out.2
      rw [hW5] at A5
      rw [hW5]
      clear hW5 d1 e1 A4 cb1 co1 SLH
      obtain ⟨g, o, u1, hsa, hu1, hg1, a0⟩ := A5.out.rl.row.at' (i := M) (by omega)
      obtain ⟨vs, r1, l2, e2⟩ := A5.out.rl.each M u1 L hu1 HL.out
      have cu : W5.cell? ⟨g, o + M, none⟩ = some u1 := by simpa using a0 0 u1 rfl
      obtain ⟨ua, uc, hv⟩ := own_shapeK r1
      have SR7 := Lib.hid (liesV_src (by kernel_rfl : Tryz.prog.underlying 30 = some (.slice 39)) (own_liesK (enc := enV) (fun _ => rfl) (by rw [flat_enV]; exact r1)) (fun x hx => by
        obtain ⟨j, hj⟩ := List.mem_iff_getElem?.1 hx
        obtain ⟨b', hb⟩ : ∃ b', L[j]? = some b' := ⟨_, List.getElem?_eq_getElem (by rw [← l2]; exact (List.getElem?_eq_some_iff.1 hj).1)⟩
        obtain ⟨a, c, e⟩ := Rc.lies_shape (e2 j x b' hj hb)
        exact ⟨a, _, c, e⟩))
      have VB := Lib.hid (show vs.length ≤ 100000 from by rw [l2]; exact BM.out.2)
      have E2 := Lib.hid (And.intro l2 e2)
      have cb5 : W5.cell? ⟨w.heap.size, 1, none⟩ = some (.slice sa (M + 1) sc) := (cell_of_row _ _ _ _ _ _ A5.out.nl).trans rfl
      rw [hv] at cu SR7
      rw [hsa] at cb5
      obtain ⟨i1, hj9, hy0, hy1, hy2⟩ := info_parts info39
      have hM1 : M ≤ 1001 := BM.out.1
      clear r1 l2 e2 a0 hg1 hu1 hv hsa
      go_upto_region 8 with (at_builtin; go_loud (refine wpList_append_src_own rfl (.tmp 41) (.tmp 46) 30 30 rfl WB.heap.size 39 i1 (.slice none 0 0) 1 24 (by kernel_rfl) hj9 hy0 hy1 hy2 rfl (by decide) (.slice none 0 0) 0 [] rfl (World.ownsRow_nil _ _ _ _) (.slice ua vs.length uc) vs.length vs rfl SR7.out (by have := VB.out; unfold maxLen; omega) (by have := VB.out; omega) A5.out.sz ?_; intro v8 w8 hown hgr hsp; rw [Nat.zero_add, List.nil_append] at hown; have A8 := Lib.hid (A5.out.grown hgr (fun k e => by cases e)); have R8 := Lib.hid hown; obtain ⟨va8, vc8, rfl⟩ := own_shapeK hown; clear hown hgr hsp))
      have HX := Lib.hid (heap_alloc_new w8 (.cells #[.slice va b.length vc] 39))
      have OX := Lib.hid (own_belowK R8.out (vstep w8 (.cells #[.slice va b.length vc] 39)))
      have AX := Lib.hid (A8.out.step (vstep w8 (.cells #[.slice va b.length vc] 39)))
      clear cu cb5
      go_upto_region 9 with (at_builtin; go_loud (refine wpList_pushVo rfl (.tmp 48) (.tmp 50) rfl WB.heap.size _ vs (.slice va b.length vc) w8.heap.size rfl rfl HX.out rfl OX.out VB.out AX.out.sz ?_; intro v9 w9 hown hgr; have A9 := Lib.hid (AX.out.grown hgr (fun k e => own39E OX.out e)); have R9 := Lib.hid hown; obtain ⟨va9, vc9, rfl⟩ := own_shapeK hown; clear hown hgr))
      have BX := Lib.hid (vstep w9 (.cells #[.slice va9 (vs.length + 1) vc9] 30))
      have NX := Lib.hid (heap_alloc_new w9 (.cells #[.slice va9 (vs.length + 1) vc9] 30))
      obtain ⟨WX, hWX⟩ : ∃ z, w9.alloc (.cells #[.slice va9 (vs.length + 1) vc9] 30) = z := ⟨_, rfl⟩
      rw [hWX] at BX NX
      have HWX := Lib.hid hWX
      have AY := Lib.hid (A9.out.step BX.out)
      have RY := Lib.hid (own_belowK R9.out BX.out)
      have SRX := Lib.hid (src_one NX.out rfl)
      have cm9 : w9.cell? ⟨mB, 1, none⟩ = some (.slice va4 M vc4) := (cell_of_row _ _ _ _ _ _ A9.out.no).trans rfl
      clear hWX A8 R8 HX OX AX A5
      go_upto_region 10 with (at_builtin; rw [HWX.out]; go_loud (refine wpList_append_src_own rfl (.tmp 53) (.tmp 55) 35 35 rfl WB.heap.size 30 i0 (.slice none 0 0) 1 24 Tryz.u35 hi9 hz0 hz1 hz2 rfl (by decide) (.slice va4 M vc4) M (ss.take M) rfl AY.out.row (.slice (some ⟨w9.heap.size, 0, none⟩) 1 1) 1 [.slice va9 (vs.length + 1) vc9] rfl SRX.out (by have := BM.out.1; unfold maxLen; omega) (by have := BM.out.1; omega) AY.out.sz ?_; intro v10 w10 hown hgr hsp; have A10 := Lib.hid (AY.out.app hgr hown); have R10 := Lib.hid (show w10.ownsRow WB.heap.size 39 1 (.slice va9 (vs.length + 1) vc9) (vs.length + 1) (vs ++ [.slice va b.length vc]) from AY.out.keep39 hgr RY.out); obtain ⟨va10, vc10, rfl⟩ := own_shapeK hown; have d10 := (cell_of_row (j := 1) _ _ _ _ _ A10.out.1).trans (show (#[Value.int .i64 f, .slice va4 M vc4, .int .i64 most] : Array Value)[1]? = some (.slice va4 M vc4) from rfl); have e10 := frozen_of_row (j := 1) _ _ _ _ A10.out.1; clear hown hgr hsp))
      obtain ⟨W11, hW11⟩ : ∃ z, w10.setCell ⟨mB, 1, none⟩ (.slice va10 (M + 1) vc10) = z := ⟨_, rfl⟩
      have A11 := Lib.hid A10.out.2
      have R11 := Lib.hid (show W11.ownsRow WB.heap.size 39 1 (.slice va9 (vs.length + 1) vc9) (vs.length + 1) (vs ++ [.slice va b.length vc]) from row_at R10.out (fun k e => by
        rw [← hW11]
        exact Below.heap_setCell w10 ⟨mB, 1, none⟩ (.slice va10 (M + 1) vc10) k (fun e2 => by
          have e2 : k = mB := e2
          have := (R10.out.lt k e).1
          have := A11.out.lm
          omega)))
      rw [hW11] at A11
      rw [hW11]
      clear hW11 d10 e10 cm9 A10 R10 AY RY A9 R9 BX NX SRX
      have LD := Lib.hid (ld37 A11.out.no)
      have ST := Lib.hid (st37 (f := f) (m := most) (a := va10) (n := M + 1) (c := vc10) A11.out.nr)
      go_wp2_with (first
        | (refine wpList_load_arr rfl (.tmp 5) 37 rfl (.pointer (some ⟨mB, 0, none⟩)) (.agg #[.int .i64 f, .slice va10 (M + 1) vc10, .int .i64 most]) rfl LD.out ?_)
        | (refine wpList_store_arr rfl (.tmp 4) (.tmp 58) 37 rfl (.pointer (some ⟨w.heap.size + 1, 0, none⟩)) (.agg #[.int .i64 f, .slice va10 (M + 1) vc10, .int .i64 most]) rfl rfl _ ST.out ?_))
      have M9 := row_set3 (a := .int .i64 f) (b := .slice va10 (M + 1) vc10) (c := .int .i64 most) A11.out.nr
      have FIN := A11.out.fin (L := L ++ [b]) (vs := vs ++ [.slice va b.length vc]) (by have := E1.out; omega) (by rw [List.length_append]; exact R11.out) (by rw [List.length_append, List.length_append, E2.out.1]; rfl) (fun j x y hx hy => by
        by_cases hj : j < vs.length
        · rw [List.getElem?_append_left hj] at hx
          rw [List.getElem?_append_left (by rw [← E2.out.1]; exact hj)] at hy
          exact E2.out.2 j x y hx hy
        · have hj2 : j = vs.length := by
            have := (List.getElem?_eq_some_iff.1 hx).1
            simp at this
            omega
          subst hj2
          rw [List.getElem?_append_right (Nat.le_refl _), Nat.sub_self] at hx
          rw [E2.out.1, List.getElem?_append_right (Nat.le_refl _), Nat.sub_self] at hy
          have hx : Value.slice va b.length vc = x := by simpa using hx
          have hy : b = y := by simpa using hy
          subst hx hy
          exact LV.out)
      generalize set3 W11 (w.heap.size + 1) (.int .i64 f) (.slice va10 (M + 1) vc10) (.int .i64 most) = W9 at *
      have c0 : W9.cell? ⟨w.heap.size + 1, 0, none⟩ = some (.int .i64 f) := (cell_of_row _ _ _ _ _ _ M9).trans rfl
      have c1 : W9.cell? ⟨w.heap.size + 1, 1, none⟩ = some (.slice va10 (M + 1) vc10) := (cell_of_row _ _ _ _ _ _ M9).trans rfl
      have c2 : W9.cell? ⟨w.heap.size + 1, 2, none⟩ = some (.int .i64 most) := (cell_of_row _ _ _ _ _ _ M9).trans rfl
      refine bodyPost_ret (v := .agg #[.int .i64 f, .slice va10 (M + 1) vc10, .int .i64 most]) (by simp [results, Tryz.results15, go_sem, c0, c1, c2]; try rfl) rfl ?_
      first
        | exact ⟨⟨_, rfl, _, FIN.1⟩, FIN.2⟩
        | exact ⟨_, _, rfl, FIN.1, FIN.2⟩
        | exact ⟨_, rfl, ⟨_, FIN.1⟩, FIN.2⟩
set_option maxHeartbeats 12800000 in
theorem rapp_roll (w0 w : World) (f most : Int) (sv : Value) (ss : List Value) (Ss : List (List (List Nat))) (L : List (List Nat)) (M : Nat) (h : RLog w0 w sv ss Ss) (hM : Ss.length = M + 1) (hL : Ss[M]? = some L) (hs : M ≤ 900) (hc : (cat L).length ≤ 100000) (v : Value) (b : List Nat) (hv : Rc.Lies w0 v b) (hb : b.length ≤ 1000) (hfit : 0 < (cat L).length ∧ most < (((cat L).length : Nat) : Int) + ((b.length + 8 : Nat) : Int)) :
    Calls Tryz.prog 15 #[.agg #[.int .i64 f, sv, .int .i64 most], v] w fun e w' => ∃ sv' ss', e = .returned (.agg #[.int .i64 f, sv', .int .i64 most]) ∧ RLog w0 w' sv' ss' (Ss ++ [[b]]) ∧ Below w.heap.size w w' := by
  obtain ⟨sa, sc, rfl⟩ := h.row.shape
  have hn : ss.length = M + 1 := by have := h.len; omega
  rw [hn] at h ⊢
  have HR := Lib.hid h
  obtain ⟨va, vc, rfl⟩ := Rc.lies_shape hv
  have HN := Lib.hid hn
  have b1 := vstep w (.cells #[.int .i64 f, .slice sa (M + 1) sc, .int .i64 most] 37)
  have b2 := vstep (w.alloc (.cells #[.int .i64 f, .slice sa (M + 1) sc, .int .i64 most] 37)) (.cells #[.int .i64 0, .slice none 0 0, .int .i64 0] 37)
  have n1 := heap_alloc_new w (.cells #[.int .i64 f, .slice sa (M + 1) sc, .int .i64 most] 37)
  have n2 := heap_alloc_new (w.alloc (.cells #[.int .i64 f, .slice sa (M + 1) sc, .int .i64 most] 37)) (.cells #[.int .i64 0, .slice none 0 0, .int .i64 0] 37)
  have n1 := (b2.block _ (lt_of_block n1)).trans n1
  rw [World.size_alloc] at n2
  have B2 := Lib.hid (b1.trans (b2.mono b1.size))
  obtain ⟨W2, hW2⟩ : ∃ z, (w.alloc (.cells #[.int .i64 f, .slice sa (M + 1) sc, .int .i64 most] 37)).alloc (.cells #[.int .i64 0, .slice none 0 0, .int .i64 0] 37) = z := ⟨_, rfl⟩
  rw [hW2] at n1 n2 B2
  have HW := Lib.hid hW2
  have N1 := Lib.hid n1
  have N2 := Lib.hid n2
  have R2 := Lib.hid (HR.out.step B2.out)
  have HL := Lib.hid hL
  have HM := Lib.hid hM
  have HB := Lib.hid (show M ≤ 900 ∧ (cat L).length ≤ 100000 ∧ b.length ≤ 1000 from ⟨hs, hc, hb⟩)
  have LV := Lib.hid hv
  have RL := Lib.hid (fun (W : World) (hW : Below W2.heap.size W2 W) => rlen_any w0 W f most (.slice sa (M + 1) sc) ss Ss L M (R2.out.step hW) HM.out HL.out (by omega) (by omega))
  have LD := Lib.hid (fun (W : World) (hW : Below W2.heap.size W2 W) => ld37 ((hW.block _ (lt_of_block N1.out)).trans N1.out))
  have LM2 := Lib.hid (fun (W : World) (hW : Below W2.heap.size W2 W) => ldI3 (W := W) (g := w.heap.size) (o := 2) (x := most) ((cell_of_row _ _ _ _ _ _ ((hW.block _ (lt_of_block N1.out)).trans N1.out)).trans rfl))
  clear b1 b2 n1 n2 hW2 hn hs hc hb hv hL hM h
  obtain ⟨c, hcc⟩ : ∃ c, (cat L).length = c := ⟨_, rfl⟩
  have HC := Lib.hid hcc
  rw [hcc] at RL hfit
  clear hcc
  go_enter Tryz.func15, Tryz.ntmps15
  go_upto_region 1 with (fail)
  rw [HW.out]
  have h0 : 0 < c := hfit.1
  have hd0 : decide ((0 : Int) < (c : Int)) = true := by simpa using h0
  have hw1 : IntKind.i64.wrap ((c : Int) + (b.length : Int)) = (c : Int) + (b.length : Int) := by have := HB.out; have := HC.out; rw [IntKind.wrap_i64]; omega
  have hw2 : IntKind.i64.wrap ((c : Int) + (b.length : Int) + 8) = (c : Int) + (b.length : Int) + 8 := by have := HB.out; have := HC.out; rw [IntKind.wrap_i64]; omega
  have hle : most < (c : Int) + (b.length : Int) + 8 := by have := hfit.2; omega
  refine wp_region_held_drew (S := fun w' => Below W2.heap.size W2 w') (by kernel_rfl) (Below.refl _ _).drew (fun hHeld => ?_)
  have BV := Lib.hid (show Below W2.heap.size W2 W2.drew from (Below.refl _ _).drew)
  clear hHeld
  refine take_at (i := 0) 8 (.agg #[.int .i64 f, .slice sa (M + 1) sc, .int .i64 most]) rfl rfl (by kernel_rfl) (by kernel_rfl) (by kernel_rfl) (fun _ _ _ h => h) (yields_ld (.tmp 2) 37 (.pointer (some ⟨w.heap.size, 0, none⟩)) _ (fun W hS => LD.out W hS) rfl rfl rfl) BV.out ?_
  simp only [Act.put, List.setIfInBounds_toArray, List.set_cons_zero, List.set_cons_succ]
  refine wpAnyH_ready (rs := [1]) (by kernel_rfl) (by simp) (br_call (i := 1) 9 26 #[.agg #[.int .i64 f, .slice sa (M + 1) sc, .int .i64 most]] rfl rfl rfl (by go_simp) ((RL.out _ BV.out).mono ?_) AllReadyH.nil)
  rintro e v1 ⟨rfl, hb⟩
  have BV := Lib.hid (BV.out.trans (hb.mono BV.out.size))
  clear hb
  refine ⟨_, rfl, BV.out, fun _ => ?_⟩
  simp only [Act.put, List.setIfInBounds_toArray, List.set_cons_zero, List.set_cons_succ]
  refine take_at (i := 2) 10 ?_ rfl rfl (by kernel_rfl) (by kernel_rfl) (by kernel_rfl) (fun _ _ _ h => h) (.inl ⟨rfl, ?_⟩) BV.out ?_
  rotate_left 1
  · intro w hSw; go_simp; try with_reducible rfl
  simp only [Act.put, List.setIfInBounds_toArray, List.set_cons_zero, List.set_cons_succ]
  refine take_at (i := 3) 11 ?_ rfl rfl (by kernel_rfl) (by kernel_rfl) (by kernel_rfl) (fun _ _ _ h => h) (.inl ⟨rfl, ?_⟩) BV.out ?_
  rotate_left 1
  · intro w hSw; go_simp; try with_reducible rfl
  simp only [Act.put, List.setIfInBounds_toArray, List.set_cons_zero, List.set_cons_succ]
  refine take_at (i := 4) 12 (.agg #[.int .i64 f, .slice sa (M + 1) sc, .int .i64 most]) rfl rfl (by kernel_rfl) (by kernel_rfl) (by kernel_rfl) (fun _ _ _ h => h) (yields_ld (.tmp 2) 37 (.pointer (some ⟨w.heap.size, 0, none⟩)) _ (fun W hS => LD.out W hS) rfl rfl rfl) BV.out ?_
  simp only [Act.put, List.setIfInBounds_toArray, List.set_cons_zero, List.set_cons_succ]
  refine take_at (i := 6) 14 ?_ rfl rfl (by kernel_rfl) (by kernel_rfl) (by kernel_rfl) (fun _ _ _ h => h) (.inl ⟨rfl, ?_⟩) BV.out ?_
  rotate_left 1
  · intro w hSw; go_simp; try with_reducible rfl
  simp only [Act.put, List.setIfInBounds_toArray, List.set_cons_zero, List.set_cons_succ]
  refine take_at (i := 7) 15 ?_ rfl rfl (by kernel_rfl) (by kernel_rfl) (by kernel_rfl) (fun _ _ _ h => h) (.inl ⟨rfl, ?_⟩) BV.out ?_
  rotate_left 1
  · intro w hSw; go_simp; try with_reducible rfl
  simp only [Act.put, List.setIfInBounds_toArray, List.set_cons_zero, List.set_cons_succ]
  refine take_at (i := 10) 18 ?_ rfl rfl (by kernel_rfl) (by kernel_rfl) (by kernel_rfl) (fun _ _ _ h => h) (.inl ⟨rfl, ?_⟩) BV.out ?_
  rotate_left 1
  · intro w hSw; go_simp; try with_reducible rfl
  simp only [Act.put, List.setIfInBounds_toArray, List.set_cons_zero, List.set_cons_succ]
  refine take_at (i := 11) 19 (.int .i64 most) rfl rfl (by kernel_rfl) (by kernel_rfl) (by kernel_rfl) (fun _ _ _ h => h) (yields_ld (.tmp 18) 3 (.pointer (some ⟨w.heap.size, 2, none⟩)) _ (fun W hS => LM2.out W hS) rfl rfl rfl) BV.out ?_
  simp only [Act.put, List.setIfInBounds_toArray, List.set_cons_zero, List.set_cons_succ]
  refine wpAnyH_ready (rs := [5]) (by kernel_rfl) (by simp) (br_call (i := 5) 13 26 #[.agg #[.int .i64 f, .slice sa (M + 1) sc, .int .i64 most]] rfl rfl rfl (by go_simp) ((RL.out _ BV.out).mono ?_) AllReadyH.nil)
  rintro e v2 ⟨rfl, hb⟩
  have BV := Lib.hid (BV.out.trans (hb.mono BV.out.size))
  clear hb
  refine ⟨_, rfl, BV.out, fun _ => ?_⟩
  simp only [Act.put, List.setIfInBounds_toArray, List.set_cons_zero, List.set_cons_succ]
  refine take_at (i := 8) 16 ?_ rfl rfl (by kernel_rfl) (by kernel_rfl) (by kernel_rfl) (fun _ _ _ h => h) (.inl ⟨rfl, ?_⟩) BV.out ?_
  rotate_left 1
  · intro w hSw; go_simp; try with_reducible rfl
  simp only [Act.put, List.setIfInBounds_toArray, List.set_cons_zero, List.set_cons_succ]
  refine take_at (i := 9) 17 ?_ rfl rfl (by kernel_rfl) (by kernel_rfl) (by kernel_rfl) (fun _ _ _ h => h) (.inl ⟨rfl, ?_⟩) BV.out ?_
  rotate_left 1
  · intro w hSw; go_simp; try with_reducible rfl
  simp only [Act.put, List.setIfInBounds_toArray, List.set_cons_zero, List.set_cons_succ]
  refine take_at (i := 12) 20 ?_ rfl rfl (by kernel_rfl) (by kernel_rfl) (by kernel_rfl) (fun _ _ _ h => h) (.inl ⟨rfl, ?_⟩) BV.out ?_
  rotate_left 1
  · intro w hSw; go_simp; try with_reducible rfl
  simp only [Act.put, List.setIfInBounds_toArray, List.set_cons_zero, List.set_cons_succ]
  refine take_at (i := 13) 21 ?_ rfl rfl (by kernel_rfl) (by kernel_rfl) (by kernel_rfl) (fun _ _ _ h => h) (.inl ⟨rfl, ?_⟩) BV.out ?_
  rotate_left 1
  · intro w hSw; go_simp; try with_reducible rfl
  simp only [Act.put, List.setIfInBounds_toArray, List.set_cons_zero, List.set_cons_succ]
  refine wpAnyH_done (by kernel_rfl) ?_ _
  have BA := Lib.hid (B2.out.trans (BV.out.mono B2.out.size))
  have NL := Lib.hid ((BV.out.block _ (lt_of_block N1.out)).trans N1.out)
  have NR := Lib.hid ((BV.out.block _ (lt_of_block N2.out)).trans N2.out)
  have R1 := Lib.hid (R2.out.step BV.out)
  have BM := Lib.hid (show M ≤ 1001 ∧ L.length ≤ 100000 from ⟨by have := HB.out.1; omega, by have := len_cat L; have := HB.out.2.1; omega⟩)
  clear BV RL LM2 LD
  have HRB := Lib.hid HR.out.bel.size
  have LDR := Lib.hid (ld37 NL.out)
  have RR := Lib.hid (rroll_any w0 v2 f most (.slice sa (M + 1) sc) ss Ss R1.out (by rw [HM.out]; have := HB.out.1; omega))
  go_wp2_with (refine wpList_load_arr rfl (.tmp 2) 37 rfl (.pointer (some ⟨w.heap.size, 0, none⟩)) (.agg #[.int .i64 f, .slice sa (M + 1) sc, .int .i64 most]) rfl LDR.out ?_)
  refine RR.out.mono ?_
  rintro e w6 ⟨sv6, ss1, rfl, hr6, hb6⟩
  obtain ⟨M1, hM1⟩ : ∃ z, M + 1 = z := ⟨_, rfl⟩
  obtain ⟨Ss1, hSs⟩ : ∃ z, Ss ++ [[]] = z := ⟨_, rfl⟩
  rw [hSs] at hr6
  have HM1 := Lib.hid (show Ss1.length = M1 + 1 from by rw [← hSs, List.length_append, HM.out, hM1]; rfl)
  have HL1 := Lib.hid (show Ss1[M1]? = some [] from by rw [← hSs, ← hM1, List.getElem?_append_right (by rw [HM.out]; exact Nat.le_refl _), HM.out, Nat.sub_self]; rfl)
  have EQ := Lib.hid (show Ss1.take M1 ++ [[] ++ [b]] = Ss ++ [[b]] from by rw [← hSs, ← hM1, List.take_left' HM.out]; rfl)
  obtain ⟨sa1, sc1, rfl⟩ := hr6.shapeN HM1.out
  have NL6 := Lib.hid ((hb6.block _ (lt_of_block NL.out)).trans NL.out)
  have NR6 := Lib.hid ((hb6.block _ (lt_of_block NR.out)).trans NR.out)
  have ST6 := Lib.hid (st37 (f := f) (m := most) (a := sa1) (n := M1 + 1) (c := sc1) NL6.out)
  have F6 := far_set3 w6 w.heap.size (.int .i64 f) (.slice sa1 (M1 + 1) sc1) (.int .i64 most)
  have NLs := Lib.hid (row_set3 (a := .int .i64 f) (b := .slice sa1 (M1 + 1) sc1) (c := .int .i64 most) NL6.out)
  have NRs := Lib.hid ((F6.block _ (lt_of_block NR6.out) (by omega)).trans NR6.out)
  have Rs := Lib.hid (hr6.far F6 (fun k cs hk e => by rw [e] at hk; exact blk_ne hk NL6.out (by decide) rfl) (fun k cs hk e => by rw [e] at hk; exact blk_ne hk NL6.out (by decide) rfl) (fun k e => by rw [e]; exact HRB.out))
  have Bs := Lib.hid (((BA.out.trans (hb6.mono BA.out.size))).trans (F6.below (Nat.le_trans BA.out.size hb6.size) (fun k e => by rw [e]; exact Nat.le_refl _)))
  have BMs := Lib.hid (show M1 ≤ 1001 ∧ ([] : List (List Nat)).length ≤ 100000 from ⟨by have := BM.out.1; have := HB.out.1; omega, by simp⟩)
  clear hr6 hb6 RR LDR F6 hSs hM1 BA NL NR R1 BM NL6 NR6
  go_upto_region 3 with (refine wpList_store_arr rfl (.tmp 2) (.tmp 23) 37 rfl (.pointer (some ⟨w.heap.size, 0, none⟩)) (.agg #[.int .i64 f, .slice sa1 (M1 + 1) sc1, .int .i64 most]) rfl rfl _ ST6.out ?_)
  clear ST6
  generalize set3 w6 w.heap.size (.int .i64 f) (.slice sa1 (M1 + 1) sc1) (.int .i64 most) = WA at *
  have NL := NLs
  have NR := NRs
  have R1 := Rs
  have BA := Bs
  have BM := BMs
  clear NLs NRs Rs Bs BMs HL HM
  have E1 := Lib.hid (show ss1.length = M1 + 1 from by rw [R1.out.len]; exact HM1.out)
  have BB := Lib.hid (vstep WA (.cells #[.int .i64 f, .slice none 0 0, .int .i64 most] 37))
  have NB := Lib.hid (heap_alloc_new WA (.cells #[.int .i64 f, .slice none 0 0, .int .i64 most] 37))
  have ZB := Lib.hid (show (WA.alloc (.cells #[.int .i64 f, .slice none 0 0, .int .i64 most] 37)).heap.size = WA.heap.size + 1 from by simp)
  obtain ⟨WB, hWB⟩ : ∃ z, WA.alloc (.cells #[.int .i64 f, .slice none 0 0, .int .i64 most] 37) = z := ⟨_, rfl⟩
  rw [hWB] at BB NB ZB
  have HWB := Lib.hid hWB
  obtain ⟨mB, hmB⟩ : ∃ z, WA.heap.size = z := ⟨_, rfl⟩
  have HMB := Lib.hid hmB
  have A0 := Lib.hid (show RA w0 w WB w.heap.size mB WB.heap.size f most (.slice sa1 (M1 + 1) sc1) ss1 Ss1 (.slice none 0 0) 0 [] from
    ⟨(BB.out.block _ (lt_of_block NL.out)).trans NL.out, (BB.out.block _ (lt_of_block NR.out)).trans NR.out, by rw [← hmB]; exact NB.out, World.ownsRow_nil _ _ _ _, R1.out.step BB.out, fun u hu k e => Nat.lt_of_lt_of_le (R1.out.own hu e).1 BB.out.size, fun k e => Nat.lt_of_lt_of_le (R1.out.lt e).1 BB.out.size, BA.out.trans (BB.out.mono BA.out.size), ⟨Nat.le_refl _, by have := lt_of_block NR.out; omega, by have := ZB.out; omega, HR.out.bel.size⟩, Nat.le_refl _⟩)
  have SLI := Lib.hid (show M1 + 1 ≤ sc1 ∧ sc1 ≤ maxLen from by obtain ⟨a, c, e, h1, h2, _⟩ := R1.out.row; injection e with _ e1 e2; subst e2; have := E1.out; omega)
  have SLH := fun W => slh35 W sa1 (M1 + 1) sc1 M1 (by have := SLI.out.1; omega) SLI.out.2
  have ca0 : WA.cell? ⟨w.heap.size, 0, none⟩ = some (.int .i64 f) := (cell_of_row _ _ _ _ _ _ NL.out).trans rfl
  have ca2 : WA.cell? ⟨w.heap.size, 2, none⟩ = some (.int .i64 most) := (cell_of_row _ _ _ _ _ _ NL.out).trans rfl
  have cb1 : WB.cell? ⟨w.heap.size, 1, none⟩ = some (.slice sa1 (M1 + 1) sc1) := (cell_of_row _ _ _ _ _ _ A0.out.nl).trans rfl
  have co1 : WB.cell? ⟨mB, 1, none⟩ = some (.slice none 0 0) := (cell_of_row _ _ _ _ _ _ A0.out.no).trans rfl
  have hwm : wrap64 (((M1 + 1 : Nat) : Int) - 1) = (M1 : Int) := by have := BM.out.1; unfold wrap64; omega
  have hwm2 : wrap64 ((M1 : Int) + 1 - 1) = (M1 : Int) := by have := BM.out.1; unfold wrap64; omega
  have hwm3 : wrap64 (M1 : Int) = (M1 : Int) := by have := BM.out.1; unfold wrap64; omega
  have SVS := Lib.hid (fun u (hu : u ∈ ss1) => R1.out.slice u hu)
  clear hWB hmB SLH
  go_upto_region 4 with (fail)
  rw [HWB.out, HMB.out]
  go_upto_region 5 with (fail)
  have SLH := fun W => slh35 W sa1 (M1 + 1) sc1 M1 (by have := SLI.out.1; omega) SLI.out.2
  rw [hwm3]
  clear ca0 ca2 hwm hwm2 hwm3
  have SR5 := Lib.hid (show ∀ W, Below WB.heap.size WB W → Src Tryz.prog 1 35 (.slice sa1 M1 sc1) M1 (ss1.take M1) W from fun W hW => by
    have h1 := (A0.out.rl.step hW).row.take (j := M1) (by omega)
    have h2 := liesV_src Tryz.u35 h1 (fun u hu => SVS.out u (List.mem_of_mem_take hu))
    rwa [List.length_take, E1.out, Nat.min_eq_left (by omega)] at h2)
  obtain ⟨i0, hi9, hz0, hz1, hz2⟩ := info_parts info30
  go_region_law (refine step_append_src_own rfl (.tmp 34) (.tmp 38) 35 35 rfl WB.heap.size 30 i0 (.slice none 0 0) 1 24 Tryz.u35 hi9 hz0 hz1 hz2 rfl (by decide) (.slice none 0 0) 0 [] rfl (World.ownsRow_nil _ _ _ _) (.slice sa1 M1 sc1) M1 (ss1.take M1) rfl (SR5.out _ (by first | exact Below.refl _ _ | exact (Below.refl _ _).drew)) (by have := BM.out.1; unfold maxLen; omega) (by have := BM.out.1; omega) (by first | exact Nat.le_refl _ | simp) ?_; intro v4 w4 hown hgr hsp; rw [Nat.zero_add, List.nil_append] at hown; have A4 := Lib.hid ((A0.out.step (W' := _) (by first | exact Below.refl _ _ | exact (Below.refl _ _).drew)).app hgr hown); obtain ⟨va4, vc4, rfl⟩ := own_shapeK hown; have d1 := (cell_of_row (j := 1) _ _ _ _ _ A4.out.1).trans (show (#[Value.int .i64 f, .slice none 0 0, .int .i64 most] : Array Value)[1]? = some (.slice none 0 0) from rfl); have e1 := frozen_of_row (j := 1) _ _ _ _ A4.out.1; clear hown hgr hsp)
  all_goals
    obtain ⟨W5, hW5⟩ : ∃ z, w4.setCell ⟨mB, 1, none⟩ (.slice va4 M1 vc4) = z := ⟨_, rfl⟩
    have A5 := Lib.hid A4.out.2
    rw [hW5] at A5
    rw [hW5]
    clear hW5 d1 e1 A4 cb1 co1 SLH
    obtain ⟨g, o, u1, hsa, hu1, hg1, a0⟩ := A5.out.rl.row.at' (i := M1) (by omega)
    obtain ⟨vs, r1, l2, e2⟩ := A5.out.rl.each M1 u1 [] hu1 HL1.out
    have cu : W5.cell? ⟨g, o + M1, none⟩ = some u1 := by simpa using a0 0 u1 rfl
    obtain ⟨ua, uc, hv⟩ := own_shapeK r1
    have SR7 := Lib.hid (liesV_src (by kernel_rfl : Tryz.prog.underlying 30 = some (.slice 39)) (own_liesK (enc := enV) (fun _ => rfl) (by rw [flat_enV]; exact r1)) (fun x hx => by
      obtain ⟨j, hj⟩ := List.mem_iff_getElem?.1 hx
      obtain ⟨b', hb⟩ : ∃ b', [][j]? = some b' := ⟨_, List.getElem?_eq_getElem (by rw [← l2]; exact (List.getElem?_eq_some_iff.1 hj).1)⟩
      obtain ⟨a, c, e⟩ := Rc.lies_shape (e2 j x b' hj hb)
      exact ⟨a, _, c, e⟩))
    have VB := Lib.hid (show vs.length ≤ 100000 from by rw [l2]; exact BM.out.2)
    have E2 := Lib.hid (And.intro l2 e2)
    have cb5 : W5.cell? ⟨w.heap.size, 1, none⟩ = some (.slice sa1 (M1 + 1) sc1) := (cell_of_row _ _ _ _ _ _ A5.out.nl).trans rfl
    rw [hv] at cu SR7
    rw [hsa] at cb5
    obtain ⟨i1, hj9, hy0, hy1, hy2⟩ := info_parts info39
    have hM1 : M1 ≤ 1001 := BM.out.1
    clear r1 l2 e2 a0 hg1 hu1 hv hsa
    go_upto_region 8 with (at_builtin; go_loud (refine wpList_append_src_own rfl (.tmp 41) (.tmp 46) 30 30 rfl WB.heap.size 39 i1 (.slice none 0 0) 1 24 (by kernel_rfl) hj9 hy0 hy1 hy2 rfl (by decide) (.slice none 0 0) 0 [] rfl (World.ownsRow_nil _ _ _ _) (.slice ua vs.length uc) vs.length vs rfl SR7.out (by have := VB.out; unfold maxLen; omega) (by have := VB.out; omega) A5.out.sz ?_; intro v8 w8 hown hgr hsp; rw [Nat.zero_add, List.nil_append] at hown; have A8 := Lib.hid (A5.out.grown hgr (fun k e => by cases e)); have R8 := Lib.hid hown; obtain ⟨va8, vc8, rfl⟩ := own_shapeK hown; clear hown hgr hsp))
    have HX := Lib.hid (heap_alloc_new w8 (.cells #[.slice va b.length vc] 39))
    have OX := Lib.hid (own_belowK R8.out (vstep w8 (.cells #[.slice va b.length vc] 39)))
    have AX := Lib.hid (A8.out.step (vstep w8 (.cells #[.slice va b.length vc] 39)))
    clear cu cb5
    go_upto_region 9 with (at_builtin; go_loud (refine wpList_pushVo rfl (.tmp 48) (.tmp 50) rfl WB.heap.size _ vs (.slice va b.length vc) w8.heap.size rfl rfl HX.out rfl OX.out VB.out AX.out.sz ?_; intro v9 w9 hown hgr; have A9 := Lib.hid (AX.out.grown hgr (fun k e => own39E OX.out e)); have R9 := Lib.hid hown; obtain ⟨va9, vc9, rfl⟩ := own_shapeK hown; clear hown hgr))
    have BX := Lib.hid (vstep w9 (.cells #[.slice va9 (vs.length + 1) vc9] 30))
    have NX := Lib.hid (heap_alloc_new w9 (.cells #[.slice va9 (vs.length + 1) vc9] 30))
    obtain ⟨WX, hWX⟩ : ∃ z, w9.alloc (.cells #[.slice va9 (vs.length + 1) vc9] 30) = z := ⟨_, rfl⟩
    rw [hWX] at BX NX
    have HWX := Lib.hid hWX
    have AY := Lib.hid (A9.out.step BX.out)
    have RY := Lib.hid (own_belowK R9.out BX.out)
    have SRX := Lib.hid (src_one NX.out rfl)
    have cm9 : w9.cell? ⟨mB, 1, none⟩ = some (.slice va4 M1 vc4) := (cell_of_row _ _ _ _ _ _ A9.out.no).trans rfl
    clear hWX A8 R8 HX OX AX A5
    go_upto_region 10 with (at_builtin; rw [HWX.out]; go_loud (refine wpList_append_src_own rfl (.tmp 53) (.tmp 55) 35 35 rfl WB.heap.size 30 i0 (.slice none 0 0) 1 24 Tryz.u35 hi9 hz0 hz1 hz2 rfl (by decide) (.slice va4 M1 vc4) M1 (ss1.take M1) rfl AY.out.row (.slice (some ⟨w9.heap.size, 0, none⟩) 1 1) 1 [.slice va9 (vs.length + 1) vc9] rfl SRX.out (by have := BM.out.1; unfold maxLen; omega) (by have := BM.out.1; omega) AY.out.sz ?_; intro v10 w10 hown hgr hsp; have A10 := Lib.hid (AY.out.app hgr hown); have R10 := Lib.hid (show w10.ownsRow WB.heap.size 39 1 (.slice va9 (vs.length + 1) vc9) (vs.length + 1) (vs ++ [.slice va b.length vc]) from AY.out.keep39 hgr RY.out); obtain ⟨va10, vc10, rfl⟩ := own_shapeK hown; have d10 := (cell_of_row (j := 1) _ _ _ _ _ A10.out.1).trans (show (#[Value.int .i64 f, .slice va4 M1 vc4, .int .i64 most] : Array Value)[1]? = some (.slice va4 M1 vc4) from rfl); have e10 := frozen_of_row (j := 1) _ _ _ _ A10.out.1; clear hown hgr hsp))
    obtain ⟨W11, hW11⟩ : ∃ z, w10.setCell ⟨mB, 1, none⟩ (.slice va10 (M1 + 1) vc10) = z := ⟨_, rfl⟩
    have A11 := Lib.hid A10.out.2
    have R11 := Lib.hid (show W11.ownsRow WB.heap.size 39 1 (.slice va9 (vs.length + 1) vc9) (vs.length + 1) (vs ++ [.slice va b.length vc]) from row_at R10.out (fun k e => by
      rw [← hW11]
      exact Below.heap_setCell w10 ⟨mB, 1, none⟩ (.slice va10 (M1 + 1) vc10) k (fun e2 => by
        have e2 : k = mB := e2
        have := (R10.out.lt k e).1
        have := A11.out.lm
        omega)))
    rw [hW11] at A11
    rw [hW11]
    clear hW11 d10 e10 cm9 A10 R10 AY RY A9 R9 BX NX SRX
    have LD := Lib.hid (ld37 A11.out.no)
    have ST := Lib.hid (st37 (f := f) (m := most) (a := va10) (n := M1 + 1) (c := vc10) A11.out.nr)
    go_wp2_with (first
      | (refine wpList_load_arr rfl (.tmp 5) 37 rfl (.pointer (some ⟨mB, 0, none⟩)) (.agg #[.int .i64 f, .slice va10 (M1 + 1) vc10, .int .i64 most]) rfl LD.out ?_)
      | (refine wpList_store_arr rfl (.tmp 4) (.tmp 58) 37 rfl (.pointer (some ⟨w.heap.size + 1, 0, none⟩)) (.agg #[.int .i64 f, .slice va10 (M1 + 1) vc10, .int .i64 most]) rfl rfl _ ST.out ?_))
    have M9 := row_set3 (a := .int .i64 f) (b := .slice va10 (M1 + 1) vc10) (c := .int .i64 most) A11.out.nr
    have FIN := A11.out.fin (L := [] ++ [b]) (vs := vs ++ [.slice va b.length vc]) (by have := E1.out; omega) (by rw [List.length_append]; exact R11.out) (by rw [List.length_append, List.length_append, E2.out.1]; rfl) (fun j x y hx hy => by
      by_cases hj : j < vs.length
      · rw [List.getElem?_append_left hj] at hx
        rw [List.getElem?_append_left (by rw [← E2.out.1]; exact hj)] at hy
        exact E2.out.2 j x y hx hy
      · have hj2 : j = vs.length := by
          have := (List.getElem?_eq_some_iff.1 hx).1
          simp at this
          omega
        subst hj2
        rw [List.getElem?_append_right (Nat.le_refl _), Nat.sub_self] at hx
        rw [E2.out.1, List.getElem?_append_right (Nat.le_refl _), Nat.sub_self] at hy
        have hx : Value.slice va b.length vc = x := by simpa using hx
        have hy : b = y := by simpa using hy
        subst hx hy
        exact LV.out)
    generalize set3 W11 (w.heap.size + 1) (.int .i64 f) (.slice va10 (M1 + 1) vc10) (.int .i64 most) = W9 at *
    have c0 : W9.cell? ⟨w.heap.size + 1, 0, none⟩ = some (.int .i64 f) := (cell_of_row _ _ _ _ _ _ M9).trans rfl
    have c1 : W9.cell? ⟨w.heap.size + 1, 1, none⟩ = some (.slice va10 (M1 + 1) vc10) := (cell_of_row _ _ _ _ _ _ M9).trans rfl
    have c2 : W9.cell? ⟨w.heap.size + 1, 2, none⟩ = some (.int .i64 most) := (cell_of_row _ _ _ _ _ _ M9).trans rfl
    refine bodyPost_ret (v := .agg #[.int .i64 f, .slice va10 (M1 + 1) vc10, .int .i64 most]) (by simp [results, Tryz.results15, go_sem, c0, c1, c2]; try rfl) rfl ?_
    first
      | exact ⟨⟨_, rfl, _, (by rw [← EQ.out]; exact FIN.1)⟩, FIN.2⟩
      | exact ⟨_, _, rfl, (by rw [← EQ.out]; exact FIN.1), FIN.2⟩
      | exact ⟨_, rfl, ⟨_, (by rw [← EQ.out]; exact FIN.1)⟩, FIN.2⟩
theorem rapp_any (w0 w : World) (f most : Int) (sv : Value) (ss : List Value) (Ss : List (List (List Nat))) (L : List (List Nat)) (M : Nat) (h : RLog w0 w sv ss Ss) (hM : Ss.length = M + 1) (hL : Ss[M]? = some L) (hs : M ≤ 900) (hc : (cat L).length ≤ 100000) (v : Value) (b : List Nat) (hv : Rc.Lies w0 v b) (hb : b.length ≤ 1000) :
    Calls Tryz.prog 15 #[.agg #[.int .i64 f, sv, .int .i64 most], v] w fun e w' => ∃ sv' ss', e = .returned (.agg #[.int .i64 f, sv', .int .i64 most]) ∧ RLog w0 w' sv' ss' (appS most M L Ss b) ∧ Below w.heap.size w w' := by
  unfold appS
  by_cases hfit : (cat L).length = 0 ∨ (((cat L).length : Nat) : Int) + ((b.length + 8 : Nat) : Int) ≤ most
  · rw [if_pos hfit]
    exact rapp_fit w0 w f most sv ss Ss L M h hM hL hs hc v b hv hb hfit
  · rw [if_neg hfit]
    exact rapp_roll w0 w f most sv ss Ss L M h hM hL hs hc v b hv hb ⟨by omega, by omega⟩
end Go.Proofs.YtgbihpfpiaacfaaGreatDoor

set_option linter.unusedVariables false
set_option linter.unusedSimpArgs false
set_option maxRecDepth 100000
namespace Go.Proofs.YtgbihpfpiaacfaaGreatDoor
open Go.RowKit Go.Shelf Go.WideMaps Go.Maps

theorem low35 (W : World) (g o L c : Nat) (h1 : 1 ≤ L) (hL : L ≤ c) (hc : 1 < c) (hm : c ≤ maxLen) : (Instr.sliceAt 35 (.slice (some ⟨g, o, none⟩) L c) (some (.int .i64 1)) none none).run Tryz.prog W = .ok (.slice (some ⟨g, o + 1, none⟩) (L - 1) (c - 1)) W := by
  have hne : ¬ (c = 1) := by omega
  have hLm : L ≤ 9223372036854775807 := by unfold maxLen at hm; omega
  have hcm : c ≤ 9223372036854775807 := by unfold maxLen at hm; omega
  go_simp
  intro hx
  exfalso
  omega
theorem RLog.tail {w0 W : World} {g o n c : Nat} {u : Value} {ss : List Value} {L : List (List Nat)} {Ss : List (List (List Nat))} (h : RLog w0 W (.slice (some ⟨g, o, none⟩) n c) (u :: ss) (L :: Ss)) : RLog w0 W (.slice (some ⟨g, o + 1, none⟩) (n - 1) (c - 1)) ss Ss := by
  obtain ⟨ao, cap, e, hn, hm, h0, hc⟩ := h.row
  injection e with e1 e2 e3
  subst e1 e3
  rw [List.length_cons] at hn e2
  refine ⟨⟨_, c - 1, by rw [e2, Nat.add_sub_cancel], by omega, by omega, (fun h => by cases h), fun b hb hne => ?_⟩, ?_, by have := h.len; simpa using this, fun i x y hx hy => h.each (i + 1) x y (by simpa using hx) (by simpa using hy), h.bel⟩
  · injection hb with hb
    subst hb
    obtain ⟨g', o', e, hg, hcc⟩ := hc _ rfl (by simp)
    injection e with e1 e2 _
    subst e1 e2
    refine ⟨g, o + 1, rfl, hg, fun j p hj i x hx => ?_⟩
    have := hcc (j + 1) p (by simpa using hj) i x hx
    rwa [show o + (j + 1) * 1 + i = o + 1 + j * 1 + i from by omega] at this
  · obtain ⟨g', o', n', c', cs, e, hg, hk⟩ := h.typ
    injection e with e _ _
    injection e with e
    injection e with e1 e2 _
    subst e1
    exact ⟨g, o + 1, _, _, cs, rfl, hg, hk⟩
theorem RLog.caps {w0 W : World} {g o n c : Nat} {ss : List Value} {Ss : List (List (List Nat))} (h : RLog w0 W (.slice (some ⟨g, o, none⟩) n c) ss Ss) : n ≤ c ∧ c ≤ maxLen ∧ n = Ss.length := by
  obtain ⟨ao, cap, e, hn, hm, _, _⟩ := h.row
  injection e with e1 e2 e3
  subst e2 e3
  exact ⟨hn, hm, h.len⟩
/-- What stands between two rounds of Drop. -/
structure DR (w0 w W : World) (f : Nat) (most : Int) (M : Nat) (ss : List Value) (Ss : List (List (List Nat))) (j : Nat) (sj : Option Addr) (cj : Nat) : Prop where
  nl : W.heap[w.heap.size]? = some (.cells #[.int .i64 ((f + j : Nat) : Int), .slice sj (M + 1 - j) cj, .int .i64 most] 37 (0, 0))
  nr : W.heap[w.heap.size + 1]? = some (.cells #[.int .i64 0, .slice none 0 0, .int .i64 0] 37 (0, 0))
  rl : RLog w0 W (.slice sj (M + 1 - j) cj) (ss.drop j) (Ss.drop j)
  bel : Below w.heap.size w W
theorem DR.next {w0 w W : World} {f : Nat} {most : Int} {M : Nat} {ss : List Value} {Ss : List (List (List Nat))} {j g o cj : Nat} (h : DR w0 w W f most M ss Ss j (some ⟨g, o, none⟩) cj) (hj : j < M) (hM : Ss.length = M + 1) (hs : ss.length = Ss.length) (hw : w0.heap.size ≤ w.heap.size) :
    DR w0 w (set3 W w.heap.size (.int .i64 ((f : Int) + (j : Int) + 1)) (.slice (some ⟨g, o + 1, none⟩) (M + 1 - j - 1) (cj - 1)) (.int .i64 most)).drew f most M ss Ss (j + 1) (some ⟨g, o + 1, none⟩) (cj - 1) := by
  have hf := far_set3 W w.heap.size (.int .i64 ((f : Int) + (j : Int) + 1)) (.slice (some ⟨g, o + 1, none⟩) (M + 1 - j - 1) (cj - 1)) (.int .i64 most)
  have X := row_set3 (a := .int .i64 ((f : Int) + (j : Int) + 1)) (b := .slice (some ⟨g, o + 1, none⟩) (M + 1 - j - 1) (cj - 1)) (c := .int .i64 most) h.nl
  have e1 : ss.drop j = ss[j]'(by omega) :: ss.drop (j + 1) := List.drop_eq_getElem_cons (by omega)
  have e2 : Ss.drop j = Ss[j]'(by omega) :: Ss.drop (j + 1) := List.drop_eq_getElem_cons (by omega)
  have hr := h.rl
  rw [e1, e2] at hr
  have R := (hr.tail).far hf (fun k cs hk e => by rw [e] at hk; exact blk_ne hk h.nl (by decide) rfl) (fun k cs hk e => by rw [e] at hk; exact blk_ne hk h.nl (by decide) rfl) (fun k e => by rw [e]; exact hw)
  have hb := h.bel.trans (hf.below h.bel.size (fun k e => by rw [e]; exact Nat.le_refl _))
  exact ⟨X, (hf.block _ (lt_of_block h.nr) (by omega)).trans h.nr, R.step (Below.refl _ _).drew, hb.trans ((Below.refl _ _).drew.mono hb.size)⟩
def firstL (l : Nat) (W : World) : Nat := match W.cell? ⟨l, 0, none⟩ with
  | some (.int _ x) => x.toNat
  | _ => 0
set_option maxHeartbeats 6400000 in
theorem rdrop_any (w0 w : World) (f : Nat) (most : Int) (sv : Value) (ss : List Value) (Ss : List (List (List Nat))) (M : Nat) (h : RLog w0 w sv ss Ss) (hM : Ss.length = M + 1) (hs : f + M ≤ 1000) (n : Int) (k : Nat) (hk : k ≤ M) (hk1 : k = 0 ∨ ((f + k : Nat) : Int) ≤ n) (hk2 : k = M ∨ n ≤ ((f + k : Nat) : Int)) :
    Calls Tryz.prog 19 #[.agg #[.int .i64 (f : Int), sv, .int .i64 most], .int .i64 n] w fun e w' => ∃ sv' ss', e = .returned (.agg #[.int .i64 ((f + k : Nat) : Int), sv', .int .i64 most]) ∧ RLog w0 w' sv' ss' (Ss.drop k) ∧ Below w.heap.size w w' := by
  have hs0 := h.len
  obtain ⟨sa, sc, rfl⟩ := h.shapeN hM
  have HR := Lib.hid h
  have b1 := vstep w (.cells #[.int .i64 (f : Int), .slice sa (M + 1) sc, .int .i64 most] 37)
  have b2 := vstep (w.alloc (.cells #[.int .i64 (f : Int), .slice sa (M + 1) sc, .int .i64 most] 37)) (.cells #[.int .i64 0, .slice none 0 0, .int .i64 0] 37)
  have n1 := heap_alloc_new w (.cells #[.int .i64 (f : Int), .slice sa (M + 1) sc, .int .i64 most] 37)
  have n2 := heap_alloc_new (w.alloc (.cells #[.int .i64 (f : Int), .slice sa (M + 1) sc, .int .i64 most] 37)) (.cells #[.int .i64 0, .slice none 0 0, .int .i64 0] 37)
  have n1 := (b2.block _ (lt_of_block n1)).trans n1
  rw [World.size_alloc] at n2
  have B2 := Lib.hid (b1.trans (b2.mono b1.size))
  obtain ⟨W2, hW2⟩ : ∃ z, (w.alloc (.cells #[.int .i64 (f : Int), .slice sa (M + 1) sc, .int .i64 most] 37)).alloc (.cells #[.int .i64 0, .slice none 0 0, .int .i64 0] 37) = z := ⟨_, rfl⟩
  rw [hW2] at n1 n2 B2
  have HW := Lib.hid hW2
  have I0 := Lib.hid (show DR w0 w W2 f most M ss Ss 0 sa sc from ⟨n1, n2, by simpa using HR.out.step B2.out, B2.out⟩)
  have HK := Lib.hid (And.intro hs (And.intro hk (And.intro hk1 hk2)))
  have HM := Lib.hid (And.intro hM hs0)
  clear b1 b2 n1 n2 hW2 h hM hs hk hk1 hk2 hs0
  go_enter Tryz.func19, Tryz.ntmps19
  go_upto_region 1 with (fail)
  go_wp2_with fail
  rw [HW.out]
  go_loopw [5] (fun _ wr => ∃ (j : Nat) (sj : Option Addr) (cj : Nat), j ≤ k ∧ Hid (DR w0 w wr f most M ss Ss j sj cj)) (fun _ wr => f + k - firstL w.heap.size wr)
  case atStart => exact ⟨0, sa, sc, Nat.zero_le _, I0⟩
  case round =>
    obtain ⟨j, sj, cj, hj, hD⟩ := hrel
    have DD := Lib.hid hD.out
    have c0 : wr.cell? ⟨w.heap.size, 0, none⟩ = some (.int .i64 ((f + j : Nat) : Int)) := (cell_of_row _ _ _ _ _ _ hD.out.nl).trans rfl
    have c1 : wr.cell? ⟨w.heap.size, 1, none⟩ = some (.slice sj (M + 1 - j) cj) := (cell_of_row _ _ _ _ _ _ hD.out.nl).trans rfl
    have c2 : wr.cell? ⟨w.heap.size, 2, none⟩ = some (.int .i64 most) := (cell_of_row _ _ _ _ _ _ hD.out.nl).trans rfl
    have FO := Lib.hid (show firstL w.heap.size wr = f + j from by unfold firstL; rw [c0]; exact Int.toNat_natCast _)
    clear hD I0
    by_cases hjk : j < k
    · have HJ := Lib.hid (And.intro hj hjk)
      obtain ⟨g, o, nn, cc, cs, e, hg, hh⟩ := DD.out.rl.typ
      injection e with e1 e2 e3
      subst e1 e2 e3
      have CAP := Lib.hid DD.out.rl.caps
      have g1 : ((f + j : Nat) : Int) < n := by have := HK.out.2.2.1; omega
      have g2 : (1 : Int) < ((M + 1 - j : Nat) : Int) := by have := HK.out.2.1; omega
      have d1 : decide (((f + j : Nat) : Int) < n) = true := by simpa using g1
      have LO := fun W => low35 W g o (M + 1 - j) cj (by have := HK.out.2.1; have := HJ.out.2; omega) CAP.out.1 (by have := CAP.out.1; have := HK.out.2.1; have := HJ.out.2; omega) CAP.out.2.1
      have hw1 : wrap64 ((f : Int) + (j : Int) + 1) = (f : Int) + (j : Int) + 1 := by have := HK.out.1; have := HK.out.2.1; have := HJ.out.2; unfold wrap64; omega
      have f0 := frozen_of_row (j := 0) _ _ _ _ DD.out.nl
      have f1 := frozen_of_row (j := 1) _ _ _ _ DD.out.nl
      have f2 := frozen_of_row (j := 2) _ _ _ _ DD.out.nl
      clear hg hh
      go_wp2_with fail
      go_region
      rw [hw1]
      have DN := Lib.hid (DD.out.next (by have := HK.out.2.1; have := HJ.out.2; omega) HM.out.1 HM.out.2 HR.out.bel.size)
      unfold set3 at DN
      have FN := Lib.hid (show firstL w.heap.size ((((wr.setCell ⟨w.heap.size, 0, none⟩ (.int .i64 ((f : Int) + (j : Int) + 1))).setCell ⟨w.heap.size, 1, none⟩ (.slice (some ⟨g, o + 1, none⟩) (M + 1 - j - 1) (cj - 1))).setCell ⟨w.heap.size, 2, none⟩ (.int .i64 most)).drew) = f + (j + 1) from by
        unfold firstL
        rw [(cell_of_row _ _ _ _ _ _ DN.out.nl).trans rfl]
        exact Int.toNat_natCast _)
      go_roundw
      case rel => first | exact ⟨j + 1, _, _, HJ.out.2, DN⟩ | ((repeat apply Exists.intro); exact ⟨⟨j + 1, _, _, HJ.out.2, DN⟩, rfl⟩)
      case measure => rw [FN.out, FO.out]; have := HJ.out.2; omega
    · obtain rfl : j = k := by omega
      obtain ⟨F, hF⟩ : ∃ z, ((f + j : Nat) : Int) = z := ⟨_, rfl⟩
      have HFF := Lib.hid hF
      have NLF := Lib.hid DD.out.nl
      rw [hF] at NLF
      have HK2 := Lib.hid HK.out.2.2.2
      rw [hF] at HK2
      clear c0 c1 c2 hF
      have c0 : wr.cell? ⟨w.heap.size, 0, none⟩ = some (.int .i64 F) := (cell_of_row _ _ _ _ _ _ NLF.out).trans rfl
      have c1 : wr.cell? ⟨w.heap.size, 1, none⟩ = some (.slice sj (M + 1 - j) cj) := (cell_of_row _ _ _ _ _ _ NLF.out).trans rfl
      have LD := Lib.hid (fun W (hb : Below wr.heap.size wr W) => ld37 ((hb.block _ (lt_of_block NLF.out)).trans NLF.out))
      have hcase : ¬ (F < n) ∨ ((F < n) ∧ M + 1 - j = 1) := by have := HK2.out; omega
      rcases hcase with g1 | ⟨g1, g2⟩
      · have ST := Lib.hid (st37 (f := F) (m := most) (a := sj) (n := M + 1 - j) (c := cj) DD.out.nr)
        have hd : decide (F < n) = false := by simpa using g1
        go_wp2_with (first
          | (refine wpList_load_arr rfl (.tmp 2) 37 rfl (.pointer (some ⟨w.heap.size, 0, none⟩)) (.agg #[.int .i64 F, .slice sj (M + 1 - j) cj, .int .i64 most]) rfl (LD.out _ (Below.refl _ _)) ?_)
          | (refine wpList_store_arr rfl (.tmp 4) (.tmp 24) 37 rfl (.pointer (some ⟨w.heap.size + 1, 0, none⟩)) (.agg #[.int .i64 F, .slice sj (M + 1 - j) cj, .int .i64 most]) rfl rfl _ ST.out ?_))
        have M9 := row_set3 (a := .int .i64 F) (b := .slice sj (M + 1 - j) cj) (c := .int .i64 most) DD.out.nr
        have F9 := far_set3 wr (w.heap.size + 1) (.int .i64 F) (.slice sj (M + 1 - j) cj) (.int .i64 most)
        have R9 := DD.out.rl.far F9 (fun k cs hk e => by rw [e] at hk; exact blk_ne hk DD.out.nr (by decide) rfl) (fun k cs hk e => by rw [e] at hk; exact blk_ne hk DD.out.nr (by decide) rfl) (fun k e => by rw [e]; have := HR.out.bel.size; omega)
        have B9 := DD.out.bel.trans (F9.below DD.out.bel.size (fun k e => by rw [e]; exact Nat.le_succ _))
        generalize set3 wr (w.heap.size + 1) (.int .i64 F) (.slice sj (M + 1 - j) cj) (.int .i64 most) = W9 at *
        have c0 : W9.cell? ⟨w.heap.size + 1, 0, none⟩ = some (.int .i64 F) := (cell_of_row _ _ _ _ _ _ M9).trans rfl
        have c1 : W9.cell? ⟨w.heap.size + 1, 1, none⟩ = some (.slice sj (M + 1 - j) cj) := (cell_of_row _ _ _ _ _ _ M9).trans rfl
        have c2 : W9.cell? ⟨w.heap.size + 1, 2, none⟩ = some (.int .i64 most) := (cell_of_row _ _ _ _ _ _ M9).trans rfl
        refine bodyPost_ret (v := .agg #[.int .i64 F, .slice sj (M + 1 - j) cj, .int .i64 most]) (by simp [results, Tryz.results19, go_sem, c0, c1, c2]; try rfl) rfl ?_
        obtain rfl : F = ((f + j : Nat) : Int) := HFF.out.symm
        first
          | exact ⟨⟨_, rfl, _, R9⟩, B9⟩
          | exact ⟨_, _, rfl, R9, B9⟩
          | exact ⟨_, rfl, ⟨_, R9⟩, B9⟩
      · have ST := Lib.hid (st37 (f := F) (m := most) (a := sj) (n := M + 1 - j) (c := cj) DD.out.nr)
        have hd : decide (F < n) = true := by simpa using g1
        have hgt : ¬ ((1 : Int) < ((M + 1 - j : Nat) : Int)) := by omega
        have G2 := Lib.hid g2
        clear g2
        go_wp2_with (first
          | (refine wpList_load_arr rfl (.tmp 2) 37 rfl (.pointer (some ⟨w.heap.size, 0, none⟩)) (.agg #[.int .i64 F, .slice sj (M + 1 - j) cj, .int .i64 most]) rfl (LD.out _ (Below.refl _ _)) ?_)
          | (refine wpList_store_arr rfl (.tmp 4) (.tmp 24) 37 rfl (.pointer (some ⟨w.heap.size + 1, 0, none⟩)) (.agg #[.int .i64 F, .slice sj (M + 1 - j) cj, .int .i64 most]) rfl rfl _ ST.out ?_))
        have M9 := row_set3 (a := .int .i64 F) (b := .slice sj (M + 1 - j) cj) (c := .int .i64 most) DD.out.nr
        have F9 := far_set3 wr (w.heap.size + 1) (.int .i64 F) (.slice sj (M + 1 - j) cj) (.int .i64 most)
        have R9 := DD.out.rl.far F9 (fun k cs hk e => by rw [e] at hk; exact blk_ne hk DD.out.nr (by decide) rfl) (fun k cs hk e => by rw [e] at hk; exact blk_ne hk DD.out.nr (by decide) rfl) (fun k e => by rw [e]; have := HR.out.bel.size; omega)
        have B9 := DD.out.bel.trans (F9.below DD.out.bel.size (fun k e => by rw [e]; exact Nat.le_succ _))
        generalize set3 wr (w.heap.size + 1) (.int .i64 F) (.slice sj (M + 1 - j) cj) (.int .i64 most) = W9 at *
        have c0 : W9.cell? ⟨w.heap.size + 1, 0, none⟩ = some (.int .i64 F) := (cell_of_row _ _ _ _ _ _ M9).trans rfl
        have c1 : W9.cell? ⟨w.heap.size + 1, 1, none⟩ = some (.slice sj (M + 1 - j) cj) := (cell_of_row _ _ _ _ _ _ M9).trans rfl
        have c2 : W9.cell? ⟨w.heap.size + 1, 2, none⟩ = some (.int .i64 most) := (cell_of_row _ _ _ _ _ _ M9).trans rfl
        refine bodyPost_ret (v := .agg #[.int .i64 F, .slice sj (M + 1 - j) cj, .int .i64 most]) (by simp [results, Tryz.results19, go_sem, c0, c1, c2]; try rfl) rfl ?_
        obtain rfl : F = ((f + j : Nat) : Int) := HFF.out.symm
        first
          | exact ⟨⟨_, rfl, _, R9⟩, B9⟩
          | exact ⟨_, _, rfl, R9, B9⟩
          | exact ⟨_, rfl, ⟨_, R9⟩, B9⟩
end Go.Proofs.YtgbihpfpiaacfaaGreatDoor

set_option linter.unusedVariables false
set_option linter.unusedSimpArgs false
set_option maxRecDepth 100000
namespace Go.Proofs.YtgbihpfpiaacfaaGreatDoor
open Go.RowKit Go.Shelf Go.WideMaps Go.Maps

theorem flatten_take {α : Type} {Ss : List (List α)} {i : Nat} {L : List α} (h : Ss[i]? = some L) : (Ss.take (i + 1)).flatten = (Ss.take i).flatten ++ L := by
  rw [List.take_add_one, h]
  simp
theorem flatten_mono {α : Type} (Ss : List (List α)) (i : Nat) : (Ss.take i).flatten.length ≤ Ss.flatten.length := by
  have h := congrArg (fun l => l.flatten.length) (List.take_append_drop i Ss)
  simp only [List.flatten_append, List.length_append] at h
  omega
/-- What is gathered. -/
structure GA (w0 W : World) (B : Nat) (ov : Value) (xs : List Value) (L : List (List Nat)) : Prop where
  row : W.ownsRow B 39 1 ov xs.length xs
  len : xs.length = L.length
  each : ∀ (j : Nat) x b, xs[j]? = some x → L[j]? = some b → Rc.Lies w0 x b
theorem ga_push {w0 W W1 w4 : World} {ov v4 : Value} {xs vs : List Value} {L M N : List (List Nat)} (h : GA w0 W W1.heap.size ov xs L) (hb : Below W1.heap.size W1 W) (l2 : vs.length = M.length) (e2 : ∀ (j : Nat) x b, vs[j]? = some x → M[j]? = some b → Rc.Lies w0 x b) (hN : N = L ++ M)
    (hown : w4.ownsRow W1.heap.size 39 1 v4 (xs.length + vs.length) (xs ++ vs)) (hgr : W.grownBy w4 ov.ownBlock) : GA w0 w4 W1.heap.size v4 (xs ++ vs) N ∧ Below W1.heap.size W1 w4 := by
  subst hN
  refine ⟨⟨by rw [List.length_append]; exact hown, by rw [List.length_append, List.length_append, h.len, l2], fun j x b hx hb => ?_⟩, hb.grown hgr hb.size (fun k e => (h.row.lt k e).1)⟩
  by_cases hj : j < xs.length
  · rw [List.getElem?_append_left hj] at hx
    rw [List.getElem?_append_left (by rw [← h.len]; exact hj)] at hb
    exact h.each j x b hx hb
  · rw [List.getElem?_append_right (by omega)] at hx
    rw [List.getElem?_append_right (by rw [← h.len]; omega), ← h.len] at hb
    exact e2 _ x b hx hb
set_option maxHeartbeats 6400000 in
theorem rall_any (w0 w : World) (f most : Int) (sv : Value) (ss : List Value) (Ss : List (List (List Nat))) (h : RLog w0 w sv ss Ss) (hs : Ss.length ≤ 1000) (hn : Ss.flatten.length ≤ 100000) :
    Calls Tryz.prog 21 #[.agg #[.int .i64 f, sv, .int .i64 most]] w fun e w' => ∃ v, e = .returned v ∧ Says w' w.heap.size v Ss.flatten ∧ Below w.heap.size w w' := by
  obtain ⟨sa, sc, rfl⟩ := h.row.shape
  have l1 := h.len
  have HR := Lib.hid h
  rw [l1]
  have BA := Lib.hid (vstep w (.cells #[.int .i64 f, .slice sa Ss.length sc, .int .i64 most] 37))
  have NB := Lib.hid (heap_alloc_new w (.cells #[.int .i64 f, .slice sa Ss.length sc, .int .i64 most] 37))
  obtain ⟨W1, hW1⟩ : ∃ z, w.alloc (.cells #[.int .i64 f, .slice sa Ss.length sc, .int .i64 most] 37) = z := ⟨_, rfl⟩
  rw [hW1] at BA NB
  have HW := Lib.hid hW1
  have H1 := Lib.hid (HR.out.step BA.out)
  have HC := Lib.hid (And.intro hs hn)
  obtain ⟨i0, hi9, hz0, hz1, hz2⟩ := info_parts info39
  have U30 := (by kernel_rfl : Tryz.prog.underlying 30 = some (.slice 39))
  clear h hW1 hs hn
  go_enter Tryz.func21, Tryz.ntmps21
  go_wp2_with fail
  rw [HW.out]
  go_loopw [3, 4] (fun ov iv wr => ∃ (i : Nat) (xs : List Value), iv = .int .i64 (i : Int) ∧ i ≤ Ss.length ∧ Hid (GA w0 wr W1.heap.size ov xs (Ss.take i).flatten ∧ Below W1.heap.size W1 wr)) (fun _ iv _ => Ss.length - (intOf iv).toNat)
  case atStart => exact ⟨0, [], rfl, Nat.zero_le _, Lib.hid ⟨⟨World.ownsRow_nil _ _ _ _, rfl, fun j x b hx _ => (by simp at hx)⟩, Below.refl _ _⟩⟩
  case round =>
    obtain ⟨i, xs, rfl, hi, hG⟩ := hrel
    have GG := Lib.hid hG.out.1
    have BG := Lib.hid hG.out.2
    obtain ⟨oa, oc, rfl⟩ := own_shapeK hG.out.1.row
    have HR2 := Lib.hid (H1.out.step BG.out)
    have d1 : wr.cell? ⟨w.heap.size, 1, none⟩ = some (.slice sa Ss.length sc) := (cell_of_row _ _ _ _ _ _ ((BG.out.block _ (lt_of_block NB.out)).trans NB.out)).trans rfl
    clear hG
    by_cases hlt : i < Ss.length
    · obtain ⟨L, hL⟩ : ∃ L, Ss[i]? = some L := ⟨_, List.getElem?_eq_getElem hlt⟩
      obtain ⟨g1, o1, u1, rfl, hu1, hg1, a0⟩ := HR2.out.row.at' (i := i) (by rw [l1]; exact hlt)
      obtain ⟨vs, r1, l2, e2⟩ := HR2.out.each i u1 L hu1 hL
      have cu : wr.cell? ⟨g1, o1 + i, none⟩ = some u1 := by simpa using a0 0 u1 rfl
      obtain ⟨ua, uc, hv⟩ := own_shapeK r1
      subst hv
      have FT := Lib.hid (flatten_take hL)
      have FM := Lib.hid (flatten_mono Ss (i + 1))
      have SR := Lib.hid (liesV_src U30 (own_liesK (enc := enV) (fun _ => rfl) (by rw [flat_enV]; exact r1)) (fun x hx => by
        obtain ⟨j, hj⟩ := List.mem_iff_getElem?.1 hx
        obtain ⟨b, hb⟩ : ∃ b, L[j]? = some b := ⟨_, List.getElem?_eq_getElem (by rw [← l2]; exact (List.getElem?_eq_some_iff.1 hj).1)⟩
        obtain ⟨a, c, e⟩ := Rc.lies_shape (e2 j x b hj hb)
        exact ⟨a, _, c, e⟩))
      have E2 := Lib.hid (And.intro l2 e2)
      have LB := Lib.hid (show xs.length + vs.length ≤ 100000 from by
        have h1 := GG.out.len
        have h2 := congrArg List.length FT.out
        rw [List.length_append] at h2
        have := FM.out
        have := HC.out.2
        omega)
      have hwi : wrap64 ((i : Int) + 1) = ((i + 1 : Nat) : Int) := by have := HC.out.1; unfold wrap64; omega
      have HI := Lib.hid hlt
      clear hL hu1 r1 l2 e2 a0 hg1
      go_wp2_with (at_builtin; go_loud (refine wpList_append_src_own rfl (.tmp 12) (.tmp 17) 30 30 rfl W1.heap.size 39 i0 (.slice none 0 0) 1 24 U30 hi9 hz0 hz1 hz2 rfl (by decide) (.slice oa xs.length oc) xs.length xs rfl GG.out.row (.slice ua vs.length uc) vs.length vs rfl SR.out (by have := LB.out; unfold maxLen; omega) (by have := LB.out; omega) BG.out.size ?_; intro v4 w4 hown hgr hsp; have G4 := Lib.hid (show GA w0 w4 W1.heap.size v4 (xs ++ vs) (Ss.take (i + 1)).flatten ∧ Below W1.heap.size W1 w4 from ga_push GG.out BG.out E2.out.1 E2.out.2 FT.out hown hgr); clear hown hgr hsp))
      go_roundw
      case rel => exact ⟨i + 1, _, by first | (rw [hwi]) | go_num, by have := HI.out; omega, G4⟩
      case measure => first | (rw [hwi]; simp [intOf]; have := HI.out; omega) | (simp [intOf, hwi]; have := HI.out; omega)
    · have e : i = Ss.length := by omega
      subst e
      have hno : ¬ ((Ss.length : Int) < (Ss.length : Int)) := by omega
      have FIN := Lib.hid (show Says wr w.heap.size (.slice oa xs.length oc) Ss.flatten from ⟨xs, own_lower GG.out.row (by have := BA.out.size; exact this), by have := GG.out.len; rwa [List.take_length] at this, fun j x b hx hb => (GG.out.each j x b hx (by rwa [List.take_length])).later HR2.out.bel⟩)
      have FB := Lib.hid (show Below w.heap.size w wr from BA.out.trans (BG.out.mono BA.out.size))
      go_wp2
      go_returns
      exact ⟨_, rfl, FIN.out, FB.out⟩
end Go.Proofs.YtgbihpfpiaacfaaGreatDoor

set_option linter.unusedVariables false
set_option linter.unusedSimpArgs false
set_option maxRecDepth 100000
namespace Go.Proofs.YtgbihpfpiaacfaaGreatDoor
open Go.RowKit Go.Shelf Go.WideMaps Go.Maps

/-- What the segments say, segment by segment. -/
def Sx (gs : Nat → List (List Nat)) (f M : Nat) : List (List (List Nat)) := (List.range' f (M + 1)).map gs
theorem Sx_len (gs : Nat → List (List Nat)) (f M : Nat) : (Sx gs f M).length = M + 1 := by unfold Sx; rw [List.length_map, List.length_range']
theorem Sx_last (gs : Nat → List (List Nat)) (f M : Nat) : Sx gs f M = (List.range' f M).map gs ++ [gs (f + M)] := by
  unfold Sx
  rw [List.range'_concat, Nat.one_mul, List.map_append]
  rfl
theorem Sx_get (gs : Nat → List (List Nat)) (f M : Nat) : (Sx gs f M)[M]? = some (gs (f + M)) := by
  rw [Sx_last, List.getElem?_append_right (by rw [List.length_map, List.length_range']; exact Nat.le_refl _), List.length_map, List.length_range', Nat.sub_self]
  rfl
theorem Sx_take (gs : Nat → List (List Nat)) (f M : Nat) : (Sx gs f M).take M = (List.range' f M).map gs := by
  rw [Sx_last]
  exact List.take_left' (by rw [List.length_map, List.length_range'])
theorem map_same {gs gs' : Nat → List (List Nat)} {f M : Nat} (h : ∀ m, m < f + M → gs' m = gs m) : (List.range' f M).map gs' = (List.range' f M).map gs :=
  List.map_congr_left (fun k hk => h k (by have := List.mem_range'_1.1 hk; omega))
theorem Sx_put (gs : Nat → List (List Nat)) (f M : Nat) (b : List Nat) : Sx (fun m => if m = f + M then gs m ++ [b] else gs m) f M = (Sx gs f M).take M ++ [gs (f + M) ++ [b]] := by
  rw [Sx_last, Sx_take, map_same (gs := gs) (fun m hm => if_neg (by omega))]
  try dsimp only
  rw [if_pos rfl]
theorem Sx_add (gs : Nat → List (List Nat)) (f M : Nat) (X : List (List Nat)) : Sx (fun m => if m = f + M + 1 then X else gs m) f (M + 1) = Sx gs f M ++ [X] := by
  rw [Sx_last, map_same (gs := gs) (fun m hm => if_neg (by omega))]
  try dsimp only
  rw [if_pos (by omega)]
  try rfl
theorem Sx_drop (gs : Nat → List (List Nat)) (f M k : Nat) (h : k ≤ M) : (Sx gs f M).drop k = Sx gs (f + k) (M - k) := by
  unfold Sx
  rw [← List.map_drop, List.drop_range', Nat.mul_one, show M + 1 - k = M - k + 1 from by omega]
theorem Sx_flat (gs : Nat → List (List Nat)) (f M : Nat) : (Sx gs f M).flatten = allP gs f M := by
  unfold Sx allP
  rw [List.flatMap_def]
theorem Sx_sizes (gs : Nat → List (List Nat)) (f M : Nat) : sizes (Sx gs f M) = (cat (allP gs f M)).length := by
  unfold sizes Sx allP
  rw [List.map_map]
  exact sum_cat gs _

theorem hasT {w : World} {B d : Nat} {s : DS} (h : DK w B d s) {k : Nat} {cs : Array Value} {t : TypeId} {fr : Nat × Nat} (hk : w.heap[k]? = some (.cells cs t fr)) (h1 : t ≠ 70) (h2 : t ≠ 5) : ¬ Has d s k := by
  rintro (rfl | e | ⟨x, hx, e⟩)
  · rw [h.box] at hk; injection hk with hk; injection hk with _ hk _; exact h1 hk.symm
  · rcases h.map with ⟨h0, _⟩ | ⟨b, h0, _, hb⟩
    · rw [h0] at e; cases e
    · rw [h0] at e
      injection e with e
      subst e
      obtain ⟨es, ⟨es', clock, hb', _⟩, _⟩ := hb
      rw [hb'] at hk
      cases hk
  · rcases (h.rows x hx).2 with ⟨q, _⟩ | ⟨g', cap, cur, q, _, hg, _⟩
    · rw [q] at e; cases e
    · rw [q] at e
      have e : g' = k := by simpa [Value.ownBlock] using e
      subst e
      rw [hg] at hk; injection hk with hk; injection hk with _ hk _; exact h2 hk.symm
theorem jkT {w : World} {B q d : Nat} {s : DS} {most f l sz : Int} (h : JK w B q d s most f l sz) {k : Nat} {cs : Array Value} {t : TypeId} {fr : Nat × Nat} (hk : w.heap[k]? = some (.cells cs t fr)) (h1 : t ≠ 70) (h2 : t ≠ 5) (h3 : t ≠ 74) : ¬ Lh d s q k := by
  rintro (e | e)
  · exact hasT h.dk hk h1 h2 e
  · rw [e, h.box] at hk
    injection hk with hk
    injection hk with _ hk _
    exact h3 hk.symm
/-- One record more: which segments there are then. -/
theorem jact2 (w : World) (B q d : Nat) (s : DS) (most : Int) (f M : Nat) (gs : Nat → List (List Nat)) (h : JS w B q d s most f M gs) (hf1 : 1 ≤ f) (hfM : f + M + 1 < 100) (v : Value) (b : List Nat) (hv : Rc.Lies w v b) (hb : Rc.Byt b) (hbs : b.length ≤ 1000) (hsz : (cat (gs (f + M))).length ≤ 100000000)
    (hfit : ((b.length + 8 : Nat) : Int) ≤ s.room - (usedF s.l : Int)) :
    Calls Tryz.prog 14 #[.pointer (some ⟨q, 0, none⟩), v] w fun e w' => e = .returned (.int .i64 0) ∧ ∃ s' M' gs', JS w' B q d s' most f M' gs' ∧ Far (Lh d s q) w w' ∧ M' ≤ M + 1 ∧ allP gs' f M' = allP gs f M ++ [b] ∧ s'.room = s.room ∧ usedF s'.l = usedF s.l + (b.length + 8) ∧ Sx gs' f M' = appS most M (gs (f + M)) (Sx gs f M) b := by
  have hr := DK.rise h.jk.dk
  have hF := h.sg.fnd (m := f + M) (by omega) (by omega)
  have hl := h.sg.len
  have hx := get_mem (fnd_some hF.1).1
  have hxl : (fval s (sg (f + M))).b.length = (cat (gs (f + M))).length := by rw [hF.2.1, bi_len]
  by_cases hc : (((cat (gs (f + M))).length : Nat) : Int) = 0 ∨ (((cat (gs (f + M))).length : Nat) : Int) + ((b.length + 8 : Nat) : Int) ≤ most
  · refine (japp_fit w B q d s most f (f + M) _ h.jk ⟨by omega, by omega⟩ ⟨by omega, by omega⟩ (by omega) hF.1 h.sg.ar v b hv hb hbs hfit hc).mono ?_
    rintro e w' ⟨rfl, a', c', hj, hfar⟩
    rw [hF.2.1, ← bi_app, ← cat_snoc] at hj
    have hput := SG.put (fb' := fun m => cat ((fun m => if m = f + M then gs m ++ [b] else gs m) m)) h.sg hr (by omega) a' c' (f + M) (by omega) (by omega) s.m (fun k hk => by dsimp only; rw [if_neg hk])
    dsimp only at hput
    rw [if_pos rfl] at hput
    refine ⟨rfl, _, M, fun m => if m = f + M then gs m ++ [b] else gs m, ⟨?_, hput⟩, hfar, by omega, allP_put, rfl, ?_, by rw [Sx_put, appS, if_pos (by omega)]⟩
    · have el : (((cat (gs (f + M))).length : Nat) : Int) + ((b.length + 8 : Nat) : Int) = (((cat ((fun m => if m = f + M then gs m ++ [b] else gs m) (f + M))).length : Nat) : Int) := by
        dsimp only
        rw [if_pos rfl, cat_snoc, List.length_append, Rc.rec_length]
        omega
      rw [← el]
      exact hj
    · refine used_put hr hx.1 hx.2 ?_
      show (bi (cat (gs (f + M) ++ [b]))).length = _
      rw [bi_len, cat_snoc, List.length_append, Rc.rec_length, hxl]
  · have h8 := h.sg.new hfM
    have hg := (fnd_none h8).1
    refine (japp_roll w B q d s most f (f + M) _ h.jk ⟨by omega, by omega⟩ h8 ⟨by omega, by omega⟩ (by omega) hF.1 h.sg.ar v b hv hb hbs hfit ⟨by omega, by omega⟩).mono ?_
    rintro e w' ⟨rfl, a', c', m', hj, hfar⟩
    have hadd := SG.add (fb' := fun m => cat ((fun m => if m = f + M + 1 then [b] else gs m) m)) h.sg hr hfM a' c' m' (fun k hk => by dsimp only; rw [if_neg (by omega)])
    dsimp only at hadd
    rw [if_pos rfl, cat_one] at hadd
    refine ⟨rfl, _, M + 1, fun m => if m = f + M + 1 then [b] else gs m, ⟨?_, hadd⟩, hfar, by omega, allP_add, rfl, ?_, by rw [Sx_add, appS, if_neg (by omega)]⟩
    · have el : ((b.length + 8 : Nat) : Int) = (((cat ((fun m => if m = f + M + 1 then [b] else gs m) (f + (M + 1)))).length : Nat) : Int) := by
        dsimp only
        rw [if_pos (by omega), cat_one, Rc.rec_length]
      rw [← el]
      exact hj
    · show usedF (setF s.l ⟨sg (f + M + 1), a', c', bi (Rc.rec b), lenI (bi (Rc.rec b))⟩) = _
      rw [used_add (y := ⟨sg (f + M + 1), a', c', bi (Rc.rec b), lenI (bi (Rc.rec b))⟩) hg]
      show usedF s.l + (bi (Rc.rec b)).length = _
      rw [bi_len, Rc.rec_length]
/-- The journal, and the reference's in its box. -/
structure PQ (w W : World) (d q bx : Nat) (most : Int) (s : DS) (f M : Nat) (gs : Nat → List (List Nat)) (f0 : Nat) (sv : Value) (ss : List Value) (Ss : List (List (List Nat))) : Prop where
  js : JS W d q d s most f M gs
  rl : RLog w W sv ss Ss
  bo : W.heap[bx]? = some (.cells #[.int .i64 (f0 : Int), sv, .int .i64 most] 37 (0, 0))
  db : d ≤ bx
  wd : w.heap.size = d
theorem PQ.step {w W W' : World} {d q bx : Nat} {most : Int} {s : DS} {f M : Nat} {gs : Nat → List (List Nat)} {f0 : Nat} {sv : Value} {ss : List Value} {Ss : List (List (List Nat))} (h : PQ w W d q bx most s f M gs f0 sv ss Ss) (hb : Below W.heap.size W W') : PQ w W' d q bx most s f M gs f0 sv ss Ss :=
  ⟨h.js.step hb, h.rl.step hb, (hb.block _ (lt_of_block h.bo)).trans h.bo, h.db, h.wd⟩
theorem PQ.far {w W W' : World} {d q bx : Nat} {most : Int} {s : DS} {f M : Nat} {gs : Nat → List (List Nat)} {f0 : Nat} {sv : Value} {ss : List Value} {Ss : List (List (List Nat))} (h : PQ w W d q bx most s f M gs f0 sv ss Ss) {q' : Nat} {s' : DS} {f' M' : Nat} {gs' : Nat → List (List Nat)} (hj : JS W' d q' d s' most f' M' gs') (hf : Far (Lh d s q) W W') : PQ w W' d q' bx most s' f' M' gs' f0 sv ss Ss := by
  refine ⟨hj, h.rl.far hf (fun k cs hk => jkT h.js.jk hk (by decide) (by decide) (by decide)) (fun k cs hk => jkT h.js.jk hk (by decide) (by decide) (by decide)) (fun k hk => ?_), (hf.block _ (lt_of_block h.bo) (jkT h.js.jk h.bo (by decide) (by decide) (by decide))).trans h.bo, h.db, h.wd⟩
  rw [h.wd]
  rcases hk with e | e
  · exact (h.js.jk.dk.base k e).1
  · rw [e]; exact h.js.jk.bq
theorem PQ.store {w W : World} {d q bx : Nat} {most : Int} {s : DS} {f M : Nat} {gs : Nat → List (List Nat)} {f0 : Nat} {sv : Value} {ss : List Value} {Ss : List (List (List Nat))} (h : PQ w W d q bx most s f M gs f0 sv ss Ss) {f1 : Nat} {sv' : Value} {ss' : List Value} {Ss' : List (List (List Nat))} (hr : RLog w W sv' ss' Ss') : PQ w (set3 W bx (.int .i64 (f1 : Int)) sv' (.int .i64 most)) d q bx most s f M gs f1 sv' ss' Ss' := by
  have hf := far_set3 W bx (.int .i64 (f1 : Int)) sv' (.int .i64 most)
  have nt : ∀ k cs (t : TypeId), t ≠ 37 → W.heap[k]? = some (.cells cs t (0, 0)) → ¬ k = bx := fun k cs t ht hk e => by
    rw [e, h.bo] at hk
    injection hk with hk
    injection hk with _ hk _
    exact ht hk.symm
  have hnb := hasT h.js.jk.dk h.bo (by decide) (by decide)
  refine ⟨⟨⟨h.js.jk.dk.still hf (fun k hk e => hnb (e ▸ hk)), (hf.block q h.js.jk.lt (nt q _ 74 (by decide) h.js.jk.box)).trans h.js.jk.box, h.js.jk.nq, h.js.jk.bq⟩, h.js.sg⟩, hr.far hf (fun k cs hk => nt k cs 30 (by decide) hk) (fun k cs hk => nt k cs 39 (by decide) hk) (fun k e => by rw [e, h.wd]; exact h.db), row_set3 h.bo, h.db, h.wd⟩
/-- The numbers between two acts. -/
structure NJ (i : Nat) (s : DS) (f M : Nat) (gs : Nat → List (List Nat)) : Prop where
  f1 : 1 ≤ f
  fM : f + M ≤ 1 + i
  rm : s.room = 16777216
  byt : ∀ b ∈ allP gs f M, Rc.Byt b ∧ b.length ≤ 60
  us : usedF s.l = (cat (allP gs f M)).length
  tot : usedF s.l ≤ 68 * i
theorem NJ.up {i : Nat} {s : DS} {f M : Nat} {gs : Nat → List (List Nat)} (h : NJ i s f M gs) : NJ (i + 1) s f M gs := ⟨h.f1, by have := h.fM; omega, h.rm, h.byt, h.us, by have := h.tot; omega⟩
theorem NJ.app {i : Nat} {s s' : DS} {f M M' : Nat} {gs gs' : Nat → List (List Nat)} (h : NJ i s f M gs) {b : List Nat} (hM : M' ≤ M + 1) (hp : allP gs' f M' = allP gs f M ++ [b]) (hr : s'.room = s.room) (hu : usedF s'.l = usedF s.l + (b.length + 8)) (hb : Rc.Byt b ∧ b.length ≤ 60) : NJ (i + 1) s' f M' gs' := by
  refine ⟨h.f1, by have := h.fM; omega, hr.trans h.rm, fun y hy => ?_, ?_, by have := h.tot; have := hb.2; omega⟩
  · rw [hp] at hy
    rcases List.mem_append.1 hy with hy | hy
    · exact h.byt y hy
    · rw [List.mem_singleton.1 hy]; exact hb
  · rw [hu, hp, cat_snoc, List.length_append, Rc.rec_length, h.us]
theorem NJ.roll {i : Nat} {s s' : DS} {f M : Nat} {gs : Nat → List (List Nat)} (h : NJ i s f M gs) (hr : s'.room = s.room) (hu : usedF s'.l = usedF s.l) : NJ (i + 1) s' f (M + 1) (fun m => if m = f + M + 1 then [] else gs m) :=
  ⟨h.f1, by have := h.fM; omega, hr.trans h.rm, fun y hy => h.byt y (by rwa [allP_roll] at hy), by rw [hu, allP_roll]; exact h.us, by have := h.tot; omega⟩
theorem allP_split (gs : Nat → List (List Nat)) (f M k : Nat) (hk : k ≤ M) : allP gs f M = (List.range' f k).flatMap gs ++ allP gs (f + k) (M - k) := by
  unfold allP
  rw [← List.flatMap_append]
  congr 1
  have := List.range'_append (s := f) (m := k) (n := M - k + 1) (step := 1)
  rw [Nat.one_mul] at this
  rw [this]
  congr 1
  omega
theorem NJ.drop {i : Nat} {s s' : DS} {f M k : Nat} {gs : Nat → List (List Nat)} (h : NJ i s f M gs) (hk : k ≤ M) (hr : s'.room = s.room) (hu : usedF s.l = ((List.range' f k).map (fun m => (cat (gs m)).length)).sum + usedF s'.l) : NJ (i + 1) s' (f + k) (M - k) gs := by
  have e := allP_split gs f M k hk
  have hs := h.us
  rw [e] at hs
  have ec : (cat ((List.range' f k).flatMap gs ++ allP gs (f + k) (M - k))).length = (cat ((List.range' f k).flatMap gs)).length + (cat (allP gs (f + k) (M - k))).length := by unfold cat; rw [List.flatMap_append, List.length_append]
  rw [ec, ← sum_cat] at hs
  refine ⟨by have := h.f1; omega, by have := h.fM; omega, hr.trans h.rm, fun y hy => h.byt y (by rw [e]; exact List.mem_append_right _ hy), by omega, by have := h.tot; omega⟩
/-! ### what is asked of both, between two acts -/
theorem same_below {f : FuncId} {args : Array Value} {W : World} {P : Ending → Prop} (h : Calls Tryz.prog f args W fun e w' => P e ∧ W = w') : Calls Tryz.prog f args W fun e w' => P e ∧ Below W.heap.size W w' :=
  h.mono (by rintro e w' ⟨h1, h2⟩; subst h2; exact ⟨h1, Below.refl _ _⟩)
section
variable {w W : World} {d q bx : Nat} {most : Int} {s : DS} {f M : Nat} {gs : Nat → List (List Nat)} {sv : Value} {ss : List Value}
theorem pq_first (h : PQ w W d q bx most s f M gs f sv ss (Sx gs f M)) : Calls Tryz.prog 22 #[.pointer (some ⟨q, 0, none⟩)] W fun e w' => e = .returned (.int .i64 (f : Int)) ∧ Below W.heap.size W w' := same_below (first_jk W q d _ _ _ _ h.js.jk.box)
theorem pq_last (h : PQ w W d q bx most s f M gs f sv ss (Sx gs f M)) : Calls Tryz.prog 23 #[.pointer (some ⟨q, 0, none⟩)] W fun e w' => e = .returned (.int .i64 ((f + M : Nat) : Int)) ∧ Below W.heap.size W w' := same_below (last_jk W q d _ _ _ _ h.js.jk.box)
theorem pq_len (h : PQ w W d q bx most s f M gs f sv ss (Sx gs f M)) : Calls Tryz.prog 25 #[.pointer (some ⟨q, 0, none⟩)] W fun e w' => e = .returned (.int .i64 (((cat (gs (f + M))).length : Nat) : Int)) ∧ Below W.heap.size W w' := same_below (len_jk W q d _ _ _ _ h.js.jk.box)
theorem pq_rlast (h : PQ w W d q bx most s f M gs f sv ss (Sx gs f M)) (hf : f ≤ 1000 ∧ M ≤ 1000) : Calls Tryz.prog 24 #[.agg #[.int .i64 (f : Int), sv, .int .i64 most]] W fun e w' => e = .returned (.int .i64 ((f + M : Nat) : Int)) ∧ Below W.heap.size W w' := by
  have := rlast_any w W f most sv ss _ h.rl ⟨by omega, by omega⟩ (by rw [Sx_len]; omega)
  rw [Sx_len, show (f : Int) + ((M + 1 : Nat) : Int) - 1 = ((f + M : Nat) : Int) from by omega] at this
  exact this
theorem pq_rlen (h : PQ w W d q bx most s f M gs f sv ss (Sx gs f M)) (hf : f ≤ 1000 ∧ M ≤ 1000) (hc : (cat (gs (f + M))).length ≤ 1000000) : Calls Tryz.prog 26 #[.agg #[.int .i64 (f : Int), sv, .int .i64 most]] W fun e w' => e = .returned (.int .i64 (((cat (gs (f + M))).length : Nat) : Int)) ∧ Below W.heap.size W w' :=
  rlen_any w W f most sv ss _ (gs (f + M)) M h.rl (Sx_len _ _ _) (Sx_get _ _ _) (by omega) hc
theorem pq_used (h : PQ w W d q bx most s f M gs f sv ss (Sx gs f M)) : Calls Tryz.prog 27 #[pv d] W fun e w' => e = .returned (.int .i64 ((usedF s.l : Nat) : Int)) ∧ Below W.heap.size W w' := used_any W d d s h.js.jk.dk
theorem pq_rused {i : Nat} (h : PQ w W d q bx most s f M gs f sv ss (Sx gs f M)) (hn : NJ i s f M gs) (hf : M ≤ 1000) (hc : usedF s.l ≤ 1000000) : Calls Tryz.prog 28 #[.agg #[.int .i64 (f : Int), sv, .int .i64 most]] W fun e w' => e = .returned (.int .i64 ((usedF s.l : Nat) : Int)) ∧ Below W.heap.size W w' := by
  have := rused_any w W f most sv ss _ h.rl (by rw [Sx_len]; omega) (by rw [Sx_sizes, ← hn.us]; exact hc)
  rw [Sx_sizes, ← hn.us] at this
  exact this
theorem pq_names (h : PQ w W d q bx most s f M gs f sv ss (Sx gs f M)) (hf : M ≤ 1000) : Calls Tryz.prog 12 #[pv d] W fun e w' => (∃ a c, e = .returned (.slice a (M + 1) c)) ∧ Below W.heap.size W w' := by
  refine (names_any W d d s h.js.jk.dk (by have := h.js.sg.len; omega)).mono ?_
  rintro e w' ⟨v, rfl, ho, hb⟩
  obtain ⟨a, c, rfl⟩ := own_shapeK ho
  refine ⟨⟨a, c, ?_⟩, hb⟩
  have : (nms s.l).length = M + 1 := by unfold nms; rw [List.length_map]; exact h.js.sg.len
  rw [this]
end
end Go.Proofs.YtgbihpfpiaacfaaGreatDoor
