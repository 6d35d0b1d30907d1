/- A journal in memory; settle, write. Made by genjc12.py. -/
import Derived.Test.YtgbihpfpiaacfaaGreatDoorJB
import Derived.Test.YtgbihpfpiaacfaaGreatDoorDX
set_option linter.unusedVariables false
set_option linter.unusedSimpArgs false
set_option maxRecDepth 100000
namespace Go.Proofs.YtgbihpfpiaacfaaGreatDoor
open Go.RowKit Go.Shelf Go.WideMaps Go.Maps

/-! ### bytes, as both sides have them -/
def bi (l : List Nat) : List Int := l.map (fun n : Nat => (n : Int))
theorem bi_len (l : List Nat) : (bi l).length = l.length := List.length_map _
theorem bi_flat : ∀ l : List Nat, (bi l).flatMap encB = Rc.u8s l
  | [] => rfl
  | x :: l => by
    show encB (x : Int) ++ (bi l).flatMap encB = _
    rw [bi_flat l]
    rfl
theorem bi_app (l m : List Nat) : bi (l ++ m) = bi l ++ bi m := List.map_append
theorem own_rc {w : World} {B : Nat} {v : Value} {l : List Nat} (h : w.ownsRow B 5 1 v (bi l).length ((bi l).flatMap encB)) : w.ownsRow B 5 1 v l.length (Rc.u8s l) := by
  rw [bi_len, bi_flat] at h
  exact h
theorem own_bi {w : World} {B : Nat} {v : Value} {l : List Nat} (h : w.ownsRow B 5 1 v l.length (Rc.u8s l)) : w.ownsRow B 5 1 v (bi l).length ((bi l).flatMap encB) := by
  rw [bi_len, bi_flat]
  exact h
def lenI (l : List Int) : Int := (l.length : Int)
/-! ### files, set twice -/
theorem ltF_n {x y z : Fl} (h : x.n = y.n) : ltF z x = ltF z y := by unfold ltF; rw [h]
theorem ltF_n' {x y z : Fl} (h : x.n = y.n) : ltF x z = ltF y z := by unfold ltF; rw [h]
theorem set_set {l : List Fl} {x y : Fl} (h : x.n = y.n) : setF (setF l x) y = setF l y := by
  have e1 : (fun z => ltF z y) = fun z => ltF z x := by funext z; exact (ltF_n h).symm
  have e2 : (fun z => ltF y z) = fun z => ltF x z := by funext z; exact (ltF_n' h).symm
  have hi : ltF x x = false := by
    cases hx : ltF x x with
    | false => rfl
    | true => have := ltB_asymm (show ltB x.n x.n = true from hx); rw [show ltB x.n x.n = true from hx] at this; cases this
  have no : ∀ z, ltF z x = true → ltF x z = true → False := fun z a b => by
    have := ltB_asymm (show ltB z.n x.n = true from a)
    rw [show ltB x.n z.n = true from b] at this
    cases this
  unfold setF
  rw [e1, e2, List.filter_append, List.filter_append, List.filter_cons, List.filter_cons, hi]
  simp only [List.filter_filter, Bool.and_self]
  have f1 : l.filter (fun z => ltF z x && ltF x z) = [] := by
    rw [List.filter_eq_nil_iff]
    intro z _ hz
    simp only [Bool.and_eq_true] at hz
    exact no z hz.1 hz.2
  have f2 : l.filter (fun z => ltF x z && ltF z x) = [] := by
    rw [List.filter_eq_nil_iff]
    intro z _ hz
    simp only [Bool.and_eq_true] at hz
    exact no z hz.2 hz.1
  simp [f1, f2]
theorem get_mem {l : List Fl} {nm : ByteArray} {x : Fl} (h : getF l nm = some x) : x ∈ l ∧ x.n = nm := by
  unfold getF at h
  have h1 := List.find?_some h
  exact ⟨List.mem_of_find?_eq_some h, of_decide_eq_true h1⟩
theorem get_set (l : List Fl) (x : Fl) : getF (setF l x) x.n = some x := by
  cases hg : getF (setF l x) x.n with
  | none =>
    unfold getF at hg
    rw [List.find?_eq_none] at hg
    have := hg x (mem_set.2 (.inl rfl))
    unfold isN at this
    simp at this
  | some y =>
    obtain ⟨h1, h2⟩ := get_mem hg
    rcases mem_set.1 h1 with h1 | ⟨_, h1⟩
    · rw [h1]
    · unfold sameN at h1
      rw [h2] at h1
      simp at h1
/-! ### the journal -/
def logC (d : Nat) (most f l sz : Int) : Array Value := #[pv d, .int .i64 most, .int .i64 f, .int .i64 l, .int .i64 sz]
/-- A journal over a disk. -/
structure JK (w : World) (B q d : Nat) (s : DS) (most f l sz : Int) : Prop where
  dk : DK w B d s
  box : w.heap[q]? = some (.cells #[pv d, .int .i64 most, .int .i64 f, .int .i64 l, .int .i64 sz] 74 (0, 0))
  nq : ¬ Has d s q
  bq : B ≤ q
theorem JK.step {w w' : World} {B q d : Nat} {s : DS} {most f l sz : Int} (h : JK w B q d s most f l sz) (hb : Below w.heap.size w w') : JK w' B q d s most f l sz :=
  ⟨h.dk.step hb, (hb.block _ (lt_of_block h.box)).trans h.box, h.nq, h.bq⟩
theorem JK.out {w w' : World} {B q d : Nat} {s t : DS} {most f l sz : Int} (h : JK w B q d s most f l sz) (ho : Out B d s t w w') : JK w' B q d t most f l sz :=
  ⟨ho.dk, (ho.far.block _ (lt_of_block h.box) h.nq).trans h.box, fun hk => (ho.sub q hk).elim h.nq (fun e => by have := lt_of_block h.box; omega), h.bq⟩
theorem JK.lt {w : World} {B q d : Nat} {s : DS} {most f l sz : Int} (h : JK w B q d s most f l sz) : q < w.heap.size := lt_of_block h.box
theorem JK.size {w : World} {B q d : Nat} {s : DS} {most f l sz : Int} (h : JK w B q d s most f l sz) : B ≤ w.heap.size := Nat.le_of_lt (Nat.lt_of_le_of_lt h.bq h.lt)
theorem JK.sized {w : World} {B q d : Nat} {s : DS} {most f l sz : Int} (h : JK w B q d s most f l sz) (n : Int) : JK (w.setCell ⟨q, 4, none⟩ (.int .i64 n)) B q d s most f l n :=
  ⟨h.dk.still (P := fun k => k = q) (far_set w q 4 _) (fun k hk e => h.nq (e ▸ hk)), row_setC (j := 4) h.box, h.nq, h.bq⟩
/-- What a call of the journal's may turn. -/
def Lh (d : Nat) (s : DS) (q k : Nat) : Prop := Has d s k ∨ k = q
theorem ldP {W : World} {q d : Nat} {cs : Array Value} (h : W.heap[q]? = some (.cells cs 74 (0, 0))) (h0 : cs[0]? = some (pv d)) : (Instr.loadAt 23 (.pointer (some ⟨q, 0, none⟩))).run Tryz.prog W = .ok (pv d) W := by
  have c0 : W.cell? ⟨q, 0, none⟩ = some (pv d) := (cell_of_row _ _ _ _ _ _ h).trans h0
  clear h h0
  go_simp
theorem ldN {W : World} {q j : Nat} {n : Int} {cs : Array Value} (h : W.heap[q]? = some (.cells cs 74 (0, 0))) (h0 : cs[j]? = some (.int .i64 n)) : (Instr.loadAt 3 (.pointer (some ⟨q, j, none⟩))).run Tryz.prog W = .ok (.int .i64 n) W := by
  have c0 : W.cell? ⟨q, j, none⟩ = some (.int .i64 n) := (cell_of_row _ _ _ _ _ _ h).trans h0
  clear h h0
  go_simp
theorem stN {W : World} {q : Nat} {n a1 a2 a3 a4 : Int} {d : Nat} (h : W.heap[q]? = some (.cells #[pv d, .int .i64 a1, .int .i64 a2, .int .i64 a3, .int .i64 a4] 74 (0, 0))) : (Instr.storeAt 3 (.pointer (some ⟨q, 4, none⟩)) (.int .i64 n)).run Tryz.prog W = .ok () (W.setCell ⟨q, 4, none⟩ (.int .i64 n)) := by
  have c0 : W.cell? ⟨q, 4, none⟩ = some (.int .i64 a4) := (cell_of_row _ _ _ _ _ _ h).trans rfl
  have f0 : W.frozen? ⟨q, 4, none⟩ = false := frozen_of_row _ _ _ _ _ h
  clear h
  go_simp
/-- The last segment is whole and sure already. -/
theorem settle_ok (w : World) (B q d : Nat) (s : DS) (most f : Int) (l hv : Nat) (h : JK w B q d s most f l hv) (hl : 1 ≤ l ∧ l < 100) (x : Fl) (hx : getF s.l (sg l) = some x) (hs : x.s = (hv : Int)) :
    Calls Tryz.prog 58 #[.pointer (some ⟨q, 0, none⟩), .int .i64 (hv : Int)] w fun e w' => e = .returned (.int .i64 0) ∧ w = w' := by
  have NA := Lib.hid (name_any w l hl.2 hl.1)
  have SU := Lib.hid (sure_any w B d s h.dk (sg l) (by have := sg_size hl.2; unfold maxLen; omega))
  rw [hx] at SU
  dsimp only at SU
  rw [hs] at SU
  have c0 : w.cell? ⟨q, 0, none⟩ = some (pv d) := (cell_of_row _ _ _ _ _ _ h.box).trans rfl
  have c3 : w.cell? ⟨q, 3, none⟩ = some (.int .i64 (l : Int)) := (cell_of_row _ _ _ _ _ _ h.box).trans rfl
  have c4 : w.cell? ⟨q, 4, none⟩ = some (.int .i64 (hv : Int)) := (cell_of_row _ _ _ _ _ _ h.box).trans rfl
  have hlt : ¬ ((hv : Int) < (hv : Int)) := by omega
  clear h hx hs
  go_enter Tryz.func58, Tryz.ntmps58
  go_wp2_with fail
  refine NA.out.mono ?_
  rintro e w1 ⟨rfl, rfl⟩
  go_wp2_with fail
  refine SU.out.mono ?_
  rintro e w2 ⟨rfl, rfl⟩
  go_wp2
  go_returns
  exact ⟨rfl, rfl⟩
/-- What has turned since. -/
structure FK (d : Nat) (s : DS) (q : Nat) (w W : World) : Prop where
  far : Far (Lh d s q) w W
theorem FK.step {d : Nat} {s : DS} {q : Nat} {w W W' : World} (h : FK d s q w W) (hb : Below W.heap.size W W') : FK d s q w W' := ⟨h.far.trans (Far.of_below (P := fun _ => False) hb) (fun _ _ e => e.elim)⟩
theorem FK.out {B d : Nat} {s t : DS} {q : Nat} {w W W' : World} (h : FK d s q w W) (ho : Out B d s t W W') : FK d s q w W' := ⟨h.far.trans ho.far (fun _ _ e => .inl e)⟩
theorem FK.set {d : Nat} {s : DS} {q j : Nat} {w W : World} {u : Value} (h : FK d s q w W) : FK d s q w (W.setCell ⟨q, j, none⟩ u) := ⟨h.far.trans (far_set W q j u) (fun _ _ e => .inr e)⟩
theorem FK.outs {B d : Nat} {s t u : DS} {q : Nat} {w W W' V V' : World} (h : FK d s q w W) (ho : Out B d s t V V') (hV : w.heap.size ≤ V.heap.size) (ho' : Out B d t u W W') : FK d s q w W' :=
  ⟨h.far.trans ho'.far (fun k hk e => by
    rcases ho.sub k e with e | e
    · exact .inl e
    · omega)⟩
/-- The log's box, its size left open. -/
def LZ (q d : Nat) (most f l : Int) (w : World) : Prop := ∃ z : Int, w.heap[q]? = some (.cells #[pv d, .int .i64 most, .int .i64 f, .int .i64 l, .int .i64 z] 74 (0, 0))
theorem LZ.of {w : World} {B q d : Nat} {s : DS} {most f l sz : Int} (h : JK w B q d s most f l sz) : LZ q d most f l w := ⟨_, h.box⟩
theorem LZ.step {w w' : World} {q d : Nat} {most f l : Int} (h : LZ q d most f l w) (hb : Below w.heap.size w w') : LZ q d most f l w' := by
  obtain ⟨z, h⟩ := h
  exact ⟨z, (hb.block _ (lt_of_block h)).trans h⟩
theorem LZ.ld {w : World} {q d : Nat} {most f l : Int} (h : LZ q d most f l w) : (Instr.loadAt 23 (.pointer (some ⟨q, 0, none⟩))).run Tryz.prog w = .ok (pv d) w := by
  obtain ⟨z, h⟩ := h
  exact ldP h rfl
theorem LZ.ldl {w : World} {q d : Nat} {most f l : Int} (h : LZ q d most f l w) : (Instr.loadAt 3 (.pointer (some ⟨q, 3, none⟩))).run Tryz.prog w = .ok (.int .i64 l) w := by
  obtain ⟨z, h⟩ := h
  exact ldN (j := 3) h rfl
theorem name_b (w : World) (n : Nat) (hn : n < 100) (h1 : 1 ≤ n) : Calls Tryz.prog 37 #[.int .i64 (n : Int)] w fun e w' => e = .returned (.string (sg n)) ∧ Below w.heap.size w w' :=
  (name_any w n hn h1).mono (by rintro e w' ⟨rfl, rfl⟩; exact ⟨rfl, Below.refl _ _⟩)
theorem tk_un {s : DS} (ha : s.ar = false) (n : Int) : tk s n = n := by unfold tk; rw [ha]; rfl
theorem aft_un {s : DS} (ha : s.ar = false) (n : Int) : aft s n = s := by unfold aft; rw [ha]; rfl
theorem append_fit (w : World) (B d : Nat) (s : DS) (h : DK w B d s) (hB : B ≤ w.heap.size) (nm : ByteArray) (hs : nm.size ≤ maxLen) (hl : s.l.length < 100000) (v : Value) (bs : List Int) (hv : LiesK encB 1 w v bs) (hvd : bs ≠ [] → ∀ j, v.ownBlock = some j → ¬ Has d s j) (hbs : bs.length ≤ 1000000) (hf : fnd s nm = 0) (hfit : ¬ (s.room - (usedF s.l : Int) < (bs.length : Int))) (ha : s.ar = false) :
    Calls Tryz.prog 34 #[pv d, .string nm, v] w fun e w' => e = .returned (.int .i64 0) ∧ ∃ a' c', Out B d s { s with l := setF s.l ⟨nm, a', c', (fval s nm).b ++ bs, (fval s nm).s⟩ } w w' := by
  refine (append_go w B d s h hB nm hs hl v bs hv hvd hbs hf hfit).mono ?_
  rintro e w' ⟨rfl, a', c', ho⟩
  rw [tk_un ha, aft_un ha] at ho
  rw [tk_un ha, if_neg (by omega)]
  rw [show ((bs.length : Int)).toNat = bs.length from by omega, List.take_length] at ho
  exact ⟨rfl, a', c', ho⟩
theorem sync_fit (w : World) (B d : Nat) (s : DS) (h : DK w B d s) (nm : ByteArray) (hs : nm.size ≤ maxLen) (hl : s.l.length < 100000) (hf : fnd s nm = 0) (ha : s.ar = false) :
    Calls Tryz.prog 63 #[pv d, .string nm] w fun e w' => e = .returned (.int .i64 0) ∧ Out B d s { s with l := setF s.l (cutF (fval s nm) (fval s nm).b.length) } w w' := by
  refine (sync_go w B d s h nm hs hl hf).mono ?_
  rintro e w' (⟨h1, _⟩ | ⟨_, rfl, ho⟩)
  · rw [tk_un ha] at h1; omega
  · rw [aft_un ha] at ho
    exact ⟨rfl, ho⟩
theorem set_len {l : List Fl} {x y : Fl} (hr : Rise l) (hy : y ∈ l) (h : y.n = x.n) : (setF l x).length = l.length ∧ usedF (setF l x) + y.b.length = usedF l + x.b.length := by
  have hp := set_perm (l := l) x
  have hq : l.Perm (y :: l.filter (fun z => !sameN z x)) := by
    have e : (fun z => !sameN z x) = fun z => !sameN z y := by funext z; unfold sameN; rw [h]
    have := set_perm (l := l) y
    rw [e]
    have hs : setF l y = l := by
      obtain ⟨i, hi⟩ := List.mem_iff_getElem?.1 hy
      rw [set_at hr hi rfl]
      exact List.ext_getElem? (fun j => by
        by_cases e : i = j
        · subst e
          rw [List.getElem?_set_self (List.getElem?_eq_some_iff.1 hi).1, hi]
        · rw [List.getElem?_set_ne e])
    rw [hs] at this
    exact this
  refine ⟨?_, ?_⟩
  · rw [hp.length_eq, hq.length_eq]; rfl
  · rw [usedF_perm hp, usedF_perm hq, usedF_cons, usedF_cons]; omega
end Go.Proofs.YtgbihpfpiaacfaaGreatDoor
