/- A loop over a segment's records: what stands between its rounds. -/
import Derived.Test.YtgbihpfpiaacfaaGreatDoorJE
import Derived.LoopNIn
import Derived.RegionIn
import Derived.Shelf.RegionOpen
set_option linter.unusedVariables false
set_option linter.unusedSimpArgs false
set_option maxRecDepth 100000
namespace Go.Proofs.YtgbihpfpiaacfaaGreatDoor
open Go.RowKit Go.Shelf Go.WideMaps Go.Maps

theorem rec_at : ∀ (k at_ : Nat) (bs : List Nat) (i : Nat) (p : Nat × List Nat), (Rc.recsF k at_ bs)[i]? = some p → p.1 = at_ + Rc.takes ((Rc.recsF k at_ bs).take i)
  | 0, _, _, _, _, h => by simp [Rc.recsF] at h
  | k + 1, at_, bs, i, p, h => by
    unfold Rc.recsF at h ⊢
    by_cases he : (Rc.fst bs).2.2 = 0
    · rw [if_pos he] at h ⊢
      cases i with
      | zero =>
        simp at h
        rw [← h]
        simp [Rc.takes]
      | succ i =>
        rw [List.getElem?_cons_succ] at h
        have := rec_at k _ _ i p h
        rw [this, List.take_succ_cons]
        show _ = at_ + ((Rc.fst bs).1.length + 8 + _)
        have hl := Rc.fst_len he
        omega
    · rw [if_neg he] at h; simp at h
theorem takes_snoc {rs : List (Nat × List Nat)} {i : Nat} {p : Nat × List Nat} (h : rs[i]? = some p) : Rc.takes (rs.take (i + 1)) = Rc.takes (rs.take i) + (p.2.length + 8) := by
  obtain ⟨hlt, e⟩ := List.getElem?_eq_some_iff.1 h
  rw [List.take_succ_eq_append_getElem hlt, e, Rc.takes_append]
  simp [Rc.takes]
theorem lies_keptN {W W' : World} {row : Option Nat} {v : Value} {bs : List Nat} (h : Rc.Lies W v bs) (hg : W.grownBy W' row) (hr : ∀ k, row = some k → (bs ≠ [] → v.ownBlock ≠ some k) ∨ ∃ o : Obj, W.heap[k]? = some o ∧ o.isCells = false) : Rc.Lies W' v bs := by
  obtain ⟨ao, cap, rfl, h1, h2, h3, h4⟩ := h
  refine ⟨ao, cap, rfl, h1, h2, h3, fun b hb hne => ?_⟩
  obtain ⟨k, o, rfl, hk, hc⟩ := h4 b hb hne
  refine ⟨k, o, rfl, Nat.lt_of_lt_of_le hk hg.size, fun j x hj => ?_⟩
  refine hg.cell (hc j x hj) (fun e => ?_)
  rcases hr k e.symm with e | ⟨o', ho, hn⟩
  · exact e hne (by rw [hb]; rfl)
  · have := hc j x hj
    unfold World.cell? at this
    simp only [ho] at this
    cases o' <;> simp_all [Obj.isCells]
/-- What stands between two rounds. -/
structure RJ (w : World) (E k : Nat) (rs : List (Nat × List Nat)) (i : Nat) (vs : List Value) (ov : Value) (W : World) : Prop where
  b1 : W.heap[k]? = some (.cells #[ov] 30 (0, 0))
  row : W.ownsRow E 39 1 ov vs.length vs
  len : vs.length = i
  each : ∀ (j : Nat) u p, vs[j]? = some u → rs[j]? = some p → Rc.Lies W u p.2 ∧ (p.2 ≠ [] → ∀ g, u.ownBlock = some g → ov.ownBlock ≠ some g)
  b2 : W.heap[k + 1]? = some (.cells #[.int .i64 ((Rc.takes (rs.take i) : Nat) : Int)] 3 (0, 0))
  bel : Below w.heap.size w W
  size : E ≤ W.heap.size
def RI (w : World) (E k : Nat) (rs : List (Nat × List Nat)) (i : Nat) (W : World) : Prop := ∃ vs ov, RJ w E k rs i vs ov W
theorem RI.own {w : World} {E k B : Nat} {rs : List (Nat × List Nat)} (hB : w.heap.size ≤ B) : OwnFrom B (RI w E k rs) := by
  intro i W W' row h hg hr
  obtain ⟨vs, ov, h⟩ := h
  have nb : ∀ {g : Nat} {cs : Array Value} {t : TypeId} {fr : Nat × Nat}, W.heap[g]? = some (.cells cs t fr) → W'.heap[g]? = some (.cells cs t fr) := fun {g cs t fr} hb => (hg.block g (lt_of_block hb) (fun e => by
    obtain ⟨_, o, ho, hc⟩ := hr _ e.symm
    rw [hb] at ho
    cases ho
    cases hc)).trans hb
  refine ⟨vs, ov, nb h.b1, ?_, h.len, fun j u p hu hp => ⟨lies_keptN (h.each j u p hu hp).1 hg (fun g e => .inr (hr g e).2), (h.each j u p hu hp).2⟩, nb h.b2, h.bel.grown hg h.bel.size (fun g e => Nat.le_trans hB (hr g e).1), Nat.le_trans h.size hg.size⟩
  refine ⟨h.row.1, ?_⟩
  rcases h.row.2 with q | ⟨g, cap, cur, rfl, hE, hb, q⟩
  · exact .inl q
  · exact .inr ⟨g, cap, cur, rfl, hE, nb hb, q⟩
/-- One slice more. -/
theorem RJ.push {w : World} {E k lo : Nat} {rs : List (Nat × List Nat)} {i : Nat} {vs : List Value} {ov v' : Value} {W W3 : World} {a : Option Addr} {c : Nat} {p : Nat × List Nat} {t : Int} (h : RJ w E k rs i vs ov W) (hp : rs[i]? = some p) (hk : w.heap.size ≤ k) (hkl : k + 1 < lo) (hwE : w.heap.size ≤ E)
    (hL : Rc.Lies W (.slice a p.2.length c) p.2) (hfr : ∀ ad, a = some ad → ov.ownBlock ≠ some ad.block) (ho : W3.ownsRow E 39 1 v' (vs ++ [Value.slice a p.2.length c]).length (vs ++ [Value.slice a p.2.length c])) (hg : (W.alloc (.cells #[.slice a p.2.length c] 39)).grownBy W3 ov.ownBlock)
    (hs : Sprung (W.alloc (.cells #[.slice a p.2.length c] 39)) ov v') (ht : t = ((Rc.takes (rs.take (i + 1)) : Nat) : Int)) :
    W3.heap[k]? = some (.cells #[ov] 30 (0, 0)) ∧ (W3.setCell ⟨k, 0, none⟩ v').heap[k + 1]? = some (.cells #[.int .i64 ((Rc.takes (rs.take i) : Nat) : Int)] 3 (0, 0)) ∧
    RI w E k rs (i + 1) ((W3.setCell ⟨k, 0, none⟩ v').setCell ⟨k + 1, 0, none⟩ (.int .i64 t)) ∧ Rc.KeepRow lo E W ((W3.setCell ⟨k, 0, none⟩ v').setCell ⟨k + 1, 0, none⟩ (.int .i64 t)) ∧ KeepsOthers W ((W3.setCell ⟨k, 0, none⟩ v').setCell ⟨k + 1, 0, none⟩ (.int .i64 t)) := by
  have hB := vstep W (.cells #[.slice a p.2.length c] 39)
  obtain ⟨W2, hW2⟩ : ∃ z, W.alloc (.cells #[.slice a p.2.length c] 39) = z := ⟨_, rfl⟩
  have hK0 := KeepsOthers.alloc W (.cells #[.slice a p.2.length c] 39)
  rw [hW2] at hB hg hs hK0
  have hr2 : W2.ownsRow E 39 1 ov vs.length vs := own_belowK h.row hB
  have own39 : ∀ g, ov.ownBlock = some g → E ≤ g ∧ ∃ cs, W2.heap[g]? = some (.cells cs 39 (0, 0)) := by
    intro g hg'
    rcases hr2.2 with ⟨rfl, _⟩ | ⟨g', cap, cur, rfl, hE, hb, _⟩
    · cases hg'
    · have : g' = g := by simpa [Value.ownBlock] using hg'
      subst this
      exact ⟨hE, cur, hb⟩
  have nb : ∀ {g : Nat} {cs : Array Value} {t : TypeId} {fr : Nat × Nat}, W.heap[g]? = some (.cells cs t fr) → t ≠ 39 → W3.heap[g]? = some (.cells cs t fr) := fun {g cs t fr} hb ht => by
    have hb2 := (hB.block g (lt_of_block hb)).trans hb
    refine (hg.block g (lt_of_block hb2) (fun e => ?_)).trans hb2
    obtain ⟨_, cs', h'⟩ := own39 g e.symm
    rw [hb2] at h'
    injection h' with h'
    injection h' with _ h' _
    exact ht h'
  have q1 := nb h.b1 (by decide)
  have q2 := nb h.b2 (by decide)
  have hkk : k + 1 ≠ k := by omega
  have s1 : (W3.setCell ⟨k, 0, none⟩ v').heap[k]? = some (.cells #[v'] 30 (0, 0)) := row_setC (j := 0) q1
  have s2 : (W3.setCell ⟨k, 0, none⟩ v').heap[k + 1]? = _ := (Below.heap_setCell W3 ⟨k, 0, none⟩ v' (k + 1) (by show ¬ (k + 1 = k); omega)).trans q2
  have s3 := row_setC (j := 0) (u := .int .i64 t) s2
  have s4 : ((W3.setCell ⟨k, 0, none⟩ v').setCell ⟨k + 1, 0, none⟩ (.int .i64 t)).heap[k]? = _ := (Below.heap_setCell (W3.setCell ⟨k, 0, none⟩ v') ⟨k + 1, 0, none⟩ (.int .i64 t) k (by show ¬ (k = k + 1); omega)).trans s1
  have oth : ∀ g, g ≠ k → g ≠ k + 1 → ((W3.setCell ⟨k, 0, none⟩ v').setCell ⟨k + 1, 0, none⟩ (.int .i64 t)).heap[g]? = W3.heap[g]? := fun g e1 e2 =>
    (Below.heap_setCell (W3.setCell ⟨k, 0, none⟩ v') ⟨k + 1, 0, none⟩ (.int .i64 t) g (by show ¬ (g = k + 1); exact e2)).trans (Below.heap_setCell W3 ⟨k, 0, none⟩ v' g (by show ¬ (g = k); exact e1))
  have hE3 : E ≤ W3.heap.size := Nat.le_trans h.size (Nat.le_trans hB.size hg.size)
  have hk3 := lt_of_block q1
  have hk4 := lt_of_block q2
  have set2 : ∀ {u : Value} {bs : List Nat}, Rc.Lies W3 u bs → (bs ≠ [] → u.ownBlock ≠ some k ∧ u.ownBlock ≠ some (k + 1)) → Rc.Lies ((W3.setCell ⟨k, 0, none⟩ v').setCell ⟨k + 1, 0, none⟩ (.int .i64 t)) u bs := by
    intro u bs hl hne
    obtain ⟨ao, cap, rfl, l1, l2, l3, l4⟩ := hl
    refine ⟨ao, cap, rfl, l1, l2, l3, fun b hb hn => ?_⟩
    obtain ⟨g, o, rfl, hgl, hc⟩ := l4 b hb hn
    have := hne hn
    rw [hb] at this
    have e1 : g ≠ k := fun e => this.1 (by rw [e]; rfl)
    have e2 : g ≠ k + 1 := fun e => this.2 (by rw [e]; rfl)
    exact ⟨g, o, rfl, by simpa [World.setCell] using hgl, fun j x hj => (World.cell?_of_block (a := ⟨g, o + j, none⟩) (oth g e1 e2)).trans (hc j x hj)⟩
  -- bytes do not lie in the boxes
  have nbox : ∀ {u : Value} {bs : List Nat}, Rc.Lies W u bs → bs ≠ [] → u.ownBlock ≠ some k ∧ u.ownBlock ≠ some (k + 1) := by
    intro u bs hl hne
    obtain ⟨ao, cap, rfl, l1, l2, l3, l4⟩ := hl
    cases ao with
    | none => exact absurd (l3 rfl).1 hne
    | some b =>
      obtain ⟨g, o, rfl, hgl, hc⟩ := l4 b rfl hne
      have hpos : 0 < bs.length := by cases bs with | nil => exact absurd rfl hne | cons => simp
      have hc0 := hc 0 bs[0] (List.getElem?_eq_getElem hpos)
      have tell : ∀ (g' : Nat) (cv : Value) (t' : TypeId), W.heap[g']? = some (.cells #[cv] t' (0, 0)) → (∀ x : Int, cv ≠ .int .u8 x) → g ≠ g' := fun g' cv t' hb hcv e => by
        subst e
        rw [cell_of_row _ _ _ _ _ _ hb] at hc0
        have h0 : o + 0 = 0 := by
          have := (Array.getElem?_eq_some_iff.1 hc0).1
          simp at this
          omega
        rw [h0] at hc0
        simp at hc0
        exact hcv _ hc0
      refine ⟨fun e => ?_, fun e => ?_⟩
      · have e : g = k := by simpa [Value.ownBlock] using e
        refine tell k ov 30 h.b1 (fun x hx => ?_) e
        rcases h.row.2 with ⟨q, _⟩ | ⟨_, _, _, q, _⟩ <;> (rw [q] at hx; cases hx)
      · have e : g = k + 1 := by simpa [Value.ownBlock] using e
        exact tell (k + 1) _ 3 h.b2 (fun x hx => by cases hx) e
  have keep : ∀ {u : Value} {bs : List Nat}, Rc.Lies W u bs → (bs ≠ [] → ∀ g, u.ownBlock = some g → ov.ownBlock ≠ some g) → Rc.Lies ((W3.setCell ⟨k, 0, none⟩ v').setCell ⟨k + 1, 0, none⟩ (.int .i64 t)) u bs := by
    intro u bs hl hne
    exact set2 (lies_keptN (hl.later hB) hg (fun g e => .inl (fun hn e2 => hne hn g e2 e))) (nbox hl)
  have newB : ∀ {u : Value} {bs : List Nat}, Rc.Lies W u bs → (bs ≠ [] → ∀ g, u.ownBlock = some g → ov.ownBlock ≠ some g) → bs ≠ [] → ∀ g, u.ownBlock = some g → v'.ownBlock ≠ some g := by
    intro u bs hl hne hn g hu hv
    rcases hs with hs | ⟨z, hs, hz⟩
    · exact hne hn g hu (hs ▸ hv)
    · rw [hs] at hv
      injection hv with hv
      subst hv
      obtain ⟨ao, cap, rfl, l1, l2, l3, l4⟩ := hl
      cases ao with
      | none => cases hu
      | some b =>
        obtain ⟨g', o, rfl, hgl, _⟩ := l4 b rfl hn
        have : g' = z := by simpa [Value.ownBlock] using hu
        have := hB.size
        omega
  have hLn : p.2 ≠ [] → ∀ g, (Value.slice a p.2.length c).ownBlock = some g → ov.ownBlock ≠ some g := fun _ g e => by
    cases a with
    | none => cases e
    | some ad =>
      have e : ad.block = g := by simpa [Value.ownBlock] using e
      subst e
      exact hfr ad rfl
  have hbelow : Below w.heap.size w ((W3.setCell ⟨k, 0, none⟩ v').setCell ⟨k + 1, 0, none⟩ (.int .i64 t)) := by
    have hb2 : Below w.heap.size w W2 := h.bel.trans (hB.mono h.bel.size)
    have hb3 : Below w.heap.size w W3 := hb2.grown hg hb2.size (fun g e => Nat.le_trans hwE (own39 g e).1)
    exact (hb3.setCell (p := ⟨k, 0, none⟩) hk _).setCell (p := ⟨k + 1, 0, none⟩) (by show w.heap.size ≤ k + 1; omega) _
  refine ⟨q1, s2, ⟨vs ++ [Value.slice a p.2.length c], v', s4, ?_, by rw [List.length_append, h.len]; rfl, ?_, by rw [← ht]; exact s3, hbelow, by simpa [World.setCell] using hE3⟩, ?_, ?_⟩
  · refine ⟨ho.1, ?_⟩
    rcases ho.2 with q | ⟨g, cap, cur, e, hE, hb, q⟩
    · exact .inl q
    · refine .inr ⟨g, cap, cur, e, hE, (oth g (fun e1 => ?_) (fun e1 => ?_)).trans hb, q⟩
      · subst e1
        rw [q1] at hb
        injection hb with hb
        injection hb with _ hb _
        cases hb
      · subst e1
        rw [q2] at hb
        injection hb with hb
        injection hb with _ hb _
        cases hb
  · intro j u pj hu hpj
    by_cases hj : j < vs.length
    · rw [List.getElem?_append_left hj] at hu
      obtain ⟨e1, e2⟩ := h.each j u pj hu hpj
      exact ⟨keep e1 e2, newB e1 e2⟩
    · have hj2 : j = vs.length := by
        have := (List.getElem?_eq_some_iff.1 hu).1
        simp at this
        omega
      subst hj2
      rw [List.getElem?_append_right (Nat.le_refl _), Nat.sub_self] at hu
      have hu : Value.slice a p.2.length c = u := by simpa using hu
      rw [h.len, hp] at hpj
      injection hpj with hpj
      subst hu hpj
      exact ⟨keep hL hLn, newB hL hLn⟩
  · intro g hg1 hg2 o ho' hc
    have e1 := (hB.block g (Array.getElem?_eq_some_iff.1 ho').1).trans ho'
    have e2 := (hg.block g (Array.getElem?_eq_some_iff.1 e1).1 (fun e => by have := (own39 g e.symm).1; omega)).trans e1
    exact (oth g (by omega) (by omega)).trans e2
  · exact ((hK0.trans (KeepsOthers.of_grownBy hg (fun j o e hj => by
      obtain ⟨_, cs, hb⟩ := own39 j e
      rw [hb] at hj
      injection hj with hj
      subst hj
      rfl))).trans (KeepsOthers.setCell _ _ _)).trans (KeepsOthers.setCell _ _ _)
theorem info39 : (Tryz.prog.info? 39).map (fun i => (i.zero, i.size, i.bytes)) = some (some (.slice none 0 0), 1, 24) := by kernel_rfl
theorem wpListIn_pushV {F : Fence} {n : Nat} {w : World} {ops : Array Oper} {rest : List Oper} {o : Oper} {a : Act} {Q : Exit → Act → World → Prop} (hgd : o.guard = none) (s x : Operand)
    (ho : o.op = .call { callee := .builtin .append, args := #[s, x], argTypes := #[30, 30] }) (base : Nat) (v : Value) (vs : List Value) (u : Value) (g : Nat) (hs : a.eval s = v) (hx : a.eval x = .slice (some ⟨g, 0, none⟩) 1 1) (hb : w.heap[g]? = some (.cells #[u] 39 (0, 0))) (hu : u.oneCell' = true)
    (hown : w.ownsRow base 39 1 v vs.length vs) (hl : vs.length ≤ 100000) (hbase : base ≤ w.heap.size)
    (h : ∀ v' w', w'.ownsRow base 39 1 v' (vs ++ [u]).length (vs ++ [u]) → w.grownBy w' v.ownBlock → Sprung w v v' → wpListIn F n Tryz.prog ops Q rest (a.put o.dst v') w') : wpListIn F n Tryz.prog ops Q (o :: rest) a w := by
  obtain ⟨i0, hi9, hz0, hz1, hz2⟩ := info_parts info39
  have u30 : Tryz.prog.underlying 30 = some (.slice 39) := by kernel_rfl
  have hsrc : Src Tryz.prog 1 30 (.slice (some ⟨g, 0, none⟩) 1 1) 1 [u] w := by
    refine Src.ofSlice _ u30 _ _ _ _ rfl (fun j y hj => ?_) (fun y hy => by rw [List.mem_singleton.1 hy]; exact hu)
    have h0 : j = 0 := by have := (List.getElem?_eq_some_iff.1 hj).1; simp at this; exact this
    subst h0
    rw [rk_addr]
    exact (cell_of_row _ _ _ _ _ _ hb).trans (by simpa using hj)
  refine wpListIn_plain hgd fun K hK => ?_
  obtain ⟨v', w', hr, h2, h3, h4⟩ := run_append_src_own (P := Tryz.prog) w base 30 30 o.type 39 i0 (.slice none 0 0) 1 24 u30 hi9 hz0 hz1 hz2 rfl (by omega) v vs.length vs hown _ 1 [u] hsrc (by unfold maxLen; omega) (by omega) hbase
  unfold Oper.wpIn
  refine ⟨by simp [Oper.about, ho, resolve, Target.leads, Sem.run_pure], ?_⟩
  rw [Oper.semAt_plain F _ _ (by rw [ho]; intro c hc'; cases hc')]
  simp only [execOp, ho, resolve, invoke, builtin, Sem.run_bind, Sem.run_pure, Result.andThen_ok, List.map_toArray, List.map_cons, List.map_nil, hs, hx, hr]
  exact hK _ _ (h v' w' (by rw [List.length_append]; exact h2) h3 h4)
theorem func_nil12 (b : Nat) (W : World) : (binOp .eql 96 (.func (.func 72) #[] #[.pointer (some ⟨b, 0, none⟩)]) .nilFunc).run Tryz.prog W = .ok (.bool false) W := by kernel_rfl
theorem lies_box {W : World} {u : Value} {bs : List Nat} {g : Nat} {cs : Array Value} {t : TypeId} (h : Rc.Lies W u bs) (hn : bs ≠ []) (hb : W.heap[g]? = some (.cells cs t (0, 0))) (hc : ∀ (j : Nat) (x : Int), cs[j]? ≠ some (.int .u8 x)) : u.ownBlock ≠ some g := by
  intro e
  obtain ⟨ao, cap, rfl, l1, l2, l3, l4⟩ := h
  cases ao with
  | none => cases e
  | some b =>
    obtain ⟨g', o, rfl, _, hcs⟩ := l4 b rfl hn
    have e : g' = g := by simpa [Value.ownBlock] using e
    subst e
    have hpos : 0 < bs.length := by cases bs with | nil => exact absurd rfl hn | cons => simp
    have h0 := hcs 0 bs[0] (List.getElem?_eq_getElem hpos)
    rw [cell_of_row _ _ _ _ _ _ hb] at h0
    exact hc _ _ h0
/-- What lies apart from the blocks that turn. -/
theorem lies_apart {W W' : World} {u : Value} {bs : List Nat} (h : Rc.Lies W u bs) (hs : W.heap.size ≤ W'.heap.size) (hb : bs ≠ [] → ∀ g, u.ownBlock = some g → g < W.heap.size → W'.heap[g]? = W.heap[g]?) : Rc.Lies W' u bs := by
  obtain ⟨ao, cap, rfl, l1, l2, l3, l4⟩ := h
  refine ⟨ao, cap, rfl, l1, l2, l3, fun b hbb hn => ?_⟩
  obtain ⟨g, o, rfl, hg, hc⟩ := l4 b hbb hn
  exact ⟨g, o, rfl, Nat.lt_of_lt_of_le hg hs, fun j x hj => (World.cell?_of_block (a := ⟨g, o + j, none⟩) (hb hn g (by rw [hbb]; rfl) hg)).trans (hc j x hj)⟩
/-- A row of slices that hold these bytes. -/
def Says (w : World) (E : Nat) (v : Value) (L : List (List Nat)) : Prop := ∃ vs : List Value, w.ownsRow E 39 1 v vs.length vs ∧ vs.length = L.length ∧ ∀ (i : Nat) u b, vs[i]? = some u → L[i]? = some b → Rc.Lies w u b
theorem Says.step {w w' : World} {E : Nat} {v : Value} {L : List (List Nat)} (h : Says w E v L) (hb : Below w.heap.size w w') : Says w' E v L := by
  obtain ⟨vs, h1, h2, h3⟩ := h
  exact ⟨vs, own_belowK h1 hb, h2, fun i u b hu hL => (h3 i u b hu hL).later hb⟩
theorem row_at {W W' : World} {E e k n : Nat} {v : Value} {xs : List Value} (h : W.ownsRow E e k v n xs) (hb : ∀ g, v.ownBlock = some g → W'.heap[g]? = W.heap[g]?) : W'.ownsRow E e k v n xs := by
  refine ⟨h.1, ?_⟩
  rcases h.2 with q | ⟨g, cap, cur, rfl, hE, hg, q⟩
  · exact .inl q
  · exact .inr ⟨g, cap, cur, rfl, hE, (hb g rfl).trans hg, q⟩
/-- Behind the loop: the size is stored, the mark is taken. -/
theorem RJ.done {w W w9 : World} {E k D q d : Nat} {rs : List (Nat × List Nat)} {vs : List Value} {ov : Value} {a1 a2 a3 a4 t : Int} (h : RJ w E k rs rs.length vs ov W) (hq : W.heap[q]? = some (.cells #[pv d, .int .i64 a1, .int .i64 a2, .int .i64 a3, .int .i64 a4] 74 (0, 0))) (hqE : q < E) (hwE : w.heap.size ≤ E)
    (hb : Below (W.setCell ⟨q, 4, none⟩ (.int .i64 t)).heap.size (W.setCell ⟨q, 4, none⟩ (.int .i64 t)) w9) (hD : w9.heap[D]? = some (.deferred (some []))) : Says (w9.putObj D (.deferred none)) w.heap.size ov (rs.map (·.2)) := by
  have far : ∀ g cs ty, W.heap[g]? = some (.cells cs ty (0, 0)) → g ≠ q → (w9.putObj D (.deferred none)).heap[g]? = W.heap[g]? := by
    intro g cs ty hg hne
    have e1 : (W.setCell ⟨q, 4, none⟩ (.int .i64 t)).heap[g]? = W.heap[g]? := Below.heap_setCell W ⟨q, 4, none⟩ (.int .i64 t) g (fun e => hne e)
    have hgl : g < (W.setCell ⟨q, 4, none⟩ (.int .i64 t)).heap.size := by rw [show (W.setCell ⟨q, 4, none⟩ (.int .i64 t)).heap.size = W.heap.size from by simp [World.setCell]]; exact lt_of_block hg
    have e2 := (hb.block g hgl).trans e1
    refine (World.putObj_heap_other (fun e => ?_)).trans e2
    subst e
    rw [e2, hg] at hD
    cases hD
  refine ⟨vs, own_lower (row_at h.row (fun g e => ?_)) hwE, by rw [h.len, List.length_map], fun j u b hu hL => ?_⟩
  · rcases h.row.2 with ⟨q', _⟩ | ⟨g', cap, cur, q', hE, hg, _⟩
    · rw [q'] at e; cases e
    · rw [q'] at e
      have e : g' = g := by simpa [Value.ownBlock] using e
      subst e
      exact far g' cur 39 hg (by omega)
  · rw [List.getElem?_map] at hL
    obtain ⟨p, hp, rfl⟩ := Option.map_eq_some_iff.1 hL
    have hl := (h.each j u p hu hp).1
    refine lies_apart hl ?_ (fun hn g e hgl => ?_)
    · have h1 : (W.setCell ⟨q, 4, none⟩ (.int .i64 t)).heap.size = W.heap.size := by simp [World.setCell]
      have h2 := hb.size
      have h3 : (w9.putObj D (.deferred none)).heap.size = w9.heap.size := by simp [World.putObj]
      omega
    · obtain ⟨ao, cap, rfl, l1, l2, l3, l4⟩ := id hl
      cases ao with
      | none => cases e
      | some b0 =>
        obtain ⟨g', o, rfl, _, hcs⟩ := l4 b0 rfl hn
        have e' : g' = g := by simpa [Value.ownBlock] using e
        subst e'
        have hpos : 0 < p.2.length := by cases hpp : p.2 with | nil => exact absurd hpp hn | cons => simp
        have hc0 := hcs 0 p.2[0] (List.getElem?_eq_getElem hpos)
        cases hobj : W.heap[g']? with
        | none => unfold World.cell? at hc0; simp [hobj] at hc0
        | some ob =>
          have hne : g' ≠ q := fun e => lies_box hl hn hq (fun j x => by
            match j with
            | 0 => simp
            | 1 => simp
            | 2 => simp
            | 3 => simp
            | 4 => simp
            | j + 5 => simp) (by rw [← e]; rfl)
          have e1 : (W.setCell ⟨q, 4, none⟩ (.int .i64 t)).heap[g']? = W.heap[g']? := Below.heap_setCell W ⟨q, 4, none⟩ (.int .i64 t) g' (fun e => hne e)
          have hgl2 : g' < (W.setCell ⟨q, 4, none⟩ (.int .i64 t)).heap.size := by rw [show (W.setCell ⟨q, 4, none⟩ (.int .i64 t)).heap.size = W.heap.size from by simp [World.setCell]]; exact hgl
          have e2 := (hb.block g' hgl2).trans e1
          rw [← hobj]
          refine (World.putObj_heap_other (fun e => ?_)).trans e2
          subst e
          rw [e2] at hD
          unfold World.cell? at hc0
          simp [hD] at hc0
end Go.Proofs.YtgbihpfpiaacfaaGreatDoor
