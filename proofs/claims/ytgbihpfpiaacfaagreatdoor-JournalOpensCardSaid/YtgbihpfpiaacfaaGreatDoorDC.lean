/- A disk: its box, its files, what a call turns; ready, Down, Arm, take, step, Sure, find. -/
import Derived.Test.YtgbihpfpiaacfaaGreatDoorDB
import Derived.Laws.OwnMore
set_option linter.unusedVariables false
set_option linter.unusedSimpArgs false
set_option maxRecDepth 100000
namespace Go.Proofs.YtgbihpfpiaacfaaGreatDoor
open Go.RowKit Go.WideMaps Go.Maps

structure DS where
  m : Option Nat
  room : Int
  l : List Fl
  ar : Bool
  lf : Int
  dn : Bool
abbrev u8v (n : Int) : Value := .int .u8 n
def encB (n : Int) : List Value := [u8v n]
theorem encB_len (x : Int) : (encB x).length = 1 := rfl
theorem encB_one (x : Int) : ∀ v ∈ encB x, v.oneCell' = true := by
  intro v hv
  unfold encB at hv
  simp at hv
  subst hv
  rfl
def usedF (l : List Fl) : Nat := (l.map (fun x => x.b.length)).sum
theorem usedF_perm {l m : List Fl} (h : l.Perm m) : usedF l = usedF m := (h.map _).sum_nat
theorem usedF_cons (x : Fl) (l : List Fl) : usedF (x :: l) = x.b.length + usedF l := by simp [usedF]
theorem usedF_snoc (l : List Fl) (x : Fl) : usedF (l ++ [x]) = usedF l + x.b.length := by simp [usedF]
theorem usedF_mem {l : List Fl} {x : Fl} (h : x ∈ l) : x.b.length ≤ usedF l := by
  induction l with
  | nil => cases h
  | cons a l ih =>
    rw [usedF_cons]
    rcases List.mem_cons.1 h with rfl | h
    · omega
    · have := ih h; omega
theorem usedF_sub {k l : List Fl} (hn : k.Nodup) (hs : ∀ x ∈ k, x ∈ l) : usedF k ≤ usedF l := by
  induction k generalizing l with
  | nil => simp [usedF]
  | cons a k ih =>
    obtain ⟨h1, h2⟩ := List.nodup_cons.1 hn
    obtain ⟨p, q, e⟩ := List.append_of_mem (hs a (List.mem_cons_self ..))
    have hp : l.Perm (a :: (p ++ q)) := by rw [e]; exact List.perm_middle
    rw [usedF_perm hp, usedF_cons, usedF_cons]
    have := ih (l := p ++ q) h2 (fun x hx => by
      have := hs x (List.mem_cons_of_mem _ hx)
      rw [hp.mem_iff] at this
      rcases List.mem_cons.1 this with rfl | h
      · exact absurd hx h1
      · exact h)
    omega
def Has (d : Nat) (s : DS) (k : Nat) : Prop := k = d ∨ s.m = some k ∨ ∃ x ∈ s.l, x.v.ownBlock = some k
structure DK (w : World) (B d : Nat) (s : DS) : Prop where
  box : w.heap[d]? = some (.cells #[.int .i64 s.room, .map s.m, .bool s.ar, .int .i64 s.lf, .bool s.dn] 70 (0, 0))
  bd : B ≤ d
  map : (s.m = none ∧ s.l = []) ∨ ∃ b, s.m = some b ∧ B ≤ b ∧ DM w b s.l
  rows : ∀ x ∈ s.l, w.ownsRow B 5 1 x.v x.b.length (x.b.flatMap encB)
  far : s.l.Pairwise (fun x y => ∀ k, x.v.ownBlock = some k → y.v.ownBlock ≠ some k)
  left : -9223372036854775808 ≤ s.lf ∧ s.lf ≤ 9223372036854775807 ∧ (s.ar = true → 0 ≤ s.lf)
  roomok : 0 ≤ s.room ∧ s.room ≤ 16777216
  fits : (usedF s.l : Int) ≤ s.room
  sure : ∀ x ∈ s.l, 0 ≤ x.s ∧ x.s ≤ (x.b.length : Int)
/-- Only blocks of P turn. -/
structure Far (P : Nat → Prop) (w w' : World) : Prop where
  os : w'.os = w.os
  tape : w'.tape = w.tape
  output : w'.output = w.output
  size : w.heap.size ≤ w'.heap.size
  block : ∀ k, k < w.heap.size → ¬ P k → w'.heap[k]? = w.heap[k]?
theorem Far.of_grown {P : Nat → Prop} {w w' : World} {row : Option Nat} (h : w.grownBy w' row) (hr : ∀ k, row = some k → P k) : Far P w w' :=
  ⟨h.os, h.tape, h.output, h.size, fun k hk hn => h.block k hk (fun e => hn (hr k e.symm))⟩
theorem Far.of_below {P : Nat → Prop} {w w' : World} (h : Below w.heap.size w w') : Far P w w' := ⟨h.os, h.tape, h.output, h.size, fun k hk _ => h.block k hk⟩
theorem Far.refl (P : Nat → Prop) (w : World) : Far P w w := ⟨rfl, rfl, rfl, Nat.le_refl _, fun _ _ _ => rfl⟩
theorem Far.trans {P Q : Nat → Prop} {w w1 w2 : World} (h1 : Far P w w1) (h2 : Far Q w1 w2) (hq : ∀ k, k < w.heap.size → Q k → P k) : Far P w w2 :=
  ⟨h2.os.trans h1.os, h2.tape.trans h1.tape, h2.output.trans h1.output, Nat.le_trans h1.size h2.size, fun k hk hn => (h2.block k (Nat.lt_of_lt_of_le hk h1.size) (fun q => hn (hq k hk q))).trans (h1.block k hk hn)⟩
theorem Far.below {P : Nat → Prop} {w w' : World} {B : Nat} (h : Far P w w') (hB : B ≤ w.heap.size) (hp : ∀ k, P k → B ≤ k) : Below B w w' :=
  (⟨h.os, h.tape, h.output, h.size, fun k hk => h.block k (Nat.lt_of_lt_of_le hk hB) (fun q => by have := hp k q; omega)⟩)
theorem Far.row {P : Nat → Prop} {w w' : World} (h : Far P w w') {B e k n : Nat} {v : Value} {xs : List Value} (ho : w.ownsRow B e k v n xs) (hn : ∀ j, v.ownBlock = some j → ¬ P j) : w'.ownsRow B e k v n xs := by
  refine ⟨ho.1, ?_⟩
  rcases ho.2 with h0 | ⟨g, cap, cur, rfl, hB, hb, h1⟩
  · exact .inl h0
  · exact .inr ⟨g, cap, cur, rfl, hB, (h.block g (lt_of_block hb) (hn g rfl)).trans hb, h1⟩
theorem Far.map {P : Nat → Prop} {w w' : World} (h : Far P w w') {b : Nat} {l : List Fl} (ho : DM w b l) (hn : ¬ P b) : DM w' b l := by
  obtain ⟨es, ⟨en, clock, hb, F, hs, hD⟩, h2⟩ := ho
  exact ⟨es, ⟨en, clock, (h.block b (lt_of_block hb) hn).trans hb, F, hs, hD⟩, h2⟩
section
variable {w w' : World} {B d : Nat} {s : DS}
theorem DK.dlt (h : DK w B d s) : d < w.heap.size := lt_of_block h.box
theorem DK.nd (h : DK w B d s) : s.m ≠ some d ∧ ∀ x ∈ s.l, x.v.ownBlock ≠ some d := by
  constructor
  · intro e
    rcases h.map with ⟨h0, _⟩ | ⟨b, h0, _, es, ⟨en, c, hb, _⟩, _⟩
    · rw [h0] at e; cases e
    · rw [h0] at e; injection e with e; subst e
      rw [h.box] at hb; cases hb
  · intro x hx e
    rcases (h.rows x hx).2 with ⟨h0, _⟩ | ⟨g, cap, cur, h0, hB, hb, h1⟩
    · rw [h0] at e; cases e
    · rw [h0] at e
      have : g = d := by simpa [Value.ownBlock] using e
      subst this
      rw [h.box] at hb; cases hb
theorem DK.nm (h : DK w B d s) {b : Nat} (hm : s.m = some b) : ∀ x ∈ s.l, x.v.ownBlock ≠ some b := by
  intro x hx e
  rcases h.map with ⟨h0, _⟩ | ⟨b', h0, _, es, ⟨en, c, hb', _⟩, _⟩
  · rw [h0] at hm; cases hm
  · rw [h0] at hm; injection hm with hm; subst hm
    rcases (h.rows x hx).2 with ⟨h0, _⟩ | ⟨g, cap, cur, h0, hB, hb, h1⟩
    · rw [h0] at e; cases e
    · rw [h0] at e
      have : g = b' := by simpa [Value.ownBlock] using e
      subst this
      rw [hb'] at hb; cases hb
theorem DK.base (h : DK w B d s) : ∀ k, Has d s k → B ≤ k ∧ k < w.heap.size := by
  rintro k (rfl | e | ⟨x, hx, e⟩)
  · exact ⟨h.bd, h.dlt⟩
  · rcases h.map with ⟨h0, _⟩ | ⟨b, h0, hB, hb⟩
    · rw [h0] at e; cases e
    · rw [h0] at e; injection e with e; subst e; exact ⟨hB, hb.lt⟩
  · exact (h.rows x hx).lt k e
/-- Nothing of it turned. -/
theorem DK.still (h : DK w B d s) {P : Nat → Prop} (hf : Far P w w') (hn : ∀ k, Has d s k → ¬ P k) : DK w' B d s := by
  refine ⟨(hf.block d h.dlt (hn d (.inl rfl))).trans h.box, h.bd, ?_, fun x hx => hf.row (h.rows x hx) (fun j e => hn j (.inr (.inr ⟨x, hx, e⟩))), h.far, h.left, h.roomok, h.fits, h.sure⟩
  rcases h.map with h0 | ⟨b, h0, hB, hb⟩
  · exact .inl h0
  · exact .inr ⟨b, h0, hB, hf.map hb (hn b (.inr (.inl h0)))⟩
theorem DK.step (h : DK w B d s) (hb : Below w.heap.size w w') : DK w' B d s := h.still (P := fun _ => False) (Far.of_below hb) (fun _ _ q => q)
theorem DK.keep {E : Nat} (h : DK w B d s) (hb : Below E w w') (hE : w.heap.size ≤ E) : DK w' B d s := h.step ⟨hb.os, hb.tape, hb.output, hb.size, fun k hk => hb.block k (Nat.lt_of_lt_of_le hk hE)⟩
/-- Its box alone turned. -/
theorem DK.boxed (h : DK w B d s) {t : DS} (hf : Far (fun k => k = d) w w') (hb : w'.heap[d]? = some (.cells #[.int .i64 t.room, .map t.m, .bool t.ar, .int .i64 t.lf, .bool t.dn] 70 (0, 0))) (hm : t.m = s.m) (hl : t.l = s.l) (hr : t.room = s.room) (hlf : -9223372036854775808 ≤ t.lf ∧ t.lf ≤ 9223372036854775807 ∧ (t.ar = true → 0 ≤ t.lf)) : DK w' B d t := by
  obtain ⟨n1, n2⟩ := h.nd
  refine ⟨hb, h.bd, ?_, fun x hx => ?_, by rw [hl]; exact h.far, hlf, by rw [hr]; exact h.roomok, by rw [hl, hr]; exact h.fits, by rw [hl]; exact h.sure⟩
  · rw [hm, hl]
    rcases h.map with h0 | ⟨b, h0, hB, hb⟩
    · exact .inl h0
    · exact .inr ⟨b, h0, hB, hf.map hb (fun e => n1 (by rw [h0, e]))⟩
  · rw [hl] at hx
    exact hf.row (h.rows x hx) (fun j e e2 => n2 x hx (by rw [e, e2]))
theorem DK.cells (h : DK w B d s) : w.cell? ⟨d, 0, none⟩ = some (.int .i64 s.room) ∧ w.cell? ⟨d, 1, none⟩ = some (.map s.m) ∧ w.cell? ⟨d, 2, none⟩ = some (.bool s.ar) ∧ w.cell? ⟨d, 3, none⟩ = some (.int .i64 s.lf) ∧ w.cell? ⟨d, 4, none⟩ = some (.bool s.dn) := by
  refine ⟨?_, ?_, ?_, ?_, ?_⟩ <;> (rw [cell_of_row _ _ _ _ _ _ h.box]; rfl)
theorem DK.free (h : DK w B d s) : ∀ j, w.frozen? ⟨d, j, none⟩ = false := fun j => frozen_of_row _ _ _ _ _ h.box
theorem field69 (w : World) (a : Option Addr) (n c : Nat) (s : Int) : (Instr.field 82 (.agg #[.slice a n c, .int .i64 s]) 1).run Tryz.prog w = .ok (.int .i64 s) w := by kernel_rfl
theorem nil_look (w : World) (nm : ByteArray) : (Instr.lookup 68 (.map none) (.string nm) true).run Tryz.prog w = .ok (.tuple #[f0v, .bool false]) w := by kernel_rfl
theorem nil_look1 (w : World) (nm : ByteArray) : (Instr.lookup 68 (.map none) (.string nm) false).run Tryz.prog w = .ok f0v w := by kernel_rfl
theorem DK.look (h : DK w B d s) {nm : ByteArray} (hs : nm.size ≤ maxLen) : (Instr.lookup 68 (.map s.m) (.string nm) true).run Tryz.prog w = .ok (.tuple #[gvF s.l nm, .bool (getF s.l nm).isSome]) w := by
  rcases h.map with ⟨h0, h1⟩ | ⟨b, h0, hB, hb⟩
  · rw [h0, h1]; exact nil_look w nm
  · rw [h0]; exact hb.look hs
theorem DK.look1 (h : DK w B d s) {nm : ByteArray} (hs : nm.size ≤ maxLen) : (Instr.lookup 68 (.map s.m) (.string nm) false).run Tryz.prog w = .ok (gvF s.l nm) w := by
  rcases h.map with ⟨h0, h1⟩ | ⟨b, h0, hB, hb⟩
  · rw [h0, h1]; exact nil_look1 w nm
  · rw [h0]; exact hb.look1 hs
end
theorem wpList_look {w : World} {ops : Array Oper} {rest : List Oper} {o : Oper} {a : Act} {Q : Exit → Act → World → Prop} (hg : o.guard = none) (m x : Operand) (cm : Bool) (hop : o.op = Op.lookup 68 m x cm) (mv xv v : Value) (hm : a.eval m = mv) (hx : a.eval x = xv) (hrun : (Instr.lookup 68 mv xv cm).run Tryz.prog w = .ok v w)
    (hK : wpList Tryz.prog ops Q rest (a.put o.dst v) w) : wpList Tryz.prog ops Q (o :: rest) a w := by
  refine wpList_plain hg fun K' hK' => ?_
  unfold Oper.wp
  simp only [execOp, hop, hm, hx, hrun, Result.andThen_ok, Sem.run_bind, Sem.run_pure]
  exact hK' _ _ hK
/-- What a call does to a disk. -/
structure Out (B d : Nat) (s t : DS) (w w' : World) : Prop where
  dk : DK w' B d t
  far : Far (Has d s) w w'
  sub : ∀ k, Has d t k → Has d s k ∨ w.heap.size ≤ k
theorem Out.refl {w : World} {B d : Nat} {s : DS} (h : DK w B d s) : Out B d s s w w := ⟨h, Far.refl _ _, fun k q => .inl q⟩
theorem Out.still {w w' : World} {B d : Nat} {s : DS} (h : DK w B d s) (hb : Below w.heap.size w w') : Out B d s s w w' := ⟨h.step hb, Far.of_below hb, fun k q => .inl q⟩
theorem Out.trans {w w1 w2 : World} {B d : Nat} {s t u : DS} (h1 : Out B d s t w w1) (h2 : Out B d t u w1 w2) : Out B d s u w w2 :=
  ⟨h2.dk, h1.far.trans h2.far (fun k hk q => (h1.sub k q).resolve_right (by omega)), fun k q => by
    rcases h2.sub k q with q | q
    · exact h1.sub k q
    · exact .inr (Nat.le_trans h1.far.size q)⟩
theorem Out.of_below {w w1 w2 : World} {B d : Nat} {s t : DS} (hb : Below w.heap.size w w1) (h2 : Out B d s t w1 w2) : Out B d s t w w2 :=
  ⟨h2.dk, (Far.of_below hb).trans h2.far (fun k hk q => q), fun k q => by
    rcases h2.sub k q with q | q
    · exact .inl q
    · exact .inr (Nat.le_trans hb.size q)⟩
theorem Out.then_below {w w1 w2 : World} {B d : Nat} {s t : DS} (h1 : Out B d s t w w1) (hb : Below w1.heap.size w1 w2) : Out B d s t w w2 :=
  h1.trans (Out.still h1.dk hb)
theorem Out.boxed {w w' : World} {B d : Nat} {s t : DS} (h : DK w B d s) (hf : Far (fun k => k = d) w w') (hb : w'.heap[d]? = some (.cells #[.int .i64 t.room, .map t.m, .bool t.ar, .int .i64 t.lf, .bool t.dn] 70 (0, 0))) (hm : t.m = s.m) (hl : t.l = s.l) (hr : t.room = s.room) (hlf : -9223372036854775808 ≤ t.lf ∧ t.lf ≤ 9223372036854775807 ∧ (t.ar = true → 0 ≤ t.lf)) : Out B d s t w w' :=
  ⟨h.boxed hf hb hm hl hr hlf, ⟨hf.os, hf.tape, hf.output, hf.size, fun k hk hn => hf.block k hk (fun e => hn (.inl e))⟩, fun k q => by
    left
    rcases q with q | q | q
    · exact .inl q
    · exact .inr (.inl (by rw [← hm]; exact q))
    · exact .inr (.inr (by rw [← hl]; exact q))⟩
theorem far_set (w : World) (d j : Nat) (u : Value) : Far (fun k => k = d) w (w.setCell ⟨d, j, none⟩ u) := by
  refine ⟨rfl, rfl, rfl, by simp [World.setCell], fun k hk hn => heap_setCell_other w ⟨d, j, none⟩ k u (fun e => hn (by rw [e]))⟩
abbrev pv (d : Nat) : Value := .pointer (some ⟨d, 0, none⟩)
def rdy (s : DS) : Int := if s.dn then 12 else 0
theorem ready_any (w : World) (B d : Nat) (s : DS) (h : DK w B d s) : Calls Tryz.prog 64 #[pv d] w fun e w' => e = .returned (.int .i64 (rdy s)) ∧ w = w' := by
  obtain ⟨c0, c1, c2, c3, c4⟩ := h.cells
  clear h c0 c1 c2 c3
  unfold rdy
  cases hd : s.dn <;> rw [hd] at c4
  · go_enter Tryz.func64, Tryz.ntmps64
    go_wp2
    go_returns
    exact ⟨rfl, rfl⟩
  · go_enter Tryz.func64, Tryz.ntmps64
    go_wp2
    go_returns
    exact ⟨rfl, rfl⟩
theorem down_any (w : World) (B d : Nat) (s : DS) (h : DK w B d s) : Calls Tryz.prog 30 #[pv d] w fun e w' => e = .returned (.bool s.dn) ∧ w = w' := by
  obtain ⟨c0, c1, c2, c3, c4⟩ := h.cells
  clear h c0 c1 c2 c3
  cases hd : s.dn <;> rw [hd] at c4
  · go_enter Tryz.func30, Tryz.ntmps30
    go_wp2
    go_returns
    exact ⟨rfl, rfl⟩
  · go_enter Tryz.func30, Tryz.ntmps30
    go_wp2
    go_returns
    exact ⟨rfl, rfl⟩
set_option maxHeartbeats 800000 in
theorem sure_any (w : World) (B d : Nat) (s : DS) (h : DK w B d s) (nm : ByteArray) (hs : nm.size ≤ maxLen) : Calls Tryz.prog 36 #[pv d, .string nm] w fun e w' => e = .returned (.int .i64 (match getF s.l nm with | some x => x.s | none => 0)) ∧ w = w' := by
  obtain ⟨c0, c1, c2, c3, c4⟩ := h.cells
  have L := Lib.hid (h.look1 hs)
  clear h c0 c2 c3 c4
  obtain ⟨m, room, l, ar, lf, dn⟩ := s
  dsimp only at *
  unfold gvF at L
  have FD := field69 w
  cases hg : getF l nm with
  | none =>
    rw [hg] at L
    go_enter Tryz.func36, Tryz.ntmps36
    go_wp2_with (refine wpList_look rfl (.tmp 10) (.tmp 11) false rfl (.map m) (.string nm) (.agg #[.slice none 0 0, .int .i64 0]) rfl rfl L.out ?_)
    go_returns
    exact ⟨rfl, rfl⟩
  | some x =>
    rw [hg] at L
    go_enter Tryz.func36, Tryz.ntmps36
    go_wp2_with (refine wpList_look rfl (.tmp 10) (.tmp 11) false rfl (.map m) (.string nm) (.agg #[.slice x.a x.b.length x.c, .int .i64 x.s]) rfl rfl L.out ?_)
    go_returns
    exact ⟨rfl, rfl⟩
set_option maxHeartbeats 800000 in
theorem arm_any (w : World) (B d : Nat) (s : DS) (h : DK w B d s) (n : Int) (hn : -9223372036854775808 ≤ n ∧ n ≤ 9223372036854775807) : Calls Tryz.prog 29 #[pv d, .int .i64 n] w fun e w' => e = .returned (.tuple #[]) ∧ Out B d s { s with ar := decide (0 ≤ n), lf := n } w w' := by
  obtain ⟨c0, c1, c2, c3, c4⟩ := h.cells
  have f2 := h.free 2
  have f3 := h.free 3
  have H := Lib.hid h
  clear h c0 c1 c4
  go_enter Tryz.func29, Tryz.ntmps29
  go_wp2
  go_returns
  refine ⟨rfl, ?_⟩
  have r1 := row_setC (j := 2) (u := .bool (decide (0 ≤ n))) H.out.box
  have r2 := row_setC (j := 3) (u := .int .i64 n) r1
  refine Out.boxed H.out ((far_set w d 2 _).trans (far_set _ d 3 _) (fun k _ q => q)) ?_ rfl rfl rfl ⟨hn.1, hn.2, fun e => of_decide_eq_true e⟩
  exact r2
end Go.Proofs.YtgbihpfpiaacfaaGreatDoor

