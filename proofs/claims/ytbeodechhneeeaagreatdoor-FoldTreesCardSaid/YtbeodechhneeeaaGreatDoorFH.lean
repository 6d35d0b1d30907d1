/- The reference's Set, Of, Idle. Made by genfh15.py. -/
import Derived.Test.YtbeodechhneeeaaGreatDoorFG
set_option linter.unusedVariables false
set_option linter.unusedSimpArgs false
set_option maxRecDepth 100000
namespace Go.Proofs.YtbeodechhneeeaaGreatDoor
open Go.RowKit Go.Shelf
open Tb (Rw setF getF aboveF Rise TabI TM LiesK LiesR ltS encS Sp Sprung)

theorem rnil : Rise ([] : List Rw) := List.Pairwise.nil
theorem frs_keep {n m : Nat} {W : World} {v : Value} (h : Frs m W v) (hs : n ≤ m) : Frs n W v := fun k e => ⟨Nat.le_trans hs (h k e).1, (h k e).2⟩
set_option maxHeartbeats 3200000 in
theorem rsetO_any (w : World) (v : Value) (l : List O) (h : OLies w v l) (hsz : ∀ o ∈ l, o.nm.size ≤ 9223372036854775807) (hl : l.length ≤ 1000) (hu : (uniqF l).length ≤ 79) :
    Calls Tryz.prog 23 #[v] w fun e w' => ∃ r, e = .returned r ∧ OLies w' r (setO l) ∧ Below w.heap.size w w' ∧ Frs w.heap.size w' r := by
  have C := Lib.hid (uniq_any w v l h hsz hl)
  obtain ⟨ao, cap, rfl⟩ := h.shape
  clear h hsz
  go_enter Tryz.func23, Tryz.ntmps23
  go_wp2_with fail
  refine C.out.mono ?_
  rintro e w1 ⟨r, rfl, ho, hb⟩
  have S := Lib.hid (rsorted_any w1 r (uniqF l) (own_olies ho) (by omega))
  obtain ⟨ra, rc, rfl⟩ := Ve.own_shape ho
  have HB := Lib.hid hb
  clear ho hb C
  go_wp2_with fail
  refine S.out.mono ?_
  rintro e w2 ⟨r2, rfl, hol, hb2, hf⟩
  have F := Lib.hid (show OLies w2 r2 (setO l) ∧ Below w.heap.size w w2 ∧ Frs w.heap.size w2 r2 from ⟨hol, HB.out.trans (hb2.mono HB.out.size), frs_keep hf HB.out.size⟩)
  obtain ⟨sa, sc, rfl⟩ := hol.shape
  clear hol hb2 hf S
  go_wp2
  go_returns
  exact ⟨_, rfl, F.out⟩
theorem wpList_pushS {α : Type} {enc : α → List Value} {k : Nat} {P : Program} {w : World} {ops : Array Oper} {rest : List Oper} {o : Oper} {a : Act} {Q : Exit → Act → World → Prop} (hgd : o.guard = none) (s x : Operand) (t : TypeId)
    (ho : o.op = .call { callee := .builtin .append, args := #[s, x], argTypes := #[t, t] }) (hk : ∀ x, (enc x).length = k) (hk0 : 0 < k) (h1 : ∀ x, ∀ v ∈ enc x, v.oneCell' = true)
    (base : Nat) (e : TypeId) (i : TypeInfo) (z : Value) (bytes : Nat) (ht : P.underlying t = some (.slice e)) (hi : P.info? e = some i) (hz : i.zero = some z)
    (hsize : i.size = k) (hby : i.bytes = bytes) (hzs : z.cells.size = k)
    (v : Value) (l : List α) (p : α) (g : Nat) (hs : a.eval s = v) (hx : a.eval x = .slice (some ⟨g, 0, none⟩) 1 1) (hb : w.heap[g]? = some (.cells (enc p).toArray e (0, 0))) (hown : w.ownsRow base e k v l.length (l.flatMap enc))
    (h63 : l.length + 1 ≤ maxLen) (hbytes : (l.length + 1) * bytes ≤ 140737488355328) (hbase : base ≤ w.heap.size)
    (h : ∀ v' w', w'.ownsRow base e k v' (l ++ [p]).length ((l ++ [p]).flatMap enc) → w.grownBy w' v.ownBlock → Sprung w v v' → wpList P ops Q rest (a.put o.dst v') w') : wpList P ops Q (o :: rest) a w := by
  have hsrc := (Tb.one_liesK hk hb).src ht hk hk0 h1
  refine Tb.wpList_append_src_own hgd s x t t ho base e i z k bytes ht hi hz hsize hby hzs hk0 v l.length _ hs hown _ 1 ([p].flatMap enc) hx hsrc h63 hbytes hbase ?_
  intro v' w' a1 a2 a3
  exact h v' w' (by rw [List.length_append, List.flatMap_append]; exact a1) a2 a3
theorem liesK_grown {α : Type} {enc : α → List Value} {k : Nat} {W W' : World} {v : Value} {l : List α} {ob : Option Nat} (h : LiesK enc k W v l) (hg : W.grownBy W' ob) (hne : ∀ j, v.ownBlock = some j → ob ≠ some j) : LiesK enc k W' v l := by
  obtain ⟨ao, cap, rfl, hn, hm, h0, hc⟩ := h
  refine ⟨ao, cap, rfl, hn, hm, h0, fun b hbb hx => ?_⟩
  obtain ⟨g, o, rfl, hk, hc2⟩ := hc b hbb hx
  subst hbb
  refine ⟨g, o, rfl, Nat.lt_of_lt_of_le hk hg.size, fun j p hj i u hi => (World.cell?_of_block (hg.block g hk (fun e => hne g rfl e.symm))).trans (hc2 j p hj i u hi)⟩
/-- What stands in Idle's loop: the table's slice and the stamps'. -/
structure RID (w1 W : World) (tv iv : Value) (T : List Rw) (I : List Sp) : Prop where
  bel : Below w1.heap.size w1 W
  tab : LiesR W tv T
  row : W.ownsRow w1.heap.size 31 2 iv I.length (I.flatMap encS)
  ne : ∀ k, tv.ownBlock = some k → iv.ownBlock ≠ some k
  lt : ∀ k, tv.ownBlock = some k → k < W.heap.size
theorem RID.step {w1 W W' : World} {tv tv' iv : Value} {T T' : List Rw} {I : List Sp} (h : RID w1 W tv iv T I) (hb : Below W.heap.size W W') (ht : LiesR W' tv' T') (hs : Spr W.heap.size W' tv tv') : RID w1 W' tv' iv T' I :=
  ⟨h.bel.trans (hb.mono h.bel.size), ht, own_below h.row hb, fun k e => by
    rcases hs k e with q | q
    · exact h.ne k q
    · intro e2; have := h.row.lt k e2; omega, fun k e => by
    rcases hs k e with q | q
    · exact Nat.lt_of_lt_of_le (h.lt k q) hb.size
    · exact q.2⟩
theorem RID.push {w1 W W' : World} {tv iv iv' : Value} {T : List Rw} {I I' : List Sp} (h : RID w1 W tv iv T I) (ho : W'.ownsRow w1.heap.size 31 2 iv' I'.length (I'.flatMap encS)) (hg : W.grownBy W' iv.ownBlock) (hs : Sprung W iv iv') : RID w1 W' tv iv' T I' :=
  ⟨h.bel.grown hg h.bel.size (fun k e => (h.row.lt k e).1), liesK_grown h.tab hg h.ne, ho, fun k e => by
    rcases hs with q | ⟨j, q, hj⟩
    · rw [q]; exact h.ne k e
    · rw [q]; intro e2; injection e2 with e2; have := h.lt k e; omega, fun k e => Nat.lt_of_lt_of_le (h.lt k e) hg.size⟩
end Go.Proofs.YtbeodechhneeeaaGreatDoor

