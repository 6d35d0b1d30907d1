/- Reader.Flag, Stamp, Text, End, and on no reader. -/
import Derived.Test.YtifeakmbeaflgaaDoorWRNum
import Derived.Laws.BytesArg
set_option linter.unusedVariables false
namespace Go.Proofs.YtifeakmbeaflgaaDoor.Wi
open Go.RowKit

theorem St.num_bad (s : St) (hb : Byt s.bs) : s.num.2.bad = 0 ∨ s.num.1 = 0 := by
  unfold St.num
  by_cases h : s.bad ≠ 0
  · rw [if_pos h]; right; rfl
  · rw [if_neg h]
    by_cases k : (rd 0 0 s.bs).1 = 0
    · rw [if_pos k]; left; rfl
    · rw [if_neg k]; right; rfl
theorem St.num_range (s : St) (hb : Byt s.bs) : 0 ≤ s.num.1 ∧ s.num.1 ≤ 9223372036854775807 := by
  unfold St.num
  by_cases h : s.bad ≠ 0
  · rw [if_pos h]; exact ⟨Int.le_refl 0, by show (0 : Int) ≤ _; omega⟩
  · rw [if_neg h]
    by_cases k : (rd 0 0 s.bs).1 = 0
    · rw [if_pos k]
      have := rd_range s.bs 0 0 hb (by omega) (by omega) (by decide)
      exact ⟨this.1, by have := this.2.1; show (rd 0 0 s.bs).2.2 ≤ _; omega⟩
    · rw [if_neg k]; exact ⟨Int.le_refl 0, by show (0 : Int) ≤ _; omega⟩

set_option maxRecDepth 100000 in
set_option maxHeartbeats 400000 in
theorem flag_any (w : World) (B M r : Nat) (s : St) (h : RdI w B M r s) (hB : B ≤ w.heap.size) :
    Calls Tryd.prog 60 #[.pointer (some ⟨r, 0, none⟩)] w fun e w' => e = .returned (.bool s.flag.1) ∧ RdOut w w' B M r s.flag.2 := by
  have C := Lib.hid (num_any w B M r s h hB)
  have hr := St.num_range s h.byt
  have HS := Lib.hid (show s.flag = if s.num.1 > 1 then (false, s.num.2.fail 4) else (s.num.1 == 1, s.num.2) from rfl)
  clear h
  generalize hn : s.num = q at *
  obtain ⟨n, t⟩ := q
  have HN := Lib.hid hn
  clear hn
  by_cases h1 : n > 1
  · have E := HS.out.trans (if_pos h1)
    have EH := Lib.hid E
    clear E
    go_enter Tryd.func60, Tryd.ntmps60
    go_wp2_with fail
    refine C.out.mono ?_
    rintro e' w1 ⟨rfl, ho⟩
    have HO := Lib.hid ho
    clear ho
    go_wp2_with fail
    refine (fail_any w1 B M r t 4 HO.out.1).mono ?_
    rintro e' w2 ⟨rfl, ho2⟩
    have HO2 := Lib.hid ho2
    clear ho2
    go_wp2
    go_returns
    exact ⟨by rw [EH.out]; rfl, by rw [EH.out]; exact ⟨HO2.out.1, HO.out.2.trans HO2.out.2⟩⟩
  · have E := HS.out.trans (if_neg h1)
    have EH := Lib.hid E
    clear E
    go_enter Tryd.func60, Tryd.ntmps60
    go_wp2_with fail
    refine C.out.mono ?_
    rintro e' w1 ⟨rfl, ho⟩
    have HO := Lib.hid ho
    clear ho
    go_wp2
    go_returns
    exact ⟨by rw [EH.out]; rfl, by rw [EH.out]; exact HO.out⟩

set_option maxRecDepth 100000 in
set_option maxHeartbeats 400000 in
theorem end_any (w : World) (B M r : Nat) (s : St) (h : RdI w B M r s) :
    Calls Tryd.prog 62 #[.pointer (some ⟨r, 0, none⟩)] w fun e w' => e = .returned (.int .i64 s.fin.bad) ∧ RdOut w w' B M r s.fin := by
  have H := Lib.hid h
  have hl := h.len
  clear h
  by_cases h0 : s.bs.length > 0
  · have E : s.fin = s.fail 4 := if_pos h0
    have EH := Lib.hid E
    clear E
    go_enter Tryd.func62, Tryd.ntmps62
    go_wp2_with fail
    refine (left_any w B M r s H.out).mono ?_
    rintro e' w1 ⟨rfl, rfl⟩
    go_wp2_with fail
    refine (fail_any w B M r s 4 H.out).mono ?_
    rintro e' w2 ⟨rfl, ho2⟩
    have HO2 := Lib.hid ho2
    clear ho2
    go_wp2_with fail
    refine (bad_any w2 B M r _ HO2.out.1).mono ?_
    rintro e' w3 ⟨rfl, rfl⟩
    go_wp2
    go_returns
    exact ⟨by rw [EH.out]; rfl, by rw [EH.out]; exact HO2.out⟩
  · have E : s.fin = s := if_neg h0
    have EH := Lib.hid E
    clear E
    go_enter Tryd.func62, Tryd.ntmps62
    go_wp2_with fail
    refine (left_any w B M r s H.out).mono ?_
    rintro e' w1 ⟨rfl, rfl⟩
    go_wp2_with fail
    refine (bad_any w B M r _ H.out).mono ?_
    rintro e' w3 ⟨rfl, rfl⟩
    go_wp2
    go_returns
    exact ⟨by rw [EH.out]; rfl, by rw [EH.out]; exact ⟨H.out, Kr.refl _ _⟩⟩

theorem RdI.old {w w' : World} {B M r : Nat} {s : St} (h : RdI w B M r s) (hb : Below w.heap.size w w') : RdI w' B M r s := by
  obtain ⟨v, hbl, ao, cap, rfl, hcap, hmax, hcells⟩ := h.blk
  refine ⟨h.ge, ⟨_, (hb.block r (lt_of_block hbl)).trans hbl, ao, cap, rfl, hcap, hmax, fun hne => ?_⟩, h.byt, h.len, Nat.le_trans h.top hb.size⟩
  obtain ⟨g, off, rfl, hgr, hc⟩ := hcells hne
  refine ⟨g, off, rfl, hgr, fun j x hj => ?_⟩
  have h1 := hc j x hj
  rw [hb.cell (World.block_lt_of_cell? w _ h1)]
  exact h1

theorem two_after {w2 : World} {q : Nat} {t : TypeId} {u0 u1 : Value} (h : w2.heap[q]? = some (.cells #[u0, u1] t (0, 0))) (x y : Value) (o : Obj) :
    (((w2.setCell ⟨q, 0, none⟩ x).setCell ⟨q, 1, none⟩ y).alloc o).cell? ⟨q, 0, none⟩ = some x ∧ (((w2.setCell ⟨q, 0, none⟩ x).setCell ⟨q, 1, none⟩ y).alloc o).cell? ⟨q, 1, none⟩ = some y := by
  have h1 := row_setC (j := 1) (u := y) (row_setC (j := 0) (u := x) h)
  have h2 := (Below.heap_alloc _ o q (lt_of_block h1)).trans h1
  have := two_cells h2
  exact ⟨this.1, this.2.1⟩

/-- A store elsewhere leaves a reader as it was. -/
theorem RdI.far {w : World} {B M r : Nat} {s : St} (h : RdI w B M r s) {p : Addr} (hp : M ≤ p.block) (hr : p.block ≠ r) (u : Value) : RdI (w.setCell p u) B M r s := by
  obtain ⟨v, hbl, ao, cap, rfl, hcap, hmax, hcells⟩ := h.blk
  refine ⟨h.ge, ⟨_, (Below.heap_setCell _ _ _ _ (by omega)).trans hbl, ao, cap, rfl, hcap, hmax, fun hne => ?_⟩, h.byt, h.len, by have := h.top; simpa [World.setCell] using this⟩
  obtain ⟨g, off, rfl, hgr, hc⟩ := hcells hne
  refine ⟨g, off, rfl, hgr, fun j x hj => ?_⟩
  rw [World.cell?_setCell_other]
  · exact hc j x hj
  · rintro rfl; have := hgr.2; simp at hp; omega

set_option maxRecDepth 100000 in
set_option maxHeartbeats 1000000 in
theorem stamp_any (w : World) (B M r : Nat) (s : St) (h : RdI w B M r s) (hB : B ≤ w.heap.size) :
    Calls Tryd.prog 57 #[.pointer (some ⟨r, 0, none⟩)] w fun e w' => e = .returned (.agg #[.int .i64 s.stamp.1.1, .int .i64 s.stamp.1.2]) ∧ RdOut w w' B M r s.stamp.2 := by
  have hX := (Below.refl w.heap.size w).alloc (Nat.le_refl _) (.cells #[.int .i64 0, .int .i64 0] 23)
  have hrl : r < w.heap.size := by obtain ⟨_, hb, _⟩ := h.blk; exact lt_of_block hb
  have hbox := heap_alloc_new w (.cells #[.int .i64 0, .int .i64 0] 23)
  have HH := Lib.hid (h.old hX)
  have HX := Lib.hid hX
  have HBX := Lib.hid hbox
  have H := Lib.hid h
  clear h hX hbox
  go_enter Tryd.func57, Tryd.ntmps57
  go_wp2_with fail
  refine (num_any _ B M r s HH.out (by simp; omega)).mono ?_
  rintro e' w1 ⟨rfl, ho⟩
  have hz1 := ho.2.size
  simp only [World.size_alloc] at hz1
  have HO := Lib.hid ho
  clear ho
  go_wp2_with fail
  refine (num_any w1 B M r s.num.2 HO.out.1 (by omega)).mono ?_
  rintro e' w2 ⟨rfl, ho2⟩
  have hz2 := ho2.2.size
  have hb1 : w2.heap[w.heap.size]? = some (.cells #[.int .i64 0, .int .i64 0] 23 (0, 0)) := by
    rw [ho2.2.block _ (by omega) (by omega), HO.out.2.block _ (by simp) (by omega)]
    exact HBX.out
  obtain ⟨k0, k1, f0, f1⟩ := two_cells hb1
  have HO2 := Lib.hid ho2
  have HB1 := Lib.hid hb1
  clear ho2 hb1
  have hS : s.stamp = if s.num.2.num.2.bad ≠ 0 then ((0, 0), s.num.2.num.2) else ((s.num.1, s.num.2.num.1), s.num.2.num.2) := rfl
  have HS := Lib.hid hS
  have htop := H.out.top
  have hnr : w.heap.size ≠ r := by omega
  have hlt2 : w.heap.size < w2.heap.size := by omega
  have KR := Lib.hid (((Kr.ofBelow r HX.out).trans HO.out.2).trans HO2.out.2)
  clear hS
  generalize hx : s.num.1 = x at *
  generalize hy : s.num.2.num.1 = y at *
  generalize ht : s.num.2.num.2 = t at *
  have HZ := Lib.hid (And.intro hx (And.intro hy ht))
  clear hx hy ht
  go_wp2_with fail
  refine (bad_any _ B M r t (HO2.out.1.old ((Below.refl _ _).alloc (Nat.le_refl _) _))).mono ?_
  rintro e' w3 ⟨rfl, rfl⟩
  by_cases hb : t.bad ≠ 0
  · have t1 := neb_ t.bad 0 hb
    have EH := Lib.hid (HS.out.trans (if_pos hb))
    clear hb
    go_wp2
    refine bodyPost_ret (v := .agg #[.int .i64 0, .int .i64 0]) (by simp [results, Tryd.results57, go_sem, (two_after HB1.out _ _ _).1, (two_after HB1.out _ _ _).2]) rfl ?_
    rw [EH.out]
    refine ⟨rfl, (((HO2.out.1.far (by simpa using htop) (by simpa using hnr) _).far (by simpa using htop) (by simpa using hnr) _).old ((Below.refl _ _).alloc (Nat.le_refl _) _)), ?_⟩
    exact ((KR.out.setNew (by simp) _).setNew (by simp) _).trans (Kr.ofBelow r ((Below.refl _ _).alloc (Nat.le_refl _) _))
  · have t1 := eqb_ t.bad 0 (by omega)
    have EH := Lib.hid (HS.out.trans (if_neg hb))
    clear hb
    go_wp2
    refine bodyPost_ret (v := .agg #[.int .i64 x, .int .i64 y]) (by simp [results, Tryd.results57, go_sem, (two_after HB1.out _ _ _).1, (two_after HB1.out _ _ _).2]) rfl ?_
    rw [EH.out]
    refine ⟨rfl, (((HO2.out.1.far (by simpa using htop) (by simpa using hnr) _).far (by simpa using htop) (by simpa using hnr) _).old ((Below.refl _ _).alloc (Nat.le_refl _) _)), ?_⟩
    exact ((KR.out.setNew (by simp) _).setNew (by simp) _).trans (Kr.ofBelow r ((Below.refl _ _).alloc (Nat.le_refl _) _))
end Go.Proofs.YtifeakmbeaflgaaDoor.Wi
