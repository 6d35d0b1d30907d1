/- op.Get. Made by genof7.py. -/
import Derived.Test.YtifeakmbeaflgaaDoorOE
set_option linter.unusedVariables false
namespace Go.Proofs.YtifeakmbeaflgaaDoor
open Go.RowKit
open Wi (RdI RdOut Kr St)

structure O where
  t : Int
  r : Int
  q : Int
  nt : Int
  nr : Int
  pt : Int
  pr : Int
  nm : ByteArray
  d : Bool
def O0 : O := ⟨0, 0, 0, 0, 0, 0, 0, ⟨#[]⟩, false⟩
def oCells (o : O) : Array Value := #[.int .i64 o.t, .int .i64 o.r, .int .i64 o.q, .int .i64 o.nt, .int .i64 o.nr, .int .i64 o.pt, .int .i64 o.pr, .string o.nm, .bool o.d]
def oV (o : O) : Value := .agg (oCells o)
noncomputable def rO (o : O) : Bool := rB o.t o.r o.q o.nt o.nr o.pt o.pr o.nm
def oB (o : O) : List Int := opB o.t o.r o.q o.nt o.nr o.pt o.pr o.nm o.d
/-- What is read, ahead of being looked at. -/
def getR (s : St) : O × St :=
  (⟨s.stamp.1.1, s.stamp.1.2, s.stamp.2.num.1, s.stamp.2.num.2.stamp.1.1, s.stamp.2.num.2.stamp.1.2, s.stamp.2.num.2.stamp.2.stamp.1.1, s.stamp.2.num.2.stamp.2.stamp.1.2, (s.stamp.2.num.2.stamp.2.stamp.2.text 255).1, (s.stamp.2.num.2.stamp.2.stamp.2.text 255).2.flag.1⟩, (s.stamp.2.num.2.stamp.2.stamp.2.text 255).2.flag.2)
noncomputable def getS (s : St) : St := if rO (getR s).1 = true then (getR s).2 else (getR s).2.fail 2
noncomputable def getO (s : St) : O × St := if (getS s).bad ≠ 0 then (O0, getS s) else ((getR s).1, getS s)
theorem text_size (s : St) : (s.text 255).1.size ≤ 255 := by
  unfold St.text
  split
  · show 0 ≤ 255; omega
  · split
    · show 0 ≤ 255; omega
    · split
      · show 0 ≤ 255; omega
      · unfold Wi.bytesOf
        show (List.map _ (List.take _ _)).toArray.size ≤ 255
        rw [List.size_toArray, List.length_map, List.length_take]
        omega
theorem row_cells {w : World} {b j : Nat} {c : Array Value} {t : TypeId} {v : Value} (h : w.heap[b]? = some (.cells c t (0, 0))) (hv : c[j]? = some v) : w.cell? ⟨b, j, none⟩ = some v ∧ w.frozen? ⟨b, j, none⟩ = false :=
  ⟨by rw [cell_of_row _ _ _ _ _ _ h, hv], frozen_of_row _ _ _ _ _ h⟩
/-- While Get goes: the reader at r, the result's box at b1, the op's at b2. -/
structure GI (w W : World) (B M r b1 b2 : Nat) (s : St) (cs : Array Value) : Prop where
  rd : RdI W B M r s
  kr : Kr w W r
  res : W.heap[b1]? = some (.cells #[.int .i64 0, .int .i64 0, .int .i64 0, .int .i64 0, .int .i64 0, .int .i64 0, .int .i64 0, .string ⟨#[]⟩, .bool false] 25 (0, 0))
  box : W.heap[b2]? = some (.cells cs 25 (0, 0))
  n1 : b1 ≠ r
  n2 : b2 ≠ r
  n12 : b1 ≠ b2
  m1 : M ≤ b1
  m2 : M ≤ b2
  g1 : w.heap.size ≤ b1
  g2 : w.heap.size ≤ b2
  big : B ≤ W.heap.size
theorem GI.call {w W W' : World} {B M r b1 b2 : Nat} {s s' : St} {cs : Array Value} (h : GI w W B M r b1 b2 s cs) (k : RdOut W W' B M r s') : GI w W' B M r b1 b2 s' cs :=
  ⟨k.1, h.kr.trans k.2, (k.2.block b1 (lt_of_block h.res) h.n1).trans h.res, (k.2.block b2 (lt_of_block h.box) h.n2).trans h.box, h.n1, h.n2, h.n12, h.m1, h.m2, h.g1, h.g2, Nat.le_trans h.big k.2.size⟩
theorem GI.below {w W W' : World} {B M r b1 b2 : Nat} {s : St} {cs : Array Value} (h : GI w W B M r b1 b2 s cs) (k : Below W.heap.size W W') : GI w W' B M r b1 b2 s cs :=
  h.call ⟨h.rd.old k, Kr.ofBelow r k⟩
theorem GI.set {w W : World} {B M r b1 b2 : Nat} {s : St} {cs : Array Value} (h : GI w W B M r b1 b2 s cs) (j : Nat) (u : Value) : GI w (W.setCell ⟨b2, j, none⟩ u) B M r b1 b2 s (cs.setIfInBounds j u) :=
  ⟨h.rd.far (p := ⟨b2, j, none⟩) h.m2 h.n2 u, h.kr.setNew (p := ⟨b2, j, none⟩) h.g2 u, (Below.heap_setCell _ _ _ _ h.n12).trans h.res, Wi.row_setC h.box, h.n1, h.n2, h.n12, h.m1, h.m2, h.g1, h.g2, by have := h.big; simpa [World.setCell] using this⟩
theorem GI.start {w : World} {B M r : Nat} {s : St} (h : RdI w B M r s) (hB : B ≤ w.heap.size) :
    GI w ((w.alloc (.cells #[.int .i64 0, .int .i64 0, .int .i64 0, .int .i64 0, .int .i64 0, .int .i64 0, .int .i64 0, .string ⟨#[]⟩, .bool false] 25)).alloc (.cells #[.int .i64 0, .int .i64 0, .int .i64 0, .int .i64 0, .int .i64 0, .int .i64 0, .int .i64 0, .string ⟨#[]⟩, .bool false] 25)) B M r w.heap.size (w.heap.size + 1) s #[.int .i64 0, .int .i64 0, .int .i64 0, .int .i64 0, .int .i64 0, .int .i64 0, .int .i64 0, .string ⟨#[]⟩, .bool false] := by
  have h1 := (Below.refl w.heap.size w).alloc (Nat.le_refl _) (.cells #[.int .i64 0, .int .i64 0, .int .i64 0, .int .i64 0, .int .i64 0, .int .i64 0, .int .i64 0, .string ⟨#[]⟩, .bool false] 25)
  have h2 := (Below.refl (w.alloc (.cells #[.int .i64 0, .int .i64 0, .int .i64 0, .int .i64 0, .int .i64 0, .int .i64 0, .int .i64 0, .string ⟨#[]⟩, .bool false] 25)).heap.size (w.alloc (.cells #[.int .i64 0, .int .i64 0, .int .i64 0, .int .i64 0, .int .i64 0, .int .i64 0, .int .i64 0, .string ⟨#[]⟩, .bool false] 25))).alloc (Nat.le_refl _) (.cells #[.int .i64 0, .int .i64 0, .int .i64 0, .int .i64 0, .int .i64 0, .int .i64 0, .int .i64 0, .string ⟨#[]⟩, .bool false] 25)
  have hr : r < w.heap.size := by obtain ⟨_, hb, _⟩ := h.blk; exact lt_of_block hb
  have hn := heap_alloc_new (w.alloc (.cells #[.int .i64 0, .int .i64 0, .int .i64 0, .int .i64 0, .int .i64 0, .int .i64 0, .int .i64 0, .string ⟨#[]⟩, .bool false] 25)) (.cells #[.int .i64 0, .int .i64 0, .int .i64 0, .int .i64 0, .int .i64 0, .int .i64 0, .int .i64 0, .string ⟨#[]⟩, .bool false] 25)
  rw [World.size_alloc] at hn
  have h12 := h1.trans (h2.mono h1.size)
  have := h.top
  refine ⟨(h.old h1).old h2, Kr.ofBelow r h12, (h2.block w.heap.size (by simp)).trans (heap_alloc_new w _), hn, by omega, by omega, by omega, by omega, by omega, Nat.le_refl _, by omega, Nat.le_trans hB h12.size⟩
/-- Nine stores to a box. -/
def sets9 (w : World) (b : Nat) (u0 u1 u2 u3 u4 u5 u6 u7 u8 : Value) : World := ((((((((w.setCell ⟨b, 0, none⟩ u0).setCell ⟨b, 1, none⟩ u1).setCell ⟨b, 2, none⟩ u2).setCell ⟨b, 3, none⟩ u3).setCell ⟨b, 4, none⟩ u4).setCell ⟨b, 5, none⟩ u5).setCell ⟨b, 6, none⟩ u6).setCell ⟨b, 7, none⟩ u7).setCell ⟨b, 8, none⟩ u8
structure FI (w W : World) (B M r b1 : Nat) (s : St) (cs : Array Value) : Prop where
  rd : RdI W B M r s
  kr : Kr w W r
  res : W.heap[b1]? = some (.cells cs 25 (0, 0))
  n1 : b1 ≠ r
  m1 : M ≤ b1
  g1 : w.heap.size ≤ b1
theorem FI.set {w W : World} {B M r b1 : Nat} {s : St} {cs : Array Value} (h : FI w W B M r b1 s cs) (j : Nat) (u : Value) : FI w (W.setCell ⟨b1, j, none⟩ u) B M r b1 s (cs.setIfInBounds j u) :=
  ⟨h.rd.far (p := ⟨b1, j, none⟩) h.m1 h.n1 u, h.kr.setNew (p := ⟨b1, j, none⟩) h.g1 u, Wi.row_setC h.res, h.n1, h.m1, h.g1⟩
theorem FI.done {w W : World} {B M r b1 b2 : Nat} {s : St} {cs : Array Value} (h : GI w W B M r b1 b2 s cs) (u0 u1 u2 u3 u4 u5 u6 u7 u8 : Value) : FI w (sets9 W b1 u0 u1 u2 u3 u4 u5 u6 u7 u8) B M r b1 s #[u0, u1, u2, u3, u4, u5, u6, u7, u8] := by
  have k0 : FI w W B M r b1 s #[.int .i64 0, .int .i64 0, .int .i64 0, .int .i64 0, .int .i64 0, .int .i64 0, .int .i64 0, .string ⟨#[]⟩, .bool false] := ⟨h.rd, h.kr, h.res, h.n1, h.m1, h.g1⟩
  have k1 : FI w (W.setCell ⟨b1, 0, none⟩ u0) B M r b1 s #[u0, .int .i64 0, .int .i64 0, .int .i64 0, .int .i64 0, .int .i64 0, .int .i64 0, .string ⟨#[]⟩, .bool false] := k0.set 0 u0
  have k2 : FI w ((W.setCell ⟨b1, 0, none⟩ u0).setCell ⟨b1, 1, none⟩ u1) B M r b1 s #[u0, u1, .int .i64 0, .int .i64 0, .int .i64 0, .int .i64 0, .int .i64 0, .string ⟨#[]⟩, .bool false] := k1.set 1 u1
  have k3 : FI w (((W.setCell ⟨b1, 0, none⟩ u0).setCell ⟨b1, 1, none⟩ u1).setCell ⟨b1, 2, none⟩ u2) B M r b1 s #[u0, u1, u2, .int .i64 0, .int .i64 0, .int .i64 0, .int .i64 0, .string ⟨#[]⟩, .bool false] := k2.set 2 u2
  have k4 : FI w ((((W.setCell ⟨b1, 0, none⟩ u0).setCell ⟨b1, 1, none⟩ u1).setCell ⟨b1, 2, none⟩ u2).setCell ⟨b1, 3, none⟩ u3) B M r b1 s #[u0, u1, u2, u3, .int .i64 0, .int .i64 0, .int .i64 0, .string ⟨#[]⟩, .bool false] := k3.set 3 u3
  have k5 : FI w (((((W.setCell ⟨b1, 0, none⟩ u0).setCell ⟨b1, 1, none⟩ u1).setCell ⟨b1, 2, none⟩ u2).setCell ⟨b1, 3, none⟩ u3).setCell ⟨b1, 4, none⟩ u4) B M r b1 s #[u0, u1, u2, u3, u4, .int .i64 0, .int .i64 0, .string ⟨#[]⟩, .bool false] := k4.set 4 u4
  have k6 : FI w ((((((W.setCell ⟨b1, 0, none⟩ u0).setCell ⟨b1, 1, none⟩ u1).setCell ⟨b1, 2, none⟩ u2).setCell ⟨b1, 3, none⟩ u3).setCell ⟨b1, 4, none⟩ u4).setCell ⟨b1, 5, none⟩ u5) B M r b1 s #[u0, u1, u2, u3, u4, u5, .int .i64 0, .string ⟨#[]⟩, .bool false] := k5.set 5 u5
  have k7 : FI w (((((((W.setCell ⟨b1, 0, none⟩ u0).setCell ⟨b1, 1, none⟩ u1).setCell ⟨b1, 2, none⟩ u2).setCell ⟨b1, 3, none⟩ u3).setCell ⟨b1, 4, none⟩ u4).setCell ⟨b1, 5, none⟩ u5).setCell ⟨b1, 6, none⟩ u6) B M r b1 s #[u0, u1, u2, u3, u4, u5, u6, .string ⟨#[]⟩, .bool false] := k6.set 6 u6
  have k8 : FI w ((((((((W.setCell ⟨b1, 0, none⟩ u0).setCell ⟨b1, 1, none⟩ u1).setCell ⟨b1, 2, none⟩ u2).setCell ⟨b1, 3, none⟩ u3).setCell ⟨b1, 4, none⟩ u4).setCell ⟨b1, 5, none⟩ u5).setCell ⟨b1, 6, none⟩ u6).setCell ⟨b1, 7, none⟩ u7) B M r b1 s #[u0, u1, u2, u3, u4, u5, u6, u7, .bool false] := k7.set 7 u7
  have k9 : FI w (((((((((W.setCell ⟨b1, 0, none⟩ u0).setCell ⟨b1, 1, none⟩ u1).setCell ⟨b1, 2, none⟩ u2).setCell ⟨b1, 3, none⟩ u3).setCell ⟨b1, 4, none⟩ u4).setCell ⟨b1, 5, none⟩ u5).setCell ⟨b1, 6, none⟩ u6).setCell ⟨b1, 7, none⟩ u7).setCell ⟨b1, 8, none⟩ u8) B M r b1 s #[u0, u1, u2, u3, u4, u5, u6, u7, u8] := k8.set 8 u8
  exact k9
set_option maxRecDepth 100000 in
set_option maxHeartbeats 6400000 in
theorem get_any (w : World) (B M r : Nat) (s : St) (h : RdI w B M r s) (hB : B ≤ w.heap.size) :
    Calls Tryd.prog 24 #[.pointer (some ⟨r, 0, none⟩)] w fun e w' => e = .returned (oV (getO s).1) ∧ RdOut w w' B M r (getO s).2 := by
  have G0 := Lib.hid (GI.start h hB)
  have ER := Lib.hid (show getR s = (⟨s.stamp.1.1, s.stamp.1.2, s.stamp.2.num.1, s.stamp.2.num.2.stamp.1.1, s.stamp.2.num.2.stamp.1.2, s.stamp.2.num.2.stamp.2.stamp.1.1, s.stamp.2.num.2.stamp.2.stamp.1.2, (s.stamp.2.num.2.stamp.2.stamp.2.text 255).1, (s.stamp.2.num.2.stamp.2.stamp.2.text 255).2.flag.1⟩, (s.stamp.2.num.2.stamp.2.stamp.2.text 255).2.flag.2) from rfl)
  have ES := Lib.hid (show getS s = if rO (getR s).1 = true then (getR s).2 else (getR s).2.fail 2 from rfl)
  have EO := Lib.hid (show getO s = if (getS s).bad ≠ 0 then (O0, getS s) else ((getR s).1, getS s) from rfl)
  generalize getR s = RR at *
  generalize getS s = SS at *
  generalize getO s = OO at *
  have C1 := Lib.hid (fun W (h : RdI W B M r s) (hB : B ≤ W.heap.size) => Wi.stamp_any W B M r s h hB)
  obtain ⟨s1, hs1⟩ : ∃ x, s.stamp.2 = x := ⟨_, rfl⟩
  rw [hs1] at ER C1
  generalize s.stamp.1.1 = t at *
  generalize s.stamp.1.2 = r' at *
  have C2 := Lib.hid (fun W (h : RdI W B M r s1) (hB : B ≤ W.heap.size) => Wi.num_any W B M r s1 h hB)
  obtain ⟨s2, hs2⟩ : ∃ x, s1.num.2 = x := ⟨_, rfl⟩
  rw [hs2] at ER C2
  generalize s1.num.1 = q at *
  have C3 := Lib.hid (fun W (h : RdI W B M r s2) (hB : B ≤ W.heap.size) => Wi.stamp_any W B M r s2 h hB)
  obtain ⟨s3, hs3⟩ : ∃ x, s2.stamp.2 = x := ⟨_, rfl⟩
  rw [hs3] at ER C3
  generalize s2.stamp.1.1 = nt at *
  generalize s2.stamp.1.2 = nr at *
  have C4 := Lib.hid (fun W (h : RdI W B M r s3) (hB : B ≤ W.heap.size) => Wi.stamp_any W B M r s3 h hB)
  obtain ⟨s4, hs4⟩ : ∃ x, s3.stamp.2 = x := ⟨_, rfl⟩
  rw [hs4] at ER C4
  generalize s3.stamp.1.1 = pt at *
  generalize s3.stamp.1.2 = pr at *
  have C5 := Lib.hid (fun W (h : RdI W B M r s4) (hB : B ≤ W.heap.size) => Wi.text_any W B M r s4 255 (by omega) h hB)
  have hnm := text_size s4
  obtain ⟨s5, hs5⟩ : ∃ x, (s4.text 255).2 = x := ⟨_, rfl⟩
  rw [hs5] at ER C5
  generalize (s4.text 255).1 = nm at *
  have C6 := Lib.hid (fun W (h : RdI W B M r s5) (hB : B ≤ W.heap.size) => Wi.flag_any W B M r s5 h hB)
  obtain ⟨s6, hs6⟩ : ∃ x, s5.flag.2 = x := ⟨_, rfl⟩
  rw [hs6] at ER C6
  generalize s5.flag.1 = d at *
  have C7 := Lib.hid (fun W => right_any W t r' q nt nr pt pr nm d (by omega))
  have C8 := Lib.hid (fun W (h : RdI W B M r s6) => Wi.fail_any W B M r s6 2 h)
  have C9 := Lib.hid (fun W s (h : RdI W B M r s) => Wi.bad_any W B M r s h)
  have hER := ER.out
  subst hER
  have ES := Lib.hid (show SS = if rB t r' q nt nr pt pr nm = true then s6 else s6.fail 2 from ES.out)
  clear h hB hs1 hs2 hs3 hs4 hs5 hs6 hnm
  generalize rB t r' q nt nr pt pr nm = rb at *
  go_enter Tryd.func24, Tryd.ntmps24
  go_wp2_with fail
  refine (C1.out _ G0.out.rd G0.out.big).mono ?_
  rintro e w1 ⟨rfl, hW⟩
  have H1 := Lib.hid (G0.out.call hW)
  clear hW
  obtain ⟨c0, f0⟩ := row_cells H1.out.box (j := 0) rfl
  obtain ⟨c1, f1⟩ := row_cells H1.out.box (j := 1) rfl
  have X1 := Lib.hid (show GI w (w1.setCell ⟨w.heap.size + 1, 0, none⟩ (.int .i64 t)) B M r w.heap.size (w.heap.size + 1) s1 #[.int .i64 t, .int .i64 0, .int .i64 0, .int .i64 0, .int .i64 0, .int .i64 0, .int .i64 0, .string ⟨#[]⟩, .bool false] from H1.out.set 0 (.int .i64 t))
  have G1 := Lib.hid (show GI w ((w1.setCell ⟨w.heap.size + 1, 0, none⟩ (.int .i64 t)).setCell ⟨w.heap.size + 1, 1, none⟩ (.int .i64 r')) B M r w.heap.size (w.heap.size + 1) s1 #[.int .i64 t, .int .i64 r', .int .i64 0, .int .i64 0, .int .i64 0, .int .i64 0, .int .i64 0, .string ⟨#[]⟩, .bool false] from X1.out.set 1 (.int .i64 r'))
  go_wp2_with fail
  refine (C2.out _ G1.out.rd G1.out.big).mono ?_
  rintro e w2 ⟨rfl, hW⟩
  have H2 := Lib.hid (G1.out.call hW)
  clear hW
  obtain ⟨c2, f2⟩ := row_cells H2.out.box (j := 2) rfl
  have G2 := Lib.hid (show GI w (w2.setCell ⟨w.heap.size + 1, 2, none⟩ (.int .i64 q)) B M r w.heap.size (w.heap.size + 1) s2 #[.int .i64 t, .int .i64 r', .int .i64 q, .int .i64 0, .int .i64 0, .int .i64 0, .int .i64 0, .string ⟨#[]⟩, .bool false] from H2.out.set 2 (.int .i64 q))
  go_wp2_with fail
  refine (C3.out _ G2.out.rd G2.out.big).mono ?_
  rintro e w3 ⟨rfl, hW⟩
  have H3 := Lib.hid (G2.out.call hW)
  clear hW
  obtain ⟨c3, f3⟩ := row_cells H3.out.box (j := 3) rfl
  obtain ⟨c4, f4⟩ := row_cells H3.out.box (j := 4) rfl
  have X3 := Lib.hid (show GI w (w3.setCell ⟨w.heap.size + 1, 3, none⟩ (.int .i64 nt)) B M r w.heap.size (w.heap.size + 1) s3 #[.int .i64 t, .int .i64 r', .int .i64 q, .int .i64 nt, .int .i64 0, .int .i64 0, .int .i64 0, .string ⟨#[]⟩, .bool false] from H3.out.set 3 (.int .i64 nt))
  have G3 := Lib.hid (show GI w ((w3.setCell ⟨w.heap.size + 1, 3, none⟩ (.int .i64 nt)).setCell ⟨w.heap.size + 1, 4, none⟩ (.int .i64 nr)) B M r w.heap.size (w.heap.size + 1) s3 #[.int .i64 t, .int .i64 r', .int .i64 q, .int .i64 nt, .int .i64 nr, .int .i64 0, .int .i64 0, .string ⟨#[]⟩, .bool false] from X3.out.set 4 (.int .i64 nr))
  go_wp2_with fail
  refine (C4.out _ G3.out.rd G3.out.big).mono ?_
  rintro e w4 ⟨rfl, hW⟩
  have H4 := Lib.hid (G3.out.call hW)
  clear hW
  obtain ⟨c5, f5⟩ := row_cells H4.out.box (j := 5) rfl
  obtain ⟨c6, f6⟩ := row_cells H4.out.box (j := 6) rfl
  have X4 := Lib.hid (show GI w (w4.setCell ⟨w.heap.size + 1, 5, none⟩ (.int .i64 pt)) B M r w.heap.size (w.heap.size + 1) s4 #[.int .i64 t, .int .i64 r', .int .i64 q, .int .i64 nt, .int .i64 nr, .int .i64 pt, .int .i64 0, .string ⟨#[]⟩, .bool false] from H4.out.set 5 (.int .i64 pt))
  have G4 := Lib.hid (show GI w ((w4.setCell ⟨w.heap.size + 1, 5, none⟩ (.int .i64 pt)).setCell ⟨w.heap.size + 1, 6, none⟩ (.int .i64 pr)) B M r w.heap.size (w.heap.size + 1) s4 #[.int .i64 t, .int .i64 r', .int .i64 q, .int .i64 nt, .int .i64 nr, .int .i64 pt, .int .i64 pr, .string ⟨#[]⟩, .bool false] from X4.out.set 6 (.int .i64 pr))
  go_wp2_with fail
  refine (C5.out _ G4.out.rd G4.out.big).mono ?_
  rintro e w5 ⟨rfl, hW⟩
  have H5 := Lib.hid (G4.out.call hW)
  clear hW
  obtain ⟨c7, f7⟩ := row_cells H5.out.box (j := 7) rfl
  have G5 := Lib.hid (show GI w (w5.setCell ⟨w.heap.size + 1, 7, none⟩ (.string nm)) B M r w.heap.size (w.heap.size + 1) s5 #[.int .i64 t, .int .i64 r', .int .i64 q, .int .i64 nt, .int .i64 nr, .int .i64 pt, .int .i64 pr, .string nm, .bool false] from H5.out.set 7 (.string nm))
  go_wp2_with fail
  refine (C6.out _ G5.out.rd G5.out.big).mono ?_
  rintro e w6 ⟨rfl, hW⟩
  have H6 := Lib.hid (G5.out.call hW)
  clear hW
  obtain ⟨c8, f8⟩ := row_cells H6.out.box (j := 8) rfl
  have G6 := Lib.hid (show GI w (w6.setCell ⟨w.heap.size + 1, 8, none⟩ (.bool d)) B M r w.heap.size (w.heap.size + 1) s6 #[.int .i64 t, .int .i64 r', .int .i64 q, .int .i64 nt, .int .i64 nr, .int .i64 pt, .int .i64 pr, .string nm, .bool d] from H6.out.set 8 (.bool d))
  have G7 := G6
  obtain ⟨W6, hW6⟩ : ∃ x, (w6.setCell ⟨w.heap.size + 1, 8, none⟩ (.bool d)) = x := ⟨_, rfl⟩
  rw [hW6] at G7
  have HW6 := Lib.hid hW6
  clear hW6
  go_upto_region 8 with (fail)
  rw [HW6.out]
  obtain ⟨d0, e0⟩ := row_cells G7.out.box (j := 0) rfl
  obtain ⟨d1, e1⟩ := row_cells G7.out.box (j := 1) rfl
  obtain ⟨d2, e2⟩ := row_cells G7.out.box (j := 2) rfl
  obtain ⟨d3, e3⟩ := row_cells G7.out.box (j := 3) rfl
  obtain ⟨d4, e4⟩ := row_cells G7.out.box (j := 4) rfl
  obtain ⟨d5, e5⟩ := row_cells G7.out.box (j := 5) rfl
  obtain ⟨d6, e6⟩ := row_cells G7.out.box (j := 6) rfl
  obtain ⟨d7, e7⟩ := row_cells G7.out.box (j := 7) rfl
  obtain ⟨d8, e8⟩ := row_cells G7.out.box (j := 8) rfl
  clear c0 f0 c1 f1 c2 f2 c3 f3 c4 f4 c5 f5 c6 f6 c7 f7 c8 f8
  go_wp2_with fail
  refine (C7.out _).mono ?_
  rintro e w8 ⟨rfl, hb⟩
  have G8 := Lib.hid (G7.out.below hb)
  clear hb d0 e0 d1 e1 d2 e2 d3 e3 d4 e4 d5 e5 d6 e6 d7 e7 d8 e8
  cases rb with
  | true =>
    have ES := Lib.hid (show SS = s6 from ES.out)
    go_wp2_with fail
    refine (C9.out _ _ G8.out.rd).mono ?_
    rintro e w9 ⟨rfl, hw⟩
    subst hw
    by_cases hbad : s6.bad = 0
    · have E := Lib.hid (show OO = (⟨t, r', q, nt, nr, pt, pr, nm, d⟩, s6) from by
        have q : SS = s6 := ES.out
        rw [EO.out, q, if_neg (by simpa using hbad)])
      have hbb := eqb_ s6.bad 0 hbad
      clear hbad
      obtain ⟨d0, e0⟩ := row_cells G8.out.box (j := 0) rfl
      obtain ⟨d1, e1⟩ := row_cells G8.out.box (j := 1) rfl
      obtain ⟨d2, e2⟩ := row_cells G8.out.box (j := 2) rfl
      obtain ⟨d3, e3⟩ := row_cells G8.out.box (j := 3) rfl
      obtain ⟨d4, e4⟩ := row_cells G8.out.box (j := 4) rfl
      obtain ⟨d5, e5⟩ := row_cells G8.out.box (j := 5) rfl
      obtain ⟨d6, e6⟩ := row_cells G8.out.box (j := 6) rfl
      obtain ⟨d7, e7⟩ := row_cells G8.out.box (j := 7) rfl
      obtain ⟨d8, e8⟩ := row_cells G8.out.box (j := 8) rfl
      obtain ⟨c0, f0⟩ := row_cells G8.out.res (j := 0) rfl
      obtain ⟨c1, f1⟩ := row_cells G8.out.res (j := 1) rfl
      obtain ⟨c2, f2⟩ := row_cells G8.out.res (j := 2) rfl
      obtain ⟨c3, f3⟩ := row_cells G8.out.res (j := 3) rfl
      obtain ⟨c4, f4⟩ := row_cells G8.out.res (j := 4) rfl
      obtain ⟨c5, f5⟩ := row_cells G8.out.res (j := 5) rfl
      obtain ⟨c6, f6⟩ := row_cells G8.out.res (j := 6) rfl
      obtain ⟨c7, f7⟩ := row_cells G8.out.res (j := 7) rfl
      obtain ⟨c8, f8⟩ := row_cells G8.out.res (j := 8) rfl
      have FD := Lib.hid (FI.done G8.out (.int .i64 t) (.int .i64 r') (.int .i64 q) (.int .i64 nt) (.int .i64 nr) (.int .i64 pt) (.int .i64 pr) (.string nm) (.bool d))
      obtain ⟨W9, hW9⟩ : ∃ x, sets9 w8 w.heap.size (.int .i64 t) (.int .i64 r') (.int .i64 q) (.int .i64 nt) (.int .i64 nr) (.int .i64 pt) (.int .i64 pr) (.string nm) (.bool d) = x := ⟨_, rfl⟩
      rw [hW9] at FD
      unfold sets9 at hW9
      have HW9 := Lib.hid hW9
      clear hW9
      go_wp2
      rw [HW9.out]
      clear d0 e0 d1 e1 d2 e2 d3 e3 d4 e4 d5 e5 d6 e6 d7 e7 d8 e8 c0 f0 c1 f1 c2 f2 c3 f3 c4 f4 c5 f5 c6 f6 c7 f7 c8 f8
      obtain ⟨d0, e0⟩ := row_cells FD.out.res (j := 0) rfl
      obtain ⟨d1, e1⟩ := row_cells FD.out.res (j := 1) rfl
      obtain ⟨d2, e2⟩ := row_cells FD.out.res (j := 2) rfl
      obtain ⟨d3, e3⟩ := row_cells FD.out.res (j := 3) rfl
      obtain ⟨d4, e4⟩ := row_cells FD.out.res (j := 4) rfl
      obtain ⟨d5, e5⟩ := row_cells FD.out.res (j := 5) rfl
      obtain ⟨d6, e6⟩ := row_cells FD.out.res (j := 6) rfl
      obtain ⟨d7, e7⟩ := row_cells FD.out.res (j := 7) rfl
      obtain ⟨d8, e8⟩ := row_cells FD.out.res (j := 8) rfl
      refine bodyPost_ret (by simp [results, Tryd.results24, go_sem, d0, d1, d2, d3, d4, d5, d6, d7, d8]; try rfl) rfl ?_
      rw [E.out]
      exact ⟨rfl, FD.out.rd, FD.out.kr⟩
    · have E := Lib.hid (show OO = (O0, s6) from by
        have q : SS = s6 := ES.out
        rw [EO.out, q, if_pos (by simpa using hbad)])
      have hbb := neb_ s6.bad 0 hbad
      clear hbad
      obtain ⟨c0, f0⟩ := row_cells G8.out.res (j := 0) rfl
      obtain ⟨c1, f1⟩ := row_cells G8.out.res (j := 1) rfl
      obtain ⟨c2, f2⟩ := row_cells G8.out.res (j := 2) rfl
      obtain ⟨c3, f3⟩ := row_cells G8.out.res (j := 3) rfl
      obtain ⟨c4, f4⟩ := row_cells G8.out.res (j := 4) rfl
      obtain ⟨c5, f5⟩ := row_cells G8.out.res (j := 5) rfl
      obtain ⟨c6, f6⟩ := row_cells G8.out.res (j := 6) rfl
      obtain ⟨c7, f7⟩ := row_cells G8.out.res (j := 7) rfl
      obtain ⟨c8, f8⟩ := row_cells G8.out.res (j := 8) rfl
      have FD := Lib.hid (FI.done G8.out (.int .i64 0) (.int .i64 0) (.int .i64 0) (.int .i64 0) (.int .i64 0) (.int .i64 0) (.int .i64 0) (.string ⟨#[]⟩) (.bool false))
      obtain ⟨W9, hW9⟩ : ∃ x, sets9 w8 w.heap.size (.int .i64 0) (.int .i64 0) (.int .i64 0) (.int .i64 0) (.int .i64 0) (.int .i64 0) (.int .i64 0) (.string ⟨#[]⟩) (.bool false) = x := ⟨_, rfl⟩
      rw [hW9] at FD
      unfold sets9 at hW9
      have HW9 := Lib.hid hW9
      clear hW9
      go_wp2
      rw [HW9.out]
      clear c0 f0 c1 f1 c2 f2 c3 f3 c4 f4 c5 f5 c6 f6 c7 f7 c8 f8
      obtain ⟨d0, e0⟩ := row_cells FD.out.res (j := 0) rfl
      obtain ⟨d1, e1⟩ := row_cells FD.out.res (j := 1) rfl
      obtain ⟨d2, e2⟩ := row_cells FD.out.res (j := 2) rfl
      obtain ⟨d3, e3⟩ := row_cells FD.out.res (j := 3) rfl
      obtain ⟨d4, e4⟩ := row_cells FD.out.res (j := 4) rfl
      obtain ⟨d5, e5⟩ := row_cells FD.out.res (j := 5) rfl
      obtain ⟨d6, e6⟩ := row_cells FD.out.res (j := 6) rfl
      obtain ⟨d7, e7⟩ := row_cells FD.out.res (j := 7) rfl
      obtain ⟨d8, e8⟩ := row_cells FD.out.res (j := 8) rfl
      refine bodyPost_ret (by simp [results, Tryd.results24, go_sem, d0, d1, d2, d3, d4, d5, d6, d7, d8]; try rfl) rfl ?_
      rw [E.out]
      exact ⟨rfl, FD.out.rd, FD.out.kr⟩
  | false =>
    have ES := Lib.hid (show SS = s6.fail 2 from ES.out)
    go_wp2_with fail
    refine (C8.out _ G8.out.rd).mono ?_
    rintro e w10 ⟨rfl, hW⟩
    have G9 := Lib.hid (G8.out.call hW)
    clear hW
    obtain ⟨s7, hs7⟩ : ∃ x, s6.fail 2 = x := ⟨_, rfl⟩
    rw [hs7] at ES G9
    clear hs7
    go_wp2_with fail
    refine (C9.out _ _ G9.out.rd).mono ?_
    rintro e w9 ⟨rfl, hw⟩
    subst hw
    by_cases hbad : s7.bad = 0
    · have E := Lib.hid (show OO = (⟨t, r', q, nt, nr, pt, pr, nm, d⟩, s7) from by
        have q : SS = s7 := ES.out
        rw [EO.out, q, if_neg (by simpa using hbad)])
      have hbb := eqb_ s7.bad 0 hbad
      clear hbad
      obtain ⟨d0, e0⟩ := row_cells G9.out.box (j := 0) rfl
      obtain ⟨d1, e1⟩ := row_cells G9.out.box (j := 1) rfl
      obtain ⟨d2, e2⟩ := row_cells G9.out.box (j := 2) rfl
      obtain ⟨d3, e3⟩ := row_cells G9.out.box (j := 3) rfl
      obtain ⟨d4, e4⟩ := row_cells G9.out.box (j := 4) rfl
      obtain ⟨d5, e5⟩ := row_cells G9.out.box (j := 5) rfl
      obtain ⟨d6, e6⟩ := row_cells G9.out.box (j := 6) rfl
      obtain ⟨d7, e7⟩ := row_cells G9.out.box (j := 7) rfl
      obtain ⟨d8, e8⟩ := row_cells G9.out.box (j := 8) rfl
      obtain ⟨c0, f0⟩ := row_cells G9.out.res (j := 0) rfl
      obtain ⟨c1, f1⟩ := row_cells G9.out.res (j := 1) rfl
      obtain ⟨c2, f2⟩ := row_cells G9.out.res (j := 2) rfl
      obtain ⟨c3, f3⟩ := row_cells G9.out.res (j := 3) rfl
      obtain ⟨c4, f4⟩ := row_cells G9.out.res (j := 4) rfl
      obtain ⟨c5, f5⟩ := row_cells G9.out.res (j := 5) rfl
      obtain ⟨c6, f6⟩ := row_cells G9.out.res (j := 6) rfl
      obtain ⟨c7, f7⟩ := row_cells G9.out.res (j := 7) rfl
      obtain ⟨c8, f8⟩ := row_cells G9.out.res (j := 8) rfl
      have FD := Lib.hid (FI.done G9.out (.int .i64 t) (.int .i64 r') (.int .i64 q) (.int .i64 nt) (.int .i64 nr) (.int .i64 pt) (.int .i64 pr) (.string nm) (.bool d))
      obtain ⟨W9, hW9⟩ : ∃ x, sets9 w10 w.heap.size (.int .i64 t) (.int .i64 r') (.int .i64 q) (.int .i64 nt) (.int .i64 nr) (.int .i64 pt) (.int .i64 pr) (.string nm) (.bool d) = x := ⟨_, rfl⟩
      rw [hW9] at FD
      unfold sets9 at hW9
      have HW9 := Lib.hid hW9
      clear hW9
      go_wp2
      rw [HW9.out]
      clear d0 e0 d1 e1 d2 e2 d3 e3 d4 e4 d5 e5 d6 e6 d7 e7 d8 e8 c0 f0 c1 f1 c2 f2 c3 f3 c4 f4 c5 f5 c6 f6 c7 f7 c8 f8
      obtain ⟨d0, e0⟩ := row_cells FD.out.res (j := 0) rfl
      obtain ⟨d1, e1⟩ := row_cells FD.out.res (j := 1) rfl
      obtain ⟨d2, e2⟩ := row_cells FD.out.res (j := 2) rfl
      obtain ⟨d3, e3⟩ := row_cells FD.out.res (j := 3) rfl
      obtain ⟨d4, e4⟩ := row_cells FD.out.res (j := 4) rfl
      obtain ⟨d5, e5⟩ := row_cells FD.out.res (j := 5) rfl
      obtain ⟨d6, e6⟩ := row_cells FD.out.res (j := 6) rfl
      obtain ⟨d7, e7⟩ := row_cells FD.out.res (j := 7) rfl
      obtain ⟨d8, e8⟩ := row_cells FD.out.res (j := 8) rfl
      refine bodyPost_ret (by simp [results, Tryd.results24, go_sem, d0, d1, d2, d3, d4, d5, d6, d7, d8]; try rfl) rfl ?_
      rw [E.out]
      exact ⟨rfl, FD.out.rd, FD.out.kr⟩
    · have E := Lib.hid (show OO = (O0, s7) from by
        have q : SS = s7 := ES.out
        rw [EO.out, q, if_pos (by simpa using hbad)])
      have hbb := neb_ s7.bad 0 hbad
      clear hbad
      obtain ⟨c0, f0⟩ := row_cells G9.out.res (j := 0) rfl
      obtain ⟨c1, f1⟩ := row_cells G9.out.res (j := 1) rfl
      obtain ⟨c2, f2⟩ := row_cells G9.out.res (j := 2) rfl
      obtain ⟨c3, f3⟩ := row_cells G9.out.res (j := 3) rfl
      obtain ⟨c4, f4⟩ := row_cells G9.out.res (j := 4) rfl
      obtain ⟨c5, f5⟩ := row_cells G9.out.res (j := 5) rfl
      obtain ⟨c6, f6⟩ := row_cells G9.out.res (j := 6) rfl
      obtain ⟨c7, f7⟩ := row_cells G9.out.res (j := 7) rfl
      obtain ⟨c8, f8⟩ := row_cells G9.out.res (j := 8) rfl
      have FD := Lib.hid (FI.done G9.out (.int .i64 0) (.int .i64 0) (.int .i64 0) (.int .i64 0) (.int .i64 0) (.int .i64 0) (.int .i64 0) (.string ⟨#[]⟩) (.bool false))
      obtain ⟨W9, hW9⟩ : ∃ x, sets9 w10 w.heap.size (.int .i64 0) (.int .i64 0) (.int .i64 0) (.int .i64 0) (.int .i64 0) (.int .i64 0) (.int .i64 0) (.string ⟨#[]⟩) (.bool false) = x := ⟨_, rfl⟩
      rw [hW9] at FD
      unfold sets9 at hW9
      have HW9 := Lib.hid hW9
      clear hW9
      go_wp2
      rw [HW9.out]
      clear c0 f0 c1 f1 c2 f2 c3 f3 c4 f4 c5 f5 c6 f6 c7 f7 c8 f8
      obtain ⟨d0, e0⟩ := row_cells FD.out.res (j := 0) rfl
      obtain ⟨d1, e1⟩ := row_cells FD.out.res (j := 1) rfl
      obtain ⟨d2, e2⟩ := row_cells FD.out.res (j := 2) rfl
      obtain ⟨d3, e3⟩ := row_cells FD.out.res (j := 3) rfl
      obtain ⟨d4, e4⟩ := row_cells FD.out.res (j := 4) rfl
      obtain ⟨d5, e5⟩ := row_cells FD.out.res (j := 5) rfl
      obtain ⟨d6, e6⟩ := row_cells FD.out.res (j := 6) rfl
      obtain ⟨d7, e7⟩ := row_cells FD.out.res (j := 7) rfl
      obtain ⟨d8, e8⟩ := row_cells FD.out.res (j := 8) rfl
      refine bodyPost_ret (by simp [results, Tryd.results24, go_sem, d0, d1, d2, d3, d4, d5, d6, d7, d8]; try rfl) rfl ?_
      rw [E.out]
      exact ⟨rfl, FD.out.rd, FD.out.kr⟩
end Go.Proofs.YtifeakmbeaflgaaDoor
