/- The chapter's example, walked. -/
import Derived.Test.YtiljmkglmanddaaDoorVU
import Derived.Test.YtiljmkglmanddaaDoorVW
import Derived.Test.YtiljmkglmanddaaDoorVX
import Derived.Test.YtiljmkglmanddaaDoorVK
set_option linter.unusedVariables false
namespace Go.Proofs.YtiljmkglmanddaaDoor
open Go.RowKit

section
variable {P : Program} {w : World} {ops : Array Oper} {rest : List Oper} {o : Oper} {a : Act} {Q : Exit → Act → World → Prop}
theorem wpList_load_arrG (hw : Region.wanted o (yielded ops a.tmps) = true) (x : Operand) (ty : TypeId)
    (ho : o.op = .load ty x) (v u : Value) (hx : a.eval x = v) (hl : (Instr.loadAt ty v).run P w = .ok u w)
    (h : wpList P ops Q rest (a.put o.dst u) w) : wpList P ops Q (o :: rest) a w :=
  BigFrame.wpList_want hw fun _ hK => by
    unfold Oper.wp execOp
    simp only [ho, hx, hl, Sem.run_bind, Sem.run_pure, Result.andThen_ok]
    exact hK _ _ h
theorem wpList_bslice (hw : Region.wanted o (yielded ops a.tmps) = true) (ty : TypeId) (n : Nat) (ps : Array (Nat × Operand)) (vs : Array (Nat × Value))
    (ho : o.op = .buildSlice ty n ps) (hv : (ps.toList.map fun (i, x) => (i, a.eval x)).toArray = vs) (u : Value) (w' : World) (hr : (Instr.buildSlice ty n vs).run P w = .ok u w')
    (h : wpList P ops Q rest (a.put o.dst u) w') : wpList P ops Q (o :: rest) a w :=
  BigFrame.wpList_want hw fun _ hK => by
    have hv' : (ps.map fun (i, x) => (i, a.eval x)) = vs := by rw [← hv, ← Array.toList_map, Array.toArray_toList]
    unfold Oper.wp execOp
    simp only [ho, hv', hr, Sem.run_bind, Sem.run_pure, Result.andThen_ok]
    exact hK _ _ h
end

def TwoAt (w W : World) (g1 g2 : Nat) (a b : List Int) : Prop := Below w.heap.size w W ∧ W.heap[g1]? = some (.cells (va a) 24 (0, 0)) ∧ W.heap[g2]? = some (.cells (va b) 24 (0, 0))
theorem TwoAt.step {w W W' : World} {g1 g2 : Nat} {a b : List Int} (h : TwoAt w W g1 g2 a b) (hb : Below W.heap.size W W') : TwoAt w W' g1 g2 a b :=
  ⟨h.1.trans (hb.mono h.1.size), (hb.block _ (lt_of_block h.2.1)).trans h.2.1, (hb.block _ (lt_of_block h.2.2)).trans h.2.2⟩
def exA : List Int := (zs.set 0 3).set 2 1
def exB : List Int := (zs.set 0 1).set 5 2
theorem exA_len : exA.length = 64 := by decide +kernel
theorem exB_len : exB.length = 64 := by decide +kernel
theorem ex_parseA : parseW ⟨#[48, 58, 51, 32, 50, 58, 49]⟩ = (exA, 0) := by decide +kernel
theorem ex_parseB : parseW ⟨#[48, 58, 49, 32, 53, 58, 50]⟩ = (exB, 0) := by decide +kernel
theorem ex_lack : lackF exA exB 64 = [(5, 1, 2)] := by decide +kernel
theorem ex_text : textF (joinF [exA, exB]) = ⟨#[48, 58, 51, 32, 50, 58, 49, 32, 53, 58, 50]⟩ := ba_ext (by decide +kernel)
theorem ex_join : (joinF [exA, exB]).length = 64 := by decide +kernel
theorem ex_count : countF [(5, 1, 2)] = 2 := by decide +kernel
theorem ex_covA : ¬ CovP exA exB := fun h => absurd (h 5 0 2 (by decide +kernel) (by decide +kernel)) (by omega)
theorem ex_covB : ¬ CovP exB exA := fun h => absurd (h 0 1 3 (by decide +kernel) (by decide +kernel)) (by omega)
theorem ex_i63 : I63 (joinF [exA, exB]) := fun j x h => by
  have : ∀ x ∈ joinF [exA, exB], x ≤ 9223372036854775807 := by decide +kernel
  exact this x (List.mem_of_getElem? h)
theorem lies_own {w : World} {B : Nat} {e : TypeId} {v : Value} {l : List Rg} (h : w.ownsRow B e 3 v l.length (cs3 l)) (hl : l.length ≤ 1000) : LiesR w v l := by
  rcases h.2 with ⟨rfl, h0⟩ | ⟨g, cap, cur, rfl, hB, hg, hcap, hmax, hsz, htk⟩
  · have := List.eq_nil_of_length_eq_zero h0
    subst this
    exact ⟨none, 0, rfl, hl, fun _ => rfl, (fun b hb => by cases hb)⟩
  · refine ⟨_, cap, rfl, hl, (fun h => by cases h), fun b hb hne => ?_⟩
    injection hb with hb
    subst hb
    refine ⟨g, 0, rfl, lt_of_block hg, fun j p hj => ?_⟩
    have hc : ∀ (j : Nat) (u : Value), (cs3 l)[j]? = some u → w.cell? ⟨g, j, none⟩ = some u := fun j u hj => by
      have := h.cells rfl j u hj
      rwa [add_addr, Nat.zero_add] at this
    have hcs : ∀ (l : List Rg) (j : Nat) p, l[j]? = some p → (cs3 l)[j * 3]? = some (.int .i64 p.1) ∧ (cs3 l)[j * 3 + 1]? = some (.int .i64 p.2.1) ∧ (cs3 l)[j * 3 + 2]? = some (.int .i64 p.2.2) := by
      intro l
      induction l with
      | nil => intro j p h; cases h
      | cons q r ih =>
        intro j p h
        cases j with
        | zero => injection h with h; subst h; exact ⟨rfl, rfl, rfl⟩
        | succ j =>
          have := ih j p h
          have e : ∀ k, (cs3 (q :: r))[k + 3]? = (cs3 r)[k]? := fun k => rfl
          rw [show (j + 1) * 3 = j * 3 + 3 by omega, show j * 3 + 3 + 1 = (j * 3 + 1) + 3 by omega, show j * 3 + 3 + 2 = (j * 3 + 2) + 3 by omega, e, e, e]
          exact this
    have := hcs l j p hj
    rw [Nat.zero_add]
    exact ⟨hc _ _ this.1, hc _ _ this.2.1, hc _ _ this.2.2⟩

theorem LiesR.later {w w' : World} {v : Value} {l : List Rg} (h : LiesR w v l) (hb : Below w.heap.size w w') : LiesR w' v l := by
  obtain ⟨ao, cap, rfl, hn, h0, hc⟩ := h
  refine ⟨ao, cap, rfl, hn, h0, fun b hbb hne => ?_⟩
  obtain ⟨k, o, rfl, hk, hc⟩ := hc b hbb hne
  exact ⟨k, o, rfl, Nat.lt_of_lt_of_le hk hb.size, fun j p hj => ⟨(hb.cell (p := ⟨k, o + j * 3, none⟩) hk).trans (hc j p hj).1, (hb.cell (p := ⟨k, o + j * 3 + 1, none⟩) hk).trans (hc j p hj).2.1, (hb.cell (p := ⟨k, o + j * 3 + 2, none⟩) hk).trans (hc j p hj).2.2⟩⟩
theorem own_one {w : World} {B : Nat} {v : Value} {p : Rg} (h : w.ownsRow B 45 3 v 1 (cs3 [p])) : ∃ g c, v = .slice (some ⟨g, 0, none⟩) 1 c ∧ w.cell? ⟨g, 0, none⟩ = some (.int .i64 p.1) ∧ w.cell? ⟨g, 1, none⟩ = some (.int .i64 p.2.1) ∧ w.cell? ⟨g, 2, none⟩ = some (.int .i64 p.2.2) := by
  rcases h.2 with ⟨_, h0⟩ | ⟨g, cap, cur, rfl, hB, hg, hcap, hmax, hsz, htk⟩
  · cases h0
  · have hc : ∀ (j : Nat) (u : Value), (cs3 [p])[j]? = some u → w.cell? ⟨g, j, none⟩ = some u := fun j u hj => by
      have := h.cells rfl j u hj
      rwa [add_addr, Nat.zero_add] at this
    exact ⟨g, cap, rfl, hc 0 _ rfl, hc 1 _ rfl, hc 2 _ rfl⟩

set_option maxRecDepth 100000 in
set_option maxHeartbeats 4000000 in
theorem awake_any (w : World) (m : Int) (hm : w.cell? ⟨0, 0, none⟩ = some (.int .i64 m)) (ht : Tab w) :
    Calls Tryd.prog 20 #[] w fun e w' => e = .returned (.bool true) ∧ Below w.heap.size w w' := by
  have hb0 : 0 < w.heap.size := World.block_lt_of_cell? w _ hm
  have PA := Lib.hid (fun W (h : Below w.heap.size w W) => parse_any W ⟨#[48, 58, 51, 32, 50, 58, 49]⟩ m (by decide) ((h.cell (p := ⟨0, 0, none⟩) hb0).trans hm))
  have PB := Lib.hid (fun W (h : Below w.heap.size w W) => parse_any W ⟨#[48, 58, 49, 32, 53, 58, 50]⟩ m (by decide) ((h.cell (p := ⟨0, 0, none⟩) hb0).trans hm))
  rw [ex_parseA] at PA
  rw [ex_parseB] at PB
  have HT := Lib.hid (fun W (h : Below w.heap.size w W) => tab_later ht h)
  have LK := Lib.hid (fun W => lacks_any W exA exB exA_len exB_len)
  rw [ex_lack] at LK
  have OD := Lib.hid (fun W => order_any W exA exB exA_len exB_len false false ⟨(fun h => by cases h), fun h => absurd h ex_covA⟩ ⟨(fun h => by cases h), fun h => absurd h ex_covB⟩)
  have JN := Lib.hid (fun (W : World) (g : Nat) (h : W.heap[g]? = some (.cells (va (exA ++ exB)) 24 (0, 0))) => join_any W _ _ (two_at exA_len exB_len h) (by simp))
  have BS := Lib.hid (fun W => build_two W exA exB exA_len exB_len)
  have TX := Lib.hid (fun W (h : Below w.heap.size w W) => text_any W (joinF [exA, exB]) ex_join ex_i63 (tab_later ht h))
  rw [ex_text] at TX
  have LA := Lib.hid (fun (W : World) (g : Nat) (h : W.heap[g]? = some (.cells (va exA) 24 (0, 0))) => load_va v24 W g exA exA_len h)
  have LB := Lib.hid (fun (W : World) (g : Nat) (h : W.heap[g]? = some (.cells (va exB) 24 (0, 0))) => load_va v24 W g exB exB_len h)
  have SA := Lib.hid (fun W => store_va v24 (W.alloc (.cells (va zs) 24)) W.heap.size (va zs) (by rw [va_size, zs_len]) exA exA_len (heap_alloc_new W _))
  have SB := Lib.hid (fun W => store_va v24 (W.alloc (.cells (va zs) 24)) W.heap.size (va zs) (by rw [va_size, zs_len]) exB exB_len (heap_alloc_new W _))
  have AZ := Lib.hid (fun W => alloc_va z24 W)
  have HA := Lib.hid exA_len
  unfold vw at *
  obtain ⟨a, hae⟩ : ∃ a, exA = a := ⟨_, rfl⟩
  obtain ⟨b, hbe⟩ : ∃ b, exB = b := ⟨_, rfl⟩
  obtain ⟨j, hje⟩ : ∃ j, joinF [exA, exB] = j := ⟨_, rfl⟩
  rw [hje] at TX JN
  rw [hae] at PA LK OD JN BS LA SA
  rw [hbe] at PB LK OD JN BS LB SB
  clear hae hbe hje ht hm hb0
  obtain ⟨zr, hzr⟩ : ∃ zr, va zs = zr := ⟨_, rfl⟩
  rw [hzr] at SA SB AZ
  have SA' := Lib.hid (fun W => SA.out W)
  simp only [World.setRow_alloc_new] at SA SB
  clear hzr SA'
  have R0 := Lib.hid (Below.refl w.heap.size w)
  go_enter Tryd.func20, Tryd.ntmps20
  go_wp2_with fail
  refine (PA.out _ R0.out).mono ?_
  rintro e w1 ⟨rfl, hb1⟩
  have T1 := Lib.hid (hb1.trans (((Below.refl w1.heap.size w1).alloc (Nat.le_refl _) (.cells (va a) 24)).mono hb1.size))
  have N1 := Lib.hid (heap_alloc_new w1 (.cells (va a) 24))
  clear hb1
  go_wp2_with (first | refine wpList_alloc_arr rfl 24 rfl _ _ (AZ.out _) ?_ | refine wpList_store_arr rfl (.tmp 1) (.tmp 8) 24 rfl (.pointer (some ⟨w1.heap.size, 0, none⟩)) (.agg (va a)) rfl rfl _ (SA.out _) ?_)
  refine (PB.out _ T1.out).mono ?_
  rintro e w2 ⟨rfl, hb2⟩
  have N2 := Lib.hid ((hb2.block w1.heap.size (by simp)).trans N1.out)
  have T2 := Lib.hid (T1.out.trans (hb2.mono T1.out.size))
  have L2 := (Below.refl w2.heap.size w2).alloc (Nat.le_refl _) (.cells (va b) 24)
  have T3 := Lib.hid (show TwoAt w (w2.alloc (.cells (va b) 24)) w1.heap.size w2.heap.size a b from ⟨T2.out.trans (L2.mono T2.out.size), (L2.block _ (lt_of_block N2.out)).trans N2.out, heap_alloc_new w2 (.cells (va b) 24)⟩)
  clear hb2 L2 N1 T1
  obtain ⟨g1, hg1⟩ : ∃ g, w1.heap.size = g := ⟨_, rfl⟩
  rw [hg1] at N2 T3 ⊢
  clear hg1
  go_wp2_with (first | refine wpList_alloc_arr rfl 24 rfl _ _ (AZ.out _) ?_ | refine wpList_store_arr rfl (.tmp 3) (.tmp 12) 24 rfl (.pointer (some ⟨w2.heap.size, 0, none⟩)) (.agg (va b)) rfl rfl _ (SB.out _) ?_ | (obtain ⟨g2, hg2⟩ : ∃ g, w2.heap.size = g := ⟨_, rfl⟩; obtain ⟨W3, hW3⟩ : ∃ W, w2.alloc (.cells (va b) 24) = W := ⟨_, rfl⟩; rw [hg2, hW3] at T3 ⊢; clear hg2 hW3; refine wpList_load_arr rfl (.tmp 1) 24 rfl (.pointer (some ⟨g1, 0, none⟩)) _ rfl (LA.out _ _ T3.out.2.1) ?_) | refine wpList_load_arr rfl (.tmp 3) 24 rfl (.pointer (some ⟨g2, 0, none⟩)) _ rfl (LB.out _ _ T3.out.2.2) ?_)
  refine (LK.out _).mono ?_
  rintro e w4 ⟨r, rfl, ho4, hb4⟩
  have LI := Lib.hid (lies_own (l := [(5, 1, 2)]) ho4 (by decide))
  obtain ⟨g4, c4, rfl, k0, k1, k2⟩ := own_one ho4
  have T4 := Lib.hid (T3.out.step hb4)
  have B4 := Lib.hid (Below.refl w4.heap.size w4)
  have K := Lib.hid (And.intro k0 (And.intro k1 k2))
  have hg4 := Lib.hid (World.block_lt_of_cell? w4 _ k0)
  clear ho4 hb4 T3 k0 k1 k2
  go_wp2_with (first | refine wpList_load_arrG rfl (.tmp 1) 24 rfl (.pointer (some ⟨g1, 0, none⟩)) _ rfl (LA.out _ _ T4.out.2.1) ?_ | refine wpList_load_arrG rfl (.tmp 3) 24 rfl (.pointer (some ⟨g2, 0, none⟩)) _ rfl (LB.out _ _ T4.out.2.2) ?_)
  refine (OD.out _).mono ?_
  rintro e w5 ⟨rfl, hb5⟩
  have T5 := Lib.hid (T4.out.step hb5)
  have B5 := Lib.hid (B4.out.trans (hb5.mono B4.out.size))
  have k0 := (hb5.cell (p := ⟨g4, 0, none⟩) hg4.out).trans K.out.1
  have k1 := (hb5.cell (p := ⟨g4, 1, none⟩) hg4.out).trans K.out.2.1
  have k2 := (hb5.cell (p := ⟨g4, 2, none⟩) hg4.out).trans K.out.2.2
  have hlen : (1 : Int) ≤ 1 := by omega
  clear hb5 T4 B4
  go_wp2_with (first | refine wpList_load_arrG rfl (.tmp 1) 24 rfl (.pointer (some ⟨g1, 0, none⟩)) _ rfl (LA.out _ _ T5.out.2.1) ?_ | refine wpList_load_arrG rfl (.tmp 3) 24 rfl (.pointer (some ⟨g2, 0, none⟩)) _ rfl (LB.out _ _ T5.out.2.2) ?_ | refine wpList_bslice rfl 60 2 _ #[(0, .agg (va a)), (1, .agg (va b))] rfl rfl _ _ (BS.out _) ?_)
  have N6 := Lib.hid (heap_alloc_new w5 (.cells (va (a ++ b)) 24))
  have L6 := Lib.hid ((Below.refl w5.heap.size w5).alloc (Nat.le_refl _) (.cells (va (a ++ b)) 24))
  refine (JN.out _ _ N6.out).mono ?_
  rintro e w6 ⟨rfl, hb6⟩
  have T6 := Lib.hid ((T5.out.step L6.out).step hb6)
  have B6 := Lib.hid ((B5.out.trans (L6.out.mono B5.out.size)).trans (hb6.mono (B5.out.trans (L6.out.mono B5.out.size)).size))
  clear hb6 T5 B5 N6 L6 k0 k1 k2
  go_wp2_with fail
  refine (TX.out _ T6.out.1).mono ?_
  rintro e w7 ⟨rfl, hb7⟩
  have T7 := Lib.hid (T6.out.step hb7)
  have CN := Lib.hid (count_any w7 _ _ (LI.out.later (B6.out.trans (hb7.mono B6.out.size))))
  rw [ex_count] at CN
  clear hb7 T6 B6
  go_wp2_with fail
  refine CN.out.mono ?_
  rintro e w8 ⟨rfl, hb8⟩
  have T8 := Lib.hid (T7.out.step hb8)
  clear hb8 T7
  go_wp2
  go_returns
  exact ⟨rfl, T8.out.1⟩
end Go.Proofs.YtiljmkglmanddaaDoor
