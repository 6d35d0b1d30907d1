/- TablePlays' law. Made by genud13.py, with tools/drawn.py. -/
import Derived.Test.YtegmlekeielmoaaUC
import Derived.Test.YtegmlekeielmoaaUB
set_option linter.unusedVariables false
set_option maxRecDepth 100000
namespace Go.Proofs.Ytegmlekeielmoaa
open Go.RowKit Go.WideMaps Go.Maps

structure Ac where
  k : Int
  t : Int
  r : Int
  pt : Int
  pr : Int
  nm : ByteArray
  d : Bool
def Ac.ok (x : Ac) : Prop := I64 x.k ∧ I64 x.t ∧ I64 x.r ∧ I64 x.pt ∧ I64 x.pr
def enc7 (x : Ac) : List Value := [.int .i64 x.k, .int .i64 x.t, .int .i64 x.r, .int .i64 x.pt, .int .i64 x.pr, .string x.nm, .bool x.d]
def AcAt (w : World) (g : Nat) (k t r pt pr : Int) (nm : ByteArray) (d : Bool) : Prop := w.heap[g]? = some (.cells #[.int .i64 k, .int .i64 t, .int .i64 r, .int .i64 pt, .int .i64 pr, .string nm, .bool d] 31 (0, 0))
theorem AcAt.step {w w' : World} {g : Nat} {k t r pt pr : Int} {nm : ByteArray} {d : Bool} (h : AcAt w g k t r pt pr nm d) (hb : Below w.heap.size w w') : AcAt w' g k t r pt pr nm d := (hb.block g (lt_of_block h)).trans h
theorem AcAt.turn {w w' : World} {g p b : Nat} {l : List Rw} {k t r pt pr : Int} {nm : ByteArray} {d : Bool} (h : AcAt w g k t r pt pr nm d) (ho : TOut w w' p b l) (hb : b < g) : AcAt w' g k t r pt pr nm d := (ho.grow.block g (lt_of_block h) (fun e => by injection e; omega)).trans h
theorem AcAt.cells {w : World} {g : Nat} {k t r pt pr : Int} {nm : ByteArray} {d : Bool} (h : AcAt w g k t r pt pr nm d) : w.cell? ⟨g, 0, none⟩ = some (.int .i64 k) ∧ w.cell? ⟨g, 1, none⟩ = some (.int .i64 t) ∧ w.cell? ⟨g, 2, none⟩ = some (.int .i64 r) ∧ w.cell? ⟨g, 3, none⟩ = some (.int .i64 pt) ∧ w.cell? ⟨g, 4, none⟩ = some (.int .i64 pr) ∧ w.cell? ⟨g, 5, none⟩ = some (.string nm) ∧ w.cell? ⟨g, 6, none⟩ = some (.bool d) := by
  refine ⟨?_, ?_, ?_, ?_, ?_, ?_, ?_⟩ <;> (rw [cell_of_row _ _ _ _ _ _ h]; rfl)
theorem loadA1 {W : World} {g : Nat} {k t r pt pr : Int} {nm : ByteArray} {d : Bool} (h : AcAt W g k t r pt pr nm d) : (Instr.loadAt 24 (.pointer (some ⟨g, 1, none⟩))).run Try.prog W = .ok (.agg #[.int .i64 t, .int .i64 r]) W := by
  obtain ⟨e0, e1, e2, e3, e4, e5, e6⟩ := h.cells
  go_simp
theorem loadA3 {W : World} {g : Nat} {k t r pt pr : Int} {nm : ByteArray} {d : Bool} (h : AcAt W g k t r pt pr nm d) : (Instr.loadAt 29 (.pointer (some ⟨g, 3, none⟩))).run Try.prog W = .ok (.agg #[.int .i64 pt, .int .i64 pr, .string nm, .bool d]) W := by
  obtain ⟨e0, e1, e2, e3, e4, e5, e6⟩ := h.cells
  go_simp
theorem loadAP {W : World} {g : Nat} {k t r pt pr : Int} {nm : ByteArray} {d : Bool} (h : AcAt W g k t r pt pr nm d) : (Instr.loadAt 24 (.pointer (some ⟨g, 3, none⟩))).run Try.prog W = .ok (.agg #[.int .i64 pt, .int .i64 pr]) W := by
  obtain ⟨e0, e1, e2, e3, e4, e5, e6⟩ := h.cells
  go_simp
theorem load34 {W : World} {g : Nat} {pt pr : Int} {nm : ByteArray} {d : Bool} (h : EnAt W g pt pr nm d) : (Instr.loadAt 34 (.pointer (some ⟨g, 0, none⟩))).run Try.prog W = .ok (.agg #[.int .i64 pt, .int .i64 pr, .string nm, .bool d]) W := by
  obtain ⟨c0, c1, c2, c3⟩ := h.cells
  go_simp
theorem lies_turn {w w' : World} {b : Nat} {m l : List Rw} {v : Value} (h : LiesR w v l) (hm : TM w b m) (hg : w.grownBy w' (some b)) : LiesR w' v l := by
  obtain ⟨ao, cap, h1, h2, h3, h4, h5⟩ := h
  refine ⟨ao, cap, h1, h2, h3, h4, fun a ha hne => ?_⟩
  obtain ⟨g, k, rfl, hgl, hc⟩ := h5 a ha hne
  refine ⟨g, k, rfl, Nat.lt_of_lt_of_le hgl hg.size, fun j p hp i u hu => hg.cell (hc j p hp i u hu) (fun e => ?_)⟩
  injection e with e
  have e : g = b := e
  subst e
  obtain ⟨es, ⟨es', c, hb', _⟩, _⟩ := hm
  have := hc j p hp i u hu
  simp [World.cell?, hb'] at this
theorem same_self (w : World) (v1 v2 : Value) (l : List Sp) (h1 : LiesK encS 2 w v1 l) (h2 : LiesK encS 2 w v2 l) : Calls Try.prog 18 #[v1, v2] w fun e w' => e = .returned (.bool true) ∧ Below w.heap.size w w' :=
  (same_any w v1 v2 l l h1 h2).mono (by rintro e w' ⟨rfl, hb⟩; exact ⟨by rw [decide_eq_true rfl], hb⟩)
/-- Between two acts. -/
structure PI (w W : World) (p b : Nat) (m : List Rw) (q1 q2 : Int) (rv : Value) (mr : List Rw) : Prop where
  tab : TabI W p b m
  st : StAt W w.heap.size q1 q2
  bel : Below w.heap.size w W
  ne : w.heap.size < b
  rows : LiesR W rv mr
theorem PI.step {w W W' : World} {p b : Nat} {m mr : List Rw} {q1 q2 : Int} {rv : Value} (h : PI w W p b m q1 q2 rv mr) (hb : Below W.heap.size W W') : PI w W' p b m q1 q2 rv mr :=
  ⟨h.tab.step hb, h.st.step hb, h.bel.trans (hb.mono h.bel.size), h.ne, h.rows.step hb⟩
theorem PI.turn {w W W' : World} {p b : Nat} {m m' mr : List Rw} {q1 q2 : Int} {rv : Value} (h : PI w W p b m q1 q2 rv mr) (ho : TOut W W' p b m') : PI w W' p b m' q1 q2 rv mr :=
  ⟨ho.tab, (ho.grow.block _ (lt_of_block h.st) (fun e => by injection e; have := h.ne; omega)).trans h.st, h.bel.trans (ho.below (by have := h.ne; omega) h.bel.size), h.ne, lies_turn h.rows h.tab.map ho.grow⟩
theorem PI.put {w W W' : World} {p b : Nat} {m mr mr' : List Rw} {q1 q2 : Int} {rv rv' : Value} (h : PI w W p b m q1 q2 rv mr) (hb : Below W.heap.size W W') (hr : LiesR W' rv' mr') : PI w W' p b m q1 q2 rv' mr' :=
  ⟨h.tab.step hb, h.st.step hb, h.bel.trans (hb.mono h.bel.size), h.ne, hr⟩
theorem dropF_len (l : List Rw) (t r : Int) : (dropF l t r).length ≤ l.length := List.length_filter_le _ _
set_option maxHeartbeats 25600000 in
theorem plays_law (w : World) (v : Value) (l : List Ac) (h : LiesK enc7 7 w v l) (hk : ∀ x ∈ l, x.ok) (q1 q2 : Int) (hq1 : I64 q1) (hq2 : I64 q2) :
    Calls Try.prog 3 #[v, .agg #[.int .i64 q1, .int .i64 q2]] w fun e w' => e = .returned (.bool true) ∧ Below w.heap.size w w' := by
  have B1 := Lib.hid (vstep w (.cells #[.int .i64 q1, .int .i64 q2] 24))
  have S1 := Lib.hid (StAt.new w q1 q2)
  have L := Lib.hid h
  have HK := Lib.hid hk
  have HQ := Lib.hid (And.intro hq1 hq2)
  obtain ⟨ao, cap, rfl⟩ := h.shape
  have hlm := h.len
  obtain ⟨W0, hW0⟩ : ∃ y, w.alloc (.cells #[.int .i64 q1, .int .i64 q2] 24) = y := ⟨_, rfl⟩
  rw [hW0] at B1 S1
  have HS := Lib.hid (show W0.heap.size = w.heap.size + 1 from by rw [← hW0]; simp)
  have HW := Lib.hid hW0
  have N := Lib.hid (new_any W0)
  clear h hk hq1 hq2 hW0
  go_enter Try.func3, Try.ntmps3
  go_upto_region 1 with (fail)
  rw [HW.out]
  go_wp2_with fail
  refine N.out.mono ?_
  rintro e w1 ⟨p, b, rfl, h1, h2, h3, h4⟩
  have P1 := Lib.hid (show PI w w1 p b [] q1 q2 (.slice none 0 0) [] from ⟨h1, S1.out.step h4, B1.out.trans (h4.mono B1.out.size), by have := HS.out; omega, LiesK.nil _⟩)
  clear h1 h2 h3 h4 N S1 B1
  go_wp2
  go_loopw [6, 7] (fun rv kv wr => ∃ (i : Nat) (m : List Rw), kv = .int .i64 i ∧ i ≤ l.length ∧ i ≤ 60 ∧ Hid (PI w wr p b m q1 q2 rv m ∧ m.length ≤ i)) (fun _ kv _ => l.length - (intOf kv).toNat)
  case atStart => exact ⟨0, [], rfl, Nat.zero_le _, Nat.zero_le _, Lib.hid ⟨P1.out, Nat.le_refl _⟩⟩
  case round =>
    obtain ⟨i, m, rfl, hi, hi60, hJ⟩ := hrel
    have P2 := Lib.hid hJ.out.1
    have LM := Lib.hid hJ.out.2
    obtain ⟨ra, rc, rfl⟩ := hJ.out.1.rows.shape
    clear hJ P1
    by_cases hlt : i < l.length
    · by_cases h60 : i < 60
      · obtain ⟨g, o, x, rfl, hx, hg, hc⟩ := (L.out.keep P2.out.bel (Nat.le_refl _)).at' hlt
        have HX := Lib.hid (HK.out x (List.mem_of_getElem? hx))
        obtain ⟨k, t, r, pt, pr, nm, d⟩ := x
        have a0 := hc 0 _ rfl
        have a1 := hc 1 _ rfl
        have a2 := hc 2 _ rfl
        have a3 := hc 3 _ rfl
        have a4 := hc 4 _ rfl
        have a5 := hc 5 _ rfl
        have a6 := hc 6 _ rfl
        rw [Nat.add_zero] at a0
        dsimp only at a0 a1 a2 a3 a4 a5 a6
        clear hc hg hx
        go_upto_region 7 with (fail)
        have B2 := vstep wr (.cells #[.int .i64 k, .int .i64 t, .int .i64 r, .int .i64 pt, .int .i64 pr, .string nm, .bool d] 31)
        have P3 := Lib.hid (P2.out.step B2)
        have A3 := Lib.hid (show AcAt (wr.alloc (.cells #[.int .i64 k, .int .i64 t, .int .i64 r, .int .i64 pt, .int .i64 pr, .string nm, .bool d] 31)) wr.heap.size k t r pt pr nm d from heap_alloc_new wr _)
        have BK := Lib.hid (show b < wr.heap.size from P2.out.tab.blt)
        obtain ⟨k2, hk2⟩ : ∃ k, wr.heap.size = k := ⟨_, rfl⟩
        rw [hk2] at A3 BK ⊢
        generalize (wr.alloc (.cells #[.int .i64 k, .int .i64 t, .int .i64 r, .int .i64 pt, .int .i64 pr, .string nm, .bool d] 31)) = w2 at *
        clear a0 a1 a2 a3 a4 a5 a6 B2 hk2 P2
        have XO := Lib.hid (show Rw.ok ⟨t, r, pt, pr, nm, d⟩ from ⟨HX.out.2.1, HX.out.2.2.1, HX.out.2.2.2.1, HX.out.2.2.2.2⟩)
        obtain ⟨e0, e1, e2, e3, e4, e5, e6⟩ := A3.out.cells
        rcases (show k = 0 ∨ k = 1 ∨ k = 2 ∨ k = 3 ∨ (k ≠ 0 ∧ k ≠ 1 ∧ k ≠ 2 ∧ k ≠ 3) from by omega) with rfl | rfl | rfl | rfl | ⟨n0, n1, n2, n3⟩
        · go_upto_region 11 with (fail)
          have L1 := fun W (h : AcAt W k2 0 t r pt pr nm d) => loadA1 h
          have L3 := fun W (h : AcAt W k2 0 t r pt pr nm d) => loadA3 h
          have PP := Lib.hid (P3.out.step (show Below w2.heap.size w2 w2.drew from (Below.refl _ _).drew))
          clear e0 e1 e2 e3 e4 e5 e6
          refine wp_region_held_drew (S := fun W => AcAt W k2 0 t r pt pr nm d) (by kernel_rfl) (A3.out.step (show Below w2.heap.size w2 w2.drew from (Below.refl _ _).drew)) (fun hHeld => ?_)
          have BV := Lib.hid (A3.out.step (show Below w2.heap.size w2 w2.drew from (Below.refl _ _).drew))
          clear hHeld
          refine take_at (i := 0) 36 ?_ rfl rfl (by kernel_rfl) (by kernel_rfl) (by kernel_rfl) (fun _ _ _ h => h) (.inl ⟨rfl, ?_⟩) BV.out ?_
          rotate_left 1
          · intro w hSw; go_simp; try with_reducible rfl
          simp only [Act.put, List.setIfInBounds_toArray, List.set_cons_zero, List.set_cons_succ]
          refine take_at (i := 1) 37 ?_ rfl rfl (by kernel_rfl) (by kernel_rfl) (by kernel_rfl) (fun _ _ _ h => h) (.inl ⟨rfl, ?_⟩) BV.out ?_
          rotate_left 1
          · intro w hSw; go_simp; try with_reducible rfl
          simp only [Act.put, List.setIfInBounds_toArray, List.set_cons_zero, List.set_cons_succ]
          refine take_at (i := 2) 38 (.agg #[.int .i64 t, .int .i64 r]) rfl rfl (by kernel_rfl) (by kernel_rfl) (by kernel_rfl) (fun _ _ _ h => h) (yields_ld (.tmp 37) 24 (.pointer (some ⟨k2, 1, none⟩)) _ L1 rfl rfl rfl) BV.out ?_
          simp only [Act.put, List.setIfInBounds_toArray, List.set_cons_zero, List.set_cons_succ]
          refine take_at (i := 3) 39 ?_ rfl rfl (by kernel_rfl) (by kernel_rfl) (by kernel_rfl) (fun _ _ _ h => h) (.inl ⟨rfl, ?_⟩) BV.out ?_
          rotate_left 1
          · intro w hSw; go_simp; try with_reducible rfl
          simp only [Act.put, List.setIfInBounds_toArray, List.set_cons_zero, List.set_cons_succ]
          refine take_at (i := 4) 40 (.agg #[.int .i64 pt, .int .i64 pr, .string nm, .bool d]) rfl rfl (by kernel_rfl) (by kernel_rfl) (by kernel_rfl) (fun _ _ _ h => h) (yields_ld (.tmp 39) 29 (.pointer (some ⟨k2, 3, none⟩)) _ L3 rfl rfl rfl) BV.out ?_
          simp only [Act.put, List.setIfInBounds_toArray, List.set_cons_zero, List.set_cons_succ]
          refine wpAnyH_ready (rs := [5]) (by kernel_rfl) (by simp) (br_call (i := 5) 41 12 #[.agg #[.int .i64 pt, .int .i64 pr, .string nm, .bool d]] rfl rfl rfl (by go_simp) ((to_any _ pt pr nm d).mono ?_) AllReadyH.nil)
          rintro e v1 ⟨rfl, hb⟩
          have BV := Lib.hid (BV.out.step hb)
          have PP := Lib.hid (PP.out.step hb)
          clear hb
          refine ⟨_, rfl, BV.out, fun _ => ?_⟩
          simp only [Act.put, List.setIfInBounds_toArray, List.set_cons_zero, List.set_cons_succ]
          refine wpAnyH_ready (rs := [6]) (by kernel_rfl) (by simp) (br_call (i := 6) 42 11 #[.pointer (some ⟨p, 0, none⟩), .agg #[.int .i64 t, .int .i64 r], .agg #[.int .i64 pt, .int .i64 pr, .string nm, .bool d]] rfl rfl rfl (by go_simp) ((set_any _ p b m PP.out.tab (by have := LM.out; omega) ⟨t, r, pt, pr, nm, d⟩ XO.out).mono ?_) AllReadyH.nil)
          rintro e v2 ⟨rfl, ho⟩
          have BV := Lib.hid (BV.out.turn ho BK.out)
          have PP := Lib.hid (PP.out.turn ho)
          clear ho
          refine ⟨_, rfl, BV.out, fun _ => ?_⟩
          simp only [Act.put, List.setIfInBounds_toArray, List.set_cons_zero, List.set_cons_succ]
          refine take_at (i := 7) 43 ?_ rfl rfl (by kernel_rfl) (by kernel_rfl) (by kernel_rfl) (fun _ _ _ h => h) (.inl ⟨rfl, ?_⟩) BV.out ?_
          rotate_left 1
          · intro w hSw; go_simp; try with_reducible rfl
          simp only [Act.put, List.setIfInBounds_toArray, List.set_cons_zero, List.set_cons_succ]
          refine wpAnyH_done (by kernel_rfl) ?_ _
          have RS := Lib.hid (rset_any v2 _ m ⟨t, r, pt, pr, nm, d⟩ PP.out.rows (by have := LM.out; omega) P3.out.tab.map.rise)
          have AA := Lib.hid BV.out
          obtain ⟨e0, e1, e2, e3, e4, e5, e6⟩ := AA.out.cells
          clear BV L1 L3
          go_wp2_with fail
          refine RS.out.mono ?_
          rintro e wt ⟨rr, rfl, ho, hb⟩
          have LM := Lib.hid (show (setF m ⟨t, r, pt, pr, nm, d⟩).length ≤ i + 1 from by have := setF_len m ⟨t, r, pt, pr, nm, d⟩; have := LM.out; omega)
          have AA := Lib.hid (AA.out.step hb)
          have PP := Lib.hid (PP.out.put hb (own_liesK enc6_len ho))
          clear ho hb e0 e1 e2 e3 e4 e5 e6 RS P3
          generalize setF m ⟨t, r, pt, pr, nm, d⟩ = mm at *
          obtain ⟨ra, rc, rfl⟩ := PP.out.rows.shape
          go_upto_region 19 with (fail)
          have FA := Lib.hid (fun W (hb : Below wt.heap.size wt W) => AA.out.step hb)
          have FP := Lib.hid (fun W (hb : Below wt.heap.size wt W) => PP.out.step hb)
          have LA := Lib.hid (fun W (hb : Below wt.heap.size wt W) => load24 W _ _ _ (PP.out.st.step hb))
          have LP := Lib.hid (fun W (hb : Below wt.heap.size wt W) => loadAP (AA.out.step hb))
          clear AA PP
          refine wp_region_held_drew (S := fun w' => Below wt.heap.size wt w') (by kernel_rfl) (Below.refl _ _).drew (fun hHeld => ?_)
          have BV := Lib.hid (show Below wt.heap.size wt wt.drew from (Below.refl _ _).drew)
          clear hHeld
          refine take_at (i := 0) 69 ?_ rfl rfl (by kernel_rfl) (by kernel_rfl) (by kernel_rfl) (fun _ _ _ h => h) (.inl ⟨rfl, ?_⟩) BV.out ?_
          rotate_left 1
          · intro w hSw; go_simp; try with_reducible rfl
          simp only [Act.put, List.setIfInBounds_toArray, List.set_cons_zero, List.set_cons_succ]
          refine take_at (i := 1) 70 ?_ rfl rfl (by kernel_rfl) (by kernel_rfl) (by kernel_rfl) (fun _ _ _ h => h) (.inl ⟨rfl, ?_⟩) BV.out ?_
          rotate_left 1
          · intro w hSw; go_simp; try with_reducible rfl
          simp only [Act.put, List.setIfInBounds_toArray, List.set_cons_zero, List.set_cons_succ]
          refine wpAnyH_ready (rs := [2]) (by kernel_rfl) (by simp) (br_call (i := 2) 71 17 #[.pointer (some ⟨p, 0, none⟩), .slice ra mm.length rc] rfl rfl rfl (by go_simp) ((is_same _ p b _ mm (FP.out _ BV.out).tab (FP.out _ BV.out).rows).mono ?_) AllReadyH.nil)
          rintro e v1 ⟨rfl, hb⟩
          have BV := Lib.hid (BV.out.trans (hb.mono BV.out.size))
          clear hb
          refine ⟨_, rfl, BV.out, fun _ => ?_⟩
          simp only [Act.put, List.setIfInBounds_toArray, List.set_cons_zero, List.set_cons_succ]
          refine take_at (i := 3) 72 ?_ rfl rfl (by kernel_rfl) (by kernel_rfl) (by kernel_rfl) (fun _ _ _ h => h) (.inl ⟨rfl, ?_⟩) BV.out ?_
          rotate_left 1
          · intro w hSw; go_simp; try with_reducible rfl
          simp only [Act.put, List.setIfInBounds_toArray, List.set_cons_zero, List.set_cons_succ]
          refine take_at (i := 4) 73 ?_ rfl rfl (by kernel_rfl) (by kernel_rfl) (by kernel_rfl) (fun _ _ _ h => h) (.inl ⟨rfl, ?_⟩) BV.out ?_
          rotate_left 1
          · intro w hSw; go_simp; try with_reducible rfl
          simp only [Act.put, List.setIfInBounds_toArray, List.set_cons_zero, List.set_cons_succ]
          refine take_at (i := 5) 74 ?_ rfl rfl (by kernel_rfl) (by kernel_rfl) (by kernel_rfl) (fun _ _ _ h => h) (.inl ⟨rfl, ?_⟩) BV.out ?_
          rotate_left 1
          · intro w hSw; go_simp; try with_reducible rfl
          simp only [Act.put, List.setIfInBounds_toArray, List.set_cons_zero, List.set_cons_succ]
          refine take_at (i := 6) 75 ?_ rfl rfl (by kernel_rfl) (by kernel_rfl) (by kernel_rfl) (fun _ _ _ h => h) (.inl ⟨rfl, ?_⟩) BV.out ?_
          rotate_left 1
          · intro w hSw; go_simp; try with_reducible rfl
          simp only [Act.put, List.setIfInBounds_toArray, List.set_cons_zero, List.set_cons_succ]
          refine take_at (i := 7) 76 ?_ rfl rfl (by kernel_rfl) (by kernel_rfl) (by kernel_rfl) (fun _ _ _ h => h) (.inl ⟨rfl, ?_⟩) BV.out ?_
          rotate_left 1
          · intro w hSw; go_simp; try with_reducible rfl
          simp only [Act.put, List.setIfInBounds_toArray, List.set_cons_zero, List.set_cons_succ]
          refine take_at (i := 8) 77 (.agg #[.int .i64 pt, .int .i64 pr]) rfl rfl (by kernel_rfl) (by kernel_rfl) (by kernel_rfl) (fun _ _ _ h => h) (yields_ld (.tmp 76) 24 (.pointer (some ⟨k2, 3, none⟩)) _ LP.out rfl rfl rfl) BV.out ?_
          simp only [Act.put, List.setIfInBounds_toArray, List.set_cons_zero, List.set_cons_succ]
          refine take_at (i := 10) 79 ?_ rfl rfl (by kernel_rfl) (by kernel_rfl) (by kernel_rfl) (fun _ _ _ h => h) (.inl ⟨rfl, ?_⟩) BV.out ?_
          rotate_left 1
          · intro w hSw; go_simp; try with_reducible rfl
          simp only [Act.put, List.setIfInBounds_toArray, List.set_cons_zero, List.set_cons_succ]
          refine take_at (i := 11) 80 ?_ rfl rfl (by kernel_rfl) (by kernel_rfl) (by kernel_rfl) (fun _ _ _ h => h) (.inl ⟨rfl, ?_⟩) BV.out ?_
          rotate_left 1
          · intro w hSw; go_simp; try with_reducible rfl
          simp only [Act.put, List.setIfInBounds_toArray, List.set_cons_zero, List.set_cons_succ]
          refine take_at (i := 12) 81 ?_ rfl rfl (by kernel_rfl) (by kernel_rfl) (by kernel_rfl) (fun _ _ _ h => h) (.inl ⟨rfl, ?_⟩) BV.out ?_
          rotate_left 1
          · intro w hSw; go_simp; try with_reducible rfl
          simp only [Act.put, List.setIfInBounds_toArray, List.set_cons_zero, List.set_cons_succ]
          refine take_at (i := 13) 82 (.agg #[.int .i64 pt, .int .i64 pr]) rfl rfl (by kernel_rfl) (by kernel_rfl) (by kernel_rfl) (fun _ _ _ h => h) (yields_ld (.tmp 81) 24 (.pointer (some ⟨k2, 3, none⟩)) _ LP.out rfl rfl rfl) BV.out ?_
          simp only [Act.put, List.setIfInBounds_toArray, List.set_cons_zero, List.set_cons_succ]
          refine wpAnyH_ready (rs := [9]) (by kernel_rfl) (by simp) (br_call (i := 9) 78 19 #[.pointer (some ⟨p, 0, none⟩), .agg #[.int .i64 pt, .int .i64 pr]] rfl rfl rfl (by go_simp) ((kids_any _ p b mm (FP.out _ BV.out).tab (by have := LM.out; omega) pt pr).mono ?_) AllReadyH.nil)
          rintro e v2 ⟨u9, rfl, ho, hb⟩
          have BV := Lib.hid (BV.out.trans (hb.mono BV.out.size))
          have SK9 := Lib.hid (own_liesK encS_len ho)
          clear ho
          clear hb
          refine ⟨_, rfl, BV.out, fun _ => ?_⟩
          simp only [Act.put, List.setIfInBounds_toArray, List.set_cons_zero, List.set_cons_succ]
          refine wpAnyH_ready (rs := [14]) (by kernel_rfl) (by simp) (br_call (i := 14) 83 20 #[.slice ra mm.length rc, .agg #[.int .i64 pt, .int .i64 pr]] rfl rfl rfl (by go_simp) ((rkids_any _ _ mm (FP.out _ BV.out).rows (by have := LM.out; omega) pt pr).mono ?_) AllReadyH.nil)
          rintro e v3 ⟨u14, rfl, ho, hb⟩
          have BV := Lib.hid (BV.out.trans (hb.mono BV.out.size))
          have SK9 := Lib.hid (SK9.out.step hb)
          have SK14 := Lib.hid (own_liesK encS_len ho)
          clear ho
          clear hb
          refine ⟨_, rfl, BV.out, fun _ => ?_⟩
          simp only [Act.put, List.setIfInBounds_toArray, List.set_cons_zero, List.set_cons_succ]
          refine wpAnyH_ready (rs := [15]) (by kernel_rfl) (by simp) (br_call (i := 15) 84 18 #[u9, u14] rfl rfl rfl (by go_simp) ((same_self _ _ _ _ SK9.out SK14.out).mono ?_) AllReadyH.nil)
          rintro e v4 ⟨rfl, hb⟩
          have BV := Lib.hid (BV.out.trans (hb.mono BV.out.size))
          have SK9 := Lib.hid (SK9.out.step hb)
          have SK14 := Lib.hid (SK14.out.step hb)
          clear hb
          refine ⟨_, rfl, BV.out, fun _ => ?_⟩
          simp only [Act.put, List.setIfInBounds_toArray, List.set_cons_zero, List.set_cons_succ]
          refine take_at (i := 16) 85 ?_ rfl rfl (by kernel_rfl) (by kernel_rfl) (by kernel_rfl) (fun _ _ _ h => h) (.inl ⟨rfl, ?_⟩) BV.out ?_
          rotate_left 1
          · intro w hSw; go_simp; try with_reducible rfl
          simp only [Act.put, List.setIfInBounds_toArray, List.set_cons_zero, List.set_cons_succ]
          refine take_at (i := 17) 86 ?_ rfl rfl (by kernel_rfl) (by kernel_rfl) (by kernel_rfl) (fun _ _ _ h => h) (.inl ⟨rfl, ?_⟩) BV.out ?_
          rotate_left 1
          · intro w hSw; go_simp; try with_reducible rfl
          simp only [Act.put, List.setIfInBounds_toArray, List.set_cons_zero, List.set_cons_succ]
          refine take_at (i := 18) 87 ?_ rfl rfl (by kernel_rfl) (by kernel_rfl) (by kernel_rfl) (fun _ _ _ h => h) (.inl ⟨rfl, ?_⟩) BV.out ?_
          rotate_left 1
          · intro w hSw; go_simp; try with_reducible rfl
          simp only [Act.put, List.setIfInBounds_toArray, List.set_cons_zero, List.set_cons_succ]
          refine take_at (i := 19) 88 ?_ rfl rfl (by kernel_rfl) (by kernel_rfl) (by kernel_rfl) (fun _ _ _ h => h) (.inl ⟨rfl, ?_⟩) BV.out ?_
          rotate_left 1
          · intro w hSw; go_simp; try with_reducible rfl
          simp only [Act.put, List.setIfInBounds_toArray, List.set_cons_zero, List.set_cons_succ]
          refine take_at (i := 20) 89 (.agg #[.int .i64 q1, .int .i64 q2]) rfl rfl (by kernel_rfl) (by kernel_rfl) (by kernel_rfl) (fun _ _ _ h => h) (yields_ld (.tmp 3) 24 (.pointer (some ⟨w.heap.size, 0, none⟩)) _ LA.out rfl rfl rfl) BV.out ?_
          simp only [Act.put, List.setIfInBounds_toArray, List.set_cons_zero, List.set_cons_succ]
          refine take_at (i := 22) 91 ?_ rfl rfl (by kernel_rfl) (by kernel_rfl) (by kernel_rfl) (fun _ _ _ h => h) (.inl ⟨rfl, ?_⟩) BV.out ?_
          rotate_left 1
          · intro w hSw; go_simp; try with_reducible rfl
          simp only [Act.put, List.setIfInBounds_toArray, List.set_cons_zero, List.set_cons_succ]
          refine take_at (i := 23) 92 (.agg #[.int .i64 q1, .int .i64 q2]) rfl rfl (by kernel_rfl) (by kernel_rfl) (by kernel_rfl) (fun _ _ _ h => h) (yields_ld (.tmp 3) 24 (.pointer (some ⟨w.heap.size, 0, none⟩)) _ LA.out rfl rfl rfl) BV.out ?_
          simp only [Act.put, List.setIfInBounds_toArray, List.set_cons_zero, List.set_cons_succ]
          refine wpAnyH_ready (rs := [21]) (by kernel_rfl) (by simp) (br_call (i := 21) 90 19 #[.pointer (some ⟨p, 0, none⟩), .agg #[.int .i64 q1, .int .i64 q2]] rfl rfl rfl (by go_simp) ((kids_any _ p b mm (FP.out _ BV.out).tab (by have := LM.out; omega) q1 q2).mono ?_) AllReadyH.nil)
          rintro e v5 ⟨u21, rfl, ho, hb⟩
          have BV := Lib.hid (BV.out.trans (hb.mono BV.out.size))
          have SK9 := Lib.hid (SK9.out.step hb)
          have SK14 := Lib.hid (SK14.out.step hb)
          have SK21 := Lib.hid (own_liesK encS_len ho)
          clear ho
          clear hb
          refine ⟨_, rfl, BV.out, fun _ => ?_⟩
          simp only [Act.put, List.setIfInBounds_toArray, List.set_cons_zero, List.set_cons_succ]
          refine wpAnyH_ready (rs := [24]) (by kernel_rfl) (by simp) (br_call (i := 24) 93 20 #[.slice ra mm.length rc, .agg #[.int .i64 q1, .int .i64 q2]] rfl rfl rfl (by go_simp) ((rkids_any _ _ mm (FP.out _ BV.out).rows (by have := LM.out; omega) q1 q2).mono ?_) AllReadyH.nil)
          rintro e v6 ⟨u24, rfl, ho, hb⟩
          have BV := Lib.hid (BV.out.trans (hb.mono BV.out.size))
          have SK9 := Lib.hid (SK9.out.step hb)
          have SK14 := Lib.hid (SK14.out.step hb)
          have SK21 := Lib.hid (SK21.out.step hb)
          have SK24 := Lib.hid (own_liesK encS_len ho)
          clear ho
          clear hb
          refine ⟨_, rfl, BV.out, fun _ => ?_⟩
          simp only [Act.put, List.setIfInBounds_toArray, List.set_cons_zero, List.set_cons_succ]
          refine wpAnyH_ready (rs := [25]) (by kernel_rfl) (by simp) (br_call (i := 25) 94 18 #[u21, u24] rfl rfl rfl (by go_simp) ((same_self _ _ _ _ SK21.out SK24.out).mono ?_) AllReadyH.nil)
          rintro e v7 ⟨rfl, hb⟩
          have BV := Lib.hid (BV.out.trans (hb.mono BV.out.size))
          have SK9 := Lib.hid (SK9.out.step hb)
          have SK14 := Lib.hid (SK14.out.step hb)
          have SK21 := Lib.hid (SK21.out.step hb)
          have SK24 := Lib.hid (SK24.out.step hb)
          clear hb
          refine ⟨_, rfl, BV.out, fun _ => ?_⟩
          simp only [Act.put, List.setIfInBounds_toArray, List.set_cons_zero, List.set_cons_succ]
          refine take_at (i := 26) 95 ?_ rfl rfl (by kernel_rfl) (by kernel_rfl) (by kernel_rfl) (fun _ _ _ h => h) (.inl ⟨rfl, ?_⟩) BV.out ?_
          rotate_left 1
          · intro w hSw; go_simp; try with_reducible rfl
          simp only [Act.put, List.setIfInBounds_toArray, List.set_cons_zero, List.set_cons_succ]
          refine take_at (i := 27) 96 ?_ rfl rfl (by kernel_rfl) (by kernel_rfl) (by kernel_rfl) (fun _ _ _ h => h) (.inl ⟨rfl, ?_⟩) BV.out ?_
          rotate_left 1
          · intro w hSw; go_simp; try with_reducible rfl
          simp only [Act.put, List.setIfInBounds_toArray, List.set_cons_zero, List.set_cons_succ]
          refine wpAnyH_done (by kernel_rfl) ?_ _
          have P5 := Lib.hid (FP.out _ BV.out)
          clear FP FA LA LP SK9 SK14 SK21 SK24 BV
          go_upto_region 21 with (fail)
          obtain ⟨x1, x2, x3, x4, hx⟩ := gv_form mm q1 q2
          have GT := Lib.hid (get_any v7 p b mm P5.out.tab q1 q2 HQ.out.1 HQ.out.2)
          have GR := Lib.hid (fun W hr => rget_any W (.slice ra mm.length rc) mm hr q1 q2)
          rw [hx] at GT GR
          clear hx
          obtain ⟨ok, hok⟩ : ∃ y, (getF mm q1 q2).isSome = y := ⟨_, rfl⟩
          rw [hok] at GT GR
          clear hok
          obtain ⟨c1, c2⟩ := P5.out.st.cells
          go_wp2_with fail
          refine GT.out.mono ?_
          rintro e z1 ⟨rfl, hb⟩
          have P6 := Lib.hid (P5.out.step hb)
          clear hb c1 c2 GT P5
          go_upto_region 22 with (fail)
          have B7 := Lib.hid (vstep z1 (.cells #[.int .i64 x1, .int .i64 x2, .string x3, .bool x4] 34))
          have P7 := Lib.hid (P6.out.step B7.out)
          have E7 := Lib.hid (EnAt.new z1 x1 x2 x3 x4)
          obtain ⟨g1, hg1⟩ : ∃ k, z1.heap.size = k := ⟨_, rfl⟩
          rw [hg1] at E7 ⊢
          generalize (z1.alloc (.cells #[.int .i64 x1, .int .i64 x2, .string x3, .bool x4] 34)) = z2 at *
          clear B7 hg1 P6
          have GR2 := Lib.hid (GR.out z2 P7.out.rows)
          obtain ⟨c1, c2⟩ := P7.out.st.cells
          go_wp2_with fail
          refine GR2.out.mono ?_
          rintro e z3 ⟨rfl, hb⟩
          have P8 := Lib.hid (P7.out.step hb)
          have E8 := Lib.hid (E7.out.step hb)
          clear hb c1 c2 GR GR2 P7 E7
          go_upto_region 23 with (fail)
          have B9 := Lib.hid (vstep z3 (.cells #[.int .i64 x1, .int .i64 x2, .string x3, .bool x4] 29))
          have P9 := Lib.hid (P8.out.step B9.out)
          have E9 := Lib.hid (E8.out.step B9.out)
          have F9 := Lib.hid (show EnB 29 (z3.alloc (.cells #[.int .i64 x1, .int .i64 x2, .string x3, .bool x4] 29)) z3.heap.size x1 x2 x3 x4 from heap_alloc_new z3 _)
          obtain ⟨g2, hg2⟩ : ∃ k, z3.heap.size = k := ⟨_, rfl⟩
          rw [hg2] at F9 ⊢
          generalize (z3.alloc (.cells #[.int .i64 x1, .int .i64 x2, .string x3, .bool x4] 29)) = z4 at *
          clear B9 hg2 P8 E8
          have M1 := Lib.hid (fun W (hb : Below z4.heap.size z4 W) => load34 (E9.out.step hb))
          have M2 := Lib.hid (fun W (hb : Below z4.heap.size z4 W) => load29 W _ _ _ _ _ (F9.out.step hb))
          clear E9 F9
          cases ok
          · refine wp_region_held_drew (S := fun w' => Below z4.heap.size z4 w') (by kernel_rfl) (Below.refl _ _).drew (fun hHeld => ?_)
            have BV := Lib.hid (show Below z4.heap.size z4 z4.drew from (Below.refl _ _).drew)
            clear hHeld
            refine take_at (i := 0) 109 ?_ rfl rfl (by kernel_rfl) (by kernel_rfl) (by kernel_rfl) (fun _ _ _ h => h) (.inl ⟨rfl, ?_⟩) BV.out ?_
            rotate_left 1
            · intro w hSw; go_simp; try with_reducible rfl
            simp only [Act.put, List.setIfInBounds_toArray, List.set_cons_zero, List.set_cons_succ]
            refine take_at (i := 1) 110 ?_ rfl rfl (by kernel_rfl) (by kernel_rfl) (by kernel_rfl) (fun _ _ _ h => h) (.inl ⟨rfl, ?_⟩) BV.out ?_
            rotate_left 1
            · intro w hSw; go_simp; try with_reducible rfl
            simp only [Act.put, List.setIfInBounds_toArray, List.set_cons_zero, List.set_cons_succ]
            refine take_at (i := 2) 111 ?_ rfl rfl (by kernel_rfl) (by kernel_rfl) (by kernel_rfl) (fun _ _ _ h => h) (.inl ⟨rfl, ?_⟩) BV.out ?_
            rotate_left 1
            · intro w hSw; go_simp; try with_reducible rfl
            simp only [Act.put, List.setIfInBounds_toArray, List.set_cons_zero, List.set_cons_succ]
            refine take_at (i := 3) 112 ?_ rfl rfl (by kernel_rfl) (by kernel_rfl) (by kernel_rfl) (fun _ _ _ h => h) (.inl ⟨rfl, ?_⟩) BV.out ?_
            rotate_left 1
            · intro w hSw; go_simp; try with_reducible rfl
            simp only [Act.put, List.setIfInBounds_toArray, List.set_cons_zero, List.set_cons_succ]
            refine take_at (i := 4) 113 (.agg #[.int .i64 x1, .int .i64 x2, .string x3, .bool x4]) rfl rfl (by kernel_rfl) (by kernel_rfl) (by kernel_rfl) (fun _ _ _ h => h) (yields_ld (.tmp 11) 34 (.pointer (some ⟨g1, 0, none⟩)) _ M1.out rfl rfl rfl) BV.out ?_
            simp only [Act.put, List.setIfInBounds_toArray, List.set_cons_zero, List.set_cons_succ]
            refine take_at (i := 5) 114 (.agg #[.int .i64 x1, .int .i64 x2, .string x3, .bool x4]) rfl rfl (by kernel_rfl) (by kernel_rfl) (by kernel_rfl) (fun _ _ _ h => h) (yields_ld (.tmp 13) 29 (.pointer (some ⟨g2, 0, none⟩)) _ M2.out rfl rfl rfl) BV.out ?_
            simp only [Act.put, List.setIfInBounds_toArray, List.set_cons_zero, List.set_cons_succ]
            refine wpAnyH_ready (rs := [6]) (by kernel_rfl) (by simp) (br_call (i := 6) 115 12 #[.agg #[.int .i64 x1, .int .i64 x2, .string x3, .bool x4]] rfl rfl rfl (by go_simp) ((to_any _ x1 x2 x3 x4).mono ?_) AllReadyH.nil)
            rintro e v1 ⟨rfl, hb⟩
            have BV := Lib.hid (BV.out.trans (hb.mono BV.out.size))
            clear hb
            refine ⟨_, rfl, BV.out, fun _ => ?_⟩
            simp only [Act.put, List.setIfInBounds_toArray, List.set_cons_zero, List.set_cons_succ]
            refine take_at (i := 7) 116 ?_ rfl rfl (by kernel_rfl) (by kernel_rfl) (by kernel_rfl) (fun _ _ _ h => h) (.inl ⟨rfl, ?_⟩) BV.out ?_
            rotate_left 1
            · intro w hSw; go_simp; try with_reducible rfl
            simp only [Act.put, List.setIfInBounds_toArray, List.set_cons_zero, List.set_cons_succ]
            refine take_at (i := 8) 117 ?_ rfl rfl (by kernel_rfl) (by kernel_rfl) (by kernel_rfl) (fun _ _ _ h => h) (.inl ⟨rfl, ?_⟩) BV.out ?_
            rotate_left 1
            · intro w hSw; go_simp; try with_reducible rfl
            simp only [Act.put, List.setIfInBounds_toArray, List.set_cons_zero, List.set_cons_succ]
            refine wpAnyH_done (by kernel_rfl) ?_ _
            have PZ := Lib.hid (P9.out.step BV.out)
            clear M1 M2 BV P9
            go_wp2
            go_roundw
            case rel => exact ⟨i + 1, mm, by go_num, by omega, by omega, Lib.hid ⟨PZ.out, LM.out⟩⟩
            case measure => simp [intOf]; omega
          · refine wp_region_held_drew (S := fun w' => Below z4.heap.size z4 w') (by kernel_rfl) (Below.refl _ _).drew (fun hHeld => ?_)
            have BV := Lib.hid (show Below z4.heap.size z4 z4.drew from (Below.refl _ _).drew)
            clear hHeld
            refine take_at (i := 0) 109 ?_ rfl rfl (by kernel_rfl) (by kernel_rfl) (by kernel_rfl) (fun _ _ _ h => h) (.inl ⟨rfl, ?_⟩) BV.out ?_
            rotate_left 1
            · intro w hSw; go_simp; try with_reducible rfl
            simp only [Act.put, List.setIfInBounds_toArray, List.set_cons_zero, List.set_cons_succ]
            refine take_at (i := 1) 110 ?_ rfl rfl (by kernel_rfl) (by kernel_rfl) (by kernel_rfl) (fun _ _ _ h => h) (.inl ⟨rfl, ?_⟩) BV.out ?_
            rotate_left 1
            · intro w hSw; go_simp; try with_reducible rfl
            simp only [Act.put, List.setIfInBounds_toArray, List.set_cons_zero, List.set_cons_succ]
            refine take_at (i := 2) 111 ?_ rfl rfl (by kernel_rfl) (by kernel_rfl) (by kernel_rfl) (fun _ _ _ h => h) (.inl ⟨rfl, ?_⟩) BV.out ?_
            rotate_left 1
            · intro w hSw; go_simp; try with_reducible rfl
            simp only [Act.put, List.setIfInBounds_toArray, List.set_cons_zero, List.set_cons_succ]
            refine take_at (i := 3) 112 ?_ rfl rfl (by kernel_rfl) (by kernel_rfl) (by kernel_rfl) (fun _ _ _ h => h) (.inl ⟨rfl, ?_⟩) BV.out ?_
            rotate_left 1
            · intro w hSw; go_simp; try with_reducible rfl
            simp only [Act.put, List.setIfInBounds_toArray, List.set_cons_zero, List.set_cons_succ]
            refine take_at (i := 4) 113 (.agg #[.int .i64 x1, .int .i64 x2, .string x3, .bool x4]) rfl rfl (by kernel_rfl) (by kernel_rfl) (by kernel_rfl) (fun _ _ _ h => h) (yields_ld (.tmp 11) 34 (.pointer (some ⟨g1, 0, none⟩)) _ M1.out rfl rfl rfl) BV.out ?_
            simp only [Act.put, List.setIfInBounds_toArray, List.set_cons_zero, List.set_cons_succ]
            refine take_at (i := 5) 114 (.agg #[.int .i64 x1, .int .i64 x2, .string x3, .bool x4]) rfl rfl (by kernel_rfl) (by kernel_rfl) (by kernel_rfl) (fun _ _ _ h => h) (yields_ld (.tmp 13) 29 (.pointer (some ⟨g2, 0, none⟩)) _ M2.out rfl rfl rfl) BV.out ?_
            simp only [Act.put, List.setIfInBounds_toArray, List.set_cons_zero, List.set_cons_succ]
            refine wpAnyH_ready (rs := [6]) (by kernel_rfl) (by simp) (br_call (i := 6) 115 12 #[.agg #[.int .i64 x1, .int .i64 x2, .string x3, .bool x4]] rfl rfl rfl (by go_simp) ((to_any _ x1 x2 x3 x4).mono ?_) AllReadyH.nil)
            rintro e v2 ⟨rfl, hb⟩
            have BV := Lib.hid (BV.out.trans (hb.mono BV.out.size))
            clear hb
            refine ⟨_, rfl, BV.out, fun _ => ?_⟩
            simp only [Act.put, List.setIfInBounds_toArray, List.set_cons_zero, List.set_cons_succ]
            refine take_at (i := 7) 116 ?_ rfl rfl (by kernel_rfl) (by kernel_rfl) (by kernel_rfl) (fun _ _ _ h => h) (.inl ⟨rfl, ?_⟩) BV.out ?_
            rotate_left 1
            · intro w hSw; go_simp; try with_reducible rfl
            simp only [Act.put, List.setIfInBounds_toArray, List.set_cons_zero, List.set_cons_succ]
            refine take_at (i := 8) 117 ?_ rfl rfl (by kernel_rfl) (by kernel_rfl) (by kernel_rfl) (fun _ _ _ h => h) (.inl ⟨rfl, ?_⟩) BV.out ?_
            rotate_left 1
            · intro w hSw; go_simp; try with_reducible rfl
            simp only [Act.put, List.setIfInBounds_toArray, List.set_cons_zero, List.set_cons_succ]
            refine wpAnyH_done (by kernel_rfl) ?_ _
            have PZ := Lib.hid (P9.out.step BV.out)
            clear M1 M2 BV P9
            go_wp2
            go_roundw
            case rel => exact ⟨i + 1, mm, by go_num, by omega, by omega, Lib.hid ⟨PZ.out, LM.out⟩⟩
            case measure => simp [intOf]; omega
        · go_upto_region 11 with (fail)
          have L1 := fun W (h : AcAt W k2 1 t r pt pr nm d) => loadA1 h
          have L3 := fun W (h : AcAt W k2 1 t r pt pr nm d) => loadA3 h
          have PP := Lib.hid (P3.out.step (show Below w2.heap.size w2 w2.drew from (Below.refl _ _).drew))
          clear e0 e1 e2 e3 e4 e5 e6
          refine wp_region_held_drew (S := fun W => AcAt W k2 1 t r pt pr nm d) (by kernel_rfl) (A3.out.step (show Below w2.heap.size w2 w2.drew from (Below.refl _ _).drew)) (fun hHeld => ?_)
          have BV := Lib.hid (A3.out.step (show Below w2.heap.size w2 w2.drew from (Below.refl _ _).drew))
          clear hHeld
          refine take_at (i := 0) 36 ?_ rfl rfl (by kernel_rfl) (by kernel_rfl) (by kernel_rfl) (fun _ _ _ h => h) (.inl ⟨rfl, ?_⟩) BV.out ?_
          rotate_left 1
          · intro w hSw; go_simp; try with_reducible rfl
          simp only [Act.put, List.setIfInBounds_toArray, List.set_cons_zero, List.set_cons_succ]
          refine take_at (i := 1) 37 ?_ rfl rfl (by kernel_rfl) (by kernel_rfl) (by kernel_rfl) (fun _ _ _ h => h) (.inl ⟨rfl, ?_⟩) BV.out ?_
          rotate_left 1
          · intro w hSw; go_simp; try with_reducible rfl
          simp only [Act.put, List.setIfInBounds_toArray, List.set_cons_zero, List.set_cons_succ]
          refine take_at (i := 2) 38 (.agg #[.int .i64 t, .int .i64 r]) rfl rfl (by kernel_rfl) (by kernel_rfl) (by kernel_rfl) (fun _ _ _ h => h) (yields_ld (.tmp 37) 24 (.pointer (some ⟨k2, 1, none⟩)) _ L1 rfl rfl rfl) BV.out ?_
          simp only [Act.put, List.setIfInBounds_toArray, List.set_cons_zero, List.set_cons_succ]
          refine take_at (i := 3) 39 ?_ rfl rfl (by kernel_rfl) (by kernel_rfl) (by kernel_rfl) (fun _ _ _ h => h) (.inl ⟨rfl, ?_⟩) BV.out ?_
          rotate_left 1
          · intro w hSw; go_simp; try with_reducible rfl
          simp only [Act.put, List.setIfInBounds_toArray, List.set_cons_zero, List.set_cons_succ]
          refine take_at (i := 4) 40 (.agg #[.int .i64 pt, .int .i64 pr, .string nm, .bool d]) rfl rfl (by kernel_rfl) (by kernel_rfl) (by kernel_rfl) (fun _ _ _ h => h) (yields_ld (.tmp 39) 29 (.pointer (some ⟨k2, 3, none⟩)) _ L3 rfl rfl rfl) BV.out ?_
          simp only [Act.put, List.setIfInBounds_toArray, List.set_cons_zero, List.set_cons_succ]
          refine wpAnyH_ready (rs := [5]) (by kernel_rfl) (by simp) (br_call (i := 5) 41 12 #[.agg #[.int .i64 pt, .int .i64 pr, .string nm, .bool d]] rfl rfl rfl (by go_simp) ((to_any _ pt pr nm d).mono ?_) AllReadyH.nil)
          rintro e v1 ⟨rfl, hb⟩
          have BV := Lib.hid (BV.out.step hb)
          have PP := Lib.hid (PP.out.step hb)
          clear hb
          refine ⟨_, rfl, BV.out, fun _ => ?_⟩
          simp only [Act.put, List.setIfInBounds_toArray, List.set_cons_zero, List.set_cons_succ]
          refine wpAnyH_ready (rs := [6]) (by kernel_rfl) (by simp) (br_call (i := 6) 42 11 #[.pointer (some ⟨p, 0, none⟩), .agg #[.int .i64 t, .int .i64 r], .agg #[.int .i64 pt, .int .i64 pr, .string nm, .bool d]] rfl rfl rfl (by go_simp) ((set_any _ p b m PP.out.tab (by have := LM.out; omega) ⟨t, r, pt, pr, nm, d⟩ XO.out).mono ?_) AllReadyH.nil)
          rintro e v2 ⟨rfl, ho⟩
          have BV := Lib.hid (BV.out.turn ho BK.out)
          have PP := Lib.hid (PP.out.turn ho)
          clear ho
          refine ⟨_, rfl, BV.out, fun _ => ?_⟩
          simp only [Act.put, List.setIfInBounds_toArray, List.set_cons_zero, List.set_cons_succ]
          refine take_at (i := 7) 43 ?_ rfl rfl (by kernel_rfl) (by kernel_rfl) (by kernel_rfl) (fun _ _ _ h => h) (.inl ⟨rfl, ?_⟩) BV.out ?_
          rotate_left 1
          · intro w hSw; go_simp; try with_reducible rfl
          simp only [Act.put, List.setIfInBounds_toArray, List.set_cons_zero, List.set_cons_succ]
          refine wpAnyH_done (by kernel_rfl) ?_ _
          have RS := Lib.hid (rset_any v2 _ m ⟨t, r, pt, pr, nm, d⟩ PP.out.rows (by have := LM.out; omega) P3.out.tab.map.rise)
          have AA := Lib.hid BV.out
          obtain ⟨e0, e1, e2, e3, e4, e5, e6⟩ := AA.out.cells
          clear BV L1 L3
          go_wp2_with fail
          refine RS.out.mono ?_
          rintro e wt ⟨rr, rfl, ho, hb⟩
          have LM := Lib.hid (show (setF m ⟨t, r, pt, pr, nm, d⟩).length ≤ i + 1 from by have := setF_len m ⟨t, r, pt, pr, nm, d⟩; have := LM.out; omega)
          have AA := Lib.hid (AA.out.step hb)
          have PP := Lib.hid (PP.out.put hb (own_liesK enc6_len ho))
          clear ho hb e0 e1 e2 e3 e4 e5 e6 RS P3
          generalize setF m ⟨t, r, pt, pr, nm, d⟩ = mm at *
          obtain ⟨ra, rc, rfl⟩ := PP.out.rows.shape
          go_upto_region 19 with (fail)
          have FA := Lib.hid (fun W (hb : Below wt.heap.size wt W) => AA.out.step hb)
          have FP := Lib.hid (fun W (hb : Below wt.heap.size wt W) => PP.out.step hb)
          have LA := Lib.hid (fun W (hb : Below wt.heap.size wt W) => load24 W _ _ _ (PP.out.st.step hb))
          have LP := Lib.hid (fun W (hb : Below wt.heap.size wt W) => loadAP (AA.out.step hb))
          clear AA PP
          refine wp_region_held_drew (S := fun w' => Below wt.heap.size wt w') (by kernel_rfl) (Below.refl _ _).drew (fun hHeld => ?_)
          have BV := Lib.hid (show Below wt.heap.size wt wt.drew from (Below.refl _ _).drew)
          clear hHeld
          refine take_at (i := 0) 69 ?_ rfl rfl (by kernel_rfl) (by kernel_rfl) (by kernel_rfl) (fun _ _ _ h => h) (.inl ⟨rfl, ?_⟩) BV.out ?_
          rotate_left 1
          · intro w hSw; go_simp; try with_reducible rfl
          simp only [Act.put, List.setIfInBounds_toArray, List.set_cons_zero, List.set_cons_succ]
          refine take_at (i := 1) 70 ?_ rfl rfl (by kernel_rfl) (by kernel_rfl) (by kernel_rfl) (fun _ _ _ h => h) (.inl ⟨rfl, ?_⟩) BV.out ?_
          rotate_left 1
          · intro w hSw; go_simp; try with_reducible rfl
          simp only [Act.put, List.setIfInBounds_toArray, List.set_cons_zero, List.set_cons_succ]
          refine wpAnyH_ready (rs := [2]) (by kernel_rfl) (by simp) (br_call (i := 2) 71 17 #[.pointer (some ⟨p, 0, none⟩), .slice ra mm.length rc] rfl rfl rfl (by go_simp) ((is_same _ p b _ mm (FP.out _ BV.out).tab (FP.out _ BV.out).rows).mono ?_) AllReadyH.nil)
          rintro e v1 ⟨rfl, hb⟩
          have BV := Lib.hid (BV.out.trans (hb.mono BV.out.size))
          clear hb
          refine ⟨_, rfl, BV.out, fun _ => ?_⟩
          simp only [Act.put, List.setIfInBounds_toArray, List.set_cons_zero, List.set_cons_succ]
          refine take_at (i := 3) 72 ?_ rfl rfl (by kernel_rfl) (by kernel_rfl) (by kernel_rfl) (fun _ _ _ h => h) (.inl ⟨rfl, ?_⟩) BV.out ?_
          rotate_left 1
          · intro w hSw; go_simp; try with_reducible rfl
          simp only [Act.put, List.setIfInBounds_toArray, List.set_cons_zero, List.set_cons_succ]
          refine take_at (i := 4) 73 ?_ rfl rfl (by kernel_rfl) (by kernel_rfl) (by kernel_rfl) (fun _ _ _ h => h) (.inl ⟨rfl, ?_⟩) BV.out ?_
          rotate_left 1
          · intro w hSw; go_simp; try with_reducible rfl
          simp only [Act.put, List.setIfInBounds_toArray, List.set_cons_zero, List.set_cons_succ]
          refine take_at (i := 5) 74 ?_ rfl rfl (by kernel_rfl) (by kernel_rfl) (by kernel_rfl) (fun _ _ _ h => h) (.inl ⟨rfl, ?_⟩) BV.out ?_
          rotate_left 1
          · intro w hSw; go_simp; try with_reducible rfl
          simp only [Act.put, List.setIfInBounds_toArray, List.set_cons_zero, List.set_cons_succ]
          refine take_at (i := 6) 75 ?_ rfl rfl (by kernel_rfl) (by kernel_rfl) (by kernel_rfl) (fun _ _ _ h => h) (.inl ⟨rfl, ?_⟩) BV.out ?_
          rotate_left 1
          · intro w hSw; go_simp; try with_reducible rfl
          simp only [Act.put, List.setIfInBounds_toArray, List.set_cons_zero, List.set_cons_succ]
          refine take_at (i := 7) 76 ?_ rfl rfl (by kernel_rfl) (by kernel_rfl) (by kernel_rfl) (fun _ _ _ h => h) (.inl ⟨rfl, ?_⟩) BV.out ?_
          rotate_left 1
          · intro w hSw; go_simp; try with_reducible rfl
          simp only [Act.put, List.setIfInBounds_toArray, List.set_cons_zero, List.set_cons_succ]
          refine take_at (i := 8) 77 (.agg #[.int .i64 pt, .int .i64 pr]) rfl rfl (by kernel_rfl) (by kernel_rfl) (by kernel_rfl) (fun _ _ _ h => h) (yields_ld (.tmp 76) 24 (.pointer (some ⟨k2, 3, none⟩)) _ LP.out rfl rfl rfl) BV.out ?_
          simp only [Act.put, List.setIfInBounds_toArray, List.set_cons_zero, List.set_cons_succ]
          refine take_at (i := 10) 79 ?_ rfl rfl (by kernel_rfl) (by kernel_rfl) (by kernel_rfl) (fun _ _ _ h => h) (.inl ⟨rfl, ?_⟩) BV.out ?_
          rotate_left 1
          · intro w hSw; go_simp; try with_reducible rfl
          simp only [Act.put, List.setIfInBounds_toArray, List.set_cons_zero, List.set_cons_succ]
          refine take_at (i := 11) 80 ?_ rfl rfl (by kernel_rfl) (by kernel_rfl) (by kernel_rfl) (fun _ _ _ h => h) (.inl ⟨rfl, ?_⟩) BV.out ?_
          rotate_left 1
          · intro w hSw; go_simp; try with_reducible rfl
          simp only [Act.put, List.setIfInBounds_toArray, List.set_cons_zero, List.set_cons_succ]
          refine take_at (i := 12) 81 ?_ rfl rfl (by kernel_rfl) (by kernel_rfl) (by kernel_rfl) (fun _ _ _ h => h) (.inl ⟨rfl, ?_⟩) BV.out ?_
          rotate_left 1
          · intro w hSw; go_simp; try with_reducible rfl
          simp only [Act.put, List.setIfInBounds_toArray, List.set_cons_zero, List.set_cons_succ]
          refine take_at (i := 13) 82 (.agg #[.int .i64 pt, .int .i64 pr]) rfl rfl (by kernel_rfl) (by kernel_rfl) (by kernel_rfl) (fun _ _ _ h => h) (yields_ld (.tmp 81) 24 (.pointer (some ⟨k2, 3, none⟩)) _ LP.out rfl rfl rfl) BV.out ?_
          simp only [Act.put, List.setIfInBounds_toArray, List.set_cons_zero, List.set_cons_succ]
          refine wpAnyH_ready (rs := [9]) (by kernel_rfl) (by simp) (br_call (i := 9) 78 19 #[.pointer (some ⟨p, 0, none⟩), .agg #[.int .i64 pt, .int .i64 pr]] rfl rfl rfl (by go_simp) ((kids_any _ p b mm (FP.out _ BV.out).tab (by have := LM.out; omega) pt pr).mono ?_) AllReadyH.nil)
          rintro e v2 ⟨u9, rfl, ho, hb⟩
          have BV := Lib.hid (BV.out.trans (hb.mono BV.out.size))
          have SK9 := Lib.hid (own_liesK encS_len ho)
          clear ho
          clear hb
          refine ⟨_, rfl, BV.out, fun _ => ?_⟩
          simp only [Act.put, List.setIfInBounds_toArray, List.set_cons_zero, List.set_cons_succ]
          refine wpAnyH_ready (rs := [14]) (by kernel_rfl) (by simp) (br_call (i := 14) 83 20 #[.slice ra mm.length rc, .agg #[.int .i64 pt, .int .i64 pr]] rfl rfl rfl (by go_simp) ((rkids_any _ _ mm (FP.out _ BV.out).rows (by have := LM.out; omega) pt pr).mono ?_) AllReadyH.nil)
          rintro e v3 ⟨u14, rfl, ho, hb⟩
          have BV := Lib.hid (BV.out.trans (hb.mono BV.out.size))
          have SK9 := Lib.hid (SK9.out.step hb)
          have SK14 := Lib.hid (own_liesK encS_len ho)
          clear ho
          clear hb
          refine ⟨_, rfl, BV.out, fun _ => ?_⟩
          simp only [Act.put, List.setIfInBounds_toArray, List.set_cons_zero, List.set_cons_succ]
          refine wpAnyH_ready (rs := [15]) (by kernel_rfl) (by simp) (br_call (i := 15) 84 18 #[u9, u14] rfl rfl rfl (by go_simp) ((same_self _ _ _ _ SK9.out SK14.out).mono ?_) AllReadyH.nil)
          rintro e v4 ⟨rfl, hb⟩
          have BV := Lib.hid (BV.out.trans (hb.mono BV.out.size))
          have SK9 := Lib.hid (SK9.out.step hb)
          have SK14 := Lib.hid (SK14.out.step hb)
          clear hb
          refine ⟨_, rfl, BV.out, fun _ => ?_⟩
          simp only [Act.put, List.setIfInBounds_toArray, List.set_cons_zero, List.set_cons_succ]
          refine take_at (i := 16) 85 ?_ rfl rfl (by kernel_rfl) (by kernel_rfl) (by kernel_rfl) (fun _ _ _ h => h) (.inl ⟨rfl, ?_⟩) BV.out ?_
          rotate_left 1
          · intro w hSw; go_simp; try with_reducible rfl
          simp only [Act.put, List.setIfInBounds_toArray, List.set_cons_zero, List.set_cons_succ]
          refine take_at (i := 17) 86 ?_ rfl rfl (by kernel_rfl) (by kernel_rfl) (by kernel_rfl) (fun _ _ _ h => h) (.inl ⟨rfl, ?_⟩) BV.out ?_
          rotate_left 1
          · intro w hSw; go_simp; try with_reducible rfl
          simp only [Act.put, List.setIfInBounds_toArray, List.set_cons_zero, List.set_cons_succ]
          refine take_at (i := 18) 87 ?_ rfl rfl (by kernel_rfl) (by kernel_rfl) (by kernel_rfl) (fun _ _ _ h => h) (.inl ⟨rfl, ?_⟩) BV.out ?_
          rotate_left 1
          · intro w hSw; go_simp; try with_reducible rfl
          simp only [Act.put, List.setIfInBounds_toArray, List.set_cons_zero, List.set_cons_succ]
          refine take_at (i := 19) 88 ?_ rfl rfl (by kernel_rfl) (by kernel_rfl) (by kernel_rfl) (fun _ _ _ h => h) (.inl ⟨rfl, ?_⟩) BV.out ?_
          rotate_left 1
          · intro w hSw; go_simp; try with_reducible rfl
          simp only [Act.put, List.setIfInBounds_toArray, List.set_cons_zero, List.set_cons_succ]
          refine take_at (i := 20) 89 (.agg #[.int .i64 q1, .int .i64 q2]) rfl rfl (by kernel_rfl) (by kernel_rfl) (by kernel_rfl) (fun _ _ _ h => h) (yields_ld (.tmp 3) 24 (.pointer (some ⟨w.heap.size, 0, none⟩)) _ LA.out rfl rfl rfl) BV.out ?_
          simp only [Act.put, List.setIfInBounds_toArray, List.set_cons_zero, List.set_cons_succ]
          refine take_at (i := 22) 91 ?_ rfl rfl (by kernel_rfl) (by kernel_rfl) (by kernel_rfl) (fun _ _ _ h => h) (.inl ⟨rfl, ?_⟩) BV.out ?_
          rotate_left 1
          · intro w hSw; go_simp; try with_reducible rfl
          simp only [Act.put, List.setIfInBounds_toArray, List.set_cons_zero, List.set_cons_succ]
          refine take_at (i := 23) 92 (.agg #[.int .i64 q1, .int .i64 q2]) rfl rfl (by kernel_rfl) (by kernel_rfl) (by kernel_rfl) (fun _ _ _ h => h) (yields_ld (.tmp 3) 24 (.pointer (some ⟨w.heap.size, 0, none⟩)) _ LA.out rfl rfl rfl) BV.out ?_
          simp only [Act.put, List.setIfInBounds_toArray, List.set_cons_zero, List.set_cons_succ]
          refine wpAnyH_ready (rs := [21]) (by kernel_rfl) (by simp) (br_call (i := 21) 90 19 #[.pointer (some ⟨p, 0, none⟩), .agg #[.int .i64 q1, .int .i64 q2]] rfl rfl rfl (by go_simp) ((kids_any _ p b mm (FP.out _ BV.out).tab (by have := LM.out; omega) q1 q2).mono ?_) AllReadyH.nil)
          rintro e v5 ⟨u21, rfl, ho, hb⟩
          have BV := Lib.hid (BV.out.trans (hb.mono BV.out.size))
          have SK9 := Lib.hid (SK9.out.step hb)
          have SK14 := Lib.hid (SK14.out.step hb)
          have SK21 := Lib.hid (own_liesK encS_len ho)
          clear ho
          clear hb
          refine ⟨_, rfl, BV.out, fun _ => ?_⟩
          simp only [Act.put, List.setIfInBounds_toArray, List.set_cons_zero, List.set_cons_succ]
          refine wpAnyH_ready (rs := [24]) (by kernel_rfl) (by simp) (br_call (i := 24) 93 20 #[.slice ra mm.length rc, .agg #[.int .i64 q1, .int .i64 q2]] rfl rfl rfl (by go_simp) ((rkids_any _ _ mm (FP.out _ BV.out).rows (by have := LM.out; omega) q1 q2).mono ?_) AllReadyH.nil)
          rintro e v6 ⟨u24, rfl, ho, hb⟩
          have BV := Lib.hid (BV.out.trans (hb.mono BV.out.size))
          have SK9 := Lib.hid (SK9.out.step hb)
          have SK14 := Lib.hid (SK14.out.step hb)
          have SK21 := Lib.hid (SK21.out.step hb)
          have SK24 := Lib.hid (own_liesK encS_len ho)
          clear ho
          clear hb
          refine ⟨_, rfl, BV.out, fun _ => ?_⟩
          simp only [Act.put, List.setIfInBounds_toArray, List.set_cons_zero, List.set_cons_succ]
          refine wpAnyH_ready (rs := [25]) (by kernel_rfl) (by simp) (br_call (i := 25) 94 18 #[u21, u24] rfl rfl rfl (by go_simp) ((same_self _ _ _ _ SK21.out SK24.out).mono ?_) AllReadyH.nil)
          rintro e v7 ⟨rfl, hb⟩
          have BV := Lib.hid (BV.out.trans (hb.mono BV.out.size))
          have SK9 := Lib.hid (SK9.out.step hb)
          have SK14 := Lib.hid (SK14.out.step hb)
          have SK21 := Lib.hid (SK21.out.step hb)
          have SK24 := Lib.hid (SK24.out.step hb)
          clear hb
          refine ⟨_, rfl, BV.out, fun _ => ?_⟩
          simp only [Act.put, List.setIfInBounds_toArray, List.set_cons_zero, List.set_cons_succ]
          refine take_at (i := 26) 95 ?_ rfl rfl (by kernel_rfl) (by kernel_rfl) (by kernel_rfl) (fun _ _ _ h => h) (.inl ⟨rfl, ?_⟩) BV.out ?_
          rotate_left 1
          · intro w hSw; go_simp; try with_reducible rfl
          simp only [Act.put, List.setIfInBounds_toArray, List.set_cons_zero, List.set_cons_succ]
          refine take_at (i := 27) 96 ?_ rfl rfl (by kernel_rfl) (by kernel_rfl) (by kernel_rfl) (fun _ _ _ h => h) (.inl ⟨rfl, ?_⟩) BV.out ?_
          rotate_left 1
          · intro w hSw; go_simp; try with_reducible rfl
          simp only [Act.put, List.setIfInBounds_toArray, List.set_cons_zero, List.set_cons_succ]
          refine wpAnyH_done (by kernel_rfl) ?_ _
          have P5 := Lib.hid (FP.out _ BV.out)
          clear FP FA LA LP SK9 SK14 SK21 SK24 BV
          go_upto_region 21 with (fail)
          obtain ⟨x1, x2, x3, x4, hx⟩ := gv_form mm q1 q2
          have GT := Lib.hid (get_any v7 p b mm P5.out.tab q1 q2 HQ.out.1 HQ.out.2)
          have GR := Lib.hid (fun W hr => rget_any W (.slice ra mm.length rc) mm hr q1 q2)
          rw [hx] at GT GR
          clear hx
          obtain ⟨ok, hok⟩ : ∃ y, (getF mm q1 q2).isSome = y := ⟨_, rfl⟩
          rw [hok] at GT GR
          clear hok
          obtain ⟨c1, c2⟩ := P5.out.st.cells
          go_wp2_with fail
          refine GT.out.mono ?_
          rintro e z1 ⟨rfl, hb⟩
          have P6 := Lib.hid (P5.out.step hb)
          clear hb c1 c2 GT P5
          go_upto_region 22 with (fail)
          have B7 := Lib.hid (vstep z1 (.cells #[.int .i64 x1, .int .i64 x2, .string x3, .bool x4] 34))
          have P7 := Lib.hid (P6.out.step B7.out)
          have E7 := Lib.hid (EnAt.new z1 x1 x2 x3 x4)
          obtain ⟨g1, hg1⟩ : ∃ k, z1.heap.size = k := ⟨_, rfl⟩
          rw [hg1] at E7 ⊢
          generalize (z1.alloc (.cells #[.int .i64 x1, .int .i64 x2, .string x3, .bool x4] 34)) = z2 at *
          clear B7 hg1 P6
          have GR2 := Lib.hid (GR.out z2 P7.out.rows)
          obtain ⟨c1, c2⟩ := P7.out.st.cells
          go_wp2_with fail
          refine GR2.out.mono ?_
          rintro e z3 ⟨rfl, hb⟩
          have P8 := Lib.hid (P7.out.step hb)
          have E8 := Lib.hid (E7.out.step hb)
          clear hb c1 c2 GR GR2 P7 E7
          go_upto_region 23 with (fail)
          have B9 := Lib.hid (vstep z3 (.cells #[.int .i64 x1, .int .i64 x2, .string x3, .bool x4] 29))
          have P9 := Lib.hid (P8.out.step B9.out)
          have E9 := Lib.hid (E8.out.step B9.out)
          have F9 := Lib.hid (show EnB 29 (z3.alloc (.cells #[.int .i64 x1, .int .i64 x2, .string x3, .bool x4] 29)) z3.heap.size x1 x2 x3 x4 from heap_alloc_new z3 _)
          obtain ⟨g2, hg2⟩ : ∃ k, z3.heap.size = k := ⟨_, rfl⟩
          rw [hg2] at F9 ⊢
          generalize (z3.alloc (.cells #[.int .i64 x1, .int .i64 x2, .string x3, .bool x4] 29)) = z4 at *
          clear B9 hg2 P8 E8
          have M1 := Lib.hid (fun W (hb : Below z4.heap.size z4 W) => load34 (E9.out.step hb))
          have M2 := Lib.hid (fun W (hb : Below z4.heap.size z4 W) => load29 W _ _ _ _ _ (F9.out.step hb))
          clear E9 F9
          cases ok
          · refine wp_region_held_drew (S := fun w' => Below z4.heap.size z4 w') (by kernel_rfl) (Below.refl _ _).drew (fun hHeld => ?_)
            have BV := Lib.hid (show Below z4.heap.size z4 z4.drew from (Below.refl _ _).drew)
            clear hHeld
            refine take_at (i := 0) 109 ?_ rfl rfl (by kernel_rfl) (by kernel_rfl) (by kernel_rfl) (fun _ _ _ h => h) (.inl ⟨rfl, ?_⟩) BV.out ?_
            rotate_left 1
            · intro w hSw; go_simp; try with_reducible rfl
            simp only [Act.put, List.setIfInBounds_toArray, List.set_cons_zero, List.set_cons_succ]
            refine take_at (i := 1) 110 ?_ rfl rfl (by kernel_rfl) (by kernel_rfl) (by kernel_rfl) (fun _ _ _ h => h) (.inl ⟨rfl, ?_⟩) BV.out ?_
            rotate_left 1
            · intro w hSw; go_simp; try with_reducible rfl
            simp only [Act.put, List.setIfInBounds_toArray, List.set_cons_zero, List.set_cons_succ]
            refine take_at (i := 2) 111 ?_ rfl rfl (by kernel_rfl) (by kernel_rfl) (by kernel_rfl) (fun _ _ _ h => h) (.inl ⟨rfl, ?_⟩) BV.out ?_
            rotate_left 1
            · intro w hSw; go_simp; try with_reducible rfl
            simp only [Act.put, List.setIfInBounds_toArray, List.set_cons_zero, List.set_cons_succ]
            refine take_at (i := 3) 112 ?_ rfl rfl (by kernel_rfl) (by kernel_rfl) (by kernel_rfl) (fun _ _ _ h => h) (.inl ⟨rfl, ?_⟩) BV.out ?_
            rotate_left 1
            · intro w hSw; go_simp; try with_reducible rfl
            simp only [Act.put, List.setIfInBounds_toArray, List.set_cons_zero, List.set_cons_succ]
            refine take_at (i := 4) 113 (.agg #[.int .i64 x1, .int .i64 x2, .string x3, .bool x4]) rfl rfl (by kernel_rfl) (by kernel_rfl) (by kernel_rfl) (fun _ _ _ h => h) (yields_ld (.tmp 11) 34 (.pointer (some ⟨g1, 0, none⟩)) _ M1.out rfl rfl rfl) BV.out ?_
            simp only [Act.put, List.setIfInBounds_toArray, List.set_cons_zero, List.set_cons_succ]
            refine take_at (i := 5) 114 (.agg #[.int .i64 x1, .int .i64 x2, .string x3, .bool x4]) rfl rfl (by kernel_rfl) (by kernel_rfl) (by kernel_rfl) (fun _ _ _ h => h) (yields_ld (.tmp 13) 29 (.pointer (some ⟨g2, 0, none⟩)) _ M2.out rfl rfl rfl) BV.out ?_
            simp only [Act.put, List.setIfInBounds_toArray, List.set_cons_zero, List.set_cons_succ]
            refine wpAnyH_ready (rs := [6]) (by kernel_rfl) (by simp) (br_call (i := 6) 115 12 #[.agg #[.int .i64 x1, .int .i64 x2, .string x3, .bool x4]] rfl rfl rfl (by go_simp) ((to_any _ x1 x2 x3 x4).mono ?_) AllReadyH.nil)
            rintro e v1 ⟨rfl, hb⟩
            have BV := Lib.hid (BV.out.trans (hb.mono BV.out.size))
            clear hb
            refine ⟨_, rfl, BV.out, fun _ => ?_⟩
            simp only [Act.put, List.setIfInBounds_toArray, List.set_cons_zero, List.set_cons_succ]
            refine take_at (i := 7) 116 ?_ rfl rfl (by kernel_rfl) (by kernel_rfl) (by kernel_rfl) (fun _ _ _ h => h) (.inl ⟨rfl, ?_⟩) BV.out ?_
            rotate_left 1
            · intro w hSw; go_simp; try with_reducible rfl
            simp only [Act.put, List.setIfInBounds_toArray, List.set_cons_zero, List.set_cons_succ]
            refine take_at (i := 8) 117 ?_ rfl rfl (by kernel_rfl) (by kernel_rfl) (by kernel_rfl) (fun _ _ _ h => h) (.inl ⟨rfl, ?_⟩) BV.out ?_
            rotate_left 1
            · intro w hSw; go_simp; try with_reducible rfl
            simp only [Act.put, List.setIfInBounds_toArray, List.set_cons_zero, List.set_cons_succ]
            refine wpAnyH_done (by kernel_rfl) ?_ _
            have PZ := Lib.hid (P9.out.step BV.out)
            clear M1 M2 BV P9
            go_wp2
            go_roundw
            case rel => exact ⟨i + 1, mm, by go_num, by omega, by omega, Lib.hid ⟨PZ.out, LM.out⟩⟩
            case measure => simp [intOf]; omega
          · refine wp_region_held_drew (S := fun w' => Below z4.heap.size z4 w') (by kernel_rfl) (Below.refl _ _).drew (fun hHeld => ?_)
            have BV := Lib.hid (show Below z4.heap.size z4 z4.drew from (Below.refl _ _).drew)
            clear hHeld
            refine take_at (i := 0) 109 ?_ rfl rfl (by kernel_rfl) (by kernel_rfl) (by kernel_rfl) (fun _ _ _ h => h) (.inl ⟨rfl, ?_⟩) BV.out ?_
            rotate_left 1
            · intro w hSw; go_simp; try with_reducible rfl
            simp only [Act.put, List.setIfInBounds_toArray, List.set_cons_zero, List.set_cons_succ]
            refine take_at (i := 1) 110 ?_ rfl rfl (by kernel_rfl) (by kernel_rfl) (by kernel_rfl) (fun _ _ _ h => h) (.inl ⟨rfl, ?_⟩) BV.out ?_
            rotate_left 1
            · intro w hSw; go_simp; try with_reducible rfl
            simp only [Act.put, List.setIfInBounds_toArray, List.set_cons_zero, List.set_cons_succ]
            refine take_at (i := 2) 111 ?_ rfl rfl (by kernel_rfl) (by kernel_rfl) (by kernel_rfl) (fun _ _ _ h => h) (.inl ⟨rfl, ?_⟩) BV.out ?_
            rotate_left 1
            · intro w hSw; go_simp; try with_reducible rfl
            simp only [Act.put, List.setIfInBounds_toArray, List.set_cons_zero, List.set_cons_succ]
            refine take_at (i := 3) 112 ?_ rfl rfl (by kernel_rfl) (by kernel_rfl) (by kernel_rfl) (fun _ _ _ h => h) (.inl ⟨rfl, ?_⟩) BV.out ?_
            rotate_left 1
            · intro w hSw; go_simp; try with_reducible rfl
            simp only [Act.put, List.setIfInBounds_toArray, List.set_cons_zero, List.set_cons_succ]
            refine take_at (i := 4) 113 (.agg #[.int .i64 x1, .int .i64 x2, .string x3, .bool x4]) rfl rfl (by kernel_rfl) (by kernel_rfl) (by kernel_rfl) (fun _ _ _ h => h) (yields_ld (.tmp 11) 34 (.pointer (some ⟨g1, 0, none⟩)) _ M1.out rfl rfl rfl) BV.out ?_
            simp only [Act.put, List.setIfInBounds_toArray, List.set_cons_zero, List.set_cons_succ]
            refine take_at (i := 5) 114 (.agg #[.int .i64 x1, .int .i64 x2, .string x3, .bool x4]) rfl rfl (by kernel_rfl) (by kernel_rfl) (by kernel_rfl) (fun _ _ _ h => h) (yields_ld (.tmp 13) 29 (.pointer (some ⟨g2, 0, none⟩)) _ M2.out rfl rfl rfl) BV.out ?_
            simp only [Act.put, List.setIfInBounds_toArray, List.set_cons_zero, List.set_cons_succ]
            refine wpAnyH_ready (rs := [6]) (by kernel_rfl) (by simp) (br_call (i := 6) 115 12 #[.agg #[.int .i64 x1, .int .i64 x2, .string x3, .bool x4]] rfl rfl rfl (by go_simp) ((to_any _ x1 x2 x3 x4).mono ?_) AllReadyH.nil)
            rintro e v2 ⟨rfl, hb⟩
            have BV := Lib.hid (BV.out.trans (hb.mono BV.out.size))
            clear hb
            refine ⟨_, rfl, BV.out, fun _ => ?_⟩
            simp only [Act.put, List.setIfInBounds_toArray, List.set_cons_zero, List.set_cons_succ]
            refine take_at (i := 7) 116 ?_ rfl rfl (by kernel_rfl) (by kernel_rfl) (by kernel_rfl) (fun _ _ _ h => h) (.inl ⟨rfl, ?_⟩) BV.out ?_
            rotate_left 1
            · intro w hSw; go_simp; try with_reducible rfl
            simp only [Act.put, List.setIfInBounds_toArray, List.set_cons_zero, List.set_cons_succ]
            refine take_at (i := 8) 117 ?_ rfl rfl (by kernel_rfl) (by kernel_rfl) (by kernel_rfl) (fun _ _ _ h => h) (.inl ⟨rfl, ?_⟩) BV.out ?_
            rotate_left 1
            · intro w hSw; go_simp; try with_reducible rfl
            simp only [Act.put, List.setIfInBounds_toArray, List.set_cons_zero, List.set_cons_succ]
            refine wpAnyH_done (by kernel_rfl) ?_ _
            have PZ := Lib.hid (P9.out.step BV.out)
            clear M1 M2 BV P9
            go_wp2
            go_roundw
            case rel => exact ⟨i + 1, mm, by go_num, by omega, by omega, Lib.hid ⟨PZ.out, LM.out⟩⟩
            case measure => simp [intOf]; omega
        · go_upto_region 11 with (fail)
          have L1 := fun W (h : AcAt W k2 2 t r pt pr nm d) => loadA1 h
          have L3 := fun W (h : AcAt W k2 2 t r pt pr nm d) => loadA3 h
          have PP := Lib.hid (P3.out.step (show Below w2.heap.size w2 w2.drew from (Below.refl _ _).drew))
          clear e0 e1 e2 e3 e4 e5 e6
          refine wp_region_held_drew (S := fun W => AcAt W k2 2 t r pt pr nm d) (by kernel_rfl) (A3.out.step (show Below w2.heap.size w2 w2.drew from (Below.refl _ _).drew)) (fun hHeld => ?_)
          have BV := Lib.hid (A3.out.step (show Below w2.heap.size w2 w2.drew from (Below.refl _ _).drew))
          clear hHeld
          refine take_at (i := 0) 36 ?_ rfl rfl (by kernel_rfl) (by kernel_rfl) (by kernel_rfl) (fun _ _ _ h => h) (.inl ⟨rfl, ?_⟩) BV.out ?_
          rotate_left 1
          · intro w hSw; go_simp; try with_reducible rfl
          simp only [Act.put, List.setIfInBounds_toArray, List.set_cons_zero, List.set_cons_succ]
          refine take_at (i := 1) 37 ?_ rfl rfl (by kernel_rfl) (by kernel_rfl) (by kernel_rfl) (fun _ _ _ h => h) (.inl ⟨rfl, ?_⟩) BV.out ?_
          rotate_left 1
          · intro w hSw; go_simp; try with_reducible rfl
          simp only [Act.put, List.setIfInBounds_toArray, List.set_cons_zero, List.set_cons_succ]
          refine take_at (i := 2) 38 (.agg #[.int .i64 t, .int .i64 r]) rfl rfl (by kernel_rfl) (by kernel_rfl) (by kernel_rfl) (fun _ _ _ h => h) (yields_ld (.tmp 37) 24 (.pointer (some ⟨k2, 1, none⟩)) _ L1 rfl rfl rfl) BV.out ?_
          simp only [Act.put, List.setIfInBounds_toArray, List.set_cons_zero, List.set_cons_succ]
          refine take_at (i := 3) 39 ?_ rfl rfl (by kernel_rfl) (by kernel_rfl) (by kernel_rfl) (fun _ _ _ h => h) (.inl ⟨rfl, ?_⟩) BV.out ?_
          rotate_left 1
          · intro w hSw; go_simp; try with_reducible rfl
          simp only [Act.put, List.setIfInBounds_toArray, List.set_cons_zero, List.set_cons_succ]
          refine take_at (i := 4) 40 (.agg #[.int .i64 pt, .int .i64 pr, .string nm, .bool d]) rfl rfl (by kernel_rfl) (by kernel_rfl) (by kernel_rfl) (fun _ _ _ h => h) (yields_ld (.tmp 39) 29 (.pointer (some ⟨k2, 3, none⟩)) _ L3 rfl rfl rfl) BV.out ?_
          simp only [Act.put, List.setIfInBounds_toArray, List.set_cons_zero, List.set_cons_succ]
          refine wpAnyH_ready (rs := [5]) (by kernel_rfl) (by simp) (br_call (i := 5) 41 12 #[.agg #[.int .i64 pt, .int .i64 pr, .string nm, .bool d]] rfl rfl rfl (by go_simp) ((to_any _ pt pr nm d).mono ?_) AllReadyH.nil)
          rintro e v1 ⟨rfl, hb⟩
          have BV := Lib.hid (BV.out.step hb)
          have PP := Lib.hid (PP.out.step hb)
          clear hb
          refine ⟨_, rfl, BV.out, fun _ => ?_⟩
          simp only [Act.put, List.setIfInBounds_toArray, List.set_cons_zero, List.set_cons_succ]
          refine wpAnyH_ready (rs := [6]) (by kernel_rfl) (by simp) (br_call (i := 6) 42 11 #[.pointer (some ⟨p, 0, none⟩), .agg #[.int .i64 t, .int .i64 r], .agg #[.int .i64 pt, .int .i64 pr, .string nm, .bool d]] rfl rfl rfl (by go_simp) ((set_any _ p b m PP.out.tab (by have := LM.out; omega) ⟨t, r, pt, pr, nm, d⟩ XO.out).mono ?_) AllReadyH.nil)
          rintro e v2 ⟨rfl, ho⟩
          have BV := Lib.hid (BV.out.turn ho BK.out)
          have PP := Lib.hid (PP.out.turn ho)
          clear ho
          refine ⟨_, rfl, BV.out, fun _ => ?_⟩
          simp only [Act.put, List.setIfInBounds_toArray, List.set_cons_zero, List.set_cons_succ]
          refine take_at (i := 7) 43 ?_ rfl rfl (by kernel_rfl) (by kernel_rfl) (by kernel_rfl) (fun _ _ _ h => h) (.inl ⟨rfl, ?_⟩) BV.out ?_
          rotate_left 1
          · intro w hSw; go_simp; try with_reducible rfl
          simp only [Act.put, List.setIfInBounds_toArray, List.set_cons_zero, List.set_cons_succ]
          refine wpAnyH_done (by kernel_rfl) ?_ _
          have RS := Lib.hid (rset_any v2 _ m ⟨t, r, pt, pr, nm, d⟩ PP.out.rows (by have := LM.out; omega) P3.out.tab.map.rise)
          have AA := Lib.hid BV.out
          obtain ⟨e0, e1, e2, e3, e4, e5, e6⟩ := AA.out.cells
          clear BV L1 L3
          go_wp2_with fail
          refine RS.out.mono ?_
          rintro e wt ⟨rr, rfl, ho, hb⟩
          have LM := Lib.hid (show (setF m ⟨t, r, pt, pr, nm, d⟩).length ≤ i + 1 from by have := setF_len m ⟨t, r, pt, pr, nm, d⟩; have := LM.out; omega)
          have AA := Lib.hid (AA.out.step hb)
          have PP := Lib.hid (PP.out.put hb (own_liesK enc6_len ho))
          clear ho hb e0 e1 e2 e3 e4 e5 e6 RS P3
          generalize setF m ⟨t, r, pt, pr, nm, d⟩ = mm at *
          obtain ⟨ra, rc, rfl⟩ := PP.out.rows.shape
          go_upto_region 19 with (fail)
          have FA := Lib.hid (fun W (hb : Below wt.heap.size wt W) => AA.out.step hb)
          have FP := Lib.hid (fun W (hb : Below wt.heap.size wt W) => PP.out.step hb)
          have LA := Lib.hid (fun W (hb : Below wt.heap.size wt W) => load24 W _ _ _ (PP.out.st.step hb))
          have LP := Lib.hid (fun W (hb : Below wt.heap.size wt W) => loadAP (AA.out.step hb))
          clear AA PP
          refine wp_region_held_drew (S := fun w' => Below wt.heap.size wt w') (by kernel_rfl) (Below.refl _ _).drew (fun hHeld => ?_)
          have BV := Lib.hid (show Below wt.heap.size wt wt.drew from (Below.refl _ _).drew)
          clear hHeld
          refine take_at (i := 0) 69 ?_ rfl rfl (by kernel_rfl) (by kernel_rfl) (by kernel_rfl) (fun _ _ _ h => h) (.inl ⟨rfl, ?_⟩) BV.out ?_
          rotate_left 1
          · intro w hSw; go_simp; try with_reducible rfl
          simp only [Act.put, List.setIfInBounds_toArray, List.set_cons_zero, List.set_cons_succ]
          refine take_at (i := 1) 70 ?_ rfl rfl (by kernel_rfl) (by kernel_rfl) (by kernel_rfl) (fun _ _ _ h => h) (.inl ⟨rfl, ?_⟩) BV.out ?_
          rotate_left 1
          · intro w hSw; go_simp; try with_reducible rfl
          simp only [Act.put, List.setIfInBounds_toArray, List.set_cons_zero, List.set_cons_succ]
          refine wpAnyH_ready (rs := [2]) (by kernel_rfl) (by simp) (br_call (i := 2) 71 17 #[.pointer (some ⟨p, 0, none⟩), .slice ra mm.length rc] rfl rfl rfl (by go_simp) ((is_same _ p b _ mm (FP.out _ BV.out).tab (FP.out _ BV.out).rows).mono ?_) AllReadyH.nil)
          rintro e v1 ⟨rfl, hb⟩
          have BV := Lib.hid (BV.out.trans (hb.mono BV.out.size))
          clear hb
          refine ⟨_, rfl, BV.out, fun _ => ?_⟩
          simp only [Act.put, List.setIfInBounds_toArray, List.set_cons_zero, List.set_cons_succ]
          refine take_at (i := 3) 72 ?_ rfl rfl (by kernel_rfl) (by kernel_rfl) (by kernel_rfl) (fun _ _ _ h => h) (.inl ⟨rfl, ?_⟩) BV.out ?_
          rotate_left 1
          · intro w hSw; go_simp; try with_reducible rfl
          simp only [Act.put, List.setIfInBounds_toArray, List.set_cons_zero, List.set_cons_succ]
          refine take_at (i := 4) 73 ?_ rfl rfl (by kernel_rfl) (by kernel_rfl) (by kernel_rfl) (fun _ _ _ h => h) (.inl ⟨rfl, ?_⟩) BV.out ?_
          rotate_left 1
          · intro w hSw; go_simp; try with_reducible rfl
          simp only [Act.put, List.setIfInBounds_toArray, List.set_cons_zero, List.set_cons_succ]
          refine take_at (i := 5) 74 ?_ rfl rfl (by kernel_rfl) (by kernel_rfl) (by kernel_rfl) (fun _ _ _ h => h) (.inl ⟨rfl, ?_⟩) BV.out ?_
          rotate_left 1
          · intro w hSw; go_simp; try with_reducible rfl
          simp only [Act.put, List.setIfInBounds_toArray, List.set_cons_zero, List.set_cons_succ]
          refine take_at (i := 6) 75 ?_ rfl rfl (by kernel_rfl) (by kernel_rfl) (by kernel_rfl) (fun _ _ _ h => h) (.inl ⟨rfl, ?_⟩) BV.out ?_
          rotate_left 1
          · intro w hSw; go_simp; try with_reducible rfl
          simp only [Act.put, List.setIfInBounds_toArray, List.set_cons_zero, List.set_cons_succ]
          refine take_at (i := 7) 76 ?_ rfl rfl (by kernel_rfl) (by kernel_rfl) (by kernel_rfl) (fun _ _ _ h => h) (.inl ⟨rfl, ?_⟩) BV.out ?_
          rotate_left 1
          · intro w hSw; go_simp; try with_reducible rfl
          simp only [Act.put, List.setIfInBounds_toArray, List.set_cons_zero, List.set_cons_succ]
          refine take_at (i := 8) 77 (.agg #[.int .i64 pt, .int .i64 pr]) rfl rfl (by kernel_rfl) (by kernel_rfl) (by kernel_rfl) (fun _ _ _ h => h) (yields_ld (.tmp 76) 24 (.pointer (some ⟨k2, 3, none⟩)) _ LP.out rfl rfl rfl) BV.out ?_
          simp only [Act.put, List.setIfInBounds_toArray, List.set_cons_zero, List.set_cons_succ]
          refine take_at (i := 10) 79 ?_ rfl rfl (by kernel_rfl) (by kernel_rfl) (by kernel_rfl) (fun _ _ _ h => h) (.inl ⟨rfl, ?_⟩) BV.out ?_
          rotate_left 1
          · intro w hSw; go_simp; try with_reducible rfl
          simp only [Act.put, List.setIfInBounds_toArray, List.set_cons_zero, List.set_cons_succ]
          refine take_at (i := 11) 80 ?_ rfl rfl (by kernel_rfl) (by kernel_rfl) (by kernel_rfl) (fun _ _ _ h => h) (.inl ⟨rfl, ?_⟩) BV.out ?_
          rotate_left 1
          · intro w hSw; go_simp; try with_reducible rfl
          simp only [Act.put, List.setIfInBounds_toArray, List.set_cons_zero, List.set_cons_succ]
          refine take_at (i := 12) 81 ?_ rfl rfl (by kernel_rfl) (by kernel_rfl) (by kernel_rfl) (fun _ _ _ h => h) (.inl ⟨rfl, ?_⟩) BV.out ?_
          rotate_left 1
          · intro w hSw; go_simp; try with_reducible rfl
          simp only [Act.put, List.setIfInBounds_toArray, List.set_cons_zero, List.set_cons_succ]
          refine take_at (i := 13) 82 (.agg #[.int .i64 pt, .int .i64 pr]) rfl rfl (by kernel_rfl) (by kernel_rfl) (by kernel_rfl) (fun _ _ _ h => h) (yields_ld (.tmp 81) 24 (.pointer (some ⟨k2, 3, none⟩)) _ LP.out rfl rfl rfl) BV.out ?_
          simp only [Act.put, List.setIfInBounds_toArray, List.set_cons_zero, List.set_cons_succ]
          refine wpAnyH_ready (rs := [9]) (by kernel_rfl) (by simp) (br_call (i := 9) 78 19 #[.pointer (some ⟨p, 0, none⟩), .agg #[.int .i64 pt, .int .i64 pr]] rfl rfl rfl (by go_simp) ((kids_any _ p b mm (FP.out _ BV.out).tab (by have := LM.out; omega) pt pr).mono ?_) AllReadyH.nil)
          rintro e v2 ⟨u9, rfl, ho, hb⟩
          have BV := Lib.hid (BV.out.trans (hb.mono BV.out.size))
          have SK9 := Lib.hid (own_liesK encS_len ho)
          clear ho
          clear hb
          refine ⟨_, rfl, BV.out, fun _ => ?_⟩
          simp only [Act.put, List.setIfInBounds_toArray, List.set_cons_zero, List.set_cons_succ]
          refine wpAnyH_ready (rs := [14]) (by kernel_rfl) (by simp) (br_call (i := 14) 83 20 #[.slice ra mm.length rc, .agg #[.int .i64 pt, .int .i64 pr]] rfl rfl rfl (by go_simp) ((rkids_any _ _ mm (FP.out _ BV.out).rows (by have := LM.out; omega) pt pr).mono ?_) AllReadyH.nil)
          rintro e v3 ⟨u14, rfl, ho, hb⟩
          have BV := Lib.hid (BV.out.trans (hb.mono BV.out.size))
          have SK9 := Lib.hid (SK9.out.step hb)
          have SK14 := Lib.hid (own_liesK encS_len ho)
          clear ho
          clear hb
          refine ⟨_, rfl, BV.out, fun _ => ?_⟩
          simp only [Act.put, List.setIfInBounds_toArray, List.set_cons_zero, List.set_cons_succ]
          refine wpAnyH_ready (rs := [15]) (by kernel_rfl) (by simp) (br_call (i := 15) 84 18 #[u9, u14] rfl rfl rfl (by go_simp) ((same_self _ _ _ _ SK9.out SK14.out).mono ?_) AllReadyH.nil)
          rintro e v4 ⟨rfl, hb⟩
          have BV := Lib.hid (BV.out.trans (hb.mono BV.out.size))
          have SK9 := Lib.hid (SK9.out.step hb)
          have SK14 := Lib.hid (SK14.out.step hb)
          clear hb
          refine ⟨_, rfl, BV.out, fun _ => ?_⟩
          simp only [Act.put, List.setIfInBounds_toArray, List.set_cons_zero, List.set_cons_succ]
          refine take_at (i := 16) 85 ?_ rfl rfl (by kernel_rfl) (by kernel_rfl) (by kernel_rfl) (fun _ _ _ h => h) (.inl ⟨rfl, ?_⟩) BV.out ?_
          rotate_left 1
          · intro w hSw; go_simp; try with_reducible rfl
          simp only [Act.put, List.setIfInBounds_toArray, List.set_cons_zero, List.set_cons_succ]
          refine take_at (i := 17) 86 ?_ rfl rfl (by kernel_rfl) (by kernel_rfl) (by kernel_rfl) (fun _ _ _ h => h) (.inl ⟨rfl, ?_⟩) BV.out ?_
          rotate_left 1
          · intro w hSw; go_simp; try with_reducible rfl
          simp only [Act.put, List.setIfInBounds_toArray, List.set_cons_zero, List.set_cons_succ]
          refine take_at (i := 18) 87 ?_ rfl rfl (by kernel_rfl) (by kernel_rfl) (by kernel_rfl) (fun _ _ _ h => h) (.inl ⟨rfl, ?_⟩) BV.out ?_
          rotate_left 1
          · intro w hSw; go_simp; try with_reducible rfl
          simp only [Act.put, List.setIfInBounds_toArray, List.set_cons_zero, List.set_cons_succ]
          refine take_at (i := 19) 88 ?_ rfl rfl (by kernel_rfl) (by kernel_rfl) (by kernel_rfl) (fun _ _ _ h => h) (.inl ⟨rfl, ?_⟩) BV.out ?_
          rotate_left 1
          · intro w hSw; go_simp; try with_reducible rfl
          simp only [Act.put, List.setIfInBounds_toArray, List.set_cons_zero, List.set_cons_succ]
          refine take_at (i := 20) 89 (.agg #[.int .i64 q1, .int .i64 q2]) rfl rfl (by kernel_rfl) (by kernel_rfl) (by kernel_rfl) (fun _ _ _ h => h) (yields_ld (.tmp 3) 24 (.pointer (some ⟨w.heap.size, 0, none⟩)) _ LA.out rfl rfl rfl) BV.out ?_
          simp only [Act.put, List.setIfInBounds_toArray, List.set_cons_zero, List.set_cons_succ]
          refine take_at (i := 22) 91 ?_ rfl rfl (by kernel_rfl) (by kernel_rfl) (by kernel_rfl) (fun _ _ _ h => h) (.inl ⟨rfl, ?_⟩) BV.out ?_
          rotate_left 1
          · intro w hSw; go_simp; try with_reducible rfl
          simp only [Act.put, List.setIfInBounds_toArray, List.set_cons_zero, List.set_cons_succ]
          refine take_at (i := 23) 92 (.agg #[.int .i64 q1, .int .i64 q2]) rfl rfl (by kernel_rfl) (by kernel_rfl) (by kernel_rfl) (fun _ _ _ h => h) (yields_ld (.tmp 3) 24 (.pointer (some ⟨w.heap.size, 0, none⟩)) _ LA.out rfl rfl rfl) BV.out ?_
          simp only [Act.put, List.setIfInBounds_toArray, List.set_cons_zero, List.set_cons_succ]
          refine wpAnyH_ready (rs := [21]) (by kernel_rfl) (by simp) (br_call (i := 21) 90 19 #[.pointer (some ⟨p, 0, none⟩), .agg #[.int .i64 q1, .int .i64 q2]] rfl rfl rfl (by go_simp) ((kids_any _ p b mm (FP.out _ BV.out).tab (by have := LM.out; omega) q1 q2).mono ?_) AllReadyH.nil)
          rintro e v5 ⟨u21, rfl, ho, hb⟩
          have BV := Lib.hid (BV.out.trans (hb.mono BV.out.size))
          have SK9 := Lib.hid (SK9.out.step hb)
          have SK14 := Lib.hid (SK14.out.step hb)
          have SK21 := Lib.hid (own_liesK encS_len ho)
          clear ho
          clear hb
          refine ⟨_, rfl, BV.out, fun _ => ?_⟩
          simp only [Act.put, List.setIfInBounds_toArray, List.set_cons_zero, List.set_cons_succ]
          refine wpAnyH_ready (rs := [24]) (by kernel_rfl) (by simp) (br_call (i := 24) 93 20 #[.slice ra mm.length rc, .agg #[.int .i64 q1, .int .i64 q2]] rfl rfl rfl (by go_simp) ((rkids_any _ _ mm (FP.out _ BV.out).rows (by have := LM.out; omega) q1 q2).mono ?_) AllReadyH.nil)
          rintro e v6 ⟨u24, rfl, ho, hb⟩
          have BV := Lib.hid (BV.out.trans (hb.mono BV.out.size))
          have SK9 := Lib.hid (SK9.out.step hb)
          have SK14 := Lib.hid (SK14.out.step hb)
          have SK21 := Lib.hid (SK21.out.step hb)
          have SK24 := Lib.hid (own_liesK encS_len ho)
          clear ho
          clear hb
          refine ⟨_, rfl, BV.out, fun _ => ?_⟩
          simp only [Act.put, List.setIfInBounds_toArray, List.set_cons_zero, List.set_cons_succ]
          refine wpAnyH_ready (rs := [25]) (by kernel_rfl) (by simp) (br_call (i := 25) 94 18 #[u21, u24] rfl rfl rfl (by go_simp) ((same_self _ _ _ _ SK21.out SK24.out).mono ?_) AllReadyH.nil)
          rintro e v7 ⟨rfl, hb⟩
          have BV := Lib.hid (BV.out.trans (hb.mono BV.out.size))
          have SK9 := Lib.hid (SK9.out.step hb)
          have SK14 := Lib.hid (SK14.out.step hb)
          have SK21 := Lib.hid (SK21.out.step hb)
          have SK24 := Lib.hid (SK24.out.step hb)
          clear hb
          refine ⟨_, rfl, BV.out, fun _ => ?_⟩
          simp only [Act.put, List.setIfInBounds_toArray, List.set_cons_zero, List.set_cons_succ]
          refine take_at (i := 26) 95 ?_ rfl rfl (by kernel_rfl) (by kernel_rfl) (by kernel_rfl) (fun _ _ _ h => h) (.inl ⟨rfl, ?_⟩) BV.out ?_
          rotate_left 1
          · intro w hSw; go_simp; try with_reducible rfl
          simp only [Act.put, List.setIfInBounds_toArray, List.set_cons_zero, List.set_cons_succ]
          refine take_at (i := 27) 96 ?_ rfl rfl (by kernel_rfl) (by kernel_rfl) (by kernel_rfl) (fun _ _ _ h => h) (.inl ⟨rfl, ?_⟩) BV.out ?_
          rotate_left 1
          · intro w hSw; go_simp; try with_reducible rfl
          simp only [Act.put, List.setIfInBounds_toArray, List.set_cons_zero, List.set_cons_succ]
          refine wpAnyH_done (by kernel_rfl) ?_ _
          have P5 := Lib.hid (FP.out _ BV.out)
          clear FP FA LA LP SK9 SK14 SK21 SK24 BV
          go_upto_region 21 with (fail)
          obtain ⟨x1, x2, x3, x4, hx⟩ := gv_form mm q1 q2
          have GT := Lib.hid (get_any v7 p b mm P5.out.tab q1 q2 HQ.out.1 HQ.out.2)
          have GR := Lib.hid (fun W hr => rget_any W (.slice ra mm.length rc) mm hr q1 q2)
          rw [hx] at GT GR
          clear hx
          obtain ⟨ok, hok⟩ : ∃ y, (getF mm q1 q2).isSome = y := ⟨_, rfl⟩
          rw [hok] at GT GR
          clear hok
          obtain ⟨c1, c2⟩ := P5.out.st.cells
          go_wp2_with fail
          refine GT.out.mono ?_
          rintro e z1 ⟨rfl, hb⟩
          have P6 := Lib.hid (P5.out.step hb)
          clear hb c1 c2 GT P5
          go_upto_region 22 with (fail)
          have B7 := Lib.hid (vstep z1 (.cells #[.int .i64 x1, .int .i64 x2, .string x3, .bool x4] 34))
          have P7 := Lib.hid (P6.out.step B7.out)
          have E7 := Lib.hid (EnAt.new z1 x1 x2 x3 x4)
          obtain ⟨g1, hg1⟩ : ∃ k, z1.heap.size = k := ⟨_, rfl⟩
          rw [hg1] at E7 ⊢
          generalize (z1.alloc (.cells #[.int .i64 x1, .int .i64 x2, .string x3, .bool x4] 34)) = z2 at *
          clear B7 hg1 P6
          have GR2 := Lib.hid (GR.out z2 P7.out.rows)
          obtain ⟨c1, c2⟩ := P7.out.st.cells
          go_wp2_with fail
          refine GR2.out.mono ?_
          rintro e z3 ⟨rfl, hb⟩
          have P8 := Lib.hid (P7.out.step hb)
          have E8 := Lib.hid (E7.out.step hb)
          clear hb c1 c2 GR GR2 P7 E7
          go_upto_region 23 with (fail)
          have B9 := Lib.hid (vstep z3 (.cells #[.int .i64 x1, .int .i64 x2, .string x3, .bool x4] 29))
          have P9 := Lib.hid (P8.out.step B9.out)
          have E9 := Lib.hid (E8.out.step B9.out)
          have F9 := Lib.hid (show EnB 29 (z3.alloc (.cells #[.int .i64 x1, .int .i64 x2, .string x3, .bool x4] 29)) z3.heap.size x1 x2 x3 x4 from heap_alloc_new z3 _)
          obtain ⟨g2, hg2⟩ : ∃ k, z3.heap.size = k := ⟨_, rfl⟩
          rw [hg2] at F9 ⊢
          generalize (z3.alloc (.cells #[.int .i64 x1, .int .i64 x2, .string x3, .bool x4] 29)) = z4 at *
          clear B9 hg2 P8 E8
          have M1 := Lib.hid (fun W (hb : Below z4.heap.size z4 W) => load34 (E9.out.step hb))
          have M2 := Lib.hid (fun W (hb : Below z4.heap.size z4 W) => load29 W _ _ _ _ _ (F9.out.step hb))
          clear E9 F9
          cases ok
          · refine wp_region_held_drew (S := fun w' => Below z4.heap.size z4 w') (by kernel_rfl) (Below.refl _ _).drew (fun hHeld => ?_)
            have BV := Lib.hid (show Below z4.heap.size z4 z4.drew from (Below.refl _ _).drew)
            clear hHeld
            refine take_at (i := 0) 109 ?_ rfl rfl (by kernel_rfl) (by kernel_rfl) (by kernel_rfl) (fun _ _ _ h => h) (.inl ⟨rfl, ?_⟩) BV.out ?_
            rotate_left 1
            · intro w hSw; go_simp; try with_reducible rfl
            simp only [Act.put, List.setIfInBounds_toArray, List.set_cons_zero, List.set_cons_succ]
            refine take_at (i := 1) 110 ?_ rfl rfl (by kernel_rfl) (by kernel_rfl) (by kernel_rfl) (fun _ _ _ h => h) (.inl ⟨rfl, ?_⟩) BV.out ?_
            rotate_left 1
            · intro w hSw; go_simp; try with_reducible rfl
            simp only [Act.put, List.setIfInBounds_toArray, List.set_cons_zero, List.set_cons_succ]
            refine take_at (i := 2) 111 ?_ rfl rfl (by kernel_rfl) (by kernel_rfl) (by kernel_rfl) (fun _ _ _ h => h) (.inl ⟨rfl, ?_⟩) BV.out ?_
            rotate_left 1
            · intro w hSw; go_simp; try with_reducible rfl
            simp only [Act.put, List.setIfInBounds_toArray, List.set_cons_zero, List.set_cons_succ]
            refine take_at (i := 3) 112 ?_ rfl rfl (by kernel_rfl) (by kernel_rfl) (by kernel_rfl) (fun _ _ _ h => h) (.inl ⟨rfl, ?_⟩) BV.out ?_
            rotate_left 1
            · intro w hSw; go_simp; try with_reducible rfl
            simp only [Act.put, List.setIfInBounds_toArray, List.set_cons_zero, List.set_cons_succ]
            refine take_at (i := 4) 113 (.agg #[.int .i64 x1, .int .i64 x2, .string x3, .bool x4]) rfl rfl (by kernel_rfl) (by kernel_rfl) (by kernel_rfl) (fun _ _ _ h => h) (yields_ld (.tmp 11) 34 (.pointer (some ⟨g1, 0, none⟩)) _ M1.out rfl rfl rfl) BV.out ?_
            simp only [Act.put, List.setIfInBounds_toArray, List.set_cons_zero, List.set_cons_succ]
            refine take_at (i := 5) 114 (.agg #[.int .i64 x1, .int .i64 x2, .string x3, .bool x4]) rfl rfl (by kernel_rfl) (by kernel_rfl) (by kernel_rfl) (fun _ _ _ h => h) (yields_ld (.tmp 13) 29 (.pointer (some ⟨g2, 0, none⟩)) _ M2.out rfl rfl rfl) BV.out ?_
            simp only [Act.put, List.setIfInBounds_toArray, List.set_cons_zero, List.set_cons_succ]
            refine wpAnyH_ready (rs := [6]) (by kernel_rfl) (by simp) (br_call (i := 6) 115 12 #[.agg #[.int .i64 x1, .int .i64 x2, .string x3, .bool x4]] rfl rfl rfl (by go_simp) ((to_any _ x1 x2 x3 x4).mono ?_) AllReadyH.nil)
            rintro e v1 ⟨rfl, hb⟩
            have BV := Lib.hid (BV.out.trans (hb.mono BV.out.size))
            clear hb
            refine ⟨_, rfl, BV.out, fun _ => ?_⟩
            simp only [Act.put, List.setIfInBounds_toArray, List.set_cons_zero, List.set_cons_succ]
            refine take_at (i := 7) 116 ?_ rfl rfl (by kernel_rfl) (by kernel_rfl) (by kernel_rfl) (fun _ _ _ h => h) (.inl ⟨rfl, ?_⟩) BV.out ?_
            rotate_left 1
            · intro w hSw; go_simp; try with_reducible rfl
            simp only [Act.put, List.setIfInBounds_toArray, List.set_cons_zero, List.set_cons_succ]
            refine take_at (i := 8) 117 ?_ rfl rfl (by kernel_rfl) (by kernel_rfl) (by kernel_rfl) (fun _ _ _ h => h) (.inl ⟨rfl, ?_⟩) BV.out ?_
            rotate_left 1
            · intro w hSw; go_simp; try with_reducible rfl
            simp only [Act.put, List.setIfInBounds_toArray, List.set_cons_zero, List.set_cons_succ]
            refine wpAnyH_done (by kernel_rfl) ?_ _
            have PZ := Lib.hid (P9.out.step BV.out)
            clear M1 M2 BV P9
            go_wp2
            go_roundw
            case rel => exact ⟨i + 1, mm, by go_num, by omega, by omega, Lib.hid ⟨PZ.out, LM.out⟩⟩
            case measure => simp [intOf]; omega
          · refine wp_region_held_drew (S := fun w' => Below z4.heap.size z4 w') (by kernel_rfl) (Below.refl _ _).drew (fun hHeld => ?_)
            have BV := Lib.hid (show Below z4.heap.size z4 z4.drew from (Below.refl _ _).drew)
            clear hHeld
            refine take_at (i := 0) 109 ?_ rfl rfl (by kernel_rfl) (by kernel_rfl) (by kernel_rfl) (fun _ _ _ h => h) (.inl ⟨rfl, ?_⟩) BV.out ?_
            rotate_left 1
            · intro w hSw; go_simp; try with_reducible rfl
            simp only [Act.put, List.setIfInBounds_toArray, List.set_cons_zero, List.set_cons_succ]
            refine take_at (i := 1) 110 ?_ rfl rfl (by kernel_rfl) (by kernel_rfl) (by kernel_rfl) (fun _ _ _ h => h) (.inl ⟨rfl, ?_⟩) BV.out ?_
            rotate_left 1
            · intro w hSw; go_simp; try with_reducible rfl
            simp only [Act.put, List.setIfInBounds_toArray, List.set_cons_zero, List.set_cons_succ]
            refine take_at (i := 2) 111 ?_ rfl rfl (by kernel_rfl) (by kernel_rfl) (by kernel_rfl) (fun _ _ _ h => h) (.inl ⟨rfl, ?_⟩) BV.out ?_
            rotate_left 1
            · intro w hSw; go_simp; try with_reducible rfl
            simp only [Act.put, List.setIfInBounds_toArray, List.set_cons_zero, List.set_cons_succ]
            refine take_at (i := 3) 112 ?_ rfl rfl (by kernel_rfl) (by kernel_rfl) (by kernel_rfl) (fun _ _ _ h => h) (.inl ⟨rfl, ?_⟩) BV.out ?_
            rotate_left 1
            · intro w hSw; go_simp; try with_reducible rfl
            simp only [Act.put, List.setIfInBounds_toArray, List.set_cons_zero, List.set_cons_succ]
            refine take_at (i := 4) 113 (.agg #[.int .i64 x1, .int .i64 x2, .string x3, .bool x4]) rfl rfl (by kernel_rfl) (by kernel_rfl) (by kernel_rfl) (fun _ _ _ h => h) (yields_ld (.tmp 11) 34 (.pointer (some ⟨g1, 0, none⟩)) _ M1.out rfl rfl rfl) BV.out ?_
            simp only [Act.put, List.setIfInBounds_toArray, List.set_cons_zero, List.set_cons_succ]
            refine take_at (i := 5) 114 (.agg #[.int .i64 x1, .int .i64 x2, .string x3, .bool x4]) rfl rfl (by kernel_rfl) (by kernel_rfl) (by kernel_rfl) (fun _ _ _ h => h) (yields_ld (.tmp 13) 29 (.pointer (some ⟨g2, 0, none⟩)) _ M2.out rfl rfl rfl) BV.out ?_
            simp only [Act.put, List.setIfInBounds_toArray, List.set_cons_zero, List.set_cons_succ]
            refine wpAnyH_ready (rs := [6]) (by kernel_rfl) (by simp) (br_call (i := 6) 115 12 #[.agg #[.int .i64 x1, .int .i64 x2, .string x3, .bool x4]] rfl rfl rfl (by go_simp) ((to_any _ x1 x2 x3 x4).mono ?_) AllReadyH.nil)
            rintro e v2 ⟨rfl, hb⟩
            have BV := Lib.hid (BV.out.trans (hb.mono BV.out.size))
            clear hb
            refine ⟨_, rfl, BV.out, fun _ => ?_⟩
            simp only [Act.put, List.setIfInBounds_toArray, List.set_cons_zero, List.set_cons_succ]
            refine take_at (i := 7) 116 ?_ rfl rfl (by kernel_rfl) (by kernel_rfl) (by kernel_rfl) (fun _ _ _ h => h) (.inl ⟨rfl, ?_⟩) BV.out ?_
            rotate_left 1
            · intro w hSw; go_simp; try with_reducible rfl
            simp only [Act.put, List.setIfInBounds_toArray, List.set_cons_zero, List.set_cons_succ]
            refine take_at (i := 8) 117 ?_ rfl rfl (by kernel_rfl) (by kernel_rfl) (by kernel_rfl) (fun _ _ _ h => h) (.inl ⟨rfl, ?_⟩) BV.out ?_
            rotate_left 1
            · intro w hSw; go_simp; try with_reducible rfl
            simp only [Act.put, List.setIfInBounds_toArray, List.set_cons_zero, List.set_cons_succ]
            refine wpAnyH_done (by kernel_rfl) ?_ _
            have PZ := Lib.hid (P9.out.step BV.out)
            clear M1 M2 BV P9
            go_wp2
            go_roundw
            case rel => exact ⟨i + 1, mm, by go_num, by omega, by omega, Lib.hid ⟨PZ.out, LM.out⟩⟩
            case measure => simp [intOf]; omega
        · go_upto_region 15 with (fail)
          obtain ⟨x1, x2, x3, x4, hx⟩ := gv_form m t r
          have GR := Lib.hid (rget_any w2 _ m P3.out.rows t r)
          rw [hx] at GR
          clear hx
          have DR := Lib.hid (fun W (ht : TabI W p b m) => drop_any W p b m ht t r XO.out.1 XO.out.2.1)
          obtain ⟨ok, hok⟩ : ∃ y, (getF m t r).isSome = y := ⟨_, rfl⟩
          rw [hok] at GR DR
          clear hok
          have oo : (ok != ok) = false := by cases ok <;> rfl
          go_wp2_with fail
          refine GR.out.mono ?_
          rintro e z1 ⟨rfl, hb⟩
          have P4 := Lib.hid (P3.out.step hb)
          have A4 := Lib.hid (A3.out.step hb)
          clear hb e0 e1 e2 e3 e4 e5 e6 GR P3 A3
          go_upto_region 16 with (fail)
          have B5 := Lib.hid (vstep z1 (.cells #[.int .i64 x1, .int .i64 x2, .string x3, .bool x4] 29))
          have P5 := Lib.hid (P4.out.step B5.out)
          have A5 := Lib.hid (A4.out.step B5.out)
          generalize (z1.alloc (.cells #[.int .i64 x1, .int .i64 x2, .string x3, .bool x4] 29)) = z2 at *
          clear B5 P4 A4
          have DR2 := Lib.hid (DR.out z2 P5.out.tab)
          obtain ⟨e0, e1, e2, e3, e4, e5, e6⟩ := A5.out.cells
          go_wp2_with fail
          refine DR2.out.mono ?_
          rintro e z3 ⟨rfl, ho⟩
          have P6 := Lib.hid (P5.out.turn ho)
          have A6 := Lib.hid (A5.out.turn ho BK.out)
          clear ho e0 e1 e2 e3 e4 e5 e6 DR DR2 P5 A5
          have RD := Lib.hid (rdrop_any z3 _ m P6.out.rows (by have := LM.out; omega) t r)
          obtain ⟨e0, e1, e2, e3, e4, e5, e6⟩ := A6.out.cells
          go_wp2_with fail
          refine RD.out.mono ?_
          rintro e wt ⟨rr, rfl, ho, hb⟩
          have LM := Lib.hid (show (dropF m t r).length ≤ i + 1 from by have := dropF_len m t r; have := LM.out; omega)
          have AA := Lib.hid (A6.out.step hb)
          have PP := Lib.hid (P6.out.put hb (own_liesK enc6_len ho))
          clear ho hb e0 e1 e2 e3 e4 e5 e6 RD P6 A6 oo
          generalize dropF m t r = mm at *
          obtain ⟨ra, rc, rfl⟩ := PP.out.rows.shape
          go_upto_region 19 with (fail)
          have FA := Lib.hid (fun W (hb : Below wt.heap.size wt W) => AA.out.step hb)
          have FP := Lib.hid (fun W (hb : Below wt.heap.size wt W) => PP.out.step hb)
          have LA := Lib.hid (fun W (hb : Below wt.heap.size wt W) => load24 W _ _ _ (PP.out.st.step hb))
          have LP := Lib.hid (fun W (hb : Below wt.heap.size wt W) => loadAP (AA.out.step hb))
          clear AA PP
          refine wp_region_held_drew (S := fun w' => Below wt.heap.size wt w') (by kernel_rfl) (Below.refl _ _).drew (fun hHeld => ?_)
          have BV := Lib.hid (show Below wt.heap.size wt wt.drew from (Below.refl _ _).drew)
          clear hHeld
          refine take_at (i := 0) 69 ?_ rfl rfl (by kernel_rfl) (by kernel_rfl) (by kernel_rfl) (fun _ _ _ h => h) (.inl ⟨rfl, ?_⟩) BV.out ?_
          rotate_left 1
          · intro w hSw; go_simp; try with_reducible rfl
          simp only [Act.put, List.setIfInBounds_toArray, List.set_cons_zero, List.set_cons_succ]
          refine take_at (i := 1) 70 ?_ rfl rfl (by kernel_rfl) (by kernel_rfl) (by kernel_rfl) (fun _ _ _ h => h) (.inl ⟨rfl, ?_⟩) BV.out ?_
          rotate_left 1
          · intro w hSw; go_simp; try with_reducible rfl
          simp only [Act.put, List.setIfInBounds_toArray, List.set_cons_zero, List.set_cons_succ]
          refine wpAnyH_ready (rs := [2]) (by kernel_rfl) (by simp) (br_call (i := 2) 71 17 #[.pointer (some ⟨p, 0, none⟩), .slice ra mm.length rc] rfl rfl rfl (by go_simp) ((is_same _ p b _ mm (FP.out _ BV.out).tab (FP.out _ BV.out).rows).mono ?_) AllReadyH.nil)
          rintro e v1 ⟨rfl, hb⟩
          have BV := Lib.hid (BV.out.trans (hb.mono BV.out.size))
          clear hb
          refine ⟨_, rfl, BV.out, fun _ => ?_⟩
          simp only [Act.put, List.setIfInBounds_toArray, List.set_cons_zero, List.set_cons_succ]
          refine take_at (i := 3) 72 ?_ rfl rfl (by kernel_rfl) (by kernel_rfl) (by kernel_rfl) (fun _ _ _ h => h) (.inl ⟨rfl, ?_⟩) BV.out ?_
          rotate_left 1
          · intro w hSw; go_simp; try with_reducible rfl
          simp only [Act.put, List.setIfInBounds_toArray, List.set_cons_zero, List.set_cons_succ]
          refine take_at (i := 4) 73 ?_ rfl rfl (by kernel_rfl) (by kernel_rfl) (by kernel_rfl) (fun _ _ _ h => h) (.inl ⟨rfl, ?_⟩) BV.out ?_
          rotate_left 1
          · intro w hSw; go_simp; try with_reducible rfl
          simp only [Act.put, List.setIfInBounds_toArray, List.set_cons_zero, List.set_cons_succ]
          refine take_at (i := 5) 74 ?_ rfl rfl (by kernel_rfl) (by kernel_rfl) (by kernel_rfl) (fun _ _ _ h => h) (.inl ⟨rfl, ?_⟩) BV.out ?_
          rotate_left 1
          · intro w hSw; go_simp; try with_reducible rfl
          simp only [Act.put, List.setIfInBounds_toArray, List.set_cons_zero, List.set_cons_succ]
          refine take_at (i := 6) 75 ?_ rfl rfl (by kernel_rfl) (by kernel_rfl) (by kernel_rfl) (fun _ _ _ h => h) (.inl ⟨rfl, ?_⟩) BV.out ?_
          rotate_left 1
          · intro w hSw; go_simp; try with_reducible rfl
          simp only [Act.put, List.setIfInBounds_toArray, List.set_cons_zero, List.set_cons_succ]
          refine take_at (i := 7) 76 ?_ rfl rfl (by kernel_rfl) (by kernel_rfl) (by kernel_rfl) (fun _ _ _ h => h) (.inl ⟨rfl, ?_⟩) BV.out ?_
          rotate_left 1
          · intro w hSw; go_simp; try with_reducible rfl
          simp only [Act.put, List.setIfInBounds_toArray, List.set_cons_zero, List.set_cons_succ]
          refine take_at (i := 8) 77 (.agg #[.int .i64 pt, .int .i64 pr]) rfl rfl (by kernel_rfl) (by kernel_rfl) (by kernel_rfl) (fun _ _ _ h => h) (yields_ld (.tmp 76) 24 (.pointer (some ⟨k2, 3, none⟩)) _ LP.out rfl rfl rfl) BV.out ?_
          simp only [Act.put, List.setIfInBounds_toArray, List.set_cons_zero, List.set_cons_succ]
          refine take_at (i := 10) 79 ?_ rfl rfl (by kernel_rfl) (by kernel_rfl) (by kernel_rfl) (fun _ _ _ h => h) (.inl ⟨rfl, ?_⟩) BV.out ?_
          rotate_left 1
          · intro w hSw; go_simp; try with_reducible rfl
          simp only [Act.put, List.setIfInBounds_toArray, List.set_cons_zero, List.set_cons_succ]
          refine take_at (i := 11) 80 ?_ rfl rfl (by kernel_rfl) (by kernel_rfl) (by kernel_rfl) (fun _ _ _ h => h) (.inl ⟨rfl, ?_⟩) BV.out ?_
          rotate_left 1
          · intro w hSw; go_simp; try with_reducible rfl
          simp only [Act.put, List.setIfInBounds_toArray, List.set_cons_zero, List.set_cons_succ]
          refine take_at (i := 12) 81 ?_ rfl rfl (by kernel_rfl) (by kernel_rfl) (by kernel_rfl) (fun _ _ _ h => h) (.inl ⟨rfl, ?_⟩) BV.out ?_
          rotate_left 1
          · intro w hSw; go_simp; try with_reducible rfl
          simp only [Act.put, List.setIfInBounds_toArray, List.set_cons_zero, List.set_cons_succ]
          refine take_at (i := 13) 82 (.agg #[.int .i64 pt, .int .i64 pr]) rfl rfl (by kernel_rfl) (by kernel_rfl) (by kernel_rfl) (fun _ _ _ h => h) (yields_ld (.tmp 81) 24 (.pointer (some ⟨k2, 3, none⟩)) _ LP.out rfl rfl rfl) BV.out ?_
          simp only [Act.put, List.setIfInBounds_toArray, List.set_cons_zero, List.set_cons_succ]
          refine wpAnyH_ready (rs := [9]) (by kernel_rfl) (by simp) (br_call (i := 9) 78 19 #[.pointer (some ⟨p, 0, none⟩), .agg #[.int .i64 pt, .int .i64 pr]] rfl rfl rfl (by go_simp) ((kids_any _ p b mm (FP.out _ BV.out).tab (by have := LM.out; omega) pt pr).mono ?_) AllReadyH.nil)
          rintro e v2 ⟨u9, rfl, ho, hb⟩
          have BV := Lib.hid (BV.out.trans (hb.mono BV.out.size))
          have SK9 := Lib.hid (own_liesK encS_len ho)
          clear ho
          clear hb
          refine ⟨_, rfl, BV.out, fun _ => ?_⟩
          simp only [Act.put, List.setIfInBounds_toArray, List.set_cons_zero, List.set_cons_succ]
          refine wpAnyH_ready (rs := [14]) (by kernel_rfl) (by simp) (br_call (i := 14) 83 20 #[.slice ra mm.length rc, .agg #[.int .i64 pt, .int .i64 pr]] rfl rfl rfl (by go_simp) ((rkids_any _ _ mm (FP.out _ BV.out).rows (by have := LM.out; omega) pt pr).mono ?_) AllReadyH.nil)
          rintro e v3 ⟨u14, rfl, ho, hb⟩
          have BV := Lib.hid (BV.out.trans (hb.mono BV.out.size))
          have SK9 := Lib.hid (SK9.out.step hb)
          have SK14 := Lib.hid (own_liesK encS_len ho)
          clear ho
          clear hb
          refine ⟨_, rfl, BV.out, fun _ => ?_⟩
          simp only [Act.put, List.setIfInBounds_toArray, List.set_cons_zero, List.set_cons_succ]
          refine wpAnyH_ready (rs := [15]) (by kernel_rfl) (by simp) (br_call (i := 15) 84 18 #[u9, u14] rfl rfl rfl (by go_simp) ((same_self _ _ _ _ SK9.out SK14.out).mono ?_) AllReadyH.nil)
          rintro e v4 ⟨rfl, hb⟩
          have BV := Lib.hid (BV.out.trans (hb.mono BV.out.size))
          have SK9 := Lib.hid (SK9.out.step hb)
          have SK14 := Lib.hid (SK14.out.step hb)
          clear hb
          refine ⟨_, rfl, BV.out, fun _ => ?_⟩
          simp only [Act.put, List.setIfInBounds_toArray, List.set_cons_zero, List.set_cons_succ]
          refine take_at (i := 16) 85 ?_ rfl rfl (by kernel_rfl) (by kernel_rfl) (by kernel_rfl) (fun _ _ _ h => h) (.inl ⟨rfl, ?_⟩) BV.out ?_
          rotate_left 1
          · intro w hSw; go_simp; try with_reducible rfl
          simp only [Act.put, List.setIfInBounds_toArray, List.set_cons_zero, List.set_cons_succ]
          refine take_at (i := 17) 86 ?_ rfl rfl (by kernel_rfl) (by kernel_rfl) (by kernel_rfl) (fun _ _ _ h => h) (.inl ⟨rfl, ?_⟩) BV.out ?_
          rotate_left 1
          · intro w hSw; go_simp; try with_reducible rfl
          simp only [Act.put, List.setIfInBounds_toArray, List.set_cons_zero, List.set_cons_succ]
          refine take_at (i := 18) 87 ?_ rfl rfl (by kernel_rfl) (by kernel_rfl) (by kernel_rfl) (fun _ _ _ h => h) (.inl ⟨rfl, ?_⟩) BV.out ?_
          rotate_left 1
          · intro w hSw; go_simp; try with_reducible rfl
          simp only [Act.put, List.setIfInBounds_toArray, List.set_cons_zero, List.set_cons_succ]
          refine take_at (i := 19) 88 ?_ rfl rfl (by kernel_rfl) (by kernel_rfl) (by kernel_rfl) (fun _ _ _ h => h) (.inl ⟨rfl, ?_⟩) BV.out ?_
          rotate_left 1
          · intro w hSw; go_simp; try with_reducible rfl
          simp only [Act.put, List.setIfInBounds_toArray, List.set_cons_zero, List.set_cons_succ]
          refine take_at (i := 20) 89 (.agg #[.int .i64 q1, .int .i64 q2]) rfl rfl (by kernel_rfl) (by kernel_rfl) (by kernel_rfl) (fun _ _ _ h => h) (yields_ld (.tmp 3) 24 (.pointer (some ⟨w.heap.size, 0, none⟩)) _ LA.out rfl rfl rfl) BV.out ?_
          simp only [Act.put, List.setIfInBounds_toArray, List.set_cons_zero, List.set_cons_succ]
          refine take_at (i := 22) 91 ?_ rfl rfl (by kernel_rfl) (by kernel_rfl) (by kernel_rfl) (fun _ _ _ h => h) (.inl ⟨rfl, ?_⟩) BV.out ?_
          rotate_left 1
          · intro w hSw; go_simp; try with_reducible rfl
          simp only [Act.put, List.setIfInBounds_toArray, List.set_cons_zero, List.set_cons_succ]
          refine take_at (i := 23) 92 (.agg #[.int .i64 q1, .int .i64 q2]) rfl rfl (by kernel_rfl) (by kernel_rfl) (by kernel_rfl) (fun _ _ _ h => h) (yields_ld (.tmp 3) 24 (.pointer (some ⟨w.heap.size, 0, none⟩)) _ LA.out rfl rfl rfl) BV.out ?_
          simp only [Act.put, List.setIfInBounds_toArray, List.set_cons_zero, List.set_cons_succ]
          refine wpAnyH_ready (rs := [21]) (by kernel_rfl) (by simp) (br_call (i := 21) 90 19 #[.pointer (some ⟨p, 0, none⟩), .agg #[.int .i64 q1, .int .i64 q2]] rfl rfl rfl (by go_simp) ((kids_any _ p b mm (FP.out _ BV.out).tab (by have := LM.out; omega) q1 q2).mono ?_) AllReadyH.nil)
          rintro e v5 ⟨u21, rfl, ho, hb⟩
          have BV := Lib.hid (BV.out.trans (hb.mono BV.out.size))
          have SK9 := Lib.hid (SK9.out.step hb)
          have SK14 := Lib.hid (SK14.out.step hb)
          have SK21 := Lib.hid (own_liesK encS_len ho)
          clear ho
          clear hb
          refine ⟨_, rfl, BV.out, fun _ => ?_⟩
          simp only [Act.put, List.setIfInBounds_toArray, List.set_cons_zero, List.set_cons_succ]
          refine wpAnyH_ready (rs := [24]) (by kernel_rfl) (by simp) (br_call (i := 24) 93 20 #[.slice ra mm.length rc, .agg #[.int .i64 q1, .int .i64 q2]] rfl rfl rfl (by go_simp) ((rkids_any _ _ mm (FP.out _ BV.out).rows (by have := LM.out; omega) q1 q2).mono ?_) AllReadyH.nil)
          rintro e v6 ⟨u24, rfl, ho, hb⟩
          have BV := Lib.hid (BV.out.trans (hb.mono BV.out.size))
          have SK9 := Lib.hid (SK9.out.step hb)
          have SK14 := Lib.hid (SK14.out.step hb)
          have SK21 := Lib.hid (SK21.out.step hb)
          have SK24 := Lib.hid (own_liesK encS_len ho)
          clear ho
          clear hb
          refine ⟨_, rfl, BV.out, fun _ => ?_⟩
          simp only [Act.put, List.setIfInBounds_toArray, List.set_cons_zero, List.set_cons_succ]
          refine wpAnyH_ready (rs := [25]) (by kernel_rfl) (by simp) (br_call (i := 25) 94 18 #[u21, u24] rfl rfl rfl (by go_simp) ((same_self _ _ _ _ SK21.out SK24.out).mono ?_) AllReadyH.nil)
          rintro e v7 ⟨rfl, hb⟩
          have BV := Lib.hid (BV.out.trans (hb.mono BV.out.size))
          have SK9 := Lib.hid (SK9.out.step hb)
          have SK14 := Lib.hid (SK14.out.step hb)
          have SK21 := Lib.hid (SK21.out.step hb)
          have SK24 := Lib.hid (SK24.out.step hb)
          clear hb
          refine ⟨_, rfl, BV.out, fun _ => ?_⟩
          simp only [Act.put, List.setIfInBounds_toArray, List.set_cons_zero, List.set_cons_succ]
          refine take_at (i := 26) 95 ?_ rfl rfl (by kernel_rfl) (by kernel_rfl) (by kernel_rfl) (fun _ _ _ h => h) (.inl ⟨rfl, ?_⟩) BV.out ?_
          rotate_left 1
          · intro w hSw; go_simp; try with_reducible rfl
          simp only [Act.put, List.setIfInBounds_toArray, List.set_cons_zero, List.set_cons_succ]
          refine take_at (i := 27) 96 ?_ rfl rfl (by kernel_rfl) (by kernel_rfl) (by kernel_rfl) (fun _ _ _ h => h) (.inl ⟨rfl, ?_⟩) BV.out ?_
          rotate_left 1
          · intro w hSw; go_simp; try with_reducible rfl
          simp only [Act.put, List.setIfInBounds_toArray, List.set_cons_zero, List.set_cons_succ]
          refine wpAnyH_done (by kernel_rfl) ?_ _
          have P5 := Lib.hid (FP.out _ BV.out)
          clear FP FA LA LP SK9 SK14 SK21 SK24 BV
          go_upto_region 21 with (fail)
          obtain ⟨x1, x2, x3, x4, hx⟩ := gv_form mm q1 q2
          have GT := Lib.hid (get_any v7 p b mm P5.out.tab q1 q2 HQ.out.1 HQ.out.2)
          have GR := Lib.hid (fun W hr => rget_any W (.slice ra mm.length rc) mm hr q1 q2)
          rw [hx] at GT GR
          clear hx
          obtain ⟨ok, hok⟩ : ∃ y, (getF mm q1 q2).isSome = y := ⟨_, rfl⟩
          rw [hok] at GT GR
          clear hok
          obtain ⟨c1, c2⟩ := P5.out.st.cells
          go_wp2_with fail
          refine GT.out.mono ?_
          rintro e z1 ⟨rfl, hb⟩
          have P6 := Lib.hid (P5.out.step hb)
          clear hb c1 c2 GT P5
          go_upto_region 22 with (fail)
          have B7 := Lib.hid (vstep z1 (.cells #[.int .i64 x1, .int .i64 x2, .string x3, .bool x4] 34))
          have P7 := Lib.hid (P6.out.step B7.out)
          have E7 := Lib.hid (EnAt.new z1 x1 x2 x3 x4)
          obtain ⟨g1, hg1⟩ : ∃ k, z1.heap.size = k := ⟨_, rfl⟩
          rw [hg1] at E7 ⊢
          generalize (z1.alloc (.cells #[.int .i64 x1, .int .i64 x2, .string x3, .bool x4] 34)) = z2 at *
          clear B7 hg1 P6
          have GR2 := Lib.hid (GR.out z2 P7.out.rows)
          obtain ⟨c1, c2⟩ := P7.out.st.cells
          go_wp2_with fail
          refine GR2.out.mono ?_
          rintro e z3 ⟨rfl, hb⟩
          have P8 := Lib.hid (P7.out.step hb)
          have E8 := Lib.hid (E7.out.step hb)
          clear hb c1 c2 GR GR2 P7 E7
          go_upto_region 23 with (fail)
          have B9 := Lib.hid (vstep z3 (.cells #[.int .i64 x1, .int .i64 x2, .string x3, .bool x4] 29))
          have P9 := Lib.hid (P8.out.step B9.out)
          have E9 := Lib.hid (E8.out.step B9.out)
          have F9 := Lib.hid (show EnB 29 (z3.alloc (.cells #[.int .i64 x1, .int .i64 x2, .string x3, .bool x4] 29)) z3.heap.size x1 x2 x3 x4 from heap_alloc_new z3 _)
          obtain ⟨g2, hg2⟩ : ∃ k, z3.heap.size = k := ⟨_, rfl⟩
          rw [hg2] at F9 ⊢
          generalize (z3.alloc (.cells #[.int .i64 x1, .int .i64 x2, .string x3, .bool x4] 29)) = z4 at *
          clear B9 hg2 P8 E8
          have M1 := Lib.hid (fun W (hb : Below z4.heap.size z4 W) => load34 (E9.out.step hb))
          have M2 := Lib.hid (fun W (hb : Below z4.heap.size z4 W) => load29 W _ _ _ _ _ (F9.out.step hb))
          clear E9 F9
          cases ok
          · refine wp_region_held_drew (S := fun w' => Below z4.heap.size z4 w') (by kernel_rfl) (Below.refl _ _).drew (fun hHeld => ?_)
            have BV := Lib.hid (show Below z4.heap.size z4 z4.drew from (Below.refl _ _).drew)
            clear hHeld
            refine take_at (i := 0) 109 ?_ rfl rfl (by kernel_rfl) (by kernel_rfl) (by kernel_rfl) (fun _ _ _ h => h) (.inl ⟨rfl, ?_⟩) BV.out ?_
            rotate_left 1
            · intro w hSw; go_simp; try with_reducible rfl
            simp only [Act.put, List.setIfInBounds_toArray, List.set_cons_zero, List.set_cons_succ]
            refine take_at (i := 1) 110 ?_ rfl rfl (by kernel_rfl) (by kernel_rfl) (by kernel_rfl) (fun _ _ _ h => h) (.inl ⟨rfl, ?_⟩) BV.out ?_
            rotate_left 1
            · intro w hSw; go_simp; try with_reducible rfl
            simp only [Act.put, List.setIfInBounds_toArray, List.set_cons_zero, List.set_cons_succ]
            refine take_at (i := 2) 111 ?_ rfl rfl (by kernel_rfl) (by kernel_rfl) (by kernel_rfl) (fun _ _ _ h => h) (.inl ⟨rfl, ?_⟩) BV.out ?_
            rotate_left 1
            · intro w hSw; go_simp; try with_reducible rfl
            simp only [Act.put, List.setIfInBounds_toArray, List.set_cons_zero, List.set_cons_succ]
            refine take_at (i := 3) 112 ?_ rfl rfl (by kernel_rfl) (by kernel_rfl) (by kernel_rfl) (fun _ _ _ h => h) (.inl ⟨rfl, ?_⟩) BV.out ?_
            rotate_left 1
            · intro w hSw; go_simp; try with_reducible rfl
            simp only [Act.put, List.setIfInBounds_toArray, List.set_cons_zero, List.set_cons_succ]
            refine take_at (i := 4) 113 (.agg #[.int .i64 x1, .int .i64 x2, .string x3, .bool x4]) rfl rfl (by kernel_rfl) (by kernel_rfl) (by kernel_rfl) (fun _ _ _ h => h) (yields_ld (.tmp 11) 34 (.pointer (some ⟨g1, 0, none⟩)) _ M1.out rfl rfl rfl) BV.out ?_
            simp only [Act.put, List.setIfInBounds_toArray, List.set_cons_zero, List.set_cons_succ]
            refine take_at (i := 5) 114 (.agg #[.int .i64 x1, .int .i64 x2, .string x3, .bool x4]) rfl rfl (by kernel_rfl) (by kernel_rfl) (by kernel_rfl) (fun _ _ _ h => h) (yields_ld (.tmp 13) 29 (.pointer (some ⟨g2, 0, none⟩)) _ M2.out rfl rfl rfl) BV.out ?_
            simp only [Act.put, List.setIfInBounds_toArray, List.set_cons_zero, List.set_cons_succ]
            refine wpAnyH_ready (rs := [6]) (by kernel_rfl) (by simp) (br_call (i := 6) 115 12 #[.agg #[.int .i64 x1, .int .i64 x2, .string x3, .bool x4]] rfl rfl rfl (by go_simp) ((to_any _ x1 x2 x3 x4).mono ?_) AllReadyH.nil)
            rintro e v1 ⟨rfl, hb⟩
            have BV := Lib.hid (BV.out.trans (hb.mono BV.out.size))
            clear hb
            refine ⟨_, rfl, BV.out, fun _ => ?_⟩
            simp only [Act.put, List.setIfInBounds_toArray, List.set_cons_zero, List.set_cons_succ]
            refine take_at (i := 7) 116 ?_ rfl rfl (by kernel_rfl) (by kernel_rfl) (by kernel_rfl) (fun _ _ _ h => h) (.inl ⟨rfl, ?_⟩) BV.out ?_
            rotate_left 1
            · intro w hSw; go_simp; try with_reducible rfl
            simp only [Act.put, List.setIfInBounds_toArray, List.set_cons_zero, List.set_cons_succ]
            refine take_at (i := 8) 117 ?_ rfl rfl (by kernel_rfl) (by kernel_rfl) (by kernel_rfl) (fun _ _ _ h => h) (.inl ⟨rfl, ?_⟩) BV.out ?_
            rotate_left 1
            · intro w hSw; go_simp; try with_reducible rfl
            simp only [Act.put, List.setIfInBounds_toArray, List.set_cons_zero, List.set_cons_succ]
            refine wpAnyH_done (by kernel_rfl) ?_ _
            have PZ := Lib.hid (P9.out.step BV.out)
            clear M1 M2 BV P9
            go_wp2
            go_roundw
            case rel => exact ⟨i + 1, mm, by go_num, by omega, by omega, Lib.hid ⟨PZ.out, LM.out⟩⟩
            case measure => simp [intOf]; omega
          · refine wp_region_held_drew (S := fun w' => Below z4.heap.size z4 w') (by kernel_rfl) (Below.refl _ _).drew (fun hHeld => ?_)
            have BV := Lib.hid (show Below z4.heap.size z4 z4.drew from (Below.refl _ _).drew)
            clear hHeld
            refine take_at (i := 0) 109 ?_ rfl rfl (by kernel_rfl) (by kernel_rfl) (by kernel_rfl) (fun _ _ _ h => h) (.inl ⟨rfl, ?_⟩) BV.out ?_
            rotate_left 1
            · intro w hSw; go_simp; try with_reducible rfl
            simp only [Act.put, List.setIfInBounds_toArray, List.set_cons_zero, List.set_cons_succ]
            refine take_at (i := 1) 110 ?_ rfl rfl (by kernel_rfl) (by kernel_rfl) (by kernel_rfl) (fun _ _ _ h => h) (.inl ⟨rfl, ?_⟩) BV.out ?_
            rotate_left 1
            · intro w hSw; go_simp; try with_reducible rfl
            simp only [Act.put, List.setIfInBounds_toArray, List.set_cons_zero, List.set_cons_succ]
            refine take_at (i := 2) 111 ?_ rfl rfl (by kernel_rfl) (by kernel_rfl) (by kernel_rfl) (fun _ _ _ h => h) (.inl ⟨rfl, ?_⟩) BV.out ?_
            rotate_left 1
            · intro w hSw; go_simp; try with_reducible rfl
            simp only [Act.put, List.setIfInBounds_toArray, List.set_cons_zero, List.set_cons_succ]
            refine take_at (i := 3) 112 ?_ rfl rfl (by kernel_rfl) (by kernel_rfl) (by kernel_rfl) (fun _ _ _ h => h) (.inl ⟨rfl, ?_⟩) BV.out ?_
            rotate_left 1
            · intro w hSw; go_simp; try with_reducible rfl
            simp only [Act.put, List.setIfInBounds_toArray, List.set_cons_zero, List.set_cons_succ]
            refine take_at (i := 4) 113 (.agg #[.int .i64 x1, .int .i64 x2, .string x3, .bool x4]) rfl rfl (by kernel_rfl) (by kernel_rfl) (by kernel_rfl) (fun _ _ _ h => h) (yields_ld (.tmp 11) 34 (.pointer (some ⟨g1, 0, none⟩)) _ M1.out rfl rfl rfl) BV.out ?_
            simp only [Act.put, List.setIfInBounds_toArray, List.set_cons_zero, List.set_cons_succ]
            refine take_at (i := 5) 114 (.agg #[.int .i64 x1, .int .i64 x2, .string x3, .bool x4]) rfl rfl (by kernel_rfl) (by kernel_rfl) (by kernel_rfl) (fun _ _ _ h => h) (yields_ld (.tmp 13) 29 (.pointer (some ⟨g2, 0, none⟩)) _ M2.out rfl rfl rfl) BV.out ?_
            simp only [Act.put, List.setIfInBounds_toArray, List.set_cons_zero, List.set_cons_succ]
            refine wpAnyH_ready (rs := [6]) (by kernel_rfl) (by simp) (br_call (i := 6) 115 12 #[.agg #[.int .i64 x1, .int .i64 x2, .string x3, .bool x4]] rfl rfl rfl (by go_simp) ((to_any _ x1 x2 x3 x4).mono ?_) AllReadyH.nil)
            rintro e v2 ⟨rfl, hb⟩
            have BV := Lib.hid (BV.out.trans (hb.mono BV.out.size))
            clear hb
            refine ⟨_, rfl, BV.out, fun _ => ?_⟩
            simp only [Act.put, List.setIfInBounds_toArray, List.set_cons_zero, List.set_cons_succ]
            refine take_at (i := 7) 116 ?_ rfl rfl (by kernel_rfl) (by kernel_rfl) (by kernel_rfl) (fun _ _ _ h => h) (.inl ⟨rfl, ?_⟩) BV.out ?_
            rotate_left 1
            · intro w hSw; go_simp; try with_reducible rfl
            simp only [Act.put, List.setIfInBounds_toArray, List.set_cons_zero, List.set_cons_succ]
            refine take_at (i := 8) 117 ?_ rfl rfl (by kernel_rfl) (by kernel_rfl) (by kernel_rfl) (fun _ _ _ h => h) (.inl ⟨rfl, ?_⟩) BV.out ?_
            rotate_left 1
            · intro w hSw; go_simp; try with_reducible rfl
            simp only [Act.put, List.setIfInBounds_toArray, List.set_cons_zero, List.set_cons_succ]
            refine wpAnyH_done (by kernel_rfl) ?_ _
            have PZ := Lib.hid (P9.out.step BV.out)
            clear M1 M2 BV P9
            go_wp2
            go_roundw
            case rel => exact ⟨i + 1, mm, by go_num, by omega, by omega, Lib.hid ⟨PZ.out, LM.out⟩⟩
            case measure => simp [intOf]; omega
        · have t0 := bneb_ _ _ n0
          have t1 := bneb_ _ _ n1
          have t2 := bneb_ _ _ n2
          have t3 := bneb_ _ _ n3
          clear n0 n1 n2 n3
          have LM := Lib.hid (show m.length ≤ i + 1 from by have := LM.out; omega)
          have AA := Lib.hid A3.out
          have PP := Lib.hid P3.out
          clear A3 P3
          go_upto_region 19 with (fail)
          have FA := Lib.hid (fun W (hb : Below w2.heap.size w2 W) => AA.out.step hb)
          have FP := Lib.hid (fun W (hb : Below w2.heap.size w2 W) => PP.out.step hb)
          have LA := Lib.hid (fun W (hb : Below w2.heap.size w2 W) => load24 W _ _ _ (PP.out.st.step hb))
          have LP := Lib.hid (fun W (hb : Below w2.heap.size w2 W) => loadAP (AA.out.step hb))
          clear AA PP e0 e1 e2 e3 e4 e5 e6 t0 t1 t2 t3
          refine wp_region_held_drew (S := fun w' => Below w2.heap.size w2 w') (by kernel_rfl) (Below.refl _ _).drew (fun hHeld => ?_)
          have BV := Lib.hid (show Below w2.heap.size w2 w2.drew from (Below.refl _ _).drew)
          clear hHeld
          refine take_at (i := 0) 69 ?_ rfl rfl (by kernel_rfl) (by kernel_rfl) (by kernel_rfl) (fun _ _ _ h => h) (.inl ⟨rfl, ?_⟩) BV.out ?_
          rotate_left 1
          · intro w hSw; go_simp; try with_reducible rfl
          simp only [Act.put, List.setIfInBounds_toArray, List.set_cons_zero, List.set_cons_succ]
          refine take_at (i := 1) 70 ?_ rfl rfl (by kernel_rfl) (by kernel_rfl) (by kernel_rfl) (fun _ _ _ h => h) (.inl ⟨rfl, ?_⟩) BV.out ?_
          rotate_left 1
          · intro w hSw; go_simp; try with_reducible rfl
          simp only [Act.put, List.setIfInBounds_toArray, List.set_cons_zero, List.set_cons_succ]
          refine wpAnyH_ready (rs := [2]) (by kernel_rfl) (by simp) (br_call (i := 2) 71 17 #[.pointer (some ⟨p, 0, none⟩), .slice ra m.length rc] rfl rfl rfl (by go_simp) ((is_same _ p b _ m (FP.out _ BV.out).tab (FP.out _ BV.out).rows).mono ?_) AllReadyH.nil)
          rintro e v1 ⟨rfl, hb⟩
          have BV := Lib.hid (BV.out.trans (hb.mono BV.out.size))
          clear hb
          refine ⟨_, rfl, BV.out, fun _ => ?_⟩
          simp only [Act.put, List.setIfInBounds_toArray, List.set_cons_zero, List.set_cons_succ]
          refine take_at (i := 3) 72 ?_ rfl rfl (by kernel_rfl) (by kernel_rfl) (by kernel_rfl) (fun _ _ _ h => h) (.inl ⟨rfl, ?_⟩) BV.out ?_
          rotate_left 1
          · intro w hSw; go_simp; try with_reducible rfl
          simp only [Act.put, List.setIfInBounds_toArray, List.set_cons_zero, List.set_cons_succ]
          refine take_at (i := 4) 73 ?_ rfl rfl (by kernel_rfl) (by kernel_rfl) (by kernel_rfl) (fun _ _ _ h => h) (.inl ⟨rfl, ?_⟩) BV.out ?_
          rotate_left 1
          · intro w hSw; go_simp; try with_reducible rfl
          simp only [Act.put, List.setIfInBounds_toArray, List.set_cons_zero, List.set_cons_succ]
          refine take_at (i := 5) 74 ?_ rfl rfl (by kernel_rfl) (by kernel_rfl) (by kernel_rfl) (fun _ _ _ h => h) (.inl ⟨rfl, ?_⟩) BV.out ?_
          rotate_left 1
          · intro w hSw; go_simp; try with_reducible rfl
          simp only [Act.put, List.setIfInBounds_toArray, List.set_cons_zero, List.set_cons_succ]
          refine take_at (i := 6) 75 ?_ rfl rfl (by kernel_rfl) (by kernel_rfl) (by kernel_rfl) (fun _ _ _ h => h) (.inl ⟨rfl, ?_⟩) BV.out ?_
          rotate_left 1
          · intro w hSw; go_simp; try with_reducible rfl
          simp only [Act.put, List.setIfInBounds_toArray, List.set_cons_zero, List.set_cons_succ]
          refine take_at (i := 7) 76 ?_ rfl rfl (by kernel_rfl) (by kernel_rfl) (by kernel_rfl) (fun _ _ _ h => h) (.inl ⟨rfl, ?_⟩) BV.out ?_
          rotate_left 1
          · intro w hSw; go_simp; try with_reducible rfl
          simp only [Act.put, List.setIfInBounds_toArray, List.set_cons_zero, List.set_cons_succ]
          refine take_at (i := 8) 77 (.agg #[.int .i64 pt, .int .i64 pr]) rfl rfl (by kernel_rfl) (by kernel_rfl) (by kernel_rfl) (fun _ _ _ h => h) (yields_ld (.tmp 76) 24 (.pointer (some ⟨k2, 3, none⟩)) _ LP.out rfl rfl rfl) BV.out ?_
          simp only [Act.put, List.setIfInBounds_toArray, List.set_cons_zero, List.set_cons_succ]
          refine take_at (i := 10) 79 ?_ rfl rfl (by kernel_rfl) (by kernel_rfl) (by kernel_rfl) (fun _ _ _ h => h) (.inl ⟨rfl, ?_⟩) BV.out ?_
          rotate_left 1
          · intro w hSw; go_simp; try with_reducible rfl
          simp only [Act.put, List.setIfInBounds_toArray, List.set_cons_zero, List.set_cons_succ]
          refine take_at (i := 11) 80 ?_ rfl rfl (by kernel_rfl) (by kernel_rfl) (by kernel_rfl) (fun _ _ _ h => h) (.inl ⟨rfl, ?_⟩) BV.out ?_
          rotate_left 1
          · intro w hSw; go_simp; try with_reducible rfl
          simp only [Act.put, List.setIfInBounds_toArray, List.set_cons_zero, List.set_cons_succ]
          refine take_at (i := 12) 81 ?_ rfl rfl (by kernel_rfl) (by kernel_rfl) (by kernel_rfl) (fun _ _ _ h => h) (.inl ⟨rfl, ?_⟩) BV.out ?_
          rotate_left 1
          · intro w hSw; go_simp; try with_reducible rfl
          simp only [Act.put, List.setIfInBounds_toArray, List.set_cons_zero, List.set_cons_succ]
          refine take_at (i := 13) 82 (.agg #[.int .i64 pt, .int .i64 pr]) rfl rfl (by kernel_rfl) (by kernel_rfl) (by kernel_rfl) (fun _ _ _ h => h) (yields_ld (.tmp 81) 24 (.pointer (some ⟨k2, 3, none⟩)) _ LP.out rfl rfl rfl) BV.out ?_
          simp only [Act.put, List.setIfInBounds_toArray, List.set_cons_zero, List.set_cons_succ]
          refine wpAnyH_ready (rs := [9]) (by kernel_rfl) (by simp) (br_call (i := 9) 78 19 #[.pointer (some ⟨p, 0, none⟩), .agg #[.int .i64 pt, .int .i64 pr]] rfl rfl rfl (by go_simp) ((kids_any _ p b m (FP.out _ BV.out).tab (by have := LM.out; omega) pt pr).mono ?_) AllReadyH.nil)
          rintro e v2 ⟨u9, rfl, ho, hb⟩
          have BV := Lib.hid (BV.out.trans (hb.mono BV.out.size))
          have SK9 := Lib.hid (own_liesK encS_len ho)
          clear ho
          clear hb
          refine ⟨_, rfl, BV.out, fun _ => ?_⟩
          simp only [Act.put, List.setIfInBounds_toArray, List.set_cons_zero, List.set_cons_succ]
          refine wpAnyH_ready (rs := [14]) (by kernel_rfl) (by simp) (br_call (i := 14) 83 20 #[.slice ra m.length rc, .agg #[.int .i64 pt, .int .i64 pr]] rfl rfl rfl (by go_simp) ((rkids_any _ _ m (FP.out _ BV.out).rows (by have := LM.out; omega) pt pr).mono ?_) AllReadyH.nil)
          rintro e v3 ⟨u14, rfl, ho, hb⟩
          have BV := Lib.hid (BV.out.trans (hb.mono BV.out.size))
          have SK9 := Lib.hid (SK9.out.step hb)
          have SK14 := Lib.hid (own_liesK encS_len ho)
          clear ho
          clear hb
          refine ⟨_, rfl, BV.out, fun _ => ?_⟩
          simp only [Act.put, List.setIfInBounds_toArray, List.set_cons_zero, List.set_cons_succ]
          refine wpAnyH_ready (rs := [15]) (by kernel_rfl) (by simp) (br_call (i := 15) 84 18 #[u9, u14] rfl rfl rfl (by go_simp) ((same_self _ _ _ _ SK9.out SK14.out).mono ?_) AllReadyH.nil)
          rintro e v4 ⟨rfl, hb⟩
          have BV := Lib.hid (BV.out.trans (hb.mono BV.out.size))
          have SK9 := Lib.hid (SK9.out.step hb)
          have SK14 := Lib.hid (SK14.out.step hb)
          clear hb
          refine ⟨_, rfl, BV.out, fun _ => ?_⟩
          simp only [Act.put, List.setIfInBounds_toArray, List.set_cons_zero, List.set_cons_succ]
          refine take_at (i := 16) 85 ?_ rfl rfl (by kernel_rfl) (by kernel_rfl) (by kernel_rfl) (fun _ _ _ h => h) (.inl ⟨rfl, ?_⟩) BV.out ?_
          rotate_left 1
          · intro w hSw; go_simp; try with_reducible rfl
          simp only [Act.put, List.setIfInBounds_toArray, List.set_cons_zero, List.set_cons_succ]
          refine take_at (i := 17) 86 ?_ rfl rfl (by kernel_rfl) (by kernel_rfl) (by kernel_rfl) (fun _ _ _ h => h) (.inl ⟨rfl, ?_⟩) BV.out ?_
          rotate_left 1
          · intro w hSw; go_simp; try with_reducible rfl
          simp only [Act.put, List.setIfInBounds_toArray, List.set_cons_zero, List.set_cons_succ]
          refine take_at (i := 18) 87 ?_ rfl rfl (by kernel_rfl) (by kernel_rfl) (by kernel_rfl) (fun _ _ _ h => h) (.inl ⟨rfl, ?_⟩) BV.out ?_
          rotate_left 1
          · intro w hSw; go_simp; try with_reducible rfl
          simp only [Act.put, List.setIfInBounds_toArray, List.set_cons_zero, List.set_cons_succ]
          refine take_at (i := 19) 88 ?_ rfl rfl (by kernel_rfl) (by kernel_rfl) (by kernel_rfl) (fun _ _ _ h => h) (.inl ⟨rfl, ?_⟩) BV.out ?_
          rotate_left 1
          · intro w hSw; go_simp; try with_reducible rfl
          simp only [Act.put, List.setIfInBounds_toArray, List.set_cons_zero, List.set_cons_succ]
          refine take_at (i := 20) 89 (.agg #[.int .i64 q1, .int .i64 q2]) rfl rfl (by kernel_rfl) (by kernel_rfl) (by kernel_rfl) (fun _ _ _ h => h) (yields_ld (.tmp 3) 24 (.pointer (some ⟨w.heap.size, 0, none⟩)) _ LA.out rfl rfl rfl) BV.out ?_
          simp only [Act.put, List.setIfInBounds_toArray, List.set_cons_zero, List.set_cons_succ]
          refine take_at (i := 22) 91 ?_ rfl rfl (by kernel_rfl) (by kernel_rfl) (by kernel_rfl) (fun _ _ _ h => h) (.inl ⟨rfl, ?_⟩) BV.out ?_
          rotate_left 1
          · intro w hSw; go_simp; try with_reducible rfl
          simp only [Act.put, List.setIfInBounds_toArray, List.set_cons_zero, List.set_cons_succ]
          refine take_at (i := 23) 92 (.agg #[.int .i64 q1, .int .i64 q2]) rfl rfl (by kernel_rfl) (by kernel_rfl) (by kernel_rfl) (fun _ _ _ h => h) (yields_ld (.tmp 3) 24 (.pointer (some ⟨w.heap.size, 0, none⟩)) _ LA.out rfl rfl rfl) BV.out ?_
          simp only [Act.put, List.setIfInBounds_toArray, List.set_cons_zero, List.set_cons_succ]
          refine wpAnyH_ready (rs := [21]) (by kernel_rfl) (by simp) (br_call (i := 21) 90 19 #[.pointer (some ⟨p, 0, none⟩), .agg #[.int .i64 q1, .int .i64 q2]] rfl rfl rfl (by go_simp) ((kids_any _ p b m (FP.out _ BV.out).tab (by have := LM.out; omega) q1 q2).mono ?_) AllReadyH.nil)
          rintro e v5 ⟨u21, rfl, ho, hb⟩
          have BV := Lib.hid (BV.out.trans (hb.mono BV.out.size))
          have SK9 := Lib.hid (SK9.out.step hb)
          have SK14 := Lib.hid (SK14.out.step hb)
          have SK21 := Lib.hid (own_liesK encS_len ho)
          clear ho
          clear hb
          refine ⟨_, rfl, BV.out, fun _ => ?_⟩
          simp only [Act.put, List.setIfInBounds_toArray, List.set_cons_zero, List.set_cons_succ]
          refine wpAnyH_ready (rs := [24]) (by kernel_rfl) (by simp) (br_call (i := 24) 93 20 #[.slice ra m.length rc, .agg #[.int .i64 q1, .int .i64 q2]] rfl rfl rfl (by go_simp) ((rkids_any _ _ m (FP.out _ BV.out).rows (by have := LM.out; omega) q1 q2).mono ?_) AllReadyH.nil)
          rintro e v6 ⟨u24, rfl, ho, hb⟩
          have BV := Lib.hid (BV.out.trans (hb.mono BV.out.size))
          have SK9 := Lib.hid (SK9.out.step hb)
          have SK14 := Lib.hid (SK14.out.step hb)
          have SK21 := Lib.hid (SK21.out.step hb)
          have SK24 := Lib.hid (own_liesK encS_len ho)
          clear ho
          clear hb
          refine ⟨_, rfl, BV.out, fun _ => ?_⟩
          simp only [Act.put, List.setIfInBounds_toArray, List.set_cons_zero, List.set_cons_succ]
          refine wpAnyH_ready (rs := [25]) (by kernel_rfl) (by simp) (br_call (i := 25) 94 18 #[u21, u24] rfl rfl rfl (by go_simp) ((same_self _ _ _ _ SK21.out SK24.out).mono ?_) AllReadyH.nil)
          rintro e v7 ⟨rfl, hb⟩
          have BV := Lib.hid (BV.out.trans (hb.mono BV.out.size))
          have SK9 := Lib.hid (SK9.out.step hb)
          have SK14 := Lib.hid (SK14.out.step hb)
          have SK21 := Lib.hid (SK21.out.step hb)
          have SK24 := Lib.hid (SK24.out.step hb)
          clear hb
          refine ⟨_, rfl, BV.out, fun _ => ?_⟩
          simp only [Act.put, List.setIfInBounds_toArray, List.set_cons_zero, List.set_cons_succ]
          refine take_at (i := 26) 95 ?_ rfl rfl (by kernel_rfl) (by kernel_rfl) (by kernel_rfl) (fun _ _ _ h => h) (.inl ⟨rfl, ?_⟩) BV.out ?_
          rotate_left 1
          · intro w hSw; go_simp; try with_reducible rfl
          simp only [Act.put, List.setIfInBounds_toArray, List.set_cons_zero, List.set_cons_succ]
          refine take_at (i := 27) 96 ?_ rfl rfl (by kernel_rfl) (by kernel_rfl) (by kernel_rfl) (fun _ _ _ h => h) (.inl ⟨rfl, ?_⟩) BV.out ?_
          rotate_left 1
          · intro w hSw; go_simp; try with_reducible rfl
          simp only [Act.put, List.setIfInBounds_toArray, List.set_cons_zero, List.set_cons_succ]
          refine wpAnyH_done (by kernel_rfl) ?_ _
          have P5 := Lib.hid (FP.out _ BV.out)
          clear FP FA LA LP SK9 SK14 SK21 SK24 BV
          go_upto_region 21 with (fail)
          obtain ⟨x1, x2, x3, x4, hx⟩ := gv_form m q1 q2
          have GT := Lib.hid (get_any v7 p b m P5.out.tab q1 q2 HQ.out.1 HQ.out.2)
          have GR := Lib.hid (fun W hr => rget_any W (.slice ra m.length rc) m hr q1 q2)
          rw [hx] at GT GR
          clear hx
          obtain ⟨ok, hok⟩ : ∃ y, (getF m q1 q2).isSome = y := ⟨_, rfl⟩
          rw [hok] at GT GR
          clear hok
          obtain ⟨c1, c2⟩ := P5.out.st.cells
          go_wp2_with fail
          refine GT.out.mono ?_
          rintro e z1 ⟨rfl, hb⟩
          have P6 := Lib.hid (P5.out.step hb)
          clear hb c1 c2 GT P5
          go_upto_region 22 with (fail)
          have B7 := Lib.hid (vstep z1 (.cells #[.int .i64 x1, .int .i64 x2, .string x3, .bool x4] 34))
          have P7 := Lib.hid (P6.out.step B7.out)
          have E7 := Lib.hid (EnAt.new z1 x1 x2 x3 x4)
          obtain ⟨g1, hg1⟩ : ∃ k, z1.heap.size = k := ⟨_, rfl⟩
          rw [hg1] at E7 ⊢
          generalize (z1.alloc (.cells #[.int .i64 x1, .int .i64 x2, .string x3, .bool x4] 34)) = z2 at *
          clear B7 hg1 P6
          have GR2 := Lib.hid (GR.out z2 P7.out.rows)
          obtain ⟨c1, c2⟩ := P7.out.st.cells
          go_wp2_with fail
          refine GR2.out.mono ?_
          rintro e z3 ⟨rfl, hb⟩
          have P8 := Lib.hid (P7.out.step hb)
          have E8 := Lib.hid (E7.out.step hb)
          clear hb c1 c2 GR GR2 P7 E7
          go_upto_region 23 with (fail)
          have B9 := Lib.hid (vstep z3 (.cells #[.int .i64 x1, .int .i64 x2, .string x3, .bool x4] 29))
          have P9 := Lib.hid (P8.out.step B9.out)
          have E9 := Lib.hid (E8.out.step B9.out)
          have F9 := Lib.hid (show EnB 29 (z3.alloc (.cells #[.int .i64 x1, .int .i64 x2, .string x3, .bool x4] 29)) z3.heap.size x1 x2 x3 x4 from heap_alloc_new z3 _)
          obtain ⟨g2, hg2⟩ : ∃ k, z3.heap.size = k := ⟨_, rfl⟩
          rw [hg2] at F9 ⊢
          generalize (z3.alloc (.cells #[.int .i64 x1, .int .i64 x2, .string x3, .bool x4] 29)) = z4 at *
          clear B9 hg2 P8 E8
          have M1 := Lib.hid (fun W (hb : Below z4.heap.size z4 W) => load34 (E9.out.step hb))
          have M2 := Lib.hid (fun W (hb : Below z4.heap.size z4 W) => load29 W _ _ _ _ _ (F9.out.step hb))
          clear E9 F9
          cases ok
          · refine wp_region_held_drew (S := fun w' => Below z4.heap.size z4 w') (by kernel_rfl) (Below.refl _ _).drew (fun hHeld => ?_)
            have BV := Lib.hid (show Below z4.heap.size z4 z4.drew from (Below.refl _ _).drew)
            clear hHeld
            refine take_at (i := 0) 109 ?_ rfl rfl (by kernel_rfl) (by kernel_rfl) (by kernel_rfl) (fun _ _ _ h => h) (.inl ⟨rfl, ?_⟩) BV.out ?_
            rotate_left 1
            · intro w hSw; go_simp; try with_reducible rfl
            simp only [Act.put, List.setIfInBounds_toArray, List.set_cons_zero, List.set_cons_succ]
            refine take_at (i := 1) 110 ?_ rfl rfl (by kernel_rfl) (by kernel_rfl) (by kernel_rfl) (fun _ _ _ h => h) (.inl ⟨rfl, ?_⟩) BV.out ?_
            rotate_left 1
            · intro w hSw; go_simp; try with_reducible rfl
            simp only [Act.put, List.setIfInBounds_toArray, List.set_cons_zero, List.set_cons_succ]
            refine take_at (i := 2) 111 ?_ rfl rfl (by kernel_rfl) (by kernel_rfl) (by kernel_rfl) (fun _ _ _ h => h) (.inl ⟨rfl, ?_⟩) BV.out ?_
            rotate_left 1
            · intro w hSw; go_simp; try with_reducible rfl
            simp only [Act.put, List.setIfInBounds_toArray, List.set_cons_zero, List.set_cons_succ]
            refine take_at (i := 3) 112 ?_ rfl rfl (by kernel_rfl) (by kernel_rfl) (by kernel_rfl) (fun _ _ _ h => h) (.inl ⟨rfl, ?_⟩) BV.out ?_
            rotate_left 1
            · intro w hSw; go_simp; try with_reducible rfl
            simp only [Act.put, List.setIfInBounds_toArray, List.set_cons_zero, List.set_cons_succ]
            refine take_at (i := 4) 113 (.agg #[.int .i64 x1, .int .i64 x2, .string x3, .bool x4]) rfl rfl (by kernel_rfl) (by kernel_rfl) (by kernel_rfl) (fun _ _ _ h => h) (yields_ld (.tmp 11) 34 (.pointer (some ⟨g1, 0, none⟩)) _ M1.out rfl rfl rfl) BV.out ?_
            simp only [Act.put, List.setIfInBounds_toArray, List.set_cons_zero, List.set_cons_succ]
            refine take_at (i := 5) 114 (.agg #[.int .i64 x1, .int .i64 x2, .string x3, .bool x4]) rfl rfl (by kernel_rfl) (by kernel_rfl) (by kernel_rfl) (fun _ _ _ h => h) (yields_ld (.tmp 13) 29 (.pointer (some ⟨g2, 0, none⟩)) _ M2.out rfl rfl rfl) BV.out ?_
            simp only [Act.put, List.setIfInBounds_toArray, List.set_cons_zero, List.set_cons_succ]
            refine wpAnyH_ready (rs := [6]) (by kernel_rfl) (by simp) (br_call (i := 6) 115 12 #[.agg #[.int .i64 x1, .int .i64 x2, .string x3, .bool x4]] rfl rfl rfl (by go_simp) ((to_any _ x1 x2 x3 x4).mono ?_) AllReadyH.nil)
            rintro e v1 ⟨rfl, hb⟩
            have BV := Lib.hid (BV.out.trans (hb.mono BV.out.size))
            clear hb
            refine ⟨_, rfl, BV.out, fun _ => ?_⟩
            simp only [Act.put, List.setIfInBounds_toArray, List.set_cons_zero, List.set_cons_succ]
            refine take_at (i := 7) 116 ?_ rfl rfl (by kernel_rfl) (by kernel_rfl) (by kernel_rfl) (fun _ _ _ h => h) (.inl ⟨rfl, ?_⟩) BV.out ?_
            rotate_left 1
            · intro w hSw; go_simp; try with_reducible rfl
            simp only [Act.put, List.setIfInBounds_toArray, List.set_cons_zero, List.set_cons_succ]
            refine take_at (i := 8) 117 ?_ rfl rfl (by kernel_rfl) (by kernel_rfl) (by kernel_rfl) (fun _ _ _ h => h) (.inl ⟨rfl, ?_⟩) BV.out ?_
            rotate_left 1
            · intro w hSw; go_simp; try with_reducible rfl
            simp only [Act.put, List.setIfInBounds_toArray, List.set_cons_zero, List.set_cons_succ]
            refine wpAnyH_done (by kernel_rfl) ?_ _
            have PZ := Lib.hid (P9.out.step BV.out)
            clear M1 M2 BV P9
            go_wp2
            go_roundw
            case rel => exact ⟨i + 1, m, by go_num, by omega, by omega, Lib.hid ⟨PZ.out, LM.out⟩⟩
            case measure => simp [intOf]; omega
          · refine wp_region_held_drew (S := fun w' => Below z4.heap.size z4 w') (by kernel_rfl) (Below.refl _ _).drew (fun hHeld => ?_)
            have BV := Lib.hid (show Below z4.heap.size z4 z4.drew from (Below.refl _ _).drew)
            clear hHeld
            refine take_at (i := 0) 109 ?_ rfl rfl (by kernel_rfl) (by kernel_rfl) (by kernel_rfl) (fun _ _ _ h => h) (.inl ⟨rfl, ?_⟩) BV.out ?_
            rotate_left 1
            · intro w hSw; go_simp; try with_reducible rfl
            simp only [Act.put, List.setIfInBounds_toArray, List.set_cons_zero, List.set_cons_succ]
            refine take_at (i := 1) 110 ?_ rfl rfl (by kernel_rfl) (by kernel_rfl) (by kernel_rfl) (fun _ _ _ h => h) (.inl ⟨rfl, ?_⟩) BV.out ?_
            rotate_left 1
            · intro w hSw; go_simp; try with_reducible rfl
            simp only [Act.put, List.setIfInBounds_toArray, List.set_cons_zero, List.set_cons_succ]
            refine take_at (i := 2) 111 ?_ rfl rfl (by kernel_rfl) (by kernel_rfl) (by kernel_rfl) (fun _ _ _ h => h) (.inl ⟨rfl, ?_⟩) BV.out ?_
            rotate_left 1
            · intro w hSw; go_simp; try with_reducible rfl
            simp only [Act.put, List.setIfInBounds_toArray, List.set_cons_zero, List.set_cons_succ]
            refine take_at (i := 3) 112 ?_ rfl rfl (by kernel_rfl) (by kernel_rfl) (by kernel_rfl) (fun _ _ _ h => h) (.inl ⟨rfl, ?_⟩) BV.out ?_
            rotate_left 1
            · intro w hSw; go_simp; try with_reducible rfl
            simp only [Act.put, List.setIfInBounds_toArray, List.set_cons_zero, List.set_cons_succ]
            refine take_at (i := 4) 113 (.agg #[.int .i64 x1, .int .i64 x2, .string x3, .bool x4]) rfl rfl (by kernel_rfl) (by kernel_rfl) (by kernel_rfl) (fun _ _ _ h => h) (yields_ld (.tmp 11) 34 (.pointer (some ⟨g1, 0, none⟩)) _ M1.out rfl rfl rfl) BV.out ?_
            simp only [Act.put, List.setIfInBounds_toArray, List.set_cons_zero, List.set_cons_succ]
            refine take_at (i := 5) 114 (.agg #[.int .i64 x1, .int .i64 x2, .string x3, .bool x4]) rfl rfl (by kernel_rfl) (by kernel_rfl) (by kernel_rfl) (fun _ _ _ h => h) (yields_ld (.tmp 13) 29 (.pointer (some ⟨g2, 0, none⟩)) _ M2.out rfl rfl rfl) BV.out ?_
            simp only [Act.put, List.setIfInBounds_toArray, List.set_cons_zero, List.set_cons_succ]
            refine wpAnyH_ready (rs := [6]) (by kernel_rfl) (by simp) (br_call (i := 6) 115 12 #[.agg #[.int .i64 x1, .int .i64 x2, .string x3, .bool x4]] rfl rfl rfl (by go_simp) ((to_any _ x1 x2 x3 x4).mono ?_) AllReadyH.nil)
            rintro e v2 ⟨rfl, hb⟩
            have BV := Lib.hid (BV.out.trans (hb.mono BV.out.size))
            clear hb
            refine ⟨_, rfl, BV.out, fun _ => ?_⟩
            simp only [Act.put, List.setIfInBounds_toArray, List.set_cons_zero, List.set_cons_succ]
            refine take_at (i := 7) 116 ?_ rfl rfl (by kernel_rfl) (by kernel_rfl) (by kernel_rfl) (fun _ _ _ h => h) (.inl ⟨rfl, ?_⟩) BV.out ?_
            rotate_left 1
            · intro w hSw; go_simp; try with_reducible rfl
            simp only [Act.put, List.setIfInBounds_toArray, List.set_cons_zero, List.set_cons_succ]
            refine take_at (i := 8) 117 ?_ rfl rfl (by kernel_rfl) (by kernel_rfl) (by kernel_rfl) (fun _ _ _ h => h) (.inl ⟨rfl, ?_⟩) BV.out ?_
            rotate_left 1
            · intro w hSw; go_simp; try with_reducible rfl
            simp only [Act.put, List.setIfInBounds_toArray, List.set_cons_zero, List.set_cons_succ]
            refine wpAnyH_done (by kernel_rfl) ?_ _
            have PZ := Lib.hid (P9.out.step BV.out)
            clear M1 M2 BV P9
            go_wp2
            go_roundw
            case rel => exact ⟨i + 1, m, by go_num, by omega, by omega, Lib.hid ⟨PZ.out, LM.out⟩⟩
            case measure => simp [intOf]; omega
      · have ND := Lib.hid (nodes_any wr p b m P2.out.tab (by have := LM.out; omega))
        have RN := Lib.hid (fun W (hb : Below wr.heap.size wr W) => rnodes_any W _ m (P2.out.rows.step hb) (by have := LM.out; omega))
        have AW := Lib.hid (fun W => awake_any W)
        have BE := Lib.hid P2.out.bel
        clear P2
        go_wp2_with fail
        refine ND.out.mono ?_
        rintro e z1 ⟨u1, rfl, ho, hb⟩
        have BB := Lib.hid hb
        have SK := Lib.hid (own_liesK encS_len ho)
        clear ho hb
        have RN2 := Lib.hid (RN.out _ BB.out)
        go_wp2_with fail
        refine RN2.out.mono ?_
        rintro e z2 ⟨u2, rfl, ho, hb⟩
        have BB := Lib.hid (BB.out.trans (hb.mono BB.out.size))
        have SK := Lib.hid (SK.out.step hb)
        have SL := Lib.hid (own_liesK encS_len ho)
        clear ho hb RN2 RN
        have SS := Lib.hid (same_self _ _ _ _ SK.out SL.out)
        go_wp2_with fail
        refine SS.out.mono ?_
        rintro e z3 ⟨rfl, hb⟩
        have BB := Lib.hid (BB.out.trans (hb.mono BB.out.size))
        clear hb SS SK SL
        have AW2 := Lib.hid (AW.out z3)
        go_wp2_with fail
        refine AW2.out.mono ?_
        rintro e z4 ⟨rfl, hb⟩
        have BB := Lib.hid (BB.out.trans (hb.mono BB.out.size))
        clear hb AW AW2
        have FIN := Lib.hid (BE.out.trans (BB.out.mono BE.out.size))
        go_wp2
        go_returns
        exact ⟨rfl, FIN.out⟩
    · have ND := Lib.hid (nodes_any wr p b m P2.out.tab (by have := LM.out; omega))
      have RN := Lib.hid (fun W (hb : Below wr.heap.size wr W) => rnodes_any W _ m (P2.out.rows.step hb) (by have := LM.out; omega))
      have AW := Lib.hid (fun W => awake_any W)
      have BE := Lib.hid P2.out.bel
      clear P2
      go_wp2_with fail
      refine ND.out.mono ?_
      rintro e z1 ⟨u1, rfl, ho, hb⟩
      have BB := Lib.hid hb
      have SK := Lib.hid (own_liesK encS_len ho)
      clear ho hb
      have RN2 := Lib.hid (RN.out _ BB.out)
      go_wp2_with fail
      refine RN2.out.mono ?_
      rintro e z2 ⟨u2, rfl, ho, hb⟩
      have BB := Lib.hid (BB.out.trans (hb.mono BB.out.size))
      have SK := Lib.hid (SK.out.step hb)
      have SL := Lib.hid (own_liesK encS_len ho)
      clear ho hb RN2 RN
      have SS := Lib.hid (same_self _ _ _ _ SK.out SL.out)
      go_wp2_with fail
      refine SS.out.mono ?_
      rintro e z3 ⟨rfl, hb⟩
      have BB := Lib.hid (BB.out.trans (hb.mono BB.out.size))
      clear hb SS SK SL
      have AW2 := Lib.hid (AW.out z3)
      go_wp2_with fail
      refine AW2.out.mono ?_
      rintro e z4 ⟨rfl, hb⟩
      have BB := Lib.hid (BB.out.trans (hb.mono BB.out.size))
      clear hb AW AW2
      have FIN := Lib.hid (BE.out.trans (BB.out.mono BE.out.size))
      go_wp2
      go_returns
      exact ⟨rfl, FIN.out⟩
end Go.Proofs.Ytegmlekeielmoaa
