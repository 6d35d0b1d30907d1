/- GapTurns' law. Made by gengtw28.py, with tools/drawn.py. -/
import Derived.Test.YtgnnpfainoppeaaGTP
import Derived.Deep.CutBlock
set_option linter.unusedVariables false
set_option linter.unusedSimpArgs false
set_option maxRecDepth 100000
namespace Go.Proofs.Ytgnnpfainoppeaa
open Go.RowKit Go.WideMaps Go.Maps
open Ve (zs zs_len vw va RightP cs3 cs3_append)

theorem ne35 (o : O) (W : World) : (binOp .neq 35 (oV o) (oV o)).run Try.prog W = .ok (.bool false) W := by
  unfold oV oCells
  go_simp
theorem yields_ne35 {ops : Array Oper} {S : World → Prop} {op : Oper} {a : Act} (x y : Operand) (q : O) (hw : Region.wanted op (yielded ops a.tmps) = true) (ho : op.op = .binOp .neq 35 x y 35)
    (hx : a.eval x = oV q) (hy : a.eval y = oV q) : YieldsIf Try.prog ops S op (.bool false) a :=
  .inl ⟨hw, fun w _ => by
    have e1 : (eqGuard .neq 35 x y (oV q) (oV q)).run Try.prog w = .ok () w := by unfold oV; exact run_eqGuard_agg w .neq 35 x y _ _ egt40
    unfold execOp
    simp only [ho, hx, hy, e1, ne35, Sem.run_bind, Sem.run_pure, Result.andThen_ok]⟩
abbrev v16 : Value := .agg #[.int .i64 16, .int .i64 16, .int .i64 16, .int .i64 16]
theorem eq55 (W : World) : (binOp .eql 55 v16 v16).run Try.prog W = .ok (.bool true) W := by kernel_rfl
theorem egt55 : (Try.prog.eqGuardType Try.prog.depth 55) = false := by kernel_rfl
theorem wpList_eq55 {w : World} {ops : Array Oper} {rest : List Oper} {o : Oper} {a : Act} {Q : Exit → Act → World → Prop} (hgd : o.guard = none) (x y : Operand)
    (ho : o.op = .binOp .eql 55 x y 55) (hx : a.eval x = v16) (hy : a.eval y = v16) (h : wpList Try.prog ops Q rest (a.put o.dst (.bool true)) w) : wpList Try.prog ops Q (o :: rest) a w :=
  wpList_plain hgd fun _ hK => by
    unfold Oper.wp execOp
    have e1 : (eqGuard .eql 55 x y v16 v16).run Try.prog w = .ok () w := run_eqGuard_agg w .eql 55 x y _ _ egt55
    simp only [ho, hx, hy, e1, eq55, Sem.run_bind, Sem.run_pure, Result.andThen_ok]
    exact hK _ _ h
def z4 : Array Value := #[.int .i64 0, .int .i64 0, .int .i64 0, .int .i64 0]
structure TW (w W : World) (p b k k7 : Nat) (l : List O) (vv : List Int) : Prop where
  lw : LW w W p b k l vv
  arr : W.heap[k7]? = some (.cells z4 55 (0, 0))
  klo : w.heap.size ≤ k
  tp : TP l vv
  lo7 : w.heap.size ≤ k7
theorem TW.step {w W W' : World} {p b k k7 : Nat} {l : List O} {vv : List Int} (h : TW w W p b k k7 l vv) (hb : Below W.heap.size W W') : TW w W' p b k k7 l vv :=
  ⟨h.lw.step hb, (hb.block _ (lt_of_block h.arr)).trans h.arr, h.klo, h.tp, h.lo7⟩
theorem TW.out {w W W' : World} {p b k k7 : Nat} {l l' : List O} {vv : List Int} (h : TW w W p b k k7 l vv) (ho : GOut W W' p b l') (ht : TP l' vv) : TW w W' p b k k7 l' vv :=
  ⟨h.lw.out ho, (ho.grow.block _ (lt_of_block h.arr) (fun e => h.lw.gap.map.nocells h.arr (by injection e))).trans h.arr, h.klo, ht, h.lo7⟩
theorem TW.set {w W : World} {p b k k7 : Nat} {l : List O} {vv : List Int} (h : TW w W p b k k7 l vv) (o : O) (ho : In4 o.r o.q) (j : Nat) (hj : j = o.r.toNat) : TW w (W.setCell ⟨k, j, none⟩ (.int .i64 o.q)) p b k k7 l (kup vv o) ∧ Far (fun m => m = k) W (W.setCell ⟨k, j, none⟩ (.int .i64 o.q)) := by
  subst hj
  have FS : Far (fun m => m = k) W (W.setCell ⟨k, o.r.toNat, none⟩ (.int .i64 o.q)) := ⟨rfl, rfl, rfl, by simp [World.setCell], fun m _ hn => heap_setCell_other W ⟨k, o.r.toNat, none⟩ m _ (fun e => hn (by rw [e]))⟩
  have hpk : p ≠ k := fun e => by
    have h1 := h.lw.gap.box
    rw [e, h.lw.vec] at h1
    injection h1 with h1
    injection h1 with _ h1
    cases h1
  have h7k : k7 ≠ k := fun e => by
    have h1 := h.arr
    rw [e, h.lw.vec] at h1
    injection h1 with h1
    injection h1 with _ h1
    cases h1
  have hg : W.grownBy (W.setCell ⟨k, o.r.toNat, none⟩ (.int .i64 o.q)) (some k) := ⟨FS.os, FS.tape, FS.output, FS.size, fun m hm hn => FS.block m hm (fun e => hn (by rw [e]))⟩
  exact ⟨⟨⟨h.lw.bel.trans (FS.below h.lw.bel.size (fun m q => by rw [q]; exact h.klo)), ⟨(FS.block p h.lw.gap.plt hpk).trans h.lw.gap.box, h.lw.gap.map.grown hg (fun e => h.lw.kb (by injection e with e; exact e.symm))⟩, by
    rw [Ve.row_setC h.lw.vec, Ve.va_set]; rfl, h.lw.lo⟩, (FS.block k7 (lt_of_block h.arr) h7k).trans h.arr, h.klo, h.tp.kupd (l' := l) ho, h.lo7⟩, FS⟩
def a4 (r : Nat) : Array Value := ((List.replicate r (16 : Int) ++ List.replicate (4 - r) (0 : Int)).map (fun x : Int => Value.int .i64 x)).toArray
theorem a4_set {r : Nat} (h : r < 4) : (a4 r).setIfInBounds r (.int .i64 16) = a4 (r + 1) := by
  match r, h with
  | 0, _ => rfl
  | 1, _ => rfl
  | 2, _ => rfl
  | 3, _ => rfl
theorem a4_get {r : Nat} (h : r < 4) : (a4 r)[r]? = some (.int .i64 0) := by
  match r, h with
  | 0, _ => rfl
  | 1, _ => rfl
  | 2, _ => rfl
  | 3, _ => rfl
/-- In the end: the known numbers are copied. -/
structure TE (w W : World) (p b k k7 : Nat) (vv : List Int) (r : Nat) : Prop where
  lw : LW w W p b k [] vv
  arr : W.heap[k7]? = some (.cells (a4 r) 55 (0, 0))
  lo7 : w.heap.size ≤ k7
theorem TE.next {w W : World} {p b k k7 : Nat} {vv : List Int} {r : Nat} (h : TE w W p b k k7 vv r) (hr : r < 4) : TE w (W.setCell ⟨k7, r, none⟩ (.int .i64 16)) p b k k7 vv (r + 1) := by
  have FS : Far (fun m => m = k7) W (W.setCell ⟨k7, r, none⟩ (.int .i64 16)) := ⟨rfl, rfl, rfl, by simp [World.setCell], fun m _ hn => heap_setCell_other W ⟨k7, r, none⟩ m _ (fun e => hn (by rw [e]))⟩
  have hpk : p ≠ k7 := fun e => by
    have h1 := h.lw.gap.box
    rw [e, h.arr] at h1
    injection h1 with h1
    injection h1 with _ h1
    cases h1
  have h7k : k ≠ k7 := fun e => by
    have h1 := h.arr
    rw [← e, h.lw.vec] at h1
    injection h1 with h1
    injection h1 with _ h1
    cases h1
  have hg : W.grownBy (W.setCell ⟨k7, r, none⟩ (.int .i64 16)) (some k7) := ⟨FS.os, FS.tape, FS.output, FS.size, fun m hm hn => FS.block m hm (fun e => hn (by rw [e]))⟩
  exact ⟨⟨h.lw.bel.trans (FS.below h.lw.bel.size (fun m q => by rw [q]; exact h.lo7)), ⟨(FS.block p h.lw.gap.plt hpk).trans h.lw.gap.box, h.lw.gap.map.grown hg (fun e => h.lw.gap.map.nocells h.arr (by injection e with e; exact e.symm))⟩,
    (FS.block k (lt_of_block h.lw.vec) h7k).trans h.lw.vec, h.lw.lo⟩, by rw [Ve.row_setC h.arr, a4_set hr], h.lo7⟩
theorem own_not29 {W : World} {B n k : Nat} {v : Value} {xs : List Value} {c : Array Value} {x : Nat × Nat} (h : W.ownsRow B 35 9 v n xs) (hk : W.heap[k]? = some (.cells c 29 x)) : v.ownBlock ≠ some k := by
  intro e
  rcases h.2 with ⟨e1, _⟩ | ⟨g, cap, cur, e1, _, hb, _⟩
  · rw [e1] at e; cases e
  · rw [e1] at e
    injection e with e
    have e : g = k := e
    subst e
    rw [hk] at hb
    injection hb with hb
    injection hb with _ hb
    cases hb
set_option maxHeartbeats 12800000 in
theorem turns_law (w : World) (v : Value) (bs : List Int) (h : BLies w v bs) (m : Int) (hm : 0 ≤ m ∧ m < 256) : Calls Try.prog 4 #[v, .int .u8 m] w fun e w' => e = .returned (.bool true) ∧ Below w.heap.size w w' := by
  have H := Lib.hid h
  have hl : bs.length ≤ 9223372036854775807 := by obtain ⟨_, _, _, h, _⟩ := h; exact h
  have AWK := Lib.hid (fun W => awake_any W)
  have NW := Lib.hid (new_any w)
  have AL := Lib.hid (fun W => Ve.alloc_va Ve.z24 W)
  obtain ⟨ao, cap, rfl⟩ : ∃ ao cap, v = .slice ao bs.length cap := by obtain ⟨ao, cap, e, _⟩ := h; exact ⟨ao, cap, e⟩
  clear h
  have LW0 := Lib.hid (fun (W1 : World) p b (h1 : GapI W1 p b []) (h2 : w.heap.size ≤ b) (h3 : Below w.heap.size w W1) =>
    (show TW w ((W1.alloc (.cells (va zs) 29)).alloc (.cells z4 55)) p b W1.heap.size (W1.heap.size + 1) [] zs from by
      have hb := vstep W1 (.cells (va zs) 29)
      have hc := vstep (W1.alloc (.cells (va zs) 29)) (.cells z4 55)
      have hs : (W1.alloc (.cells (va zs) 29)).heap.size = W1.heap.size + 1 := by simp
      have hbc := hb.trans (hc.mono hb.size)
      have hn := heap_alloc_new (W1.alloc (.cells (va zs) 29)) (.cells z4 55)
      rw [hs] at hn
      exact ⟨⟨h3.trans (hbc.mono h3.size), h1.step hbc, (hc.block _ (by omega)).trans (heap_alloc_new W1 _), h2⟩, hn, h3.size, tp0, by have := h3.size; omega⟩))
  obtain ⟨n, hn⟩ : ∃ n : Nat, 1 + m % 8 = (n : Int) := ⟨(1 + m % 8).toNat, by omega⟩
  have HN := Lib.hid (show 1 ≤ n ∧ n ≤ 8 by omega)
  go_enter Try.func4, Try.ntmps4
  go_wp2_with fail
  refine NW.out.mono ?_
  rintro e w1 ⟨p, b, rfl, h1, h2, h3, hb1⟩
  have K0 := Lib.hid (LW0.out w1 p b h1 h3 hb1)
  have A1 := Lib.hid (AL.out w1)
  obtain ⟨VZ, hVZ⟩ : ∃ z, va zs = z := ⟨_, rfl⟩
  rw [hVZ] at A1 K0
  have S1 := Lib.hid (show (w1.alloc (.cells VZ 29)).heap.size = w1.heap.size + 1 by simp)
  have HZ4 := Lib.hid (show z4 = #[.int .i64 0, .int .i64 0, .int .i64 0, .int .i64 0] from rfl)
  rw [HZ4.out] at K0
  obtain ⟨wa, hwa⟩ : ∃ z, w1.alloc (.cells VZ 29) = z := ⟨_, rfl⟩
  rw [hwa] at A1 K0 S1
  obtain ⟨k, hk⟩ : ∃ z, w1.heap.size = z := ⟨_, rfl⟩
  rw [hk] at A1 S1
  obtain ⟨k7, hk7⟩ : ∃ z, wa.heap.size = z := ⟨_, rfl⟩
  rw [hk, ← S1.out, hk7] at K0
  clear h1 h2 h3 hb1 NW LW0 hVZ hwa hk S1 AL
  go_upto_region 4 with (first | (refine Ve.wpList_alloc_arr rfl 29 rfl _ _ A1.out ?_; simp only [Act.put, List.setIfInBounds_toArray, List.set_cons_zero, List.set_cons_succ]))
  obtain ⟨w2, hw2⟩ : ∃ z, wa.alloc (.cells #[.int .i64 0, .int .i64 0, .int .i64 0, .int .i64 0] 55) = z := ⟨_, rfl⟩
  rw [hw2] at K0 ⊢
  clear hw2 hk7 A1
  have GA2 := Lib.hid (fun W l (r q : Int) {vv : List Int} (h : TW w W p b k k7 l vv) (hi : In4 r q) => (show Calls Try.prog 12 #[pv p, .agg (va vv), oV (oneO r q)] W fun e w' => ∃ ai, e = .returned (.int .i64 ai) ∧ TW w w' p b k k7 (addL l vv (oneO r q)) vv from by
    refine (add_any W p b l h.lw.gap (by have := h.tp.len64 h.lw.gap.map.rise; omega) vv h.tp.len h.tp.right (oneO r q) (by show (1 : Nat) ≤ 1000000; decide)).mono ?_
    rintro e w' ⟨rfl, ho⟩
    exact ⟨_, rfl, h.out ho (h.tp.add hi)⟩))
  have GA1 := Lib.hid (fun W l (r q : Int) {vv : List Int} (h : TW w W p b k k7 l vv) (hi : In4 r q) => (show Calls Try.prog 12 #[pv p, .agg (va vv), oV (oneO r q)] W fun e w' => e = .returned (.int .i64 (addI l vv (oneO r q))) ∧ TW w w' p b k k7 (addL l vv (oneO r q)) vv from by
    refine (add_any W p b l h.lw.gap (by have := h.tp.len64 h.lw.gap.map.rise; omega) vv h.tp.len h.tp.right (oneO r q) (by show (1 : Nat) ≤ 1000000; decide)).mono ?_
    rintro e w' ⟨rfl, ho⟩
    exact ⟨rfl, h.out ho (h.tp.add hi)⟩))
  have RDY := Lib.hid (fun W l {vv : List Int} (h : TW w W p b k k7 l vv) => (show Calls Try.prog 15 #[pv p, .agg (va vv), .int .i64 (n : Int)] W fun e w' => ∃ a c, e = .returned (.slice a (tkn l vv n).length c) ∧ TW w w' p b k k7 (rdyR l (knw vv) (n : Int)).1 vv ∧ w'.ownsRow w.heap.size 35 9 (.slice a (tkn l vv n).length c) (tkn l vv n).length (cs9 (tkn l vv n)) from by
    have hr := h.lw.gap.map.rise
    refine (ready_any W p b l h.lw.gap (by have := h.tp.len64 hr; omega) (fun x hx => (h.tp.ok x hx).1) vv h.tp.len h.tp.right (n : Int)).mono ?_
    rintro e w' ⟨v, rfl, ho, h2⟩
    rw [rdy_tkn hr] at h2
    obtain ⟨a, c, rfl⟩ := Ve.own_shape h2
    exact ⟨a, c, rfl, h.out ho (h.tp.sub (fun x hx => ((left_mem hr).1 hx).1)), Ve.own_less h2 (by have := h.lw.bel.size; omega)⟩))
  have LDG := Lib.hid (fun W l {vv : List Int} (h : TW w W p b k k7 l vv) => (show VS w k (va vv) W from ⟨h.lw.bel, Ve.load_va Ve.v24 W k vv h.tp.len h.lw.vec⟩))
  go_upto_block 0 with fail
  clear hn
  have hn8 : (n : Int) ≤ 8 := by have := HN.out; omega
  go_cut [9, 10, 11, 12, 13, 14, 15] from 27 (fun _ _ _ _ _ _ _ wx => ∃ l vv, Hid (TW w wx p b k k7 l vv))
  case first =>
   go_wp2_with fail
   go_loopw [9] (fun iv wr => ∃ (i : Nat) (l : List O) (vv : List Int), iv = .int .i64 i ∧ i ≤ bs.length ∧ i ≤ 60 ∧ Hid (TW w wr p b k k7 l vv)) (fun iv _ => 60 - (intOf iv).toNat)
   case atStart => exact ⟨0, [], zs, rfl, Nat.zero_le _, Nat.zero_le _, K0⟩
   case round =>
     obtain ⟨i, l, vv, rfl, hiA, hi60, K1⟩ := hrel
     by_cases hlt : i < bs.length ∧ i < 60
     · obtain ⟨h1, h2⟩ := hlt
       obtain ⟨x, hx⟩ : ∃ x, bs[i]? = some x := ⟨_, List.getElem?_eq_getElem h1⟩
       obtain ⟨g, off, rfl, d0, x0, x1⟩ := H.out.at K1.out.lw.bel hx
       obtain ⟨r, hr⟩ : ∃ r : Nat, x % 4 = (r : Int) := ⟨(x % 4).toNat, by omega⟩
       obtain ⟨q, hq⟩ : ∃ q : Nat, 1 + x / 4 % 16 = (q : Int) := ⟨(1 + x / 4 % 16).toNat, by omega⟩
       have IN := Lib.hid (show In4 (r : Int) (q : Int) by unfold In4; omega)
       have hi0 : (0 : Int) ≤ (i : Int) := by omega
       have hi1 : (i : Int) < (bs.length : Int) := by omega
       have hi2 : (i : Int) < 60 := by omega
       clear hx
       go_upto_region 10 with fail
       rw [hr]
       clear hr hq
       have K := Lib.hid (K1.out.step (Below.refl wr.heap.size wr).drew)
       have VWS := Lib.hid (fun W {l' : List O} (h : TW w W p b k k7 l' vv) => LDG.out W l' h)
       have GAD := Lib.hid (fun W (h : TW w W p b k k7 l vv) => GA1.out W l (r : Int) (q : Int) h IN.out)
       have RD0 := Lib.hid (fun W l' (h : TW w W p b k k7 l' vv) => RDY.out W l' h)
       obtain ⟨l2, hl2⟩ : ∃ z, addL l vv (oneO (r : Int) (q : Int)) = z := ⟨_, rfl⟩
       obtain ⟨AI, hAI⟩ : ∃ z, addI l vv (oneO (r : Int) (q : Int)) = z := ⟨_, rfl⟩
       have ANS := Lib.hid (K1.out.tp.ans IN.out)
       rw [hAI] at ANS
       obtain ⟨VM, hVM⟩ : ∃ z, va vv = z := ⟨_, rfl⟩
       rw [hl2, hAI, hVM] at GAD
       rw [hVM] at VWS RD0
       clear hl2 hAI hVM K1 d0
       refine wp_region_held_drew (S := VS w k VM) (by kernel_rfl) (VWS.out _ K.out) (fun hHeld => ?_)
       have BV := Lib.hid (VWS.out _ K.out)
       clear hHeld
       refine take_at (i := 0) 51 ?_ rfl rfl (by kernel_rfl) (by kernel_rfl) (by kernel_rfl) (fun _ _ _ h => h) (.inl ⟨rfl, ?_⟩) BV.out ?_
       rotate_left 1
       · intro w hSw; go_simp; try with_reducible rfl
       simp only [Act.put, List.setIfInBounds_toArray, List.set_cons_zero, List.set_cons_succ]
       refine take_at (i := 1) 52 (.agg VM) rfl rfl (by kernel_rfl) (by kernel_rfl) (by kernel_rfl) (fun _ _ _ h => h) (yields_ld (.tmp 6) 29 (pvo k 0) _ (fun W h => h.2) rfl rfl rfl) BV.out ?_
       simp only [Act.put, List.setIfInBounds_toArray, List.set_cons_zero, List.set_cons_succ]
       refine take_at (i := 2) 53 ?_ rfl rfl (by kernel_rfl) (by kernel_rfl) (by kernel_rfl) (fun _ _ _ h => h) (.inl ⟨rfl, ?_⟩) BV.out ?_
       rotate_left 1
       · intro w hSw; go_simp; try with_reducible rfl
       simp only [Act.put, List.setIfInBounds_toArray, List.set_cons_zero, List.set_cons_succ]
       refine take_at (i := 3) 54 ?_ rfl rfl (by kernel_rfl) (by kernel_rfl) (by kernel_rfl) (fun _ _ _ h => h) (.inl ⟨rfl, ?_⟩) BV.out ?_
       rotate_left 1
       · intro w hSw; go_simp; try with_reducible rfl
       simp only [Act.put, List.setIfInBounds_toArray, List.set_cons_zero, List.set_cons_succ]
       refine wpAnyH_ready (rs := [4]) (by kernel_rfl) (by simp) (br_call (i := 4) 55 21 #[.int .i64 (r : Int), .int .i64 (q : Int)] rfl rfl rfl (by go_simp) ((one_any _ (r : Int) (q : Int)).mono ?_) AllReadyH.nil)
       rintro e v1 ⟨rfl, hb⟩
       have BV := Lib.hid (VWS.out _ (K.out.step hb))
       have K := Lib.hid (K.out.step hb)
       clear hb
       refine ⟨_, rfl, BV.out, fun _ => ?_⟩
       simp only [Act.put, List.setIfInBounds_toArray, List.set_cons_zero, List.set_cons_succ]
       refine wpAnyH_ready (rs := [5]) (by kernel_rfl) (by simp) (br_call (i := 5) 56 12 #[pv p, .agg VM, oV (oneO (r : Int) (q : Int))] rfl rfl rfl (by go_simp) ((GAD.out _ K.out).mono ?_) AllReadyH.nil)
       rintro e v2 ⟨rfl, ho⟩
       have K := Lib.hid ho
       have BV := Lib.hid (VWS.out _ ho)
       clear ho
       refine ⟨_, rfl, BV.out, fun _ => ?_⟩
       simp only [Act.put, List.setIfInBounds_toArray, List.set_cons_zero, List.set_cons_succ]
       refine take_at (i := 6) 12 ?_ rfl rfl (by kernel_rfl) (by kernel_rfl) (by kernel_rfl) (fun _ _ _ h => h) (.inl ⟨rfl, ?_⟩) BV.out ?_
       rotate_left 1
       · intro w hSw; go_simp; try with_reducible rfl
       simp only [Act.put, List.setIfInBounds_toArray, List.set_cons_zero, List.set_cons_succ]
       refine wpAnyH_done (by kernel_rfl) ?_ _
       clear BV
       go_upto_region 11 with fail
       go_cut [12, 66] from 51 to 65 (fun av xv wx => ∃ ai, av = .int .i64 ai ∧ xv = .bool false ∧ wx = v2)
       case first =>
         rcases ANS.out with rfl | rfl | rfl
         · go_wp2_with fail
           go_meet
           exact ⟨_, rfl, rfl, rfl⟩
         · go_wp2_with fail
           go_meet
           exact ⟨_, rfl, rfl, rfl⟩
         · go_wp2_with fail
           go_meet
           exact ⟨_, rfl, rfl, rfl⟩
       case rest =>
         obtain ⟨ai, rfl, rfl, rfl⟩ := hcut
         have LD2 := Lib.hid (VWS.out _ K.out).2
         have RD := Lib.hid (RD0.out _ _ K.out)
         have hr2 := Lib.hid K.out.lw.gap.map.rise
         have tp2 := Lib.hid K.out.tp
         obtain ⟨u, hu⟩ : ∃ z, tkn l2 vv n = z := ⟨_, rfl⟩
         have UL := Lib.hid (show u.length ≤ n by rw [← hu]; exact tkn_len)
         obtain ⟨l3, hl3⟩ : ∃ z, (rdyR l2 (knw vv) (n : Int)).1 = z := ⟨_, rfl⟩
         have UN := Lib.hid (fun (j : Nat) (o : O) (h : u[j]? = some o) => (show o.q = knw ((u.take j).foldl kup vv) o.r + 1 ∧ In4 o.r o.q ∧ o = oneO o.r o.q from by subst hu; exact tkn_next tp2.out hr2.out h))
         rw [hu, hl3] at RD
         clear K GAD ANS hu hl3
         have hun : ¬ ((n : Int) < (u.length : Int)) := by have := UL.out; omega
         go_wp2_with (first | (refine Ve.wpList_load_arr rfl (.tmp 6) 29 rfl _ _ rfl LD2.out ?_; simp only [Act.put, List.setIfInBounds_toArray, List.set_cons_zero, List.set_cons_succ]))
         refine RD.out.mono ?_
         rintro e w3 ⟨ua, uc, rfl, h3, hou⟩
         have K3 := Lib.hid h3
         have OU3 := Lib.hid hou
         clear h3 hou RD LD2
         go_upto_block 2 with fail
         go_wp2_with fail
         go_loopw [14] (fun jv wx => ∃ j : Nat, jv = .int .i64 j ∧ j ≤ u.length ∧ Hid (TW w wx p b k k7 l3 ((u.take j).foldl kup vv)) ∧ Hid (wx.ownsRow w.heap.size 35 9 (.slice ua u.length uc) u.length (cs9 u))) (fun jv _ => u.length - (intOf jv).toNat)
         case atStart => exact ⟨0, rfl, Nat.zero_le _, K3, OU3⟩
         case round =>
           obtain ⟨j, rfl, hj, K4, OU4⟩ := hrel
           by_cases hju : j < u.length
           · obtain ⟨gu, ou, o, rfl, ho, hgu, hcu⟩ := (own_olies OU4.out).atK hju
             obtain ⟨q1, q2, q3⟩ := UN.out j o ho
             obtain ⟨r, hr⟩ : ∃ r : Nat, o.r = (r : Int) := ⟨o.r.toNat, by unfold In4 at q2; omega⟩
             obtain ⟨xq, hxq⟩ : ∃ z, o.q = z := ⟨_, rfl⟩
             have NX := Lib.hid (show (u.take (j + 1)).foldl kup vv = kup ((u.take j).foldl kup vv) o from kup_snoc u j o vv ho)
             obtain ⟨vj, hvj⟩ : ∃ z, (u.take j).foldl kup vv = z := ⟨_, rfl⟩
             rw [hvj] at q1 K4 NX
             rw [hr, hxq] at q1 q2 q3
             subst q3
             have Q2 := Lib.hid q2
             unfold In4 at q2
             obtain ⟨r', hr', hr64, hvr⟩ := knw_at K4.out.tp.len (r := (r : Int)) (by omega)
             obtain rfl : r = r' := by omega
             obtain ⟨kl, hkl⟩ : ∃ z, knw vj (r : Int) = z := ⟨_, rfl⟩
             rw [hkl] at q1 hvr
             have HV := Lib.hid hvr
             have LX := Lib.hid (ldO hcu)
             obtain ⟨a4, w4, s4, b4, r4⟩ := box40 wr (oneO (r : Int) xq)
             obtain ⟨kx, hkx⟩ : ∃ z, wr.heap.size = z := ⟨_, rfl⟩
             rw [hkx] at a4 s4 r4
             have A4 := Lib.hid a4
             have S4 := Lib.hid s4
             have K5 := Lib.hid (K4.out.step b4)
             have OU5 := Lib.hid (own_keep OU4.out b4)
             have LB := Lib.hid (fun W (hb : Below w4.heap.size w4 W) => (show (Instr.loadAt 3 (pvo kx 1)).run Try.prog W = .ok (.int .i64 (r : Int)) W ∧ (Instr.loadAt 3 (pvo kx 2)).run Try.prog W = .ok (.int .i64 xq) W ∧ (Instr.loadAt 35 (pvo kx 0)).run Try.prog W = .ok (oV (oneO (r : Int) xq)) W from by
               have h1 := (hb.block _ (lt_of_block r4)).trans r4
               exact ⟨ldI (box3 h1).2.1, ldI (box3 h1).2.2, ldBox h1⟩))
             have BC := Lib.hid (fun W (hb : Below w4.heap.size w4 W) => (show W.cell? ⟨kx, 1, none⟩ = some (.int .i64 (r : Int)) ∧ W.cell? ⟨kx, 2, none⟩ = some (.int .i64 xq) from by
               have h1 := (hb.block _ (lt_of_block r4)).trans r4
               exact ⟨(box3 h1).2.1, (box3 h1).2.2⟩))
             have LKN := Lib.hid (fun W (hb : Below w4.heap.size w4 W) => ldI (Ve.cell_va (K5.out.step hb).lw.vec HV.out))
             obtain ⟨XV, hXV⟩ : ∃ z, oV (oneO (r : Int) xq) = z := ⟨_, rfl⟩
             rw [hXV] at S4 LX
             have HXV := Lib.hid hXV
             have hj0 : (0 : Int) ≤ (j : Int) := by omega
             have hj1 : (j : Int) < (u.length : Int) := by omega
             have hr0 : (0 : Int) ≤ (r : Int) := by omega
             have hr1 : (r : Int) < 64 := by omega
             have hkq : IntKind.i64.wrap (kl + 1) = xq := by rw [q1]; unfold IntKind.wrap; simp [IntKind.bits, IntKind.signed]; omega
             clear hvr a4 s4 b4 r4 hXV hkl hcu ho hgu q1 q2 hr' hr hxq hvj K4 OU4
             go_upto_region 20 with (first | (refine wpList_ld rfl (.tmp 83) 35 rfl (pvo gu (ou + j * 9)) XV rfl LX.out ?_; simp only [Act.put, List.setIfInBounds_toArray, List.set_cons_zero, List.set_cons_succ]) | (refine Ve.wpList_alloc_arr rfl 35 rfl _ _ A4.out ?_; simp only [Act.put, List.setIfInBounds_toArray, List.set_cons_zero, List.set_cons_succ]) | (refine Ve.wpList_store_arr rfl (.tmp 15) (.tmp 84) 35 rfl (pvo kx 0) XV rfl rfl _ S4.out ?_; simp only [Act.put, List.setIfInBounds_toArray, List.set_cons_zero, List.set_cons_succ]))
             clear A4 S4 LX
             refine wp_region_held_drew (S := fun w' => Below w4.heap.size w4 w') (by kernel_rfl) (Below.refl _ _).drew (fun hHeld => ?_)
             have BV := Lib.hid (show Below w4.heap.size w4 w4.drew from (Below.refl _ _).drew)
             clear hHeld
             refine take_at (i := 0) 85 ?_ rfl rfl (by kernel_rfl) (by kernel_rfl) (by kernel_rfl) (fun _ _ _ h => h) (.inl ⟨rfl, ?_⟩) BV.out ?_
             rotate_left 1
             · intro w hSw; go_simp; try with_reducible rfl
             simp only [Act.put, List.setIfInBounds_toArray, List.set_cons_zero, List.set_cons_succ]
             refine take_at (i := 1) 86 (.int .i64 xq) rfl rfl (by kernel_rfl) (by kernel_rfl) (by kernel_rfl) (fun _ _ _ h => h) (yields_ld (.tmp 85) 3 (pvo kx 2) _ (fun W h => (LB.out W h).2.1) rfl rfl rfl) BV.out ?_
             simp only [Act.put, List.setIfInBounds_toArray, List.set_cons_zero, List.set_cons_succ]
             refine take_at (i := 2) 87 ?_ rfl rfl (by kernel_rfl) (by kernel_rfl) (by kernel_rfl) (fun _ _ _ h => h) (.inl ⟨rfl, ?_⟩) BV.out ?_
             rotate_left 1
             · intro w hSw; go_simp; try with_reducible rfl
             simp only [Act.put, List.setIfInBounds_toArray, List.set_cons_zero, List.set_cons_succ]
             refine take_at (i := 3) 88 ?_ rfl rfl (by kernel_rfl) (by kernel_rfl) (by kernel_rfl) (fun _ _ _ h => h) (.inl ⟨rfl, ?_⟩) BV.out ?_
             rotate_left 1
             · intro w hSw; go_simp; try with_reducible rfl
             simp only [Act.put, List.setIfInBounds_toArray, List.set_cons_zero, List.set_cons_succ]
             refine take_at (i := 4) 89 (.int .i64 (r : Int)) rfl rfl (by kernel_rfl) (by kernel_rfl) (by kernel_rfl) (fun _ _ _ h => h) (yields_ld (.tmp 88) 3 (pvo kx 1) _ (fun W h => (LB.out W h).1) rfl rfl rfl) BV.out ?_
             simp only [Act.put, List.setIfInBounds_toArray, List.set_cons_zero, List.set_cons_succ]
             refine take_at (i := 5) 90 ?_ rfl rfl (by kernel_rfl) (by kernel_rfl) (by kernel_rfl) (fun _ _ _ h => h) (.inl ⟨rfl, ?_⟩) BV.out ?_
             rotate_left 1
             · intro w hSw; go_simp; try with_reducible rfl
             simp only [Act.put, List.setIfInBounds_toArray, List.set_cons_zero, List.set_cons_succ]
             refine take_at (i := 6) 91 (.int .i64 kl) rfl rfl (by kernel_rfl) (by kernel_rfl) (by kernel_rfl) (fun _ _ _ h => h) (yields_ld (.tmp 90) 3 (pvo k r) _ LKN.out rfl rfl rfl) BV.out ?_
             simp only [Act.put, List.setIfInBounds_toArray, List.set_cons_zero, List.set_cons_succ]
             refine take_at (i := 7) 92 ?_ rfl rfl (by kernel_rfl) (by kernel_rfl) (by kernel_rfl) (fun _ _ _ h => h) (.inl ⟨rfl, ?_⟩) BV.out ?_
             rotate_left 1
             · intro w hSw; go_simp; try with_reducible rfl
             simp only [Act.put, List.setIfInBounds_toArray, List.set_cons_zero, List.set_cons_succ]
             refine take_at (i := 8) 93 ?_ rfl rfl (by kernel_rfl) (by kernel_rfl) (by kernel_rfl) (fun _ _ _ h => h) (.inl ⟨rfl, ?_⟩) BV.out ?_
             rotate_left 1
             · intro w hSw; go_simp; try with_reducible rfl
             simp only [Act.put, List.setIfInBounds_toArray, List.set_cons_zero, List.set_cons_succ]
             refine take_at (i := 9) 94 ?_ rfl rfl (by kernel_rfl) (by kernel_rfl) (by kernel_rfl) (fun _ _ _ h => h) (.inl ⟨rfl, ?_⟩) BV.out ?_
             rotate_left 1
             · intro w hSw; go_simp; try with_reducible rfl
             simp only [Act.put, List.setIfInBounds_toArray, List.set_cons_zero, List.set_cons_succ]
             refine take_at (i := 10) 95 (oV (oneO (r : Int) xq)) rfl rfl (by kernel_rfl) (by kernel_rfl) (by kernel_rfl) (fun _ _ _ h => h) (yields_ld (.tmp 15) 35 (pvo kx 0) _ (fun W h => (LB.out W h).2.2) rfl rfl rfl) BV.out ?_
             simp only [Act.put, List.setIfInBounds_toArray, List.set_cons_zero, List.set_cons_succ]
             refine take_at (i := 11) 96 ?_ rfl rfl (by kernel_rfl) (by kernel_rfl) (by kernel_rfl) (fun _ _ _ h => h) (.inl ⟨rfl, ?_⟩) BV.out ?_
             rotate_left 1
             · intro w hSw; go_simp; try with_reducible rfl
             simp only [Act.put, List.setIfInBounds_toArray, List.set_cons_zero, List.set_cons_succ]
             refine take_at (i := 12) 97 ?_ rfl rfl (by kernel_rfl) (by kernel_rfl) (by kernel_rfl) (fun _ _ _ h => h) (.inl ⟨rfl, ?_⟩) BV.out ?_
             rotate_left 1
             · intro w hSw; go_simp; try with_reducible rfl
             simp only [Act.put, List.setIfInBounds_toArray, List.set_cons_zero, List.set_cons_succ]
             refine take_at (i := 13) 98 (.int .i64 (r : Int)) rfl rfl (by kernel_rfl) (by kernel_rfl) (by kernel_rfl) (fun _ _ _ h => h) (yields_ld (.tmp 97) 3 (pvo kx 1) _ (fun W h => (LB.out W h).1) rfl rfl rfl) BV.out ?_
             simp only [Act.put, List.setIfInBounds_toArray, List.set_cons_zero, List.set_cons_succ]
             refine take_at (i := 14) 99 ?_ rfl rfl (by kernel_rfl) (by kernel_rfl) (by kernel_rfl) (fun _ _ _ h => h) (.inl ⟨rfl, ?_⟩) BV.out ?_
             rotate_left 1
             · intro w hSw; go_simp; try with_reducible rfl
             simp only [Act.put, List.setIfInBounds_toArray, List.set_cons_zero, List.set_cons_succ]
             refine take_at (i := 15) 100 (.int .i64 xq) rfl rfl (by kernel_rfl) (by kernel_rfl) (by kernel_rfl) (fun _ _ _ h => h) (yields_ld (.tmp 99) 3 (pvo kx 2) _ (fun W h => (LB.out W h).2.1) rfl rfl rfl) BV.out ?_
             simp only [Act.put, List.setIfInBounds_toArray, List.set_cons_zero, List.set_cons_succ]
             refine wpAnyH_ready (rs := [16]) (by kernel_rfl) (by simp) (br_call (i := 16) 101 21 #[.int .i64 (r : Int), .int .i64 xq] rfl rfl rfl (by go_simp) ((one_any _ (r : Int) xq).mono ?_) AllReadyH.nil)
             rintro e v1 ⟨rfl, hb⟩
             have BV := Lib.hid (BV.out.trans (hb.mono BV.out.size))
             clear hb
             refine ⟨_, rfl, BV.out, fun _ => ?_⟩
             simp only [Act.put, List.setIfInBounds_toArray, List.set_cons_zero, List.set_cons_succ]
             refine take_at (i := 17) 102 (.bool false) rfl rfl (by kernel_rfl) (by kernel_rfl) (by kernel_rfl) (fun _ _ _ h => h) (yields_ne35 (.tmp 95) (.tmp 101) (oneO (r : Int) xq) rfl rfl rfl rfl) BV.out ?_
             simp only [Act.put, List.setIfInBounds_toArray, List.set_cons_zero, List.set_cons_succ]
             refine take_at (i := 18) 103 ?_ rfl rfl (by kernel_rfl) (by kernel_rfl) (by kernel_rfl) (fun _ _ _ h => h) (.inl ⟨rfl, ?_⟩) BV.out ?_
             rotate_left 1
             · intro w hSw; go_simp; try with_reducible rfl
             simp only [Act.put, List.setIfInBounds_toArray, List.set_cons_zero, List.set_cons_succ]
             refine wpAnyH_done (by kernel_rfl) ?_ _
             have K6 := Lib.hid (K5.out.step BV.out)
             have OU6 := Lib.hid (own_keep OU5.out BV.out)
             have c1 := (BC.out _ BV.out).1
             have c2 := (BC.out _ BV.out).2
             have c3 := Ve.cell_va K6.out.lw.vec HV.out
             have fz := frozen_of_row (j := r) _ _ _ _ K6.out.lw.vec
             have ST := Lib.hid (K6.out.set (oneO (r : Int) xq) Q2.out r (by show r = ((r : Nat) : Int).toNat; rw [Int.toNat_natCast]))
             have KN := Lib.hid (show TW w (v1.setCell ⟨k, r, none⟩ (.int .i64 xq)) p b k k7 l3 ((u.take (j + 1)).foldl kup vv) from by rw [NX.out]; exact ST.out.1)
             have ON := Lib.hid (ST.out.2.row OU6.out (fun m e q => own_not29 OU6.out K6.out.lw.vec (by rw [e, q])))
             clear BV K6 OU6 ST LB BC LKN K5 OU5 NX HV hkq
             go_wp2
             go_roundw
             case rel => exact ⟨j + 1, by go_num, by omega, KN, ON⟩
             case measure => simp [intOf]; omega
           · go_wp2
             go_roundw
             case rel => exact ⟨i + 1, l3, _, by go_num, by omega, by omega, K4⟩
             case measure => simp [intOf]; omega
     · have hd : (¬ i < bs.length) ∨ (i < bs.length ∧ ¬ i < 60) := by
         by_cases h : i < bs.length
         · exact .inr ⟨h, fun h2 => hlt ⟨h, h2⟩⟩
         · exact .inl h
       clear hlt
       rcases hd with hd | ⟨hd, hd2⟩
       all_goals
         go_wp2_with fail
         go_meet
         exact ⟨l, vv, K1⟩
  case rest =>
    obtain ⟨l0, vv, K1⟩ := hcut
    clear GA1 K0
    go_wp2
    go_loopw [16] (fun iv wr => ∃ (r : Nat) (l : List O), iv = .int .i64 r ∧ r ≤ 4 ∧ Hid (TW w wr p b k k7 l vv) ∧ Hid (∀ r' q', In4 r' q' → r' < (r : Int) → Has l vv r' q')) (fun iv _ => 4 - (intOf iv).toNat)
    case atStart => exact ⟨0, l0, rfl, Nat.zero_le _, K1, Lib.hid (fun r' q' h1 h2 => by unfold In4 at h1; omega)⟩
    case round =>
      obtain ⟨r, l, rfl, hr4, K2, F2⟩ := hrel
      by_cases hlt : r < 4
      · have hr1 : (r : Int) < 4 := by omega
        go_wp2
        go_loopw [17] (fun jv wr => ∃ (q : Nat) (l : List O), jv = .int .i64 q ∧ 1 ≤ q ∧ q ≤ 17 ∧ Hid (TW w wr p b k k7 l vv) ∧ Hid (∀ r' q', In4 r' q' → (r' < (r : Int) ∨ r' = (r : Int) ∧ q' < (q : Int)) → Has l vv r' q')) (fun jv _ => 17 - (intOf jv).toNat)
        case atStart => exact ⟨1, l, rfl, by omega, by omega, K2, Lib.hid (fun r' q' h1 h2 => F2.out r' q' h1 (by unfold In4 at h1; omega))⟩
        case round =>
          obtain ⟨q, l, rfl, hq1, hq17, K3, F3⟩ := hrel
          by_cases hq : q ≤ 16
          · have hq2 : (q : Int) ≤ 16 := by omega
            have IN := Lib.hid (show In4 (r : Int) (q : Int) by unfold In4; omega)
            have VWS := Lib.hid (fun W {l' : List O} (h : TW w W p b k k7 l' vv) => LDG.out W l' h)
            have GA2 := Lib.hid (fun W l (r q : Int) (h : TW w W p b k k7 l vv) (hi : In4 r q) => GA2.out W l r q h hi)
            have F4 := Lib.hid (show ∀ r' q', In4 r' q' → (r' < (r : Int) ∨ r' = (r : Int) ∧ q' < ((q + 1 : Nat) : Int)) → Has (addL l vv (oneO (r : Int) (q : Int))) vv r' q' from by
              intro r' q' h1 h2
              obtain ⟨g1, g2⟩ := has_add K3.out.tp IN.out
              rcases h2 with h2 | ⟨h2, h3⟩
              · exact g2 _ _ (F3.out r' q' h1 (.inl h2))
              · by_cases h4 : q' < (q : Int)
                · exact g2 _ _ (F3.out r' q' h1 (.inr ⟨h2, h4⟩))
                · have : q' = (q : Int) := by omega
                  rw [h2, this]
                  exact g1)
            obtain ⟨VM, hVM⟩ : ∃ z, va vv = z := ⟨_, rfl⟩
            rw [hVM] at VWS GA2
            go_upto_region 29 with fail
            have K := Lib.hid (K3.out.step (Below.refl wr.heap.size wr).drew)
            clear hVM K3
            refine wp_region_held_drew (S := VS w k VM) (by kernel_rfl) (VWS.out _ K.out) (fun hHeld => ?_)
            have BV := Lib.hid (VWS.out _ K.out)
            clear hHeld
            refine take_at (i := 0) 118 ?_ rfl rfl (by kernel_rfl) (by kernel_rfl) (by kernel_rfl) (fun _ _ _ h => h) (.inl ⟨rfl, ?_⟩) BV.out ?_
            rotate_left 1
            · intro w hSw; go_simp; try with_reducible rfl
            simp only [Act.put, List.setIfInBounds_toArray, List.set_cons_zero, List.set_cons_succ]
            refine take_at (i := 1) 119 (.agg VM) rfl rfl (by kernel_rfl) (by kernel_rfl) (by kernel_rfl) (fun _ _ _ h => h) (yields_ld (.tmp 6) 29 (pvo k 0) _ (fun W h => h.2) rfl rfl rfl) BV.out ?_
            simp only [Act.put, List.setIfInBounds_toArray, List.set_cons_zero, List.set_cons_succ]
            refine take_at (i := 2) 120 ?_ rfl rfl (by kernel_rfl) (by kernel_rfl) (by kernel_rfl) (fun _ _ _ h => h) (.inl ⟨rfl, ?_⟩) BV.out ?_
            rotate_left 1
            · intro w hSw; go_simp; try with_reducible rfl
            simp only [Act.put, List.setIfInBounds_toArray, List.set_cons_zero, List.set_cons_succ]
            refine take_at (i := 3) 121 ?_ rfl rfl (by kernel_rfl) (by kernel_rfl) (by kernel_rfl) (fun _ _ _ h => h) (.inl ⟨rfl, ?_⟩) BV.out ?_
            rotate_left 1
            · intro w hSw; go_simp; try with_reducible rfl
            simp only [Act.put, List.setIfInBounds_toArray, List.set_cons_zero, List.set_cons_succ]
            refine wpAnyH_ready (rs := [4]) (by kernel_rfl) (by simp) (br_call (i := 4) 122 21 #[.int .i64 (r : Int), .int .i64 (q : Int)] rfl rfl rfl (by go_simp) ((one_any _ (r : Int) (q : Int)).mono ?_) AllReadyH.nil)
            rintro e v1 ⟨rfl, hb⟩
            have BV := Lib.hid (VWS.out _ (K.out.step hb))
            have K := Lib.hid (K.out.step hb)
            clear hb
            refine ⟨_, rfl, BV.out, fun _ => ?_⟩
            simp only [Act.put, List.setIfInBounds_toArray, List.set_cons_zero, List.set_cons_succ]
            refine wpAnyH_ready (rs := [5]) (by kernel_rfl) (by simp) (br_call (i := 5) 123 12 #[pv p, .agg VM, oV (oneO (r : Int) (q : Int))] rfl rfl rfl (by go_simp) ((GA2.out _ _ _ _ K.out IN.out).mono ?_) AllReadyH.nil)
            rintro e v2 ⟨ai, rfl, ho⟩
            have K := Lib.hid ho
            have BV := Lib.hid (VWS.out _ ho)
            clear ho
            refine ⟨_, rfl, BV.out, fun _ => ?_⟩
            simp only [Act.put, List.setIfInBounds_toArray, List.set_cons_zero, List.set_cons_succ]
            refine wpAnyH_done (by kernel_rfl) ?_ _
            clear BV
            go_wp2
            go_roundw
            case rel => exact ⟨q + 1, _, by go_num, by omega, by omega, K, F4⟩
            case measure => simp [intOf]; omega
          · have hq2 : ¬ ((q : Int) ≤ 16) := by omega
            go_wp2
            go_roundw
            case rel => exact ⟨r + 1, l, by go_num, by omega, K3, Lib.hid (fun r' q' h1 h2 => F3.out r' q' h1 (by
              have h1' := h1
              unfold In4 at h1'
              have : r' < ((r + 1 : Nat) : Int) := h2
              by_cases h3 : r' < (r : Int)
              · exact .inl h3
              · exact .inr ⟨by omega, by omega⟩))⟩
            case measure => simp [intOf]; omega
      · have hr1 : ¬ ((r : Int) < 4) := by omega
        have FU := Lib.hid (show Full l vv from fun r' q' h1 => F2.out r' q' h1 (by unfold In4 at h1; omega))
        clear F2
        go_wp2
        go_loopw [18] (fun iv wr => ∃ (i : Nat) (l : List O) (vv : List Int), iv = .int .i64 i ∧ i ≤ 64 ∧ Hid (l.length ≤ 64 - i) ∧ Hid (TW w wr p b k k7 l vv) ∧ Hid (Full l vv)) (fun iv _ => 64 - (intOf iv).toNat)
        case atStart => exact ⟨0, l, vv, rfl, Nat.zero_le _, Lib.hid (K2.out.tp.len64 K2.out.lw.gap.map.rise), K2, FU⟩
        case round =>
          obtain ⟨i, l, vv, rfl, hi64, LN, K5, FL⟩ := hrel
          by_cases hlt : i < 64
          · have hi1 : (i : Int) < 64 := by omega
            have RD := Lib.hid (RDY.out _ _ K5.out)
            have LD2 := Lib.hid (LDG.out _ _ K5.out).2
            have hr2 := Lib.hid K5.out.lw.gap.map.rise
            have tp2 := Lib.hid K5.out.tp
            have FN := Lib.hid (full_round tp2.out hr2.out FL.out n)
            have LL := Lib.hid (less_round tp2.out hr2.out FL.out HN.out.1)
            obtain ⟨u, hu⟩ : ∃ z, tkn l vv n = z := ⟨_, rfl⟩
            obtain ⟨l3, hl3⟩ : ∃ z, (rdyR l (knw vv) (n : Int)).1 = z := ⟨_, rfl⟩
            have UN := Lib.hid (fun (j : Nat) (o : O) (h : u[j]? = some o) => (show o.q = knw ((u.take j).foldl kup vv) o.r + 1 ∧ In4 o.r o.q ∧ o = oneO o.r o.q from by subst hu; exact tkn_next tp2.out hr2.out h))
            obtain ⟨VM, hVM⟩ : ∃ z, va vv = z := ⟨_, rfl⟩
            have hul : (u.length : Int) ≤ 8 := by have h1 : u.length ≤ n := by rw [← hu]; exact tkn_len
                                                  omega
            rw [hu, hl3, hVM] at RD
            rw [hu, hl3] at FN
            rw [hl3] at LL
            rw [hVM] at LD2
            clear hu hl3 hVM K5
            go_wp2_with (first | (refine Ve.wpList_load_arr rfl (.tmp 6) 29 rfl _ _ rfl LD2.out ?_; simp only [Act.put, List.setIfInBounds_toArray, List.set_cons_zero, List.set_cons_succ]))
            refine RD.out.mono ?_
            rintro e w3 ⟨ua, uc, rfl, h3, hou⟩
            have K3 := Lib.hid h3
            have OU3 := Lib.hid hou
            clear h3 hou RD LD2
            go_wp2
            go_loopw [20] (fun jv wx => ∃ j : Nat, jv = .int .i64 j ∧ j ≤ u.length ∧ Hid (TW w wx p b k k7 l3 ((u.take j).foldl kup vv)) ∧ Hid (wx.ownsRow w.heap.size 35 9 (.slice ua u.length uc) u.length (cs9 u))) (fun jv _ => u.length - (intOf jv).toNat)
            case atStart => exact ⟨0, rfl, Nat.zero_le _, K3, OU3⟩
            case round =>
              obtain ⟨j, rfl, hj, K4, OU4⟩ := hrel
              by_cases hju : j < u.length
              · obtain ⟨g, off, o, rfl, ho, hgu, hcu⟩ := (own_olies OU4.out).atK hju
                obtain ⟨q1, q2, q3⟩ := UN.out j o ho
                obtain ⟨r, hr⟩ : ∃ r : Nat, o.r = (r : Int) := ⟨o.r.toNat, by unfold In4 at q2; omega⟩
                obtain ⟨xq, hxq⟩ : ∃ z, o.q = z := ⟨_, rfl⟩
                have NX := Lib.hid (show (u.take (j + 1)).foldl kup vv = kup ((u.take j).foldl kup vv) o from kup_snoc u j o vv ho)
                obtain ⟨vj, hvj⟩ : ∃ z, (u.take j).foldl kup vv = z := ⟨_, rfl⟩
                rw [hvj] at q1 K4 NX
                rw [hr, hxq] at q1 q2 q3
                subst q3
                have Q2 := Lib.hid q2
                unfold In4 at q2
                obtain ⟨r', hr', hr64, hvr⟩ := knw_at K4.out.tp.len (r := (r : Int)) (by omega)
                obtain rfl : r = r' := by omega
                have HV := Lib.hid hvr
                have hj0 : (0 : Int) ≤ (j : Int) := by omega
                have hj1 : (j : Int) < (u.length : Int) := by omega
                have hr0 : (0 : Int) ≤ (r : Int) := by omega
                have hr1 : (r : Int) < 64 := by omega
                have GK := Lib.hid (show g ≠ k from fun e => own_not29 OU4.out K4.out.lw.vec (by rw [e]; rfl))
                have K5 := Lib.hid (K4.out.step (Below.refl wr.heap.size wr).drew)
                have OU5 := Lib.hid (own_keep OU4.out (Below.refl wr.heap.size wr).drew)
                have ST := Lib.hid (K5.out.set (oneO (r : Int) xq) Q2.out r (by show r = ((r : Nat) : Int).toNat; rw [Int.toNat_natCast]))
                have KN := Lib.hid (show TW w (wr.drew.setCell ⟨k, r, none⟩ (.int .i64 xq)) p b k k7 l3 ((u.take (j + 1)).foldl kup vv) from by rw [NX.out]; exact ST.out.1)
                have ON := Lib.hid (ST.out.2.row OU5.out (fun m e q => own_not29 OU5.out K5.out.lw.vec (by rw [e, q])))
                have SX := Lib.hid (show Far (fun m => m = k) wr (wr.drew.setCell ⟨k, r, none⟩ (.int .i64 xq)) from (Far.of_below (P := fun m => m = k) (Below.refl wr.heap.size wr).drew).trans ST.out.2 (fun m _ q => q))
                have LC := Lib.hid (fun W (hf : Far (fun m => m = k) wr W) => (show (Instr.loadAt 3 (pvo g (off + j * 9 + 1))).run Try.prog W = .ok (.int .i64 (r : Int)) W ∧ (Instr.loadAt 3 (pvo g (off + j * 9 + 2))).run Try.prog W = .ok (.int .i64 xq) W from by
                  have c : ∀ i v, (oc (oneO (r : Int) xq))[i]? = some v → W.cell? ⟨g, off + j * 9 + i, none⟩ = some v := fun i v hi => (show W.cell? ⟨g, off + j * 9 + i, none⟩ = wr.cell? ⟨g, off + j * 9 + i, none⟩ from by unfold World.cell?; rw [hf.block g hgu GK.out]).trans (hcu i v hi)
                  exact ⟨ldI (c 1 _ rfl), ldI (c 2 _ rfl)⟩))
                have c3 := Ve.cell_va K5.out.lw.vec HV.out
                have fz := frozen_of_row (j := r) _ _ _ _ K5.out.lw.vec
                have STX := Lib.hid (show (Instr.storeAt 3 (pvo k r) (.int .i64 xq)).run Try.prog wr.drew = .ok () (wr.drew.setCell ⟨k, r, none⟩ (.int .i64 xq)) from by go_simp)
                have IXU := Lib.hid (fun W => ix27 (g := g) (o := off) (n := u.length) (cap := uc) hju (own_olies OU4.out).len W)
                clear c3 fz hvr hcu ho hgu q1 q2 hr' hr hxq hvj K4 OU4 OU5 K5 ST NX HV
                go_upto_region 37 with fail
                refine wp_region_held_drew (S := fun W => Far (fun m => m = k) wr W) (by kernel_rfl) (Far.of_below (P := fun m => m = k) (Below.refl wr.heap.size wr).drew) (fun hHeld => ?_)
                have BV := Lib.hid (Far.of_below (P := fun m => m = k) (Below.refl wr.heap.size wr).drew)
                clear hHeld
                refine take_at (i := 0) 138 ?_ rfl rfl (by kernel_rfl) (by kernel_rfl) (by kernel_rfl) (fun _ _ _ h => h) (.inl ⟨rfl, ?_⟩) BV.out ?_
                rotate_left 1
                · intro w hSw; go_simp; try with_reducible rfl
                simp only [Act.put, List.setIfInBounds_toArray, List.set_cons_zero, List.set_cons_succ]
                refine take_at (i := 1) 139 ?_ rfl rfl (by kernel_rfl) (by kernel_rfl) (by kernel_rfl) (fun _ _ _ h => h) (.inl ⟨rfl, ?_⟩) BV.out ?_
                rotate_left 1
                · intro w hSw; go_simp; try with_reducible rfl
                simp only [Act.put, List.setIfInBounds_toArray, List.set_cons_zero, List.set_cons_succ]
                refine take_at (i := 2) 140 (pvo g (off + j * 9)) rfl rfl (by kernel_rfl) (by kernel_rfl) (by kernel_rfl) (fun _ _ _ h => h) (yields_ix (.tmp 138) (.tmp 139) 27 (.slice (some ⟨g, off, none⟩) u.length uc) (.int .i64 (j : Int)) _ (fun W => IXU.out W) rfl rfl rfl rfl) BV.out ?_
                simp only [Act.put, List.setIfInBounds_toArray, List.set_cons_zero, List.set_cons_succ]
                refine take_at (i := 3) 141 ?_ rfl rfl (by kernel_rfl) (by kernel_rfl) (by kernel_rfl) (fun _ _ _ h => h) (.inl ⟨rfl, ?_⟩) BV.out ?_
                rotate_left 1
                · intro w hSw; go_simp; try with_reducible rfl
                simp only [Act.put, List.setIfInBounds_toArray, List.set_cons_zero, List.set_cons_succ]
                refine take_at (i := 4) 142 ?_ rfl rfl (by kernel_rfl) (by kernel_rfl) (by kernel_rfl) (fun _ _ _ h => h) (.inl ⟨rfl, ?_⟩) BV.out ?_
                rotate_left 1
                · intro w hSw; go_simp; try with_reducible rfl
                simp only [Act.put, List.setIfInBounds_toArray, List.set_cons_zero, List.set_cons_succ]
                refine take_at (i := 5) 143 (.int .i64 (r : Int)) rfl rfl (by kernel_rfl) (by kernel_rfl) (by kernel_rfl) (fun _ _ _ h => h) (yields_ld (.tmp 142) 3 (pvo g (off + j * 9 + 1)) _ (fun W h => (LC.out W h).1) rfl rfl rfl) BV.out ?_
                simp only [Act.put, List.setIfInBounds_toArray, List.set_cons_zero, List.set_cons_succ]
                refine take_at (i := 6) 144 ?_ rfl rfl (by kernel_rfl) (by kernel_rfl) (by kernel_rfl) (fun _ _ _ h => h) (.inl ⟨rfl, ?_⟩) BV.out ?_
                rotate_left 1
                · intro w hSw; go_simp; try with_reducible rfl
                simp only [Act.put, List.setIfInBounds_toArray, List.set_cons_zero, List.set_cons_succ]
                refine take_at (i := 7) 145 ?_ rfl rfl (by kernel_rfl) (by kernel_rfl) (by kernel_rfl) (fun _ _ _ h => h) (.inl ⟨rfl, ?_⟩) BV.out ?_
                rotate_left 1
                · intro w hSw; go_simp; try with_reducible rfl
                simp only [Act.put, List.setIfInBounds_toArray, List.set_cons_zero, List.set_cons_succ]
                refine take_at (i := 8) 146 (pvo g (off + j * 9)) rfl rfl (by kernel_rfl) (by kernel_rfl) (by kernel_rfl) (fun _ _ _ h => h) (yields_ix (.tmp 144) (.tmp 145) 27 (.slice (some ⟨g, off, none⟩) u.length uc) (.int .i64 (j : Int)) _ (fun W => IXU.out W) rfl rfl rfl rfl) BV.out ?_
                simp only [Act.put, List.setIfInBounds_toArray, List.set_cons_zero, List.set_cons_succ]
                refine take_at (i := 9) 147 ?_ rfl rfl (by kernel_rfl) (by kernel_rfl) (by kernel_rfl) (fun _ _ _ h => h) (.inl ⟨rfl, ?_⟩) BV.out ?_
                rotate_left 1
                · intro w hSw; go_simp; try with_reducible rfl
                simp only [Act.put, List.setIfInBounds_toArray, List.set_cons_zero, List.set_cons_succ]
                refine take_at (i := 10) 148 (.int .i64 xq) rfl rfl (by kernel_rfl) (by kernel_rfl) (by kernel_rfl) (fun _ _ _ h => h) (yields_ld (.tmp 147) 3 (pvo g (off + j * 9 + 2)) _ (fun W h => (LC.out W h).2) rfl rfl rfl) BV.out ?_
                simp only [Act.put, List.setIfInBounds_toArray, List.set_cons_zero, List.set_cons_succ]
                refine take_at (i := 11) 149 ?_ rfl rfl (by kernel_rfl) (by kernel_rfl) (by kernel_rfl) (fun _ _ _ h => h) (.inl ⟨rfl, ?_⟩) BV.out ?_
                rotate_left 1
                · intro w hSw; go_simp; try with_reducible rfl
                simp only [Act.put, List.setIfInBounds_toArray, List.set_cons_zero, List.set_cons_succ]
                refine wpAnyH_ready (rs := [12]) (by kernel_rfl) (by simp) (br_store (i := 12) 3 (.tmp 149) (.tmp 148) (pvo k r) (.int .i64 xq) (wr.drew.setCell ⟨k, r, none⟩ (.int .i64 xq)) rfl rfl rfl rfl rfl rfl STX.out (SX.out) (fun _ => ?_) AllReadyH.nil)
                have BV := Lib.hid SX.out
                simp only [Act.put, List.setIfInBounds_toArray, List.set_cons_zero, List.set_cons_succ]
                refine wpAnyH_done (by kernel_rfl) ?_ _
                clear BV SX LC STX IXU
                go_wp2
                go_roundw
                case rel => exact ⟨j + 1, by go_num, by omega, KN, ON⟩
                case measure => simp [intOf]; omega
              · have hju' : j = u.length := by omega
                have KE := Lib.hid (show TW w wr p b k k7 l3 (u.foldl kup vv) from by have := K4.out; rw [hju', List.take_length] at this; exact this)
                go_wp2
                go_roundw
                case rel => exact ⟨i + 1, l3, _, by go_num, by omega, Lib.hid (by have := LL.out; have := LN.out; omega), KE, FN⟩
                case measure => simp [intOf]; omega
          · have hi1 : ¬ ((i : Int) < 64) := by omega
            have hl0 : l = [] := List.eq_nil_of_length_eq_zero (by have := LN.out; omega)
            subst hl0
            have KV := Lib.hid (fun (r : Nat) (hr : r < 4) => (show vv[r]? = some 16 from by
              have h1 := full_end K5.out.tp FL.out hr
              obtain ⟨r', hr', _, h2⟩ := knw_at K5.out.tp.len (r := (r : Int)) (by omega)
              obtain rfl : r = r' := by omega
              rw [h2, h1]))
            have T0 := Lib.hid (show TE w wr p b k k7 vv 0 from ⟨K5.out.lw, K5.out.arr, K5.out.lo7⟩)
            have LN0 := Lib.hid (fun W (h : TE w W p b k k7 vv 4) => (show Calls Try.prog 17 #[pv p] W fun e w' => e = .returned (.int .i64 0) ∧ W = w' from len_any W p b [] h.lw.gap))
            clear K5 FL FU
            go_wp2
            go_loopw [21] (fun iv wr => ∃ (r : Nat), iv = .int .i64 r ∧ r ≤ 4 ∧ Hid (TE w wr p b k k7 vv r)) (fun iv _ => 4 - (intOf iv).toNat)
            case atStart => exact ⟨0, rfl, Nat.zero_le _, T0⟩
            case round =>
              obtain ⟨r, rfl, hr4, T1⟩ := hrel
              by_cases hlt : r < 4
              · have hr0 : (0 : Int) ≤ (r : Int) := by omega
                have hr1 : (r : Int) < 4 := by omega
                have hr2 : (r : Int) < 64 := by omega
                have c3 := Ve.cell_va T1.out.lw.vec (KV.out r hlt)
                have c4 := (cell_of_row _ _ r _ _ _ T1.out.arr).trans (a4_get hlt)
                have fz := frozen_of_row (j := r) _ _ _ _ T1.out.arr
                have TN := Lib.hid (T1.out.next hlt)
                clear T0
                go_wp2
                go_roundw
                case rel => exact ⟨r + 1, by go_num, by omega, TN⟩
                case measure => simp [intOf]; omega
              · obtain rfl : r = 4 := by omega
                have d0 := (cell_of_row _ _ 0 _ _ _ T1.out.arr).trans (show (a4 4)[0]? = some (.int .i64 16) from rfl)
                have d1 := (cell_of_row _ _ 1 _ _ _ T1.out.arr).trans (show (a4 4)[1]? = some (.int .i64 16) from rfl)
                have d2 := (cell_of_row _ _ 2 _ _ _ T1.out.arr).trans (show (a4 4)[2]? = some (.int .i64 16) from rfl)
                have d3 := (cell_of_row _ _ 3 _ _ _ T1.out.arr).trans (show (a4 4)[3]? = some (.int .i64 16) from rfl)
                have LN1 := Lib.hid (LN0.out _ T1.out)
                go_wp2_with (first | (refine wpList_eq55 rfl (.tmp 159) (.tmp 160) rfl rfl rfl ?_; simp only [Act.put, List.setIfInBounds_toArray, List.set_cons_zero, List.set_cons_succ]))
                refine LN1.out.mono ?_
                rintro e wy ⟨rfl, rfl⟩
                go_wp2_with fail
                refine (AWK.out _).mono ?_
                rintro e wz ⟨rfl, hb⟩
                have FIN := Lib.hid (T1.out.lw.bel.trans (hb.mono T1.out.lw.bel.size))
                clear hb
                go_wp2
                go_returns
                exact ⟨rfl, FIN.out⟩
end Go.Proofs.Ytgnnpfainoppeaa
