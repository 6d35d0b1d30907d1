/- The reference's disk: one more file put behind a list that lies in a box; without. Made by genrc10.py. -/
import Derived.Test.YtoddofcmdbifpaaRBs
set_option linter.unusedVariables false
set_option linter.unusedSimpArgs false
set_option maxRecDepth 100000
namespace Go.Proofs.Ytoddofcmdbifpaa
open Go.RowKit Go.WideMaps Go.Maps

theorem info66 : (Try.prog.info? 66).map (fun i => (i.zero, i.size, i.bytes)) = some (some (.agg #[.string ⟨#[]⟩, .slice none 0 0, .int .i64 0]), 3, 48) := by kernel_rfl
theorem Try.u27 : Try.prog.underlying 27 = some (.slice 66) := by kernel_rfl
theorem ldR66 {W : World} {g o : Nat} {n : ByteArray} {a : Option Addr} {L c : Nat} {s : Int} (h0 : W.cell? ⟨g, o, none⟩ = some (.string n)) (h1 : W.cell? ⟨g, o + 1, none⟩ = some (.slice a L c)) (h2 : W.cell? ⟨g, o + 2, none⟩ = some (.int .i64 s)) : (Instr.loadAt 66 (.pointer (some ⟨g, o, none⟩))).run Try.prog W = .ok (.agg #[.string n, .slice a L c, .int .i64 s]) W := by go_simp
theorem ldV27 {W : World} {g o : Nat} {a : Option Addr} {n c : Nat} (h : W.cell? ⟨g, o, none⟩ = some (.slice a n c)) : (Instr.loadAt 27 (.pointer (some ⟨g, o, none⟩))).run Try.prog W = .ok (.slice a n c) W := by go_simp
theorem ix27 {W : World} {g o n c i : Nat} (hi : i < n) (hn : n ≤ 100000) : (Instr.indexAt 27 (.slice (some ⟨g, o, none⟩) n c) (.int .i64 (i : Int))).run Try.prog W = .ok (.pointer (some ⟨g, o + i * 3, none⟩)) W := by go_simp
theorem run_storeV27 (W : World) (g o : Nat) (a : Option Addr) (n c : Nat) (u : Value) (h : W.cell? ⟨g, o, none⟩ = some u) (hf : W.frozen? ⟨g, o, none⟩ = false) : (Instr.storeAt 27 (.pointer (some ⟨g, o, none⟩)) (.slice a n c)).run Try.prog W = .ok () (W.setCell ⟨g, o, none⟩ (.slice a n c)) := by
  go_simp
theorem bs27 (W : World) (n : ByteArray) (a : Option Addr) (L c : Nat) (s : Int) : (Instr.buildSlice 27 1 #[(0, .agg #[.string n, .slice a L c, .int .i64 s])]).run Try.prog W = .ok (.slice (some ⟨W.heap.size, 0, none⟩) 1 1) (W.alloc (.cells #[.string n, .slice a L c, .int .i64 s] 66)) := by go_simp
/-- One more file, put behind the list that lies in a box. -/
theorem put_file {W : World} {B ob : Nat} {v : Value} {l0 : List Fl} {room lasts : Int} {dn : Bool} (x : Fl) (ho : W.ownsRow B 66 3 v l0.length (l0.flatMap encR)) (hb : RB W ob v room lasts dn) (hB : B ≤ W.heap.size) (hl : l0.length < 100000) :
    ∃ a' c' w3 w4, (∀ ty, (Builtin.append_ #[27, 27] ty #[v, .slice (some ⟨W.heap.size, 0, none⟩) 1 1]).run Try.prog (W.alloc (.cells #[.string x.n, .slice x.a x.b.length x.c, .int .i64 x.s] 66)) = .ok (.slice a' (l0 ++ [x]).length c') w3) ∧
      (Instr.storeAt 27 (.pointer (some ⟨ob, 0, none⟩)) (.slice a' (l0 ++ [x]).length c')).run Try.prog w3 = .ok () w4 ∧ RB w4 ob (.slice a' (l0 ++ [x]).length c') room lasts dn ∧ w4.ownsRow B 66 3 (.slice a' (l0 ++ [x]).length c') (l0 ++ [x]).length ((l0 ++ [x]).flatMap encR) ∧
      Far (fun k => v.ownBlock = some k ∨ k = ob) W w4 ∧ Far (fun k => v.ownBlock = some k) W w3 := by
  obtain ⟨i0, hi, hz0, hz1, hz2⟩ := info_parts info66
  have B1 := vstep W (.cells #[.string x.n, .slice x.a x.b.length x.c, .int .i64 x.s] 66)
  have hx : (W.alloc (.cells #[.string x.n, .slice x.a x.b.length x.c, .int .i64 x.s] 66)).heap[W.heap.size]? = some (.cells (encR x).toArray 66 (0, 0)) := heap_alloc_new W _
  have o1 := own_belowK ho B1
  have b1 := hb.step B1
  have hob : v.ownBlock ≠ some ob := by
    intro e
    rcases ho.2 with ⟨h0, _⟩ | ⟨g', cap, cur, h0, _, hb', _⟩
    · rw [h0] at e; cases e
    · rw [h0] at e
      have : g' = ob := by simpa [Value.ownBlock] using e
      subst this
      rw [show W.heap[g']? = _ from hb] at hb'
      cases hb'
  obtain ⟨v', w3, h2, h3, h4, _⟩ := run_append_src_own (P := Try.prog) (W.alloc (.cells #[.string x.n, .slice x.a x.b.length x.c, .int .i64 x.s] 66)) B 27 27 0 66 i0 (.agg #[.string ⟨#[]⟩, .slice none 0 0, .int .i64 0]) 3 48 Try.u27 hi hz0 hz1 hz2 rfl (by decide) v l0.length (l0.flatMap encR) o1 (.slice (some ⟨W.heap.size, 0, none⟩) 1 1) 1 ([x].flatMap encR) ((one_liesK encR_len hx).src Try.u27 encR_len (by decide) encR_one) (by unfold maxLen; omega) (by omega) (by have := B1.size; omega)
  obtain ⟨a', c', rfl⟩ := own_shapeK h3
  have hl1 : (l0 ++ [x]).length = l0.length + 1 := by simp
  have h3' : w3.ownsRow B 66 3 (.slice a' (l0.length + 1) c') (l0.length + 1) ((l0 ++ [x]).flatMap encR) := by rw [List.flatMap_append]; exact h3
  have f3 : Far (fun k => v.ownBlock = some k) W w3 := (Far.of_below (P := fun k => v.ownBlock = some k) B1).trans (Far.of_grown h4 (fun k e => e)) (fun k _ q => q)
  have b3 : RB w3 ob v room lasts dn := (h4.block ob (lt_of_block b1) (fun e => hob e.symm)).trans b1
  have b4 : RB (w3.setCell ⟨ob, 0, none⟩ (.slice a' (l0.length + 1) c')) ob (.slice a' (l0.length + 1) c') room lasts dn := row_setC (j := 0) (u := .slice a' (l0.length + 1) c') b3
  have f4 := far_set w3 ob 0 (.slice a' (l0.length + 1) c')
  refine ⟨a', c', w3, w3.setCell ⟨ob, 0, none⟩ (.slice a' (l0.length + 1) c'), fun ty => by rw [hl1]; exact h2, by rw [hl1]; exact run_storeV27 w3 ob 0 a' _ c' _ b3.cells.1 b3.free.1, by rw [hl1]; exact b4, ?_, ?_, f3⟩
  · rw [hl1]
    refine f4.row h3' (fun j e q => ?_)
    subst q
    rcases h3'.2 with ⟨h0, _⟩ | ⟨g', cap, cur, h0, _, hb', _⟩
    · rw [h0] at e; cases e
    · rw [h0] at e
      have : g' = j := by simpa [Value.ownBlock] using e
      subst this
      rw [show w3.heap[g']? = _ from b3] at hb'
      cases hb'
  · exact (⟨f3.os, f3.tape, f3.output, f3.size, fun k hk q => f3.block k hk (fun e => q (.inl e))⟩ : Far _ W w3).trans f4 (fun k _ q => .inr q)
set_option maxHeartbeats 3200000 in
theorem wsame_any (w : World) (v1 v2 : Value) (b1 b2 : List Int) (h1 : LiesK encB 1 w v1 b1) (h2 : LiesK encB 1 w v2 b2) (hb : b2.length ≤ 100000) :
    Calls Try.prog 31 #[v1, v2] w fun e w' => e = .returned (.bool (decide (b1 = b2))) ∧ Below w.heap.size w w' := by
  have L1 := Lib.hid h1
  have L2 := Lib.hid h2
  obtain ⟨a1, c1, rfl⟩ := h1.shape
  obtain ⟨a2, c2, rfl⟩ := h2.shape
  have hlen1 := h1.len
  have hlen2 := h2.len
  clear h1 h2
  by_cases hl : b1.length = b2.length
  · obtain ⟨res, hres⟩ : ∃ y, decide (b1 = b2) = y := ⟨_, rfl⟩
    rw [hres]
    have HR := Lib.hid hres
    clear hres
    have HL := Lib.hid hl
    have q1 : ((b1.length : Int) == (b2.length : Int)) = true := by rw [hl]; simp
    have q2 : ((b1.length : Int) != (b2.length : Int)) = false := by rw [hl]; simp
    go_enter Try.func31, Try.ntmps31
    go_wp2_with fail
    go_loopw [5] (fun sv wr => ∃ i : Nat, sv = .int .i64 i ∧ i ≤ b1.length ∧ Hid (Below w.heap.size w wr ∧ ∀ (j : Nat), j < i → b1[j]? = b2[j]?)) (fun sv _ => b1.length - (intOf sv).toNat)
    case atStart => exact ⟨0, rfl, Nat.zero_le _, Lib.hid ⟨Below.refl _ _, fun j h => absurd h (Nat.not_lt_zero _)⟩⟩
    case round =>
      obtain ⟨i, rfl, hi, hK⟩ := hrel
      have K0 := Lib.hid hK.out.1
      have J0 := Lib.hid hK.out.2
      clear hK
      by_cases hlt : i < b1.length
      · have hlt2 : i < b2.length := by omega
        obtain ⟨g, o, p, rfl, hx, hg, a0⟩ := (L1.out.step K0.out).at' hlt
        obtain ⟨g', o', p', rfl, hx', hg', a0'⟩ := (L2.out.step K0.out).at' hlt2
        have k0 := a0 0 (.int .u8 p) rfl
        have k0' := a0' 0 (.int .u8 p') rfl
        have ca : ∀ x : Later wr, x.w.cell? ⟨g, o + i, none⟩ = some (.int .u8 p) := fun x => (x.below.cell (p := ⟨g, o + i, none⟩) hg).trans (by simpa using k0)
        have cb : ∀ x : Later wr, x.w.cell? ⟨g', o' + i, none⟩ = some (.int .u8 p') := fun x => (x.below.cell (p := ⟨g', o' + i, none⟩) hg').trans (by simpa using k0')
        have HX := Lib.hid (And.intro hx hx')
        clear k0 k0' a0 a0' hx hx'
        by_cases hp : p = p'
        · subst hp
          have e1 : (p == p) = true := by simp
          have e2 : (p != p) = false := by simp
          have JN := Lib.hid (show ∀ (j : Nat), j < i + 1 → b1[j]? = b2[j]? from fun j hj => by
            by_cases e : j = i
            · subst e; rw [HX.out.1, HX.out.2]
            · exact J0.out j (by omega))
          go_upto_region 6 with (fail)
          refine wp_region_later (by kernel_rfl) (by kernel_rfl) ?_
          repeat (go_big_quiet_step (fail))
          refine wpQuiet_nil ?_
          rintro _ ⟨xl, rfl⟩
          have B1 := Lib.hid (K0.out.trans (xl.below.mono K0.out.size))
          clear ca cb
          go_wp2
          go_roundw
          case rel => exact ⟨i + 1, by go_num, by omega, Lib.hid ⟨B1.out, JN.out⟩⟩
          case measure => simp [intOf]; omega
        · have e1 : (p == p') = false := by simpa using hp
          have e2 : (p != p') = true := by simpa using hp
          have EQ := Lib.hid (show res = false from by
            rw [← HR.out]
            refine decide_eq_false (fun e => hp ?_)
            have h3 := HX.out.1
            rw [e, HX.out.2] at h3
            injection h3 with h3
            exact h3.symm)
          clear hp
          go_upto_region 6 with (fail)
          refine wp_region_later (by kernel_rfl) (by kernel_rfl) ?_
          repeat (go_big_quiet_step (fail))
          refine wpQuiet_nil ?_
          rintro _ ⟨xl, rfl⟩
          have B1 := Lib.hid (K0.out.trans (xl.below.mono K0.out.size))
          clear ca cb
          go_wp2
          go_returns
          exact ⟨by rw [EQ.out]; rfl, B1.out⟩
      · have hge : ¬ ((i : Int) < (b1.length : Int)) := by omega
        have EQ := Lib.hid (show res = true from by
          rw [← HR.out]
          refine decide_eq_true (List.ext_getElem? (fun j => ?_))
          by_cases hj : j < i
          · exact J0.out j hj
          · rw [List.getElem?_eq_none (by omega), List.getElem?_eq_none (by omega)])
        go_wp2
        go_returns
        exact ⟨by rw [EQ.out]; rfl, K0.out⟩
  · have hd : decide (b1 = b2) = false := decide_eq_false (fun e => hl (by rw [e]))
    rw [hd]
    have q1 : ((b1.length : Int) == (b2.length : Int)) = false := by simp; omega
    have q2 : ((b1.length : Int) != (b2.length : Int)) = true := by simp; omega
    clear hl hd
    go_enter Try.func31, Try.ntmps31
    go_wp2
    go_returns
    exact ⟨rfl, Below.refl _ _⟩
end Go.Proofs.Ytoddofcmdbifpaa
