/- A disk: first, Clone, Read. -/
import Derived.Test.YtgbihpfpiaacfaaGreatDoorDD
set_option linter.unusedVariables false
set_option linter.unusedSimpArgs false
set_option maxRecDepth 100000
namespace Go.Proofs.YtgbihpfpiaacfaaGreatDoor
open Go.RowKit Go.WideMaps Go.Maps

set_option maxHeartbeats 1600000 in
theorem first_any (w : World) (a : Option Addr) (L c : Nat) (sv : Int) (n : Nat) (hn : n ≤ c) (hc : c ≤ maxLen) :
    Calls Tryz.prog 46 #[.agg #[.slice a L c, .int .i64 sv], .int .i64 (n : Int)] w fun e w' => e = .returned (.agg #[.slice a n c, .int .i64 (n : Int)]) ∧ Below w.heap.size w w' := by
  have hnm : n ≤ 9223372036854775807 := by unfold maxLen at hc; omega
  have B1 := vstep w (.cells #[.slice a L c, .int .i64 sv] 82)
  have B2 := vstep (w.alloc (.cells #[.slice a L c, .int .i64 sv] 82)) (.cells #[.slice none 0 0, .int .i64 0] 82)
  have E1 := Lib.hid ((FB.new w (.slice a L c) sv).step B2)
  have E2 := Lib.hid (FB.new (w.alloc (.cells #[.slice a L c, .int .i64 sv] 82)) (.slice none 0 0) 0)
  rw [World.size_alloc] at E2
  have B := Lib.hid (B1.trans (B2.mono B1.size))
  obtain ⟨W0, hW0⟩ : ∃ y, (w.alloc (.cells #[.slice a L c, .int .i64 sv] 82)).alloc (.cells #[.slice none 0 0, .int .i64 0] 82) = y := ⟨_, rfl⟩
  rw [hW0] at E1 E2 B
  have HW := Lib.hid hW0
  clear B1 B2 hW0
  go_enter Tryz.func46, Tryz.ntmps46
  go_upto_region 1 with (fail)
  rw [HW.out]
  obtain ⟨c0, c1⟩ := E1.out.cells
  obtain ⟨e0, e1⟩ := E2.out.cells
  obtain ⟨f0, f1⟩ := E2.out.free
  go_wp2
  obtain ⟨w5, hW5⟩ : ∃ w5, sets2 W0 (w.heap.size + 1) (.slice a n c) (.int .i64 (n : Int)) = w5 := ⟨_, rfl⟩
  have hb5 := sets2_row (x' := .slice a n c) (y' := (n : Int)) E2.out
  have hw5 := sets2_below (x := .slice a n c) (y := .int .i64 (n : Int)) B.out (show w.heap.size ≤ w.heap.size + 1 by omega)
  rw [hW5] at hb5 hw5
  unfold sets2 at hW5
  rw [hW5]
  clear hW5 c0 c1 e0 e1 f0 f1
  obtain ⟨d0, d1⟩ := FB.cells (show FB w5 (w.heap.size + 1) (.slice a n c) (n : Int) from hb5)
  refine bodyPost_ret (by simp [results, Tryz.results46, go_sem, d0, d1]; try rfl) rfl ?_
  exact ⟨rfl, hw5⟩
theorem own_empty (w : World) (B : Nat) (e : TypeId) (k : Nat) (hB : B ≤ w.heap.size) : (w.alloc (.cells #[] e)).ownsRow B e k (.slice (some ⟨w.heap.size, 0, none⟩) 0 0) 0 [] :=
  ⟨by simp, .inr ⟨w.heap.size, 0, #[], rfl, hB, heap_alloc_new w _, Nat.le_refl _, Nat.zero_le _, by simp, by simp⟩⟩
set_option maxHeartbeats 1600000 in
theorem clone_any (w : World) (v : Value) (bs : List Int) (h : LiesK encB 1 w v bs) (hl : bs.length ≤ 100000000) :
    Calls Tryz.prog 71 #[v] w fun e w' => ∃ r, e = .returned r ∧ w'.ownsRow w.heap.size 5 1 r bs.length (bs.flatMap encB) ∧ Below w.heap.size w w' := by
  obtain ⟨i0, hi, hz0, hz1, hz2⟩ := info_parts info5
  have H := Lib.hid h
  obtain ⟨ao, cap, rfl, hn, hmx, h0, hc⟩ := h
  clear hc
  cases ao with
  | none =>
    obtain ⟨rfl, rfl⟩ := h0 rfl
    have kc := fun W => Lib.run_eql_slice_nil (P := Tryz.prog) W 39 5 none 0 0 0 0 Tryz.underlying39
    go_enter Tryz.func71, Tryz.ntmps71
    go_wp2
    go_returns
    exact ⟨_, rfl, World.ownsRow_nil _ _ _ _, Below.refl _ _⟩
  | some b =>
    clear h0
    have kc := fun W => Lib.run_eql_slice_nil (P := Tryz.prog) W 39 5 (some b) bs.length cap 0 0 Tryz.underlying39
    go_enter Tryz.func71, Tryz.ntmps71
    have hX := vstep w (.cells #[] 5)
    have HL := Lib.hid ((H.out.step hX).src Tryz.u33 encB_len (by omega) encB_one)
    clear hX
    go_wp2_with (at_builtin; refine wpList_append_src_own rfl (.tmp 5) (.tmp 6) 39 39 rfl w.heap.size 5 i0 (.int .u8 0) 1 1 Tryz.underlying39 hi hz0 hz1 hz2 rfl (by decide) _ 0 [] rfl (own_empty w _ 5 1 (Nat.le_refl _)) _ bs.length (bs.flatMap encB) rfl HL.out (by unfold maxLen; omega) (by omega) (by simp) ?_; intro v1 w1 hown hgr hsp)
    go_returns
    rw [Nat.zero_add, List.nil_append] at hown
    exact ⟨_, rfl, hown, ((Below.refl w.heap.size w).alloc (Nat.le_refl _) (.cells #[] 5)).grown hgr (by simp) (fun k hk => by simp [Act.eval, Value.ownBlock] at hk; omega)⟩
theorem own_less {W : World} {E E' k n : Nat} {e : TypeId} {v : Value} {xs : List Value} (h : W.ownsRow E e k v n xs) (hE : E' ≤ E) : W.ownsRow E' e k v n xs :=
  ⟨h.1, h.2.imp id (fun ⟨g, cap, cur, e1, hB, h2⟩ => ⟨g, cap, cur, e1, Nat.le_trans hE hB, h2⟩)⟩
set_option maxHeartbeats 1600000 in
theorem read_any (w : World) (B d : Nat) (s : DS) (h : DK w B d s) (hB : B ≤ w.heap.size) (nm : ByteArray) (hs : nm.size ≤ maxLen) (hl : ∀ x ∈ s.l, x.b.length ≤ 100000000) :
    Calls Tryz.prog 55 #[pv d, .string nm] w fun e w' => ∃ v, e = .returned (.tuple #[v, .int .i64 (fnd s nm)]) ∧ w'.ownsRow w.heap.size 5 1 v (fval s nm).b.length ((fval s nm).b.flatMap encB) ∧ Below w.heap.size w w' := by
  have F := Lib.hid (find_any w B d s h nm hs)
  obtain ⟨fe, hfe⟩ : ∃ fe, fnd s nm = fe := ⟨_, rfl⟩
  obtain ⟨y, hy⟩ : ∃ y, fval s nm = y := ⟨_, rfl⟩
  have hcase : (fe = 0 ∧ y ∈ s.l) ∨ (fe ≠ 0 ∧ y.b = []) := by
    subst hfe hy
    unfold fnd fval
    cases s.dn with
    | true => right; simp
    | false =>
      cases hg : getF s.l nm with
      | none => right; simp
      | some x =>
        left
        simp
        exact List.mem_of_find?_eq_some (by unfold getF at hg; exact hg)
  rw [hfe, hy] at F ⊢
  rcases hcase with ⟨h0, hmem⟩ | ⟨h0, hnil⟩
  · subst h0
    have HY := Lib.hid (own_liesK encB_len (h.rows y hmem))
    have HL := Lib.hid (hl y hmem)
    clear h hl hmem hfe hy
    unfold Fl.v at HY
    go_enter Tryz.func55, Tryz.ntmps55
    go_wp2_with fail
    refine F.out.mono ?_
    rintro e w1 ⟨rfl, hb⟩
    have B2 := vstep w1 (.cells #[.slice y.a y.b.length y.c, .int .i64 y.s] 82)
    have G := Lib.hid (FB.new w1 (.slice y.a y.b.length y.c) y.s)
    obtain ⟨W2, hW2⟩ : ∃ z, w1.alloc (.cells #[.slice y.a y.b.length y.c, .int .i64 y.s] 82) = z := ⟨_, rfl⟩
    rw [hW2] at B2 G
    have HW2 := Lib.hid hW2
    have BB := Lib.hid (hb.trans (B2.mono hb.size))
    have C := Lib.hid (clone_any W2 _ y.b (HY.out.step BB.out) HL.out)
    clear hW2 B2 hb
    go_upto_region 2 with (fail)
    rw [HW2.out]
    obtain ⟨g0, g1⟩ := G.out.cells
    go_wp2_with fail
    refine C.out.mono ?_
    rintro e w3 ⟨r, rfl, ho, hb⟩
    have O := Lib.hid ho
    have B3 := Lib.hid (BB.out.trans (hb.mono BB.out.size))
    clear ho hb g0 g1
    go_wp2
    go_returns
    exact ⟨r, rfl, own_less O.out BB.out.size, B3.out⟩
  · clear h hl hfe hy
    go_enter Tryz.func55, Tryz.ntmps55
    go_wp2_with fail
    refine F.out.mono ?_
    rintro e w1 ⟨rfl, hb⟩
    have B2 := Lib.hid hb
    have HN := Lib.hid hnil
    clear hb hnil
    have h0' : (fe != 0) = true := by simpa using h0
    go_wp2
    go_returns
    refine ⟨_, rfl, ?_, B2.out.trans ((vstep w1 _).mono B2.out.size)⟩
    rw [HN.out]
    exact World.ownsRow_nil _ _ _ _
end Go.Proofs.YtgbihpfpiaacfaaGreatDoor

