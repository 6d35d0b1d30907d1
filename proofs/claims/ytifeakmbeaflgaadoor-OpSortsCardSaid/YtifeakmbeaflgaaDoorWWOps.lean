/- Writer.Stamp, Len, Bytes; slices.Clone of bytes. -/
import Derived.Test.YtifeakmbeaflgaaDoorWWNum
set_option linter.unusedVariables false
namespace Go.Proofs.YtifeakmbeaflgaaDoor.Wi
open Go.RowKit

/-- What a call leaves that hands back a row of its own: these bytes, in a new block, or nil. -/
def RowOut (w w' : World) (r : Value) (bs : List Int) : Prop := w'.ownsRow w.heap.size 5 1 r bs.length (u8s bs) ∧ Below w.heap.size w w'

/-- A slice that holds these bytes, wherever. -/
def Lies (w : World) (v : Value) (bs : List Int) : Prop := ∃ ao cap, v = .slice ao bs.length cap ∧ bs.length ≤ cap ∧ (ao = none → bs = [] ∧ cap = 0) ∧ ∀ b, ao = some b → ∀ j u, (u8s bs)[j]? = some u → w.cell? (b.add j) = some u
theorem own_lies {w : World} {B : Nat} {v : Value} {bs : List Int} (h : w.ownsRow B 5 1 v bs.length (u8s bs)) : Lies w v bs := by
  rcases h.2 with ⟨rfl, hn⟩ | ⟨g, cap, cur, rfl, hB, hg, hn, hm, hs, ht⟩
  · have : bs = [] := List.eq_nil_of_length_eq_zero hn
    subst this
    exact ⟨none, 0, rfl, Nat.le_refl _, fun _ => ⟨rfl, rfl⟩, fun b hb => by cases hb⟩
  · refine ⟨_, cap, rfl, hn, (fun h => by cases h), fun b hb => ?_⟩
    cases hb
    exact h.cells (g := g) rfl
theorem Lies.src {w : World} {v : Value} {bs : List Int} (h : Lies w v bs) : Src Tryd.prog 1 36 v bs.length (u8s bs) w := by
  obtain ⟨ao, cap, rfl, hn, h0, hc⟩ := h
  cases ao with
  | none =>
    obtain ⟨rfl, rfl⟩ := h0 rfl
    exact Src.ofNil _ Tryd.underlying36 0
  | some b => exact Src.ofSlice _ Tryd.underlying36 b _ _ _ (by rw [u8s_length, Nat.mul_one]) (hc b rfl) (u8s_one _)

theorem Lies.later {w w' : World} {v : Value} {bs : List Int} (h : Lies w v bs) (hb : Below w.heap.size w w') : Lies w' v bs := by
  obtain ⟨ao, cap, rfl, hn, h0, hc⟩ := h
  refine ⟨ao, cap, rfl, hn, h0, fun b hbb j u hj => ?_⟩
  have h1 := hc b hbb j u hj
  rw [hb.cell (World.block_lt_of_cell? w _ h1)]
  exact h1

theorem own_empty (w : World) (base e : Nat) (size : Nat) (hb : base ≤ w.heap.size) : (w.alloc (.cells #[] e)).ownsRow base e size (.slice (some ⟨w.heap.size, 0, none⟩) 0 0) 0 [] := by
  have := World.ownsRow_made (e := e) (size := size) w #[] 0 hb (by unfold maxLen; omega) (by simp)
  exact this

set_option maxRecDepth 100000 in
set_option maxHeartbeats 400000 in
theorem clone_any (w : World) (v : Value) (bs : List Int) (h : Lies w v bs) (hl : bs.length ≤ 1000000) :
    Calls Tryd.prog 52 #[v] w fun e w' => ∃ r, e = .returned r ∧ RowOut w w' r bs := by
  obtain ⟨i0, hi, hz0, hz1, hz2⟩ := info_parts Tryd.info5
  have H := Lib.hid h
  obtain ⟨ao, cap, rfl, hn, h0, hc⟩ := h
  clear hc
  cases ao with
  | none =>
    obtain ⟨rfl, rfl⟩ := h0 rfl
    have kc := fun W => Lib.run_eql_slice_nil (P := Tryd.prog) W 36 5 none 0 0 0 0 Tryd.underlying36
    go_enter Tryd.func52, Tryd.ntmps52
    go_wp2
    go_returns
    exact ⟨_, rfl, World.ownsRow_nil _ _ _ _, Below.refl _ _⟩
  | some b =>
    clear h0
    have kc := fun W => Lib.run_eql_slice_nil (P := Tryd.prog) W 36 5 (some b) bs.length cap 0 0 Tryd.underlying36
    go_enter Tryd.func52, Tryd.ntmps52
    have hX := (Below.refl w.heap.size w).alloc (Nat.le_refl _) (.cells #[] 5)
    have hL := (H.out.later hX).src
    have HL := Lib.hid hL
    clear hL hX
    go_wp2_with (at_builtin; refine wpList_append_src_own rfl (.tmp 5) (.tmp 6) 36 36 rfl w.heap.size 5 i0 (.int .u8 0) 1 1 Tryd.underlying36 hi hz0 hz1 hz2 rfl (by decide) _ 0 [] rfl (own_empty w _ 5 1 (Nat.le_refl _)) _ bs.length (u8s bs) rfl HL.out (by unfold maxLen; omega) (by omega) (by simp) ?_; intro v1 w1 hown hgr hsp)
    go_returns
    rw [Nat.zero_add, List.nil_append] at hown
    exact ⟨_, rfl, hown, ((Below.refl w.heap.size w).alloc (Nat.le_refl _) (.cells #[] 5)).grown hgr (by simp) (fun k hk => by simp [Act.eval, Value.ownBlock] at hk; omega)⟩

set_option maxRecDepth 100000 in
set_option maxHeartbeats 400000 in
theorem wbytes_any (w : World) (B a : Nat) (v : Value) (bs : List Int) (h : WrI w B a v bs) (hl : bs.length ≤ 900000) :
    Calls Tryd.prog 20 #[.pointer (some ⟨a, 0, none⟩)] w fun e w' => ∃ r, e = .returned r ∧ RowOut w w' r bs := by
  have hL := own_lies h.own
  obtain ⟨ao, cp, rfl⟩ := own_shape h.own
  obtain ⟨hc1, hc2⟩ := h.cells
  have HL := Lib.hid hL
  clear h hL
  go_enter Tryd.func20, Tryd.ntmps20
  go_wp2_with fail
  refine (clone_any w _ bs HL.out (by omega)).mono ?_
  rintro e w1 ⟨r, rfl, ho⟩
  have HO := Lib.hid ho
  clear ho
  go_wp2
  go_returns
  exact ⟨r, rfl, HO.out⟩

theorem WrI.old {w w' : World} {B a : Nat} {v : Value} {bs : List Int} (h : WrI w B a v bs) (hb : Below w.heap.size w w') : WrI w' B a v bs :=
  ⟨h.ge, (hb.block a (lt_of_block h.blk)).trans h.blk, h.own.kept (row := none) ⟨hb.os, hb.tape, hb.output, hb.size, fun k hk _ => hb.block k hk⟩ (by cases h : v.ownBlock <;> simp)⟩
theorem Eff.ofBelow {w w' : World} (a : Nat) (v : Value) (hb : Below w.heap.size w w') : Eff w w' a v v := ⟨hb.os, hb.tape, hb.output, hb.size, fun k hk _ _ => hb.block k hk, .inl rfl⟩

set_option maxRecDepth 100000 in
set_option maxHeartbeats 400000 in
theorem wstamp_any (w : World) (B a : Nat) (v : Value) (bs : List Int) (x y : Int) (hx : x ≤ 9223372036854775807) (hy : y ≤ 9223372036854775807) (h : WrI w B a v bs) (hB : B ≤ w.heap.size) (hl : bs.length ≤ 900000) :
    Calls Tryd.prog 48 #[.pointer (some ⟨a, 0, none⟩), .agg #[.int .i64 x, .int .i64 y]] w fun e w' => e = .returned (.tuple #[]) ∧ WrOut w w' B a v (bs ++ stb x y) := by
  have hX := (Below.refl w.heap.size w).alloc (Nat.le_refl _) (.cells #[.int .i64 x, .int .i64 y] 23)
  have h1 := h.old hX
  have hbox := heap_alloc_new w (.cells #[.int .i64 x, .int .i64 y] 23)
  have hap : some w.heap.size ≠ v.ownBlock := fun c => by have := h.own.lt _ c.symm; omega
  have hna : w.heap.size ≠ a := by have := lt_of_block h.blk; omega
  have hnl : (bs ++ nb x.toNat).length ≤ 900009 := by have := nb_len9 x.toNat (by omega); rw [List.length_append]; omega
  have H := Lib.hid h1
  have HX := Lib.hid hX
  have HB := Lib.hid hbox
  clear h h1 hX hbox
  generalize hbs : bs ++ nb x.toNat = bs1 at *
  have HBS := Lib.hid hbs
  clear hbs
  go_enter Tryd.func48, Tryd.ntmps48
  go_wp2_with fail
  refine (wnum_any _ B a v bs x hx H.out (by simp; omega) (by omega)).mono ?_
  rintro e w1 ⟨rfl, v1, hW, hE⟩
  rw [HBS.out] at hW
  have hb1 : w1.heap[w.heap.size]? = some (.cells #[.int .i64 x, .int .i64 y] 23 (0, 0)) := (hE.block w.heap.size (by simp) hna hap).trans HB.out
  have k0 : w1.cell? ⟨w.heap.size, 0, none⟩ = some (.int .i64 x) := by rw [cell_of_row _ _ _ _ _ _ hb1]; rfl
  have k1 : w1.cell? ⟨w.heap.size, 1, none⟩ = some (.int .i64 y) := by rw [cell_of_row _ _ _ _ _ _ hb1]; rfl
  have hB1 : B ≤ w1.heap.size := by have := hE.size; simp at this; omega
  have HW := Lib.hid hW
  have HE := Lib.hid hE
  clear hW hE hb1 hap hna
  go_wp2_with fail
  refine (wnum_any _ B a v1 bs1 y hy HW.out hB1 (by omega)).mono ?_
  rintro e w2 ⟨rfl, v2, hW2, hE2⟩
  have HW2 := Lib.hid hW2
  have HE2 := Lib.hid hE2
  clear hW2 hE2
  go_wp2
  go_returns
  refine ⟨rfl, v2, ?_, ((Eff.ofBelow a v HX.out).trans HE.out).trans HE2.out⟩
  rw [show bs ++ stb x y = bs1 ++ nb y.toNat by rw [← HBS.out, List.append_assoc]; rfl]
  exact HW2.out

end Go.Proofs.YtifeakmbeaflgaaDoor.Wi
