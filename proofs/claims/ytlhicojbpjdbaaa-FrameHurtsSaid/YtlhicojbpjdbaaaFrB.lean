/- Put of both. -/
import Derived.Test.YtlhicojbpjdbaaaFrA
import Derived.Deep.RegionHeld3
import Derived.Laws.MakeOwn
import Derived.Laws.CopyOwn
set_option linter.unusedVariables false
namespace Go.Proofs.Ytlhicojbpjdbaaa
open Go.RowKit

/-- What is sealed of a frame. -/
def fb (k f t : Nat) (l : List Nat) : List Nat := 1 :: k :: f :: t :: l

theorem RowOut.later {w W w' : World} {r : Value} {bs : List Nat} (h : RowOut W w' r bs) (hb : Below w.heap.size w W) : RowOut w w' r bs := by
  refine ⟨?_, hb.trans (h.2.mono hb.size)⟩
  have hle := hb.size
  rcases h.1 with ⟨hlen, hrest⟩
  refine ⟨hlen, ?_⟩
  rcases hrest with h | ⟨g, cap, cur, e, hB, rest⟩
  · exact .inl h
  · exact .inr ⟨g, cap, cur, e, by omega, rest⟩

theorem four_set {k f t : Nat} {bs : List Nat} {Z : Array Value} (hz : Z.size = 4 + bs.length) :
    ((((Z.setIfInBounds 0 (Value.int IntKind.u8 1)).setIfInBounds 1 (Value.int IntKind.u8 (k : Int))).setIfInBounds 2 (Value.int IntKind.u8 (f : Int))).setIfInBounds 3 (Value.int IntKind.u8 (t : Int))).size = 4 + bs.length ∧
    splice ((((Z.setIfInBounds 0 (Value.int IntKind.u8 1)).setIfInBounds 1 (Value.int IntKind.u8 (k : Int))).setIfInBounds 2 (Value.int IntKind.u8 (f : Int))).setIfInBounds 3 (Value.int IntKind.u8 (t : Int))).toList 4 (u8s bs) = u8s (fb k f t bs) := by
  have hs : ((((Z.setIfInBounds 0 (Value.int IntKind.u8 1)).setIfInBounds 1 (Value.int IntKind.u8 (k : Int))).setIfInBounds 2 (Value.int IntKind.u8 (f : Int))).setIfInBounds 3 (Value.int IntKind.u8 (t : Int))).size = 4 + bs.length := by simp [hz]
  refine ⟨hs, ?_⟩
  unfold splice
  rw [List.drop_of_length_le (by rw [Array.length_toList, hs, u8s_length]; omega), List.append_nil]
  simp only [Array.toList_setIfInBounds]
  match hl : Z.toList, (show 4 ≤ Z.toList.length by rw [Array.length_toList, hz]; omega) with
  | a :: b :: c :: d :: r, _ => rfl

set_option maxRecDepth 100000 in
set_option maxHeartbeats 1600000 in
theorem put_any (w : World) (k f t : Nat) (v : Value) (bs : List Nat) (h : Lies w v bs) (hb : Byt bs) (hk : k < 256) (hf : f < 256) (ht : t < 256) (hl : bs.length ≤ 65536) (hc : chk k f t bs.length = 0) :
    Calls Try.prog 8 #[.agg #[.int .i64 k, .int .i64 f, .int .i64 t, v]] w fun e w' => ∃ r, e = .returned (.tuple #[r, .int .i64 0]) ∧ RowOut w w' r (seal' (fb k f t bs)) := by
  obtain ⟨i0, hi, hz0, hz1, hz2⟩ := info_parts Try.info5
  have H := Lib.hid h
  obtain ⟨ao, cap, rfl, hcap, hmx, h0, hcl⟩ := h
  have hX := (Below.refl w.heap.size w).alloc (Nat.le_refl _) (.cells #[.int .i64 k, .int .i64 f, .int .i64 t, .slice ao bs.length cap] 29)
  have hbox := heap_alloc_new w (.cells #[.int .i64 (k : Int), .int .i64 (f : Int), .int .i64 (t : Int), .slice ao bs.length cap] 29)
  have C := Lib.hid (fun W => check_any W k f t ao bs.length cap)
  rw [hc] at C
  have HX := Lib.hid hX
  have HB := Lib.hid hbox
  clear hX hbox hc h0 hcl
  go_enter Try.func8, Try.ntmps8
  go_wp2_with fail
  refine (C.out _).mono ?_
  rintro e w1 ⟨rfl, hb1⟩
  have B1 := Lib.hid (HX.out.trans (hb1.mono HX.out.size))
  have hb2 := (hb1.block w.heap.size (by simp)).trans HB.out
  have c0 : w1.cell? ⟨w.heap.size, 0, none⟩ = some (.int .i64 k) := by rw [cell_of_row _ _ _ _ _ _ hb2]; rfl
  have c1 : w1.cell? ⟨w.heap.size, 1, none⟩ = some (.int .i64 f) := by rw [cell_of_row _ _ _ _ _ _ hb2]; rfl
  have c2 : w1.cell? ⟨w.heap.size, 2, none⟩ = some (.int .i64 t) := by rw [cell_of_row _ _ _ _ _ _ hb2]; rfl
  have c3 : w1.cell? ⟨w.heap.size, 3, none⟩ = some (.slice ao bs.length cap) := by rw [cell_of_row _ _ _ _ _ _ hb2]; rfl
  have hmk := run_make (P := Try.prog) w1 22 5 i0 (.int .u8 0) Try.underlying22 hi hz0 .i64 .i64 (4 + (bs.length : Int)) (4 + (bs.length : Int)) (by omega) (by omega) (by rw [hz2]; omega) (by omega)
  have e4 : (4 + (bs.length : Int)).toNat * i0.size = 4 + bs.length := by rw [hz1]; omega
  rw [e4] at hmk
  clear hb1 hb2 e4
  rw [show (Value.int IntKind.u8 0).cells = #[Value.int IntKind.u8 0] from rfl] at hmk
  generalize hz : madeCells #[Value.int IntKind.u8 0] (4 + bs.length) = Z at *
  have hzs : Z.size = 4 + bs.length := by rw [← hz]; exact size_madeCells _ _
  have HZ := Lib.hid (And.intro hz hzs)
  have hg := heap_alloc_new w1 (.cells Z 5)
  have hlt : w.heap.size < w1.heap.size := by have := B1.out.size; have := (Array.getElem?_eq_some_iff.1 (show w1.heap[w.heap.size]? = _ from (World.block_lt_of_cell? w1 _ c0 |> fun h => Array.getElem?_eq_getElem h))).1; exact this
  have o0 : ∀ X : Array Value, (w1.alloc (.cells X 5)).cell? ⟨w.heap.size, 0, none⟩ = some (.int .i64 k) := fun X => (((Below.refl w1.heap.size w1).alloc (Nat.le_refl _) (.cells X 5)).cell (p := ⟨w.heap.size, 0, none⟩) hlt).trans c0
  have o1 : ∀ X : Array Value, (w1.alloc (.cells X 5)).cell? ⟨w.heap.size, 1, none⟩ = some (.int .i64 f) := fun X => (((Below.refl w1.heap.size w1).alloc (Nat.le_refl _) (.cells X 5)).cell (p := ⟨w.heap.size, 1, none⟩) hlt).trans c1
  have o2 : ∀ X : Array Value, (w1.alloc (.cells X 5)).cell? ⟨w.heap.size, 2, none⟩ = some (.int .i64 t) := fun X => (((Below.refl w1.heap.size w1).alloc (Nat.le_refl _) (.cells X 5)).cell (p := ⟨w.heap.size, 2, none⟩) hlt).trans c2
  have o3 : ∀ X : Array Value, (w1.alloc (.cells X 5)).cell? ⟨w.heap.size, 3, none⟩ = some (.slice ao bs.length cap) := fun X => (((Below.refl w1.heap.size w1).alloc (Nat.le_refl _) (.cells X 5)).cell (p := ⟨w.heap.size, 3, none⟩) hlt).trans c3
  have g0 : (w1.alloc (.cells Z 5)).cell? ⟨w1.heap.size, 0, none⟩ = some Z[0] := by rw [cell_of_row _ _ _ _ _ _ hg]; exact Array.getElem?_eq_getElem (by omega)
  have g1 : (w1.alloc (.cells Z 5)).cell? ⟨w1.heap.size, 1, none⟩ = some Z[1] := by rw [cell_of_row _ _ _ _ _ _ hg]; exact Array.getElem?_eq_getElem (by omega)
  have g2 : (w1.alloc (.cells Z 5)).cell? ⟨w1.heap.size, 2, none⟩ = some Z[2] := by rw [cell_of_row _ _ _ _ _ _ hg]; exact Array.getElem?_eq_getElem (by omega)
  have g3 : (w1.alloc (.cells Z 5)).cell? ⟨w1.heap.size, 3, none⟩ = some Z[3] := by rw [cell_of_row _ _ _ _ _ _ hg]; exact Array.getElem?_eq_getElem (by omega)
  have f0 : (w1.alloc (.cells Z 5)).frozen? ⟨w1.heap.size, 0, none⟩ = false := frozen_of_row _ _ _ _ _ hg
  have f1 : (w1.alloc (.cells Z 5)).frozen? ⟨w1.heap.size, 1, none⟩ = false := frozen_of_row _ _ _ _ _ hg
  have f2 : (w1.alloc (.cells Z 5)).frozen? ⟨w1.heap.size, 2, none⟩ = false := frozen_of_row _ _ _ _ _ hg
  have f3 : (w1.alloc (.cells Z 5)).frozen? ⟨w1.heap.size, 3, none⟩ = false := frozen_of_row _ _ _ _ _ hg
  have HG := Lib.hid hg
  have x1 : IntKind.u8.wrap (k : Int) = (k : Int) := by rw [IntKind.wrap_u8']; omega
  have x2 : IntKind.u8.wrap (f : Int) = (f : Int) := by rw [IntKind.wrap_u8']; omega
  have x3 : IntKind.u8.wrap (t : Int) = (t : Int) := by rw [IntKind.wrap_u8']; omega
  have i0' : (0 : Int) < 4 + (bs.length : Int) := by omega
  have i1' : (1 : Int) < 4 + (bs.length : Int) := by omega
  have i2' : (2 : Int) < 4 + (bs.length : Int) := by omega
  have i3' : (3 : Int) < 4 + (bs.length : Int) := by omega
  have q1 : Z[1]? = some Z[1] := Array.getElem?_eq_getElem (by omega)
  have q2 : Z[2]? = some Z[2] := Array.getElem?_eq_getElem (by omega)
  have q3 : Z[3]? = some Z[3] := Array.getElem?_eq_getElem (by omega)
  have hne : w1.heap.size ≠ w.heap.size := by omega
  have hne2 : w.heap.size ≠ w1.heap.size := by omega
  generalize Z[0] = z0 at *
  generalize Z[1] = z1 at *
  generalize Z[2] = z2 at *
  generalize Z[3] = z3 at *
  clear hz hzs hg
  go_wp2
  clear c0 c1 c2 c3 hmk
  go_region_held3 (fun w' => w'.cell? ⟨w.heap.size, 0, none⟩ = some (.int .i64 k) ∧ w'.cell? ⟨w.heap.size, 1, none⟩ = some (.int .i64 f) ∧ w'.cell? ⟨w.heap.size, 2, none⟩ = some (.int .i64 t)) (go_keep) (fail)
  have K4 := four_set (k := k) (f := f) (t := t) (bs := bs) (Z := Z) HZ.out.2
  generalize (((Z.setIfInBounds 0 (Value.int IntKind.u8 1)).setIfInBounds 1 (Value.int IntKind.u8 ↑k)).setIfInBounds 2 (Value.int IntKind.u8 ↑f)).setIfInBounds 3 (Value.int IntKind.u8 ↑t) = Y at *
  have HK4 := Lib.hid K4
  have hbW : Below w.heap.size w ((w1.alloc (.cells Y 5)).drew) := (B1.out.alloc B1.out.size _).trans ⟨rfl, rfl, rfl, Nat.le_refl _, fun _ _ => rfl⟩
  have hgW : ((w1.alloc (.cells Y 5)).drew).heap[w1.heap.size]? = some (.cells Y 5 (0, 0)) := heap_alloc_new w1 (.cells Y 5)
  have o3W : ((w1.alloc (.cells Y 5)).drew).cell? ⟨w.heap.size, 3, none⟩ = some (.slice ao bs.length cap) := o3 Y
  have HS := Lib.hid (H.out.later hbW)
  have hsw : w.heap.size ≤ w1.heap.size := by omega
  generalize hW : (w1.alloc (.cells Y 5)).drew = W at *
  have HBW := Lib.hid hbW
  have HGW := Lib.hid hgW
  clear o0 o1 o2 o3 g0 g1 g2 g3 f0 f1 f2 f3 q1 q2 q3 hW hbW hgW HG HZ K4 x1 x2 x3
  have hsz1 : (Try.prog.info? 5).map (·.size) = some 1 := by rw [hi]; show some i0.size = _; rw [hz1]
  have HGY : Hid ((W.drew).heap[w1.heap.size]? = some (.cells Y.toList.toArray 5 (0, 0))) := Lib.hid (by rw [Array.toArray_toList]; exact HGW.out)
  have HBY : Hid (Below w.heap.size w W.drew) := Lib.hid (HBW.out.trans ⟨rfl, rfl, rfl, Nat.le_refl _, fun _ _ => rfl⟩)
  have HP : Hid (0 < (u8s bs).length → ∃ ad, ao = some ad ∧ ∀ j v, (u8s bs)[j]? = some v → (W.drew).cell? (ad.add j) = some v) := Lib.hid (fun hp => by
    rw [u8s_length] at hp
    obtain ⟨ao', cap', e, _, _, _, hc⟩ := HS.out
    injection e with e1 _ _
    subst e1
    cases hao : ao with
    | none =>
      obtain ⟨ao2, cap2, e2, _, _, h02, _⟩ := HS.out
      injection e2 with e3 _ _
      have := (h02 (e3.symm.trans hao)).1
      rw [this] at hp; simp at hp
    | some ad =>
      obtain ⟨k2, o2, e2, _, hc2⟩ := hc ad hao (ne_of_lt hp)
      refine ⟨ad, rfl, fun j v hj => ?_⟩
      rw [u8s_get] at hj
      cases hx : bs[j]? with
      | none => rw [hx] at hj; simp at hj
      | some x =>
        rw [hx] at hj
        injection hj with hj
        rw [e2, add_addr, ← hj]
        exact hc2 j x hx)
  have HF : Hid (4 + (u8s bs).length ≤ Y.toList.length) := Lib.hid (by
    have h1 := HK4.out.1
    have h2 : Y.toList.length = Y.size := Array.length_toList
    have h3 := u8s_length bs
    omega)
  have HLs : Hid (∀ w' : World, w'.heap[w1.heap.size]? = some (.cells (splice Y.toList 4 (u8s bs)).toArray 5 (0, 0)) → Lies w' (.slice (some ⟨w1.heap.size, 0, none⟩) (4 + bs.length) (4 + bs.length)) (fb k f t bs)) := Lib.hid (fun w' hg' => by
    rw [HK4.out.2] at hg'
    have el : (fb k f t bs).length = 4 + bs.length := by unfold fb; simp; omega
    refine ⟨_, 4 + bs.length, by rw [el], by rw [el]; exact Nat.le_refl _, by unfold maxLen; omega, (fun e => by cases e), fun b hb _ => ?_⟩
    cases hb
    refine ⟨w1.heap.size, 0, rfl, (Array.getElem?_eq_some_iff.1 hg').1, fun j x hj => ?_⟩
    rw [cell_of_row _ _ _ _ _ _ hg', Nat.zero_add, List.getElem?_toArray, u8s_get, hj]
    rfl)
  have hby : Byt (fb k f t bs) := by
    intro x hx
    unfold fb at hx
    simp only [List.mem_cons] at hx
    rcases hx with rfl | rfl | rfl | rfl | hx
    · omega
    · exact hk
    · exact hf
    · exact ht
    · exact hb x hx
  have HBY2 := Lib.hid hby
  have hlen2 : (fb k f t bs).length ≤ 200000 := by unfold fb; simp; omega
  have j4 : (4 : Int) ≤ 4 + (bs.length : Int) := by omega
  clear hby hb
  by_cases h0 : bs.length = 0
  · go_wp2
    go_region_law (refine step_copy_splice rfl (.tmp 34) (.tmp 36) 22 22 rfl 5 Try.underlying22 hsz1 _ _ _ _ _ _ rfl rfl w1.heap.size 4 Y.toList 5 HGY.out (u8s bs) (by rw [u8s_length, h0]; first | rfl | (show _ = min _ _; omega)) (fun hp => absurd hp (by rw [u8s_length]; omega)) HF.out (u8s_one bs) w.heap.size w HBY.out hsw ?_; intro w5 hg5 hb5)
    go_wp2_with fail
    refine (seal_any w5 _ _ (by have hh := HLs.out w5 hg5.out; rw [h0] at hh; exact hh) HBY2.out hlen2).mono ?_
    rintro e w6 ⟨r, rfl, hr⟩
    have HQ := Lib.hid (hr.later hb5)
    obtain ⟨ra3, rc3, rfl⟩ := own_shape hr.1
    clear hr
    go_wp2
    go_returns
    exact ⟨_, rfl, HQ.out⟩
  · have hp0 : 0 < (u8s bs).length := by rw [u8s_length]; omega
    have HP2 := Lib.hid (HP.out hp0)
    obtain ⟨⟨ag, ao2, ab⟩, ead, hcd⟩ := HP2.out
    clear HP HP2
    have HCD := Lib.hid hcd
    clear hcd
    subst ead
    go_wp2
    go_region_law (refine step_copy_splice rfl (.tmp 34) (.tmp 36) 22 22 rfl 5 Try.underlying22 hsz1 _ _ _ _ _ _ rfl rfl w1.heap.size 4 Y.toList 5 HGY.out (u8s bs) (by rw [u8s_length]; show _ = min _ _; omega) (fun _ => ⟨rfl, _, rfl, HCD.out⟩) HF.out (u8s_one bs) w.heap.size w HBY.out hsw ?_; intro w5 hg5 hb5)
    go_wp2_with fail
    refine (seal_any w5 _ _ (HLs.out w5 hg5.out) HBY2.out hlen2).mono ?_
    rintro e w6 ⟨r, rfl, hr⟩
    have HQ := Lib.hid (hr.later hb5)
    obtain ⟨ra3, rc3, rfl⟩ := own_shape hr.1
    clear hr
    go_wp2
    go_returns
    exact ⟨_, rfl, HQ.out⟩
end Go.Proofs.Ytlhicojbpjdbaaa
