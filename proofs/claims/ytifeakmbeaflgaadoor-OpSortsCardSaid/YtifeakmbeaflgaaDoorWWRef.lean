/- The document's own bytes of numbers, truths, texts, stamps; and what 'writes' does. -/
import Derived.Test.YtifeakmbeaflgaaDoorWWOps
set_option linter.unusedVariables false
namespace Go.Proofs.YtifeakmbeaflgaaDoor.Wi
open Go.RowKit

/-- Behind one byte more. -/
theorem row_one {w wr w1 : World} {v v1 : Value} {cs : List Int} {x : Int} {T : TypeId} (hE : Below w.heap.size w wr) (hW : wr.ownsRow w.heap.size 5 1 v cs.length (u8s cs)) (hown : w1.ownsRow w.heap.size 5 1 v1 (cs.length + 1) (u8s cs ++ u8s [x]))
    (hgr : (wr.alloc (.cells #[.int .u8 x] T)).grownBy w1 v.ownBlock) : w1.ownsRow w.heap.size 5 1 v1 (cs ++ [x]).length (u8s (cs ++ [x])) ∧ Below w.heap.size w w1 := by
  refine ⟨by rw [u8s_append, List.length_append]; exact hown, ?_⟩
  exact (hE.alloc hE.size _).grown hgr (by have := hE.size; simp; omega) (fun k hk => (hW.lt k hk).1)

set_option maxRecDepth 100000 in
set_option maxHeartbeats 400000 in
theorem rnum_any (w : World) (n : Int) (hn : n ≤ 9223372036854775807) :
    Calls Tryd.prog 54 #[.int .i64 n] w fun e w' => ∃ r, e = .returned r ∧ RowOut w w' r (nb n.toNat) := by
  obtain ⟨i0, hi, hz0, hz1, hz2⟩ := info_parts Tryd.info5
  have h9 := nb_len9 n.toNat (by omega)
  obtain ⟨L, hL⟩ : ∃ L, nb n.toNat = L := ⟨_, rfl⟩
  rw [hL] at h9 ⊢
  by_cases hneg : n < 0
  case' pos => have hL0 : nb 0 = L := by rw [← hL, show n.toNat = 0 by omega]
  case' neg =>
    obtain ⟨N, rfl⟩ : ∃ N : Nat, n = (N : Int) := ⟨n.toNat, by omega⟩
    have hL0 : nb N = L := by rw [← hL, Int.toNat_natCast]
  all_goals
    have HL := Lib.hid hL0
    clear hL hL0
    go_enter Tryd.func54, Tryd.ntmps54
    go_wp2
    go_loopw [0, 3] (fun nv ov wr => ∃ (m : Nat) (cs : List Int), nv = .int .i64 m ∧ m ≤ 9223372036854775807 ∧ wr.ownsRow w.heap.size 5 1 ov cs.length (u8s cs) ∧ Hid (cs ++ nb m = L) ∧ Below w.heap.size w wr) (fun nv _ _ => (intOf nv).toNat)
    case atStart =>
      first
      | exact ⟨0, [], rfl, by decide, World.ownsRow_nil _ _ _ _, HL.out, Below.refl _ _⟩
      | exact ⟨N, [], rfl, by omega, World.ownsRow_nil _ _ _ _, HL.out, Below.refl _ _⟩
    case round =>
      obtain ⟨m, cs, rfl, hm, hW, he, hE⟩ := hrel
      have hB2 := hE.size
      have hcl : cs.length ≤ 9 := by
        have h1 := congrArg List.length he.out
        rw [List.length_append] at h1
        omega
      obtain ⟨ao, cp, rfl⟩ := own_shape hW
      have HW := Lib.hid hW
      have HE := Lib.hid hE
      clear hW hE
      by_cases hlt : m < 128
      · go_wp2_with (at_builtin; refine wpList_append_src_own rfl (.tmp 17) (.tmp 20) 36 36 rfl w.heap.size 5 i0 (.int .u8 0) 1 1 Tryd.underlying36 hi hz0 hz1 hz2 rfl (by decide) _ _ _ rfl (HW.out.alloc _) _ 1 _ rfl (src_one Tryd.underlying36 _ (m : Int) 5) (by unfold maxLen; omega) (by omega) (by simp; omega) ?_; intro v1 w1 hown hgr hsp)
        go_returns
        have K := row_one HE.out HW.out hown hgr
        rw [← nb_small hlt, he.out] at K
        exact ⟨_, rfl, K⟩
      · go_wp2_with (at_builtin; refine wpList_append_src_own rfl (.tmp 8) (.tmp 13) 36 36 rfl w.heap.size 5 i0 (.int .u8 0) 1 1 Tryd.underlying36 hi hz0 hz1 hz2 rfl (by decide) _ _ _ rfl (HW.out.alloc _) _ 1 _ rfl (src_one Tryd.underlying36 _ ((m % 128 + 128 : Nat) : Int) 5) (by unfold maxLen; omega) (by omega) (by simp; omega) ?_; intro v1 w1 hown hgr hsp; have K := Lib.hid (row_one HE.out HW.out hown hgr); clear hown hgr hsp)
        go_roundw
        case rel => exact ⟨m / 128, cs ++ [((m % 128 + 128 : Nat) : Int)], by go_num, by omega, K.out.1, by show _ = _; rw [← he.out, List.append_assoc, nb_big hlt]; rfl, K.out.2⟩
        case measure => simp [intOf]; omega

set_option maxRecDepth 100000 in
set_option maxHeartbeats 400000 in
theorem rflag_any (w : World) (b : Bool) :
    Calls Tryd.prog 56 #[.bool b] w fun e w' => ∃ r, e = .returned r ∧ RowOut w w' r (fb b) := by
  cases b
  all_goals
    go_enter Tryd.func56, Tryd.ntmps56
    go_wp2
    go_returns
    exact ⟨_, rfl, World.ownsRow_lit _ _ 1 (Nat.le_refl _) (by unfold maxLen; omega) rfl, (Below.refl _ _).alloc (Nat.le_refl _) _⟩

theorem strI_snoc (s : ByteArray) (k : Nat) (h : k < s.size) : (strI s).take (k + 1) = (strI s).take k ++ [((s.get! k).toNat : Int)] := by
  have hl := strI_len s
  rw [List.take_succ_eq_append_getElem (by omega)]
  congr 2
  have e := (get_at s k h).symm
  simp only [strI, List.getElem_map]
  exact congrArg (fun c : UInt8 => (c.toNat : Int)) e

set_option maxRecDepth 100000 in
set_option maxHeartbeats 400000 in
theorem rtext_any (w : World) (s : ByteArray) (hs : s.size ≤ 1000000) :
    Calls Tryd.prog 55 #[.string s] w fun e w' => ∃ r, e = .returned r ∧ RowOut w w' r (tb s) := by
  obtain ⟨i0, hi, hz0, hz1, hz2⟩ := info_parts Tryd.info5
  go_enter Tryd.func55, Tryd.ntmps55
  go_wp2_with fail
  refine (rnum_any w s.size (by omega)).mono ?_
  rintro e w1 ⟨r, rfl, ho⟩
  rw [Int.toNat_natCast] at ho
  have h9 := nb_len9 s.size (by omega)
  have HO := Lib.hid ho
  clear ho
  go_wp2
  go_loopw [3, 4] (fun ov kv wr => ∃ (k : Nat), kv = .int .i64 k ∧ k ≤ s.size ∧ wr.ownsRow w.heap.size 5 1 ov (nb s.size ++ (strI s).take k).length (u8s (nb s.size ++ (strI s).take k)) ∧ Below w.heap.size w wr) (fun _ kv _ => s.size - (intOf kv).toNat)
  case atStart => exact ⟨0, rfl, by omega, by simpa using HO.out.1, HO.out.2⟩
  case round =>
    obtain ⟨k, rfl, hk, hW, hE⟩ := hrel
    have hB2 := hE.size
    have hsl := strI_len s
    have hcl : (nb s.size ++ (strI s).take k).length ≤ 1000009 := by rw [List.length_append, List.length_take]; omega
    generalize hcs : nb s.size ++ (strI s).take k = cs at *
    obtain ⟨ao, cp, rfl⟩ := own_shape hW
    have HW := Lib.hid hW
    have HE := Lib.hid hE
    have HC := Lib.hid hcs
    clear hW hE hcs hsl
    by_cases hlt : k < s.size
    · have gb := (get_at s k hlt).symm
      have hb : (s.get! k).toNat < 256 := UInt8.toNat_lt _
      go_wp2_with (at_builtin; refine wpList_append_src_own rfl (.tmp 14) (.tmp 18) 36 36 rfl w.heap.size 5 i0 (.int .u8 0) 1 1 Tryd.underlying36 hi hz0 hz1 hz2 rfl (by decide) _ _ _ rfl (HW.out.alloc _) _ 1 _ rfl (src_one Tryd.underlying36 _ ((s.get! k).toNat : Int) 5) (by unfold maxLen; omega) (by omega) (by simp; omega) ?_; intro v1 w1 hown hgr hsp; have K := Lib.hid (row_one HE.out HW.out hown hgr); clear hown hgr hsp)
      go_roundw
      case rel =>
        refine ⟨k + 1, by go_num, by omega, ?_⟩
        rw [strI_snoc s k hlt, ← List.append_assoc, HC.out]
        exact K.out
      case measure => simp [intOf]; omega
    · obtain rfl : k = s.size := by omega
      go_wp2
      go_returns
      refine ⟨_, rfl, ?_, HE.out⟩
      rw [show tb s = cs by rw [← HC.out, List.take_of_length_le (by rw [strI_len]; omega)]; rfl]
      exact HW.out

set_option maxRecDepth 100000 in
set_option maxHeartbeats 400000 in
theorem rstamp_any (w : World) (x y : Int) (hx : x ≤ 9223372036854775807) (hy : y ≤ 9223372036854775807) :
    Calls Tryd.prog 79 #[.agg #[.int .i64 x, .int .i64 y]] w fun e w' => ∃ r, e = .returned r ∧ RowOut w w' r (stb x y) := by
  obtain ⟨i0, hi, hz0, hz1, hz2⟩ := info_parts Tryd.info5
  have hX := (Below.refl w.heap.size w).alloc (Nat.le_refl _) (.cells #[.int .i64 x, .int .i64 y] 23)
  have hbox := heap_alloc_new w (.cells #[.int .i64 x, .int .i64 y] 23)
  have HX := Lib.hid hX
  have HB := Lib.hid hbox
  have l1 := nb_len9 x.toNat (by omega)
  have l2 := nb_len9 y.toNat (by omega)
  clear hX hbox
  go_enter Tryd.func79, Tryd.ntmps79
  go_wp2_with fail
  refine (rnum_any _ x hx).mono ?_
  rintro e w1 ⟨r, rfl, ho⟩
  have hb1 : w1.heap[w.heap.size]? = some (.cells #[.int .i64 x, .int .i64 y] 23 (0, 0)) := (ho.2.block w.heap.size (by simp)).trans HB.out
  have k0 : w1.cell? ⟨w.heap.size, 0, none⟩ = some (.int .i64 x) := by rw [cell_of_row _ _ _ _ _ _ hb1]; rfl
  have k1 : w1.cell? ⟨w.heap.size, 1, none⟩ = some (.int .i64 y) := by rw [cell_of_row _ _ _ _ _ _ hb1]; rfl
  have hz := ho.2.size
  simp only [World.size_alloc] at hz
  generalize hL1 : nb x.toNat = L1 at *
  generalize hL2 : nb y.toNat = L2 at *
  have HL1 := Lib.hid hL1
  have HL2 := Lib.hid hL2
  have HO := Lib.hid ho
  clear ho hL1 hL2 hb1
  obtain ⟨ao, cp, rfl⟩ := own_shape HO.out.1
  go_wp2_with fail
  refine (rnum_any _ y hy).mono ?_
  rintro e w2 ⟨r2, rfl, ho2⟩
  rw [HL2.out] at ho2
  obtain ⟨ao2, cp2, rfl⟩ := own_shape ho2.1
  have hown1 : w2.ownsRow w.heap.size 5 1 (.slice ao L1.length cp) L1.length (u8s L1) := by
    have h1 := HO.out.1
    have h2 : w1.ownsRow w.heap.size 5 1 (.slice ao L1.length cp) L1.length (u8s L1) := ⟨h1.1, h1.2.imp id (fun ⟨g, cap, cur, a1, a2, a3⟩ => ⟨g, cap, cur, a1, by simp at a2; omega, a3⟩)⟩
    exact h2.kept (row := none) ⟨ho2.2.os, ho2.2.tape, ho2.2.output, ho2.2.size, fun k hk _ => ho2.2.block k hk⟩ (by cases h : (Value.slice ao L1.length cp).ownBlock <;> simp)
  have hz2 := ho2.2.size
  have hsrc := (own_lies ho2.1).src
  have hb2 : Below w.heap.size w w2 := (HX.out.trans (HO.out.2.mono (by simp))).trans (ho2.2.mono (by omega))
  have A1 := Lib.hid hown1
  have A2 := Lib.hid hsrc
  have A3 := Lib.hid hb2
  clear hown1 hsrc hb2 ho2
  go_wp2_with (at_builtin; refine wpList_append_src_own rfl (.tmp 11) (.tmp 12) 36 36 rfl w.heap.size 5 i0 (.int .u8 0) 1 1 Tryd.underlying36 hi hz0 hz1 (by assumption) rfl (by decide) _ _ _ rfl A1.out _ _ _ rfl A2.out (by unfold maxLen; omega) (by omega) (by omega) ?_; intro v1 w3 hown hgr hsp)
  go_returns
  refine ⟨_, rfl, ?_, A3.out.grown hgr (by omega) (fun k hk => (A1.out.lt k hk).1)⟩
  rw [show stb x y = L1 ++ L2 by rw [← HL1.out, ← HL2.out]; rfl, u8s_append, List.length_append]
  exact hown
end Go.Proofs.YtifeakmbeaflgaaDoor.Wi
