/- Writer.Num appends the bytes of the number. -/
import Derived.Test.YtifeakmbeaflgaaDoorWWBase
import Derived.LoopTactic
import Derived.Deep.Cut
import Derived.Outline
import Derived.Handy
set_option linter.unusedVariables false
namespace Go.Proofs.YtifeakmbeaflgaaDoor.Wi
open Go.RowKit

/-- One byte, laid in a block of its own. -/
theorem src_one {P : Program} {t e : TypeId} (hk : P.underlying t = some (.slice e)) (w : World) (x : Int) (T : TypeId) : Src P 1 t (.slice (some ⟨w.heap.size, 0, none⟩) 1 1) 1 (u8s [x]) (w.alloc (.cells #[.int .u8 x] T)) := by
  refine Src.ofSlice _ hk _ _ _ _ rfl ?_ (u8s_one _)
  intro j u hj
  match j, hj with
  | 0, hj =>
    have e : u = .int .u8 x := by simpa [u8s] using hj.symm
    rw [e]
    exact cell_of_one (heap_alloc_new w (.cells #[.int .u8 x] T))
  | j + 1, hj => simp [u8s] at hj

set_option maxRecDepth 100000 in
set_option maxHeartbeats 400000 in
theorem wnum_any (w : World) (B a : Nat) (v : Value) (bs : List Int) (n : Int) (hn : n ≤ 9223372036854775807) (h : WrI w B a v bs) (hB : B ≤ w.heap.size) (hl : bs.length ≤ 1000000) :
    Calls Tryd.prog 49 #[.pointer (some ⟨a, 0, none⟩), .int .i64 n] w fun e w' => e = .returned (.tuple #[]) ∧ WrOut w w' B a v (bs ++ nb n.toNat) := by
  obtain ⟨i0, hi, hz0, hz1, hz2⟩ := info_parts Tryd.info5
  have hmax : max n 0 = ((n.toNat : Nat) : Int) := (Int.toNat_eq_max _).symm
  have HN : n.toNat ≤ 9223372036854775807 := by omega
  generalize n.toNat = N at *
  have H := Lib.hid h
  have HM := Lib.hid hmax
  clear h hmax
  go_enter Tryd.func49, Tryd.ntmps49
  go_wp2
  rw [HM.out]
  go_loopw [1] (fun nv wr => ∃ (m : Nat) (v' : Value) (cs : List Int), nv = .int .i64 m ∧ m ≤ N ∧ WrI wr B a v' cs ∧ cs ++ nb m = bs ++ nb N ∧ Eff w wr a v v') (fun nv _ => (intOf nv).toNat)
  case atStart => exact ⟨N, v, bs, rfl, Nat.le_refl _, H.out, rfl, Eff.refl _ _ _⟩
  case round =>
    obtain ⟨m, v', cs, rfl, hm, hW, he, hE⟩ := hrel
    have hc := hW.cells
    obtain ⟨hc1, hc2⟩ := hc
    have HW := Lib.hid hW
    have HE := Lib.hid hE
    have HC := Lib.hid he
    clear hW hE he
    have hcl2 : cs.length ≤ 1000009 := by
      have h1 := congrArg List.length HC.out
      rw [List.length_append, List.length_append] at h1
      have := nb_len9 N HN
      omega
    have hsz := HE.out.size
    have hB2 : B ≤ wr.heap.size := by omega
    clear hsz
    by_cases hlt : m < 128
    · go_wp2_with (at_builtin; refine wpList_append_src_own rfl (.tmp 29) (.tmp 32) 36 36 rfl B 5 i0 (.int .u8 0) 1 1 Tryd.underlying36 hi hz0 hz1 hz2 rfl (by decide) _ _ _ rfl (HW.out.own.alloc _) _ 1 _ rfl (src_one Tryd.underlying36 _ (m : Int) 5) (by unfold maxLen; omega) (by omega) (by simp; omega) ?_; intro v1 w1 hown hgr hsp; obtain ⟨ao, cp, rfl⟩ := own_shape hown; have hX := (Below.refl wr.heap.size wr).alloc (Nat.le_refl _) (.cells #[.int .u8 (m : Int)] 5); have hh := HW.out.held hX hgr; have k1 := cell_of_one hh; have k2 := free_of_one hh; have KP := Lib.hid (HW.out.push hX rfl hown hgr hsp); clear hh hX hown hgr hsp)
      go_returns
      exact ⟨rfl, _, by rw [show bs ++ nb N = cs ++ [(m : Int)] by rw [← HC.out, nb_small hlt]]; exact KP.out.1, HE.out.trans KP.out.2⟩
    · go_wp2_with (at_builtin; refine wpList_append_src_own rfl (.tmp 14) (.tmp 19) 36 36 rfl B 5 i0 (.int .u8 0) 1 1 Tryd.underlying36 hi hz0 hz1 hz2 rfl (by decide) _ _ _ rfl (HW.out.own.alloc _) _ 1 _ rfl (src_one Tryd.underlying36 _ ((m % 128 + 128 : Nat) : Int) 5) (by unfold maxLen; omega) (by omega) (by simp; omega) ?_; intro v1 w1 hown hgr hsp; obtain ⟨ao, cp, rfl⟩ := own_shape hown; have hX := (Below.refl wr.heap.size wr).alloc (Nat.le_refl _) (.cells #[.int .u8 ((m % 128 + 128 : Nat) : Int)] 5); have hh := HW.out.held hX hgr; have k1 := cell_of_one hh; have k2 := free_of_one hh; have KP := Lib.hid (HW.out.push hX rfl hown hgr hsp); clear hh hX hown hgr hsp)
      go_roundw
      case rel => exact ⟨m / 128, _, cs ++ [((m % 128 + 128 : Nat) : Int)], by go_num, by omega, KP.out.1, by rw [List.append_assoc, ← HC.out, nb_big hlt]; rfl, HE.out.trans KP.out.2⟩
      case measure => simp [intOf]; omega

set_option maxRecDepth 100000 in
set_option maxHeartbeats 400000 in
theorem wtext_any (w : World) (B a : Nat) (v : Value) (bs : List Int) (s : ByteArray) (hs : s.size ≤ 1000000) (h : WrI w B a v bs) (hB : B ≤ w.heap.size) (hl : bs.length ≤ 900000) :
    Calls Tryd.prog 50 #[.pointer (some ⟨a, 0, none⟩), .string s] w fun e w' => e = .returned (.tuple #[]) ∧ WrOut w w' B a v (bs ++ tb s) := by
  obtain ⟨i0, hi, hz0, hz1, hz2⟩ := info_parts Tryd.info5
  have H := Lib.hid h
  clear h
  go_enter Tryd.func50, Tryd.ntmps50
  go_wp2_with fail
  refine (wnum_any w B a v bs s.size (by omega) H.out hB (by omega)).mono ?_
  rintro e w1 ⟨rfl, v1, hW, hE⟩
  rw [Int.toNat_natCast] at hW
  have hnl : (bs ++ nb s.size).length ≤ 900009 := by have := nb_len9 s.size (by omega); rw [List.length_append]; omega
  generalize hbs : bs ++ nb s.size = bs1 at hW hnl
  have HBS := Lib.hid hbs
  clear hbs
  obtain ⟨ao, cp, rfl⟩ := own_shape hW.own
  obtain ⟨hc1, hc2⟩ := hW.cells
  have HW := Lib.hid hW
  have HE := Lib.hid hE
  have hB2 : B ≤ w1.heap.size := by have := hE.size; omega
  clear hW hE
  go_wp2_with (at_builtin; refine wpList_append_src_own rfl (.tmp 14) (.tmp 15) 36 9 rfl B 5 i0 (.int .u8 0) 1 1 Tryd.underlying36 hi hz0 hz1 hz2 rfl (by decide) _ _ _ rfl HW.out.own _ s.size (u8s (strI s)) rfl (by rw [u8s_str]; exact Src.ofString _ Tryd.underlying9 s) (by unfold maxLen; omega) (by omega) hB2 ?_; intro v2 w2 hown hgr hsp; obtain ⟨ao2, cp2, rfl⟩ := own_shape hown; have hX := Below.refl w1.heap.size w1; have hh := HW.out.held hX hgr; have k1 := cell_of_one hh; have k2 := free_of_one hh; have KP := Lib.hid (HW.out.push hX (strI_len s) hown hgr hsp); clear hh hX hown hgr hsp)
  go_returns
  refine ⟨rfl, _, ?_, HE.out.trans KP.out.2⟩
  rw [show bs ++ tb s = bs1 ++ strI s by rw [← HBS.out, List.append_assoc]; rfl]
  exact KP.out.1

set_option maxRecDepth 100000 in
set_option maxHeartbeats 400000 in
theorem wflag_any (w : World) (B a : Nat) (v : Value) (bs : List Int) (b : Bool) (h : WrI w B a v bs) (hB : B ≤ w.heap.size) (hl : bs.length ≤ 900000) :
    Calls Tryd.prog 51 #[.pointer (some ⟨a, 0, none⟩), .bool b] w fun e w' => e = .returned (.tuple #[]) ∧ WrOut w w' B a v (bs ++ fb b) := by
  have H := Lib.hid h
  clear h
  cases b
  · go_enter Tryd.func51, Tryd.ntmps51
    go_wp2_with fail
    refine (wnum_any w B a v bs 0 (by omega) H.out hB (by omega)).mono ?_
    rintro e w1 ⟨rfl, ho⟩
    have HO := Lib.hid ho
    clear ho
    go_wp2
    go_returns
    exact ⟨rfl, by rw [show fb false = nb (Int.toNat 0) from (nb_small (n := 0) (by decide)).symm]; exact HO.out⟩
  · go_enter Tryd.func51, Tryd.ntmps51
    go_wp2_with fail
    refine (wnum_any w B a v bs 1 (by omega) H.out hB (by omega)).mono ?_
    rintro e w1 ⟨rfl, ho⟩
    have HO := Lib.hid ho
    clear ho
    go_wp2
    go_returns
    exact ⟨rfl, by rw [show fb true = nb (Int.toNat 1) from (nb_small (n := 1) (by decide)).symm]; exact HO.out⟩

end Go.Proofs.YtifeakmbeaflgaaDoor.Wi
