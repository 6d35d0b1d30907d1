/- The reference's Text. -/
import Derived.Test.YtiljmkglmanddaaDoorVV
import Derived.Test.YtiljmkglmanddaaDoorLater
set_option linter.unusedVariables false
namespace Go.Proofs.YtiljmkglmanddaaDoor
open Go.RowKit

def jn (xs : List ByteArray) : ByteArray := ⟨(Lib.join (xs.map (·.data.toList)) [32]).toArray⟩
theorem join_snoc (sep : List UInt8) : ∀ (xs : List (List UInt8)) (x : List UInt8), xs ≠ [] → Lib.join (xs ++ [x]) sep = Lib.join xs sep ++ sep ++ x
  | [], x, h => absurd rfl h
  | [y], x, _ => by unfold Lib.join; show sep.intercalate [y, x] = _; rw [List.intercalate_cons_cons, List.intercalate_singleton, List.intercalate_singleton]
  | y :: z :: r, x, _ => by
    have ih := join_snoc sep (z :: r) x (by simp)
    unfold Lib.join at ih ⊢
    show sep.intercalate (y :: z :: (r ++ [x])) = _
    rw [List.intercalate_cons_cons, List.intercalate_cons_cons]
    have e : (z :: r) ++ [x] = z :: (r ++ [x]) := rfl
    rw [e] at ih
    rw [ih]
    simp [List.append_assoc]
theorem jn_nil : jn [] = ⟨#[]⟩ := rfl
theorem jn_one (x : ByteArray) : jn [x] = x := ba_ext (by unfold jn Lib.join; rw [List.map_singleton, List.intercalate_singleton])
theorem jn_snoc (xs : List ByteArray) (x : ByteArray) (h : xs ≠ []) : jn (xs ++ [x]) = jn xs ++ ⟨#[32]⟩ ++ x := by
  apply ba_ext
  unfold jn
  rw [List.map_append, List.map_singleton, join_snoc _ _ _ (by simpa using h)]
  simp
theorem ba_assoc (a b c : ByteArray) : a ++ b ++ c = a ++ (b ++ c) := by apply ba_ext; simp
theorem ba_nil (a : ByteArray) : (⟨#[]⟩ : ByteArray) ++ a = a := by apply ba_ext; simp
theorem jn_small (xs : List ByteArray) (hx : ∀ x ∈ xs, x.size ≤ 43) (hn : xs.length ≤ 64) : (jn xs).size ≤ 3000 := by
  have := join_small [32] (xs.map (·.data.toList)) (fun x hx' => by
    obtain ⟨y, hy, rfl⟩ := List.mem_map.1 hx'
    have := hx y hy
    rw [Array.length_toList]; exact this)
  rw [List.length_map] at this
  simp only [List.length_singleton] at this
  show (Lib.join _ _).toArray.size ≤ _
  rw [List.size_toArray]
  omega
theorem jn_ne (xs : List ByteArray) (h : xs ≠ []) (hx : ∀ x ∈ xs, 0 < x.size) : 0 < (jn xs).size := by
  obtain ⟨ys, y, rfl⟩ : ∃ ys y, xs = ys ++ [y] := ⟨xs.dropLast, xs.getLast h, (List.dropLast_concat_getLast h).symm⟩
  have hy := hx y (by simp)
  by_cases h0 : ys = []
  · subst h0; rw [List.nil_append, jn_one]; exact hy
  · rw [jn_snoc _ _ h0, ByteArray.size_append]; omega
theorem partsF_pos (l : List Int) : ∀ i, ∀ x ∈ partsF l i, 0 < x.size
  | 0, x, h => by cases h
  | i + 1, x, h => by
    rcases List.mem_append.1 h with h | h
    · exact partsF_pos l i x h
    · split at h
      · rw [List.mem_singleton.1 h]
        unfold piece
        rw [ByteArray.size_append, ByteArray.size_append]
        have h3 : (ByteArray.mk #[58]).size = 1 := rfl
        omega
      · cases h
theorem isE_nil : (ByteArray.mk #[]).toList.isEmpty = true := by rw [ByteArray.toList_eq]; rfl
theorem isE_pos (s : ByteArray) (h : 0 < s.size) : s.toList.isEmpty = false := by
  rw [ByteArray.toList_eq]
  cases hq : s.data.toList with
  | nil => have : s.data.toList.length = s.size := by rw [Array.length_toList]; rfl
           rw [hq] at this; simp at this; omega
  | cons a b => rfl

set_option maxRecDepth 100000 in
set_option maxHeartbeats 1600000 in
theorem rtext_any (w : World) (l : List Int) (hl : l.length = 64) (hI : I63 l) :
    Calls Tryd.prog 30 #[vw l] w fun e w' => e = .returned (.string (textF l)) ∧ Below w.heap.size w w' := by
  have X := Lib.hid ((Below.refl w.heap.size w).alloc (Nat.le_refl _) (.cells (va l) 23))
  have XB := Lib.hid (heap_alloc_new w (.cells (va l) 23))
  have HL := Lib.hid hl
  have HII := Lib.hid hI
  have HZ := Lib.hid (show (w.alloc (.cells (va l) 23)).heap.size = w.heap.size + 1 by simp)
  have PS := Lib.hid (fun i (h : i ≤ 64) => partsF_small l hI i h)
  generalize hW : w.alloc (.cells (va l) 23) = W0 at *
  have HW := Lib.hid hW
  clear hW hl hI
  unfold vw
  obtain ⟨A, hA⟩ : ∃ A, va l = A := ⟨_, rfl⟩
  rw [hA] at HW ⊢
  clear hA
  go_enter Tryd.func30, Tryd.ntmps30
  go_wp2_with fail
  rw [HW.out]
  go_loopw [3, 4] (fun sv iv wr => ∃ (i : Nat) (s : ByteArray), iv = .int .i64 i ∧ i ≤ 64 ∧ sv = .string s ∧ s.size ≤ 3000 ∧ Hid (s = jn (partsF l i) ∧ Below W0.heap.size W0 wr)) (fun _ iv _ => 64 - (intOf iv).toNat)
  case atStart => exact ⟨0, ⟨#[]⟩, rfl, Nat.zero_le _, rfl, Nat.zero_le _, Lib.hid ⟨rfl, Below.refl _ _⟩⟩
  case round =>
    obtain ⟨i, s, rfl, hi, rfl, hs3, hI⟩ := hrel
    by_cases hlt : i < 64
    · obtain ⟨x, hx⟩ := va_len l HL.out i hlt
      have g := cell_va ((hI.out.2.block _ (by rw [HZ.out]; omega)).trans XB.out) hx
      have HN := Lib.hid (show partsF l (i + 1) = partsF l i ++ (if 0 < x then [piece i x] else []) by
        show partsF l i ++ _ = _
        rw [getD_of hx])
      have hx63 := HII.out i x hx
      have HX := Lib.hid hx
      clear hx
      by_cases hxy : 0 < x
      · have HN2 := Lib.hid (show partsF l (i + 1) = partsF l i ++ [piece i x] by rw [HN.out, if_pos hxy])
        have z1 := decS_size (i : Int) (by omega)
        have z2 := decS_size x hx63
        have hs4 := Lib.hid (show (jn (partsF l (i + 1))).size ≤ 3000 from jn_small _ (PS.out (i + 1) (by omega)) (Nat.le_trans (partsF_len l _) (by omega)))
        have D1 := Lib.hid (fun W => rdig_any W (i : Int) (by omega))
        have D2 := Lib.hid (fun W => rdig_any W x hx63)
        by_cases h0 : partsF l i = []
        · have hE : s = ⟨#[]⟩ := by rw [hI.out.1, h0]; rfl
          subst hE
          have HF := Lib.hid (show (⟨#[]⟩ : ByteArray) ++ decS (i : Int) ++ ⟨#[58]⟩ ++ decS x = jn (partsF l (i + 1)) by
            rw [HN2.out, h0, List.nil_append, jn_one, ba_nil]; rfl)
          rw [← HF.out] at hs4
          obtain ⟨si, hsi⟩ : ∃ si, decS (i : Int) = si := ⟨_, rfl⟩
          obtain ⟨sx, hsx⟩ : ∃ sx, decS x = sx := ⟨_, rfl⟩
          rw [hsi, hsx] at HF hs4
          rw [hsi] at D1 z1
          rw [hsx] at D2 z2
          clear hsi hsx h0
          have te := isE_nil
          go_wp2
          have D1' := Lib.hid (fun x : Later wr => D1.out x.w)
          have D2' := Lib.hid (fun x : Later wr => D2.out x.w)
          have k0 := later_cell ((hI.out.2.block _ (by rw [HZ.out]; omega)).trans XB.out) (va_get l i x HX.out)
          refine wp_region_later (by kernel_rfl) (by kernel_rfl) ?_
          repeat (go_big_quiet_step (first
            | (go_at_call 34; with_reducible exact later_call (D1'.out _))
            | (go_at_call 34; with_reducible exact later_call (D2'.out _))))
          refine wpQuiet_nil ?_
          intro _ hw'
          obtain ⟨xl, hw''⟩ := hw'
          subst hw''
          have BB := Lib.hid (hI.out.2.trans (xl.below.mono hI.out.2.size))
          go_wp2
          go_roundw
          case rel => exact ⟨i + 1, _, by go_num, by omega, rfl, hs4.out, Lib.hid ⟨HF.out, BB.out⟩⟩
          case measure => simp [intOf]; omega
        · have te := isE_pos s (by rw [hI.out.1]; exact jn_ne _ h0 (partsF_pos l i))
          have HF := Lib.hid (show s ++ ⟨#[32]⟩ ++ decS (i : Int) ++ ⟨#[58]⟩ ++ decS x = jn (partsF l (i + 1)) by
            rw [HN2.out, jn_snoc _ _ h0, ← hI.out.1]; unfold piece; simp only [ba_assoc])
          rw [← HF.out] at hs4
          obtain ⟨si, hsi⟩ : ∃ si, decS (i : Int) = si := ⟨_, rfl⟩
          obtain ⟨sx, hsx⟩ : ∃ sx, decS x = sx := ⟨_, rfl⟩
          rw [hsi, hsx] at HF hs4
          rw [hsi] at D1 z1
          rw [hsx] at D2 z2
          clear hsi hsx h0
          go_wp2
          have D1' := Lib.hid (fun x : Later wr => D1.out x.w)
          have D2' := Lib.hid (fun x : Later wr => D2.out x.w)
          have k0 := later_cell ((hI.out.2.block _ (by rw [HZ.out]; omega)).trans XB.out) (va_get l i x HX.out)
          refine wp_region_later (by kernel_rfl) (by kernel_rfl) ?_
          repeat (go_big_quiet_step (first
            | (go_at_call 34; with_reducible exact later_call (D1'.out _))
            | (go_at_call 34; with_reducible exact later_call (D2'.out _))))
          refine wpQuiet_nil ?_
          intro _ hw'
          obtain ⟨xl, hw''⟩ := hw'
          subst hw''
          have BB := Lib.hid (hI.out.2.trans (xl.below.mono hI.out.2.size))
          go_wp2
          go_roundw
          case rel => exact ⟨i + 1, _, by go_num, by omega, rfl, hs4.out, Lib.hid ⟨HF.out, BB.out⟩⟩
          case measure => simp [intOf]; omega
      · have HN2 := Lib.hid (show partsF l i = partsF l (i + 1) by rw [HN.out, if_neg hxy, List.append_nil])
        go_wp2
        go_roundw
        case rel => exact ⟨i + 1, s, by go_num, by omega, rfl, hs3, Lib.hid ⟨by rw [← HN2.out]; exact hI.out.1, hI.out.2⟩⟩
        case measure => simp [intOf]; omega
    · have hi64 : i = 64 := by omega
      subst hi64
      have HE := Lib.hid (show s = textF l from hI.out.1)
      have B0 := Lib.hid (X.out.trans (hI.out.2.mono X.out.size))
      go_wp2
      go_returns
      exact ⟨by rw [HE.out]; rfl, B0.out⟩
end Go.Proofs.YtiljmkglmanddaaDoor
