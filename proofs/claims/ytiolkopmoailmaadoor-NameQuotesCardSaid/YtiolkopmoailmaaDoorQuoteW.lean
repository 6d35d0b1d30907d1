/- Quote of both, and the reference's one, at every text. -/
import Derived.Test.YtiolkopmoailmaaDoorQuoteM
import Derived.Test.YtiolkopmoailmaaDoorQuoteA
import Derived.BigQuiet
import Derived.Deep.QuietTactic
set_option linter.unusedVariables false
namespace Go.Proofs.YtiolkopmoailmaaDoor
open Go.RowKit

abbrev hexT : ByteArray := ⟨#[48, 49, 50, 51, 52, 53, 54, 55, 56, 57, 65, 66, 67, 68, 69, 70]⟩
theorem hexT_size (h : Nat) (hh : h < 16) : h < (ByteArray.mk #[48, 49, 50, 51, 52, 53, 54, 55, 56, 57, 65, 66, 67, 68, 69, 70]).size := hh
theorem hex_at (h : Nat) (hh : h < 16) : (((ByteArray.mk #[48, 49, 50, 51, 52, 53, 54, 55, 56, 57, 65, 66, 67, 68, 69, 70])[h]'(hexT_size h hh)).toNat : Int) = (hexAt h : Nat) := by
  rcases (show h = 0 ∨ h = 1 ∨ h = 2 ∨ h = 3 ∨ h = 4 ∨ h = 5 ∨ h = 6 ∨ h = 7 ∨ h = 8 ∨ h = 9 ∨ h = 10 ∨ h = 11 ∨ h = 12 ∨ h = 13 ∨ h = 14 ∨ h = 15 by omega) with rfl | rfl | rfl | rfl | rfl | rfl | rfl | rfl | rfl | rfl | rfl | rfl | rfl | rfl | rfl | rfl <;> rfl
theorem hex_ext (h : Nat) (hh : h < 16) : nl ((ByteArray.mk #[48, 49, 50, 51, 52, 53, 54, 55, 56, 57, 65, 66, 67, 68, 69, 70]).extract h (h + 1)) = [hexAt h] := by
  rw [nl_extract]
  rcases (show h = 0 ∨ h = 1 ∨ h = 2 ∨ h = 3 ∨ h = 4 ∨ h = 5 ∨ h = 6 ∨ h = 7 ∨ h = 8 ∨ h = 9 ∨ h = 10 ∨ h = 11 ∨ h = 12 ∨ h = 13 ∨ h = 14 ∨ h = 15 by omega) with rfl | rfl | rfl | rfl | rfl | rfl | rfl | rfl | rfl | rfl | rfl | rfl | rfl | rfl | rfl | rfl <;> rfl
theorem nl_append (a b : ByteArray) : nl (a ++ b) = nl a ++ nl b := by
  unfold nl; rw [ByteArray.data_append, Array.toList_append, List.map_append]

theorem src_row_one (W : World) (x : Int) (T : TypeId) : (convert 42 9 (.slice (some ⟨W.heap.size, 0, none⟩) 1 1)).run Tryd.prog (W.alloc (.cells #[.int .u8 x] T)) = .ok (.string (strOfNums [x])) (W.alloc (.cells #[.int .u8 x] T)) := by
  refine run_convert_bytes_arg _ 42 5 Tryd.underlying42 Tryd.underlying5 W.heap.size 0 1 1 [x] rfl (fun i hi => ?_) 9 Tryd.underlying9
  obtain rfl : i = 0 := by omega
  exact cell_of_one (heap_alloc_new W (.cells #[.int .u8 x] T))

set_option maxRecDepth 100000 in
set_option maxHeartbeats 800000 in
theorem one_any (w : World) (c : Nat) (hc : c < 256) (t : ByteArray) (ht : nl t = oneN c) : Calls Tryd.prog 34 #[.int .u8 c] w fun e w' => e = .returned (.string t) ∧ Below w.heap.size w w' := by
  have hcase : (c < 33 ∧ plainB c = false) ∨ (33 ≤ c ∧ 126 < c ∧ plainB c = false) ∨ (33 ≤ c ∧ c ≤ 126 ∧ c = 37 ∧ plainB c = false) ∨ (33 ≤ c ∧ c ≤ 126 ∧ c ≠ 37 ∧ plainB c = true) := by
    unfold plainB
    by_cases h1 : 33 ≤ c <;> by_cases h2 : c ≤ 126 <;> by_cases h3 : c = 37 <;> simp <;> omega
  obtain ⟨h, hh⟩ : ∃ h : Nat, h = c / 16 := ⟨_, rfl⟩
  obtain ⟨l, hl⟩ : ∃ l : Nat, l = c % 16 := ⟨_, rfl⟩
  have hh16 : h < 16 := by omega
  have hl16 : l < 16 := by omega
  by_cases hp : plainB c = true
  · have hb : 33 ≤ c ∧ c ≤ 126 ∧ c ≠ 37 := by rcases hcase with ⟨_, h⟩ | ⟨_, _, h⟩ | ⟨_, _, _, h⟩ | ⟨h1, h2, h3, _⟩ <;> first | exact ⟨h1, h2, h3⟩ | (rw [hp] at h; cases h)
    obtain ⟨b1, b2, b3⟩ := hb
    have E : t = strOfNums [(c : Int)] := by
      apply nl_ext
      rw [ht, oneN_plain hp]
      exact (nl_str (l := [c]) (by simp; omega)).symm
    have HE := Lib.hid E
    have cv1 := src_row_one w (c : Int) 5
    have t1 := neb_ (c : Int) 37 (by omega)
    have g1 : (32 : Int) < (c : Int) := by omega
    have g2 : (c : Int) < 127 := by omega
    clear E hcase hp ht hh hl b3
    go_enter Tryd.func34, Tryd.ntmps34
    go_wp2
    go_returns
    exact ⟨by rw [HE.out]; rfl, (Below.refl _ _).alloc (Nat.le_refl _) _⟩
  · have hp := eq_false_of_ne_true hp
    have E : ∀ x y : ByteArray, nl x = [hexAt h] → nl y = [hexAt l] → (⟨#[37]⟩ : ByteArray) ++ x ++ y = t := by
      intro x y hx hy
      apply nl_ext
      rw [ht, oneN_hex hp, nl_append, nl_append, hx, hy, ← hh, ← hl]
      rfl
    have HE := Lib.hid (E _ _ (hex_ext h hh16) (hex_ext l hl16))
    have e1 : (c : Int) / 16 = (h : Int) := by omega
    have e2 : (c : Int) % 16 = (l : Int) := by omega
    have g3 : (h : Int) < 16 := by omega
    have g4 : (l : Int) < 16 := by omega
    have hcase2 : c < 33 ∨ (33 ≤ c ∧ 126 < c) ∨ (33 ≤ c ∧ c ≤ 126 ∧ c = 37) := by
      rcases hcase with ⟨h1, _⟩ | ⟨h1, h2, _⟩ | ⟨h1, h2, h3, _⟩ | ⟨h1, h2, h3, hp2⟩
      · exact .inl h1
      · exact .inr (.inl ⟨h1, h2⟩)
      · exact .inr (.inr ⟨h1, h2, h3⟩)
      · rw [hp] at hp2; cases hp2
    clear E ht hh hl hp hcase
    rcases hcase2 with h1 | ⟨h1, h2⟩ | ⟨h1, h2, h3⟩
    · have g5 : (c : Int) ≤ 32 := by omega
      go_enter Tryd.func34, Tryd.ntmps34
      go_wp2
      go_quiet (fail)
      go_wp2
      go_returns
      exact ⟨by rw [← HE.out]; first | rfl | simp, ⟨rfl, rfl, rfl, Nat.le_refl _, fun _ _ => rfl⟩⟩
    · have g5 : (32 : Int) < (c : Int) := by omega
      have g6 : (127 : Int) ≤ (c : Int) := by omega
      go_enter Tryd.func34, Tryd.ntmps34
      go_wp2
      go_quiet (fail)
      go_wp2
      go_returns
      exact ⟨by rw [← HE.out]; first | rfl | simp, ⟨rfl, rfl, rfl, Nat.le_refl _, fun _ _ => rfl⟩⟩
    · have t1 := eqb_ (c : Int) 37 (by omega)
      have g5 : (32 : Int) < (c : Int) := by omega
      have g6 : (c : Int) < 127 := by omega
      clear h3
      go_enter Tryd.func34, Tryd.ntmps34
      go_wp2
      go_quiet (fail)
      go_wp2
      go_returns
      exact ⟨by rw [← HE.out]; first | rfl | simp, ⟨rfl, rfl, rfl, Nat.le_refl _, fun _ _ => rfl⟩⟩

set_option maxRecDepth 100000 in
set_option maxHeartbeats 1600000 in
theorem quote_any (w : World) (s : ByteArray) (hs : s.size ≤ 100000) : Calls Tryd.prog 19 #[.string s] w fun e w' => e = .returned (.string (quT s)) ∧ Below w.heap.size w w' := by
  obtain ⟨i0, hi, hz0, hz1, hz2⟩ := info_parts Tryd.info5
  go_enter Tryd.func19, Tryd.ntmps19
  go_wp2
  go_loopw [3, 8] (fun bv av wr => ∃ (k : Nat) (cs : List Int), av = .int .i64 k ∧ k ≤ s.size ∧ Hid (cs = ints (qn ((nl s).take k))) ∧ wr.ownsRow w.heap.size 5 1 bv cs.length (u8s cs) ∧ Below w.heap.size w wr) (fun _ av _ => s.size - (intOf av).toNat)
  case atStart => exact ⟨0, [], rfl, by omega, Lib.hid rfl, World.ownsRow_nil _ _ _ _, Below.refl _ _⟩
  case round =>
    obtain ⟨k, cs, rfl, hk, HC, hW, hE⟩ := hrel
    have HW := Lib.hid hW
    have HE := Lib.hid hE
    have hB2 := hE.size
    have hl : cs.length ≤ 300000 := by
      rw [HC.out]
      unfold ints
      rw [List.length_map]
      have h1 := qn_len ((nl s).take k)
      have h2 : ((nl s).take k).length ≤ k := List.length_take_le _ _
      omega
    by_cases hlt : k < s.size
    · have HT : Hid ((nl s).take (k + 1) = (nl s).take k ++ [(s[k]'hlt).toNat]) := Lib.hid (by
        rw [List.take_succ_eq_append_getElem (by rw [nl_length]; exact hlt), nl_get s k hlt])
      have hx256 : (s[k]'hlt).toNat < 256 := UInt8.toNat_lt _
      obtain ⟨ao, cp, rfl⟩ := own_shape hW
      have P := Lib.hid (fun W => plain_any W (s[k]'hlt).toNat)
      clear hW hE
      generalize hgx : (s[k]'hlt).toNat = x at *
      by_cases hp : plainB x = true
      · rw [hp] at P
        have HN : Hid (ints (qn ((nl s).take (k + 1))) = cs ++ [(x : Int)]) := Lib.hid (by
          rw [HT.out, qn_snoc, oneN_plain hp, HC.out]; unfold ints; rw [List.map_append]; rfl)
        clear hp
        go_wp2_with fail
        refine (P.out _).mono ?_
        rintro e w1 ⟨rfl, rfl⟩
        go_wp2_with (at_builtin; refine wpList_append_src_own rfl (.tmp 16) (.tmp 18) 42 42 rfl w.heap.size 5 i0 (.int .u8 0) 1 1 Tryd.underlying42 hi hz0 hz1 hz2 rfl (by decide) _ _ _ rfl (HW.out.alloc _) _ 1 _ rfl (src_one Tryd.underlying42 _ (x : Int) 5) (by unfold maxLen; omega) (by omega) (by simp; omega) ?_; intro v3 w3 hown hgr hspr; have K := Lib.hid (row_one HE.out HW.out hown hgr); clear hown hgr hspr)
        go_roundw
        case rel => exact ⟨k + 1, cs ++ [(x : Int)], by go_num, by omega, Lib.hid HN.out.symm, K.out.1, K.out.2⟩
        case measure => simp [intOf]; omega
      · have hp := eq_false_of_ne_true hp
        rw [hp] at P
        obtain ⟨h, hh⟩ : ∃ h : Nat, h = x / 16 := ⟨_, rfl⟩
        obtain ⟨l, hl2⟩ : ∃ l : Nat, l = x % 16 := ⟨_, rfl⟩
        have hh16 : h < 16 := by omega
        have hl16 : l < 16 := by omega
        have HN : Hid (ints (qn ((nl s).take (k + 1))) = cs ++ [37, (hexAt h : Int), (hexAt l : Int)]) := Lib.hid (by
          rw [HT.out, qn_snoc, oneN_hex hp, HC.out, hh, hl2]; unfold ints; rw [List.map_append]; rfl)
        have d1 := hex_at h hh16
        have d2 := hex_at l hl16
        have e1 : (x : Int) / 16 = (h : Int) := by omega
        have e2 : (x : Int) % 16 = (l : Int) := by omega
        have e3 : (x : Int).tdiv 16 = (h : Int) := by rw [Int.tdiv_eq_ediv_of_nonneg (by omega)]; omega
        have e4 : (x : Int).tmod 16 = (l : Int) := by rw [Int.tmod_eq_emod_of_nonneg (by omega)]; omega
        have g3 : (h : Int) < 16 := by omega
        have g4 : (l : Int) < 16 := by omega
        have w3 : IntKind.u8.wrap (h : Int) = (h : Int) := by unfold IntKind.wrap; simp [IntKind.bits, IntKind.signed]; omega
        have w4 : IntKind.u8.wrap (l : Int) = (l : Int) := by unfold IntKind.wrap; simp [IntKind.bits, IntKind.signed]; omega
        clear hp hh hl2
        go_wp2_with fail
        refine (P.out _).mono ?_
        rintro e w1 ⟨rfl, rfl⟩
        go_wp2
        go_region_law (refine step_append_own rfl (.tmp 20) (.tmp 27) 42 42 rfl w.heap.size 5 i0 (.int .u8 0) 1 1 Tryd.underlying42 hi hz0 hz1 hz2 rfl (by decide) _ _ _ rfl (own_drew (HW.out.alloc _)) _ 3 _ rfl (src_three Tryd.underlying42 _ _ _ _ 5) (by unfold maxLen; omega) (by omega) (by simp; omega) ?_; intro v3 w3 hown hgr hspr; have K := Lib.hid (row_three HE.out HW.out hown hgr); clear hown hgr hspr)
        all_goals
          go_wp2
          go_roundw
          case rel => exact ⟨k + 1, cs ++ [37, (hexAt h : Int), (hexAt l : Int)], by go_num, by omega, Lib.hid HN.out.symm, K.out.1, K.out.2⟩
          case measure => simp [intOf]; omega
    · have hke : k = s.size := by omega
      have hcs : strOfNums cs = quT s := by rw [HC.out, List.take_of_length_le (by rw [nl_length]; omega)]; rfl
      obtain ⟨ao, cp, rfl⟩ := own_shape hW
      have cvt := conv_own hW
      rw [hcs] at cvt
      clear hW hE hcs hke
      go_wp2
      go_returns
      exact ⟨rfl, HE.out⟩

set_option maxRecDepth 100000 in
set_option maxHeartbeats 800000 in
theorem rquote_any (w : World) (s : ByteArray) (hs : s.size ≤ 100000) : Calls Tryd.prog 22 #[.string s] w fun e w' => e = .returned (.string (quT s)) ∧ Below w.heap.size w w' := by
  go_enter Tryd.func22, Tryd.ntmps22
  go_wp2
  go_loopw [3, 4] (fun tv av wr => ∃ (k : Nat) (t : ByteArray), av = .int .i64 k ∧ tv = .string t ∧ k ≤ s.size ∧ Hid (nl t = qn ((nl s).take k)) ∧ Below w.heap.size w wr) (fun _ av _ => s.size - (intOf av).toNat)
  case atStart => exact ⟨0, ⟨#[]⟩, rfl, rfl, by omega, Lib.hid rfl, Below.refl _ _⟩
  case round =>
    obtain ⟨k, t, rfl, rfl, hk, HC, hE⟩ := hrel
    have HE := Lib.hid hE
    clear hE
    by_cases hlt : k < s.size
    · have HT : Hid ((nl s).take (k + 1) = (nl s).take k ++ [(s[k]'hlt).toNat]) := Lib.hid (by
        rw [List.take_succ_eq_append_getElem (by rw [nl_length]; exact hlt), nl_get s k hlt])
      have hx256 : (s[k]'hlt).toNat < 256 := UInt8.toNat_lt _
      obtain ⟨u, hu⟩ : ∃ u : ByteArray, nl u = oneN (s[k]'hlt).toNat := ⟨strOfNums (ints (oneN (s[k]'hlt).toNat)), nl_str (fun x hx => by have := oneN_good _ hx256 x hx; omega)⟩
      have P := Lib.hid (fun W => one_any W (s[k]'hlt).toNat hx256 u hu)
      have HN : Hid (nl (t ++ u) = qn ((nl s).take (k + 1))) := Lib.hid (by
        rw [HT.out, qn_snoc, nl_append, HC.out, hu])
      have z1 : u.size ≤ 3 := by rw [← nl_length, hu]; exact oneN_len _
      have z2 : t.size ≤ 300000 := by
        rw [← nl_length, HC.out]
        have h1 := qn_len ((nl s).take k)
        have h2 : ((nl s).take k).length ≤ k := List.length_take_le _ _
        omega
      clear hu
      go_wp2_with fail
      refine (P.out _).mono ?_
      rintro e w1 ⟨rfl, hb⟩
      have B := Lib.hid (HE.out.trans (hb.mono HE.out.size))
      clear hb
      go_wp2
      go_roundw
      case rel => exact ⟨k + 1, t ++ u, by go_num, rfl, by omega, HN, B.out⟩
      case measure => simp [intOf]; omega
    · have hke : k = s.size := by omega
      have E : t = quT s := nl_ext (by rw [HC.out, nl_quT, List.take_of_length_le (by rw [nl_length]; omega)])
      have HX := Lib.hid E
      clear E hke
      go_wp2
      go_returns
      exact ⟨by rw [HX.out]; rfl, HE.out⟩
end Go.Proofs.YtiolkopmoailmaaDoor
