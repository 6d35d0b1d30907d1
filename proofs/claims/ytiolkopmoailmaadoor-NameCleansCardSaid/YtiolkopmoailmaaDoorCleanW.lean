/- Clean of both, at every text. -/
import Derived.Test.YtiolkopmoailmaaDoorCleanM
import Derived.Test.YtiolkopmoailmaaDoorCleanA
set_option linter.unusedVariables false
namespace Go.Proofs.YtiolkopmoailmaaDoor
open Go.RowKit

def cv (s : ByteArray) (k j : Nat) : Int := if j < k then clB (s.get! j).toNat else ((s.get! j).toNat : Int)
theorem cv_self (s : ByteArray) (k : Nat) : cv s k k = ((s.get! k).toNat : Int) := by unfold cv; rw [if_neg (by omega)]
theorem getD_get (s : ByteArray) (j : Nat) (h : j < s.size) : s.data.toList.getD j 0 = s.get! j := by
  have h1 : j < s.data.toList.length := by rw [size_list]; exact h
  have h2 := at_list s j _ rfl h1
  rw [List.getD_eq_getElem?_getD, List.getElem?_eq_getElem h1, Option.getD_some, ← h2]
  rfl
structure CJ (w wr : World) (s : ByteArray) (k : Nat) : Prop where
  b : Below w.heap.size w wr
  c : ∀ j, j < s.size → wr.cell? ⟨w.heap.size, j, none⟩ = some (.int .u8 (cv s k j))
  f : ∀ j, j < s.size → wr.frozen? ⟨w.heap.size, j, none⟩ = false
theorem CJ.start (w : World) (s : ByteArray) : CJ w (Lib.bytesWorld w 5 s) s 0 := by
  have hsz : s.size ≤ (Lib.bytesCells w 5 s).size := by
    unfold Lib.bytesCells
    simp
  refine ⟨⟨rfl, rfl, rfl, by rw [Lib.bytesWorld_size]; omega, fun k hk => Lib.bytesWorld_at_old w 5 _ k hk⟩, ?_, ?_⟩
  · intro j hj
    rw [Lib.bytesWorld_cell w 5 s j hj, getD_get s j hj]
    unfold cv
    rw [if_neg (by omega)]
  · intro j hj
    simp [World.frozen?, Lib.bytesWorld_at_new]
    omega
theorem CJ.set {w wr : World} {s : ByteArray} {k : Nat} (h : CJ w wr s k) (hk : k < s.size) (hx : (s.get! k).toNat = 47 ∨ (s.get! k).toNat = 0) : CJ w (wr.setCell ⟨w.heap.size, k, none⟩ (.int .u8 95)) s (k + 1) := by
  refine ⟨h.b.setCell (Nat.le_refl _) _, ?_, ?_⟩
  · intro j hj
    by_cases e : j = k
    · subst e
      rw [World.cell?_setCell_same _ _ _ (by rw [h.c j hj])]
      unfold cv clB
      rw [if_pos (by omega), if_pos hx]
    · rw [World.cell?_setCell_other]
      · rw [h.c j hj]
        unfold cv
        by_cases hlt : j < k
        · rw [if_pos hlt, if_pos (by omega)]
        · rw [if_neg hlt, if_neg (by omega)]
      · intro e2; injection e2 with _ e3; exact e e3.symm
  · intro j hj
    rw [World.frozen?_setCell]; exact h.f j hj
theorem CJ.skip {w wr : World} {s : ByteArray} {k : Nat} (h : CJ w wr s k) (hx : ¬ ((s.get! k).toNat = 47 ∨ (s.get! k).toNat = 0)) : CJ w wr s (k + 1) := by
  refine ⟨h.b, ?_, h.f⟩
  intro j hj
  rw [h.c j hj]
  unfold cv
  by_cases e : j = k
  · subst e
    rw [if_neg (by omega), if_pos (by omega), clB_same _ hx]
  · by_cases hlt : j < k
    · rw [if_pos hlt, if_pos (by omega)]
    · rw [if_neg hlt, if_neg (by omega)]
theorem cl_get (s : ByteArray) (i : Nat) (h : i < s.size) : (cl s).getD i 0 = clB (s.get! i).toNat := by
  have h1 : i < s.data.toList.length := by rw [size_list]; exact h
  have h2 := at_list s i _ rfl h1
  unfold cl
  rw [List.getD_eq_getElem?_getD, List.getElem?_map, List.getElem?_eq_getElem h1, ← h2]
  rfl
theorem CJ.text {w wr : World} {s : ByteArray} (h : CJ w wr s s.size) (cap : Nat) : (convert 42 9 (.slice (some ⟨w.heap.size, 0, none⟩) s.size cap)).run Tryd.prog wr = .ok (.string (clT s)) wr := by
  refine run_convert_bytes_arg wr 42 5 Tryd.underlying42 Tryd.underlying5 w.heap.size 0 s.size cap (cl s) (cl_length s) (fun i hi => ?_) 9 Tryd.underlying9
  rw [cl_get s i hi]
  have := h.c i hi
  unfold cv at this
  rw [if_pos hi] at this
  by_cases h0 : i = 0
  · subst h0; exact this
  · simpa using this

theorem lits_ne {m : ByteArray} (h : ¬ Lits m) : (m.toList == [46]) = false ∧ (m.toList == [46, 46]) = false ∧ m.toList.isEmpty = false := by
  refine ⟨ne_one fun e => h (.inr (.inl e)), ne_two fun e => h (.inr (.inr e)), ?_⟩
  rw [ByteArray.toList_eq]
  cases hd : m.data.toList with
  | nil => exact absurd (.inl (ba_ext hd)) h
  | cons a t => rfl

set_option maxRecDepth 100000 in
set_option maxHeartbeats 1600000 in
theorem clean_any (w : World) (s c : ByteArray) (hs : s.size ≤ 100000) (h : CleanIs s c) : Calls Tryd.prog 23 #[.string s] w fun e w' => e = .returned (.string c) ∧ Below w.heap.size w w' := by
  obtain ⟨o, N, j, ho, hN, hj, rfl⟩ := h
  obtain ⟨w1, cap, hconv, hI⟩ : ∃ w1 cap, (convert 9 42 (.string s)).run Tryd.prog w = .ok (.slice (some ⟨w.heap.size, 0, none⟩) s.size cap) w1 ∧ CJ w w1 s 0 :=
    ⟨_, _, Lib.run_convert_string_bytes w 9 42 5 _ Tryd.underlying9 Tryd.underlying42 Tryd.underlying5, CJ.start w s⟩
  have HI := Lib.hid hI
  have hoz := (opn_good ho).2.2.2
  have F := Lib.hid (fun W => fit_any o N j 255 W (by omega) hN hj)
  have HO := Lib.hid ho
  clear hI ho hN hj hoz
  go_enter Tryd.func23, Tryd.ntmps23
  go_wp2
  go_loopw [10] (fun av wr => ∃ k : Nat, av = .int .i64 k ∧ k ≤ s.size ∧ Hid (CJ w wr s k)) (fun av _ => s.size - (intOf av).toNat)
  case atStart => exact ⟨0, rfl, by omega, HI.out⟩
  case round =>
    obtain ⟨k, rfl, hk, hJ⟩ := hrel
    clear hconv
    by_cases hlt : k < s.size
    · have c0 := hJ.out.c k hlt
      have f0 := hJ.out.f k hlt
      rw [cv_self] at c0
      by_cases h47 : (s.get! k).toNat = 47
      · have hS := Lib.hid (hJ.out.set hlt (.inl h47))
        rw [h47] at c0
        clear h47
        go_wp2
        go_roundw
        case rel => exact ⟨k + 1, by go_num, by omega, hS.out⟩
        case measure => simp [intOf]; omega
      · by_cases h0 : (s.get! k).toNat = 0
        · have hS := Lib.hid (hJ.out.set hlt (.inr h0))
          rw [h0] at c0
          clear h47 h0
          go_wp2
          go_roundw
          case rel => exact ⟨k + 1, by go_num, by omega, hS.out⟩
          case measure => simp [intOf]; omega
        · have hS := Lib.hid (hJ.out.skip (k := k) (fun h => h.elim h47 h0))
          generalize (s.get! k).toNat = x at *
          have t1 := bneb_ (x : Int) 47 (by omega)
          have t2 := bneb_ (x : Int) 0 (by omega)
          clear h47 h0
          go_wp2
          go_roundw
          case rel => exact ⟨k + 1, by go_num, by omega, hS.out⟩
          case measure => simp [intOf]; omega
    · have hke : k = s.size := by omega
      have cvt := (hke ▸ hJ.out : CJ w wr s s.size).text cap
      have HB := Lib.hid hJ.out.b
      have ho := HO.out
      unfold Opn at ho
      clear HO hke
      generalize clT s = m at *
      rcases ho with ⟨hl, rfl⟩ | ⟨hl, rfl⟩
      · rcases hl with rfl | rfl | rfl
        all_goals
          go_wp2_with fail
          refine (F.out _).mono ?_
          rintro e w2 ⟨rfl, hb2⟩
          have B2 := Lib.hid (HB.out.trans (hb2.mono HB.out.size))
          clear hb2
          go_wp2
          go_returns
          exact ⟨rfl, B2.out⟩
      · obtain ⟨n1, n2, n3⟩ := lits_ne hl
        clear hl
        go_wp2_with fail
        refine (F.out _).mono ?_
        rintro e w2 ⟨rfl, hb2⟩
        have B2 := Lib.hid (HB.out.trans (hb2.mono HB.out.size))
        clear hb2
        go_wp2
        go_returns
        exact ⟨rfl, B2.out⟩

theorem cl_take (s : ByteArray) (k : Nat) (h : k < s.size) : (cl s).take (k + 1) = (cl s).take k ++ [clB (s.get! k).toNat] := by
  have h1 : k < (cl s).length := by rw [cl_length]; exact h
  rw [List.take_succ_eq_append_getElem h1]
  congr 2
  have := cl_get s k h
  rw [List.getD_eq_getElem?_getD, List.getElem?_eq_getElem h1] at this
  exact this

set_option maxRecDepth 100000 in
set_option maxHeartbeats 1600000 in
theorem rclean_any (w : World) (s c : ByteArray) (hs : s.size ≤ 100000) (h : CleanIs s c) : Calls Tryd.prog 24 #[.string s] w fun e w' => e = .returned (.string c) ∧ Below w.heap.size w w' := by
  have hne := clean_ne h
  obtain ⟨o, N, j, ho, hN, hj, rfl⟩ := h
  obtain ⟨i0, hi, hz0, hz1, hz2⟩ := info_parts Tryd.info5
  have hoz := (opn_good ho).2.2.2
  have F := Lib.hid (fun W => rfit_any o N j 255 W (by omega) hN hj)
  have HO := Lib.hid ho
  clear ho hN hj hoz
  go_enter Tryd.func24, Tryd.ntmps24
  go_wp2
  go_loopw [3, 4] (fun bv av wr => ∃ (k : Nat) (cs : List Int), av = .int .i64 k ∧ k ≤ s.size ∧ Hid (cs = (cl s).take k) ∧ wr.ownsRow w.heap.size 5 1 bv cs.length (u8s cs) ∧ Below w.heap.size w wr) (fun _ av _ => s.size - (intOf av).toNat)
  case atStart => exact ⟨0, [], rfl, by omega, Lib.hid rfl, World.ownsRow_nil _ _ _ _, Below.refl _ _⟩
  case round =>
    obtain ⟨k, cs, rfl, hk, HC, hW, hE⟩ := hrel
    have HW := Lib.hid hW
    have HE := Lib.hid hE
    have hB2 := hE.size
    have hl : cs.length ≤ k := by rw [HC.out]; exact List.length_take_le _ _
    by_cases hlt : k < s.size
    · have hg : s.get! k = s[k]'hlt := get_at s k hlt
      have HT := Lib.hid (cl_take s k hlt)
      rw [hg] at HT
      obtain ⟨ao, cp, rfl⟩ := own_shape hW
      clear hW hE hg
      by_cases h47 : (s[k]'hlt).toNat = 47
      · have t1 := beqb_ ((s[k]'hlt).toNat : Int) 47 (by omega)
        have HX := Lib.hid (show clB (s[k]'hlt).toNat = 95 by unfold clB; rw [if_pos (.inl h47)])
        clear h47
        go_wp2_with (at_builtin; refine wpList_append_src_own rfl (.tmp 22) (.tmp 23) 42 42 rfl w.heap.size 5 i0 (.int .u8 0) 1 1 Tryd.underlying42 hi hz0 hz1 hz2 rfl (by decide) _ _ _ rfl (HW.out.alloc _) _ 1 _ rfl (src_one Tryd.underlying42 _ (95 : Int) 5) (by unfold maxLen; omega) (by omega) (by simp; omega) ?_; intro v3 w3 hown hgr hspr; have K := Lib.hid (row_one HE.out HW.out hown hgr); clear hown hgr hspr)
        go_roundw
        case rel => exact ⟨k + 1, cs ++ [95], by go_num, by omega, Lib.hid (by rw [HT.out, HX.out, ← HC.out]), K.out.1, K.out.2⟩
        case measure => simp [intOf]; omega
      · by_cases h0 : (s[k]'hlt).toNat = 0
        · have t1 := bneb_ ((s[k]'hlt).toNat : Int) 47 (by omega)
          have t2 := beqb_ ((s[k]'hlt).toNat : Int) 0 (by omega)
          have HX := Lib.hid (show clB (s[k]'hlt).toNat = 95 by unfold clB; rw [if_pos (.inr h0)])
          clear h47 h0
          go_wp2_with (at_builtin; refine wpList_append_src_own rfl (.tmp 22) (.tmp 23) 42 42 rfl w.heap.size 5 i0 (.int .u8 0) 1 1 Tryd.underlying42 hi hz0 hz1 hz2 rfl (by decide) _ _ _ rfl (HW.out.alloc _) _ 1 _ rfl (src_one Tryd.underlying42 _ (95 : Int) 5) (by unfold maxLen; omega) (by omega) (by simp; omega) ?_; intro v3 w3 hown hgr hspr; have K := Lib.hid (row_one HE.out HW.out hown hgr); clear hown hgr hspr)
          go_roundw
          case rel => exact ⟨k + 1, cs ++ [95], by go_num, by omega, Lib.hid (by rw [HT.out, HX.out, ← HC.out]), K.out.1, K.out.2⟩
          case measure => simp [intOf]; omega
        · have t1 := bneb_ ((s[k]'hlt).toNat : Int) 47 (by omega)
          have t2 := bneb_ ((s[k]'hlt).toNat : Int) 0 (by omega)
          have HX := Lib.hid (show clB (s[k]'hlt).toNat = ((s[k]'hlt).toNat : Int) from clB_same _ (fun h => h.elim h47 h0))
          clear h47 h0
          go_wp2_with (at_builtin; refine wpList_append_src_own rfl (.tmp 25) (.tmp 29) 42 42 rfl w.heap.size 5 i0 (.int .u8 0) 1 1 Tryd.underlying42 hi hz0 hz1 hz2 rfl (by decide) _ _ _ rfl (HW.out.alloc _) _ 1 _ rfl (src_one Tryd.underlying42 _ ((s[k]'hlt).toNat : Int) 5) (by unfold maxLen; omega) (by omega) (by simp; omega) ?_; intro v3 w3 hown hgr hspr; have K := Lib.hid (row_one HE.out HW.out hown hgr); clear hown hgr hspr)
          go_roundw
          case rel => exact ⟨k + 1, cs ++ [((s[k]'hlt).toNat : Int)], by go_num, by omega, Lib.hid (by rw [HT.out, HX.out, ← HC.out]), K.out.1, K.out.2⟩
          case measure => simp [intOf]; omega
    · have hke : k = s.size := by omega
      have hcs : strOfNums cs = clT s := by rw [HC.out, List.take_of_length_le (by rw [cl_length]; omega)]; rfl
      obtain ⟨ao, cp, rfl⟩ := own_shape hW
      have cvt := conv_own hW
      rw [hcs] at cvt
      clear hcs hke
      have ho := HO.out
      unfold Opn at ho
      clear HO hW hE
      generalize clT s = m at *
      rcases ho with ⟨hl, rfl⟩ | ⟨hl, rfl⟩
      · rcases hl with rfl | rfl | rfl
        all_goals
          go_wp2_with fail
          refine (F.out _).mono ?_
          rintro e w2 ⟨rfl, hb2⟩
          have B2 := Lib.hid (HE.out.trans (hb2.mono HE.out.size))
          clear hb2
          go_wp2
          go_returns
          exact ⟨rfl, B2.out⟩
      · obtain ⟨n1, n2, n3⟩ := lits_ne hl
        clear hl
        go_wp2_with fail
        refine (F.out _).mono ?_
        rintro e w2 ⟨rfl, hb2⟩
        have B2 := Lib.hid (HE.out.trans (hb2.mono HE.out.size))
        clear hb2
        go_wp2
        go_returns
        exact ⟨rfl, B2.out⟩

set_option maxRecDepth 100000 in
set_option maxHeartbeats 1600000 in
theorem cleans_all (w : World) (s : ByteArray) (hs : s.size ≤ 9223372036854775807) :
    Calls Tryd.prog 6 #[.string s] w fun e w' => e = .returned (.bool true) ∧ Below w.heap.size w w' := by
  by_cases h : 600 < s.size
  · go_enter Tryd.func6, Tryd.ntmps6
    go_wp2_with fail
    refine (awake_any _).mono ?_
    rintro e w1 ⟨rfl, hb1⟩
    have B1 := Lib.hid hb1
    clear hb1
    go_wp2
    go_returns
    exact ⟨rfl, B1.out⟩
  · obtain ⟨c, hc⟩ := clean_is s
    obtain ⟨d, hd⟩ := clean_is c
    have ck := clean_check hc
    have hcz : c.size ≤ 255 := (check_good ck).2.2
    obtain rfl : d = c := clean_same hd ck
    obtain ⟨n, hn⟩ := check_is s
    have P := Lib.hid (fun W => clean_any W s d (by omega) hc)
    have Q := Lib.hid (fun W => rclean_any W s d (by omega) hc)
    have R := Lib.hid (fun W => rcheck_any W d (by omega) 0 ck)
    have S := Lib.hid (fun W => rcheck_any W s (by omega) n hn)
    have T := Lib.hid (fun W => clean_any W d d (by omega) hd)
    have t1 := tl_eq (a := d) rfl
    have t2 := tln_eq (a := d) rfl
    by_cases h0 : n = 0
    · subst h0
      obtain rfl : d = s := clean_same hc hn
      clear hc hd ck hn
      go_enter Tryd.func6, Tryd.ntmps6
      go_wp2_with fail
      refine (P.out _).mono ?_
      rintro e w1 ⟨rfl, hb1⟩
      have B1 := Lib.hid hb1
      clear hb1
      go_wp2_with fail
      refine (Q.out _).mono ?_
      rintro e w2 ⟨rfl, hb2⟩
      have B2 := Lib.hid (B1.out.trans (hb2.mono B1.out.size))
      clear hb2
      go_wp2_with fail
      refine (R.out _).mono ?_
      rintro e w3 ⟨rfl, rfl⟩
      go_wp2_with fail
      refine (S.out _).mono ?_
      rintro e w4 ⟨rfl, rfl⟩
      go_wp2_with fail
      refine (T.out _).mono ?_
      rintro e w5 ⟨rfl, hb5⟩
      have B5 := Lib.hid (B2.out.trans (hb5.mono B2.out.size))
      clear hb5
      go_wp2_with fail
      refine (awake_any _).mono ?_
      rintro e w6 ⟨rfl, hb6⟩
      have B6 := Lib.hid (B5.out.trans (hb6.mono B5.out.size))
      clear hb6
      go_wp2
      go_returns
      exact ⟨rfl, B6.out⟩
    · have t3 := bneb_ n 0 h0
      have t4 := neb_ n 0 h0
      clear hc hd ck hn h0
      go_enter Tryd.func6, Tryd.ntmps6
      go_wp2_with fail
      refine (P.out _).mono ?_
      rintro e w1 ⟨rfl, hb1⟩
      have B1 := Lib.hid hb1
      clear hb1
      go_wp2_with fail
      refine (Q.out _).mono ?_
      rintro e w2 ⟨rfl, hb2⟩
      have B2 := Lib.hid (B1.out.trans (hb2.mono B1.out.size))
      clear hb2
      go_wp2_with fail
      refine (R.out _).mono ?_
      rintro e w3 ⟨rfl, rfl⟩
      go_wp2_with fail
      refine (S.out _).mono ?_
      rintro e w4 ⟨rfl, rfl⟩
      go_wp2_with fail
      refine (T.out _).mono ?_
      rintro e w5 ⟨rfl, hb5⟩
      have B5 := Lib.hid (B2.out.trans (hb5.mono B2.out.size))
      clear hb5
      go_wp2_with fail
      refine (awake_any _).mono ?_
      rintro e w6 ⟨rfl, hb6⟩
      have B6 := Lib.hid (B5.out.trans (hb6.mono B5.out.size))
      clear hb6
      go_wp2
      go_returns
      exact ⟨rfl, B6.out⟩
end Go.Proofs.YtiolkopmoailmaaDoor
