/- Unquote of both, at every text. -/
import Derived.Test.YtiolkopmoailmaaDoorQuoteW
set_option linter.unusedVariables false
namespace Go.Proofs.YtiolkopmoailmaaDoor
open Go.RowKit

theorem hex_idx : ∀ n : Fin 256, Lib.indexByte [48, 49, 50, 51, 52, 53, 54, 55, 56, 57, 65, 66, 67, 68, 69, 70] (UInt8.ofNat n.val) = if hexOf n.val < 16 then (hexOf n.val : Int) else -1 := by decide +kernel
def hexI (x : Nat) : Int := if hexOf x < 16 then (hexOf x : Int) else -1
theorem index_any (W : World) (x : Nat) (hx : x < 256) : Calls Tryd.prog 40 #[.string ⟨#[48, 49, 50, 51, 52, 53, 54, 55, 56, 57, 65, 66, 67, 68, 69, 70]⟩, .int .u8 x] W fun e w' => e = .returned (.int .i64 (hexI x)) ∧ Below W.heap.size W w' := by
  have C := Tryd.strings_IndexByte ⟨#[48, 49, 50, 51, 52, 53, 54, 55, 56, 57, 65, 66, 67, 68, 69, 70]⟩ (x : Int) W
  have h := hex_idx ⟨x, hx⟩
  have e : Lib.indexByte (ByteArray.mk #[48, 49, 50, 51, 52, 53, 54, 55, 56, 57, 65, 66, 67, 68, 69, 70]).data.toList (x : Int).toNat.toUInt8 = hexI x := h
  rw [e] at C
  exact C.mono fun e w' h => ⟨h.1, by rw [h.2]; exact Below.refl _ _⟩

/-- What quoted answers. -/
def quoV (l : List Nat) : Value := match stp l with
  | some (c, _) => .tuple #[.int .u8 (c : Int), .bool true]
  | none => .tuple #[.int .u8 0, .bool false]
theorem quoV_some {l : List Nat} {c n : Nat} (h : stp l = some (c, n)) : quoV l = .tuple #[.int .u8 (c : Int), .bool true] := by unfold quoV; rw [h]
theorem quoV_none {l : List Nat} (h : stp l = none) : quoV l = .tuple #[.int .u8 0, .bool false] := by unfold quoV; rw [h]

theorem nl_three (s : ByteArray) (h : 3 ≤ s.size) : ∃ t, nl s = (s[0]'(by omega)).toNat :: (s[1]'(by omega)).toNat :: (s[2]'(by omega)).toNat :: t := by
  have h0 := nl_drop s 0 (by omega)
  have h1 := nl_drop s 1 (by omega)
  have h2 := nl_drop s 2 (by omega)
  rw [List.drop_zero] at h0
  exact ⟨_, by rw [h0]; show _ :: (nl s).drop 1 = _; rw [h1]; show _ :: _ :: (nl s).drop 2 = _; rw [h2]⟩

set_option maxRecDepth 100000 in
set_option maxHeartbeats 1600000 in
theorem quoted_any (w : World) (s : ByteArray) (hs : s.size ≤ 9223372036854775807) (h0 : 0 < s.size) (hpl : plainB (s[0]'h0).toNat = false) :
    Calls Tryd.prog 33 #[.string s] w fun e w' => e = .returned (quoV (nl s)) ∧ Below w.heap.size w w' := by
  by_cases h3 : s.size < 3
  · have E : quoV (nl s) = .tuple #[.int .u8 0, .bool false] := by
      apply quoV_none
      have hd := nl_drop s 0 h0
      rw [List.drop_zero] at hd
      have hlen := nl_length s
      rw [hd] at hlen ⊢
      exact stp_short hpl (by simp at hlen ⊢; omega)
    have HE := Lib.hid E
    clear E hpl
    go_enter Tryd.func33, Tryd.ntmps33
    go_wp2
    go_returns
    exact ⟨ret_v HE.out.symm, Below.refl _ _⟩
  · obtain ⟨t, hn⟩ := nl_three s (by omega)
    have b0 : (s[0]'h0).toNat < 256 := UInt8.toNat_lt _
    have b1 : (s[1]'(by omega)).toNat < 256 := UInt8.toNat_lt _
    have b2 : (s[2]'(by omega)).toNat < 256 := UInt8.toNat_lt _
    have hst := stp_hex (a := (s[0]'h0).toNat) (h := (s[1]'(by omega)).toNat) (l := (s[2]'(by omega)).toNat) (t := t) hpl
    rw [← hn] at hst
    have I1 := Lib.hid (fun W => index_any W (s[1]'(by omega)).toNat b1)
    have I2 := Lib.hid (fun W => index_any W (s[2]'(by omega)).toNat b2)
    clear hn hpl
    by_cases h37 : (s[0]'h0).toNat = 37
    · have t1 := eqb_ ((s[0]'h0).toNat : Int) 37 (by omega)
      generalize hx : (s[1]'(by omega)).toNat = x at *
      generalize hy : (s[2]'(by omega)).toNat = y at *
      by_cases c1 : hexOf x < 16
      · by_cases c2 : hexOf y < 16
        · have ex : hexI x = (hexOf x : Int) := by unfold hexI; rw [if_pos c1]
          have ey : hexI y = (hexOf y : Int) := by unfold hexI; rw [if_pos c2]
          rw [ex] at I1
          rw [ey] at I2
          generalize hexOf x = a at *
          generalize hexOf y = b at *
          have P := Lib.hid (fun W => plain_any W (16 * a + b))
          have w1 : IntKind.u8.wrap ((a : Int) * 16 + b) = ((16 * a + b : Nat) : Int) := by unfold IntKind.wrap; simp [IntKind.bits, IntKind.signed]; omega
          have J1 := Lib.hid (fun x : Later w => I1.out x.w)
          have J2 := Lib.hid (fun x : Later w => I2.out x.w)
          cases hpb : plainB (16 * a + b) with
          | true =>
            rw [if_neg (by rw [hpb]; simp)] at hst
            have HE := Lib.hid (quoV_none hst)
            rw [hpb] at P
            clear hst ex ey h37 hpb I1 I2
            go_enter Tryd.func33, Tryd.ntmps33
            go_wp2
            refine wp_region_later (by kernel_rfl) (by kernel_rfl) ?_
            repeat (go_big_quiet_step (first
              | (go_at_call 40; with_reducible exact later_call (J1.out _))
              | (go_at_call 40; with_reducible exact later_call (J2.out _))))
            refine wpQuiet_nil ?_
            intro _ hw'
            obtain ⟨xl, hw''⟩ := hw'
            subst hw''
            go_wp2_with fail
            refine (P.out _).mono ?_
            rintro e w2 ⟨rfl, rfl⟩
            go_wp2
            go_returns
            exact ⟨ret_v HE.out.symm, xl.below⟩
          | false =>
            rw [if_pos ⟨h37, c1, c2, hpb⟩] at hst
            have HE := Lib.hid (quoV_some hst)
            rw [hpb] at P
            clear hst ex ey h37 hpb I1 I2
            go_enter Tryd.func33, Tryd.ntmps33
            go_wp2
            refine wp_region_later (by kernel_rfl) (by kernel_rfl) ?_
            repeat (go_big_quiet_step (first
              | (go_at_call 40; with_reducible exact later_call (J1.out _))
              | (go_at_call 40; with_reducible exact later_call (J2.out _))))
            refine wpQuiet_nil ?_
            intro _ hw'
            obtain ⟨xl, hw''⟩ := hw'
            subst hw''
            go_wp2_with fail
            refine (P.out _).mono ?_
            rintro e w2 ⟨rfl, rfl⟩
            go_wp2
            go_returns
            exact ⟨ret_v HE.out.symm, xl.below⟩
        · have ex : hexI x = (hexOf x : Int) := by unfold hexI; rw [if_pos c1]
          have ey : hexI y = -1 := by unfold hexI; rw [if_neg c2]
          rw [if_neg (by omega)] at hst
          have HE := Lib.hid (quoV_none hst)
          rw [ex] at I1
          rw [ey] at I2
          generalize hexOf x = a at *
          have J1 := Lib.hid (fun x : Later w => I1.out x.w)
          have J2 := Lib.hid (fun x : Later w => I2.out x.w)
          clear hst ex ey h37 I1 I2 c2
          go_enter Tryd.func33, Tryd.ntmps33
          go_wp2
          refine wp_region_later (by kernel_rfl) (by kernel_rfl) ?_
          repeat (go_big_quiet_step (first
            | (go_at_call 40; with_reducible exact later_call (J1.out _))
            | (go_at_call 40; with_reducible exact later_call (J2.out _))))
          refine wpQuiet_nil ?_
          intro _ hw'
          obtain ⟨xl, hw''⟩ := hw'
          subst hw''
          go_wp2
          go_returns
          exact ⟨ret_v HE.out.symm, xl.below⟩
      · have ex : hexI x = -1 := by unfold hexI; rw [if_neg c1]
        rw [if_neg (by omega)] at hst
        have HE := Lib.hid (quoV_none hst)
        rw [ex] at I1
        have J1 := Lib.hid (fun x : Later w => I1.out x.w)
        have J2 := Lib.hid (fun x : Later w => I2.out x.w)
        generalize hexI y = b at *
        clear hst ex h37 I1 I2 c1
        go_enter Tryd.func33, Tryd.ntmps33
        go_wp2
        refine wp_region_later (by kernel_rfl) (by kernel_rfl) ?_
        repeat (go_big_quiet_step (first
          | (go_at_call 40; with_reducible exact later_call (J1.out _))
          | (go_at_call 40; with_reducible exact later_call (J2.out _))))
        refine wpQuiet_nil ?_
        intro _ hw'
        obtain ⟨xl, hw''⟩ := hw'
        subst hw''
        go_wp2
        go_returns
        exact ⟨ret_v HE.out.symm, xl.below⟩
    · have t1 := neb_ ((s[0]'h0).toNat : Int) 37 (by omega)
      rw [if_neg (fun c => h37 c.1)] at hst
      have HE := Lib.hid (quoV_none hst)
      clear hst h37 I1 I2
      go_enter Tryd.func33, Tryd.ntmps33
      go_wp2
      go_returns
      exact ⟨ret_v HE.out.symm, Below.refl _ _⟩

theorem append_nil_map (o : Option (List Nat)) : o.map (([] : List Nat) ++ ·) = o := by cases o <;> rfl
theorem map_step (o : Option (List Nat)) (cs : List Nat) (c : Nat) : (o.map (c :: ·)).map (cs ++ ·) = o.map ((cs ++ [c]) ++ ·) := by
  cases o with
  | none => rfl
  | some l => show some _ = some _; simp

/-- What holds of the bytes that were gone by. -/
structure UqI (s : ByteArray) (p : Nat) (cs : List Nat) : Prop where
  le : p ≤ s.size
  eq : uqs (nl s) = (uqs ((nl s).drop p)).map (cs ++ ·)
  len : cs.length ≤ p
  sm : ∀ x ∈ cs, x < 256
theorem UqI.start (s : ByteArray) : UqI s 0 [] := ⟨Nat.zero_le _, by rw [List.drop_zero, append_nil_map], Nat.le_refl _, fun _ h => nomatch h⟩
theorem UqI.step {s : ByteArray} {p c n : Nat} {cs : List Nat} (h : UqI s p cs) (hst : stp ((nl s).drop p) = some (c, n)) : UqI s (p + n) (cs ++ [c]) := by
  obtain ⟨h1, h2, h3, h4, h5⟩ := stp_some hst
  rw [List.length_drop, nl_length] at h4
  refine ⟨by omega, ?_, ?_, ?_⟩
  · rw [h.eq, uqs_some hst, map_step, List.drop_drop]
  · rw [List.length_append]; have := h.len; simp; omega
  · intro x hx
    rcases List.mem_append.1 hx with hx | hx
    · exact h.sm x hx
    · obtain rfl : x = c := by simpa using hx
      rcases h5 with h5 | ⟨t, h5⟩
      · exact h5
      · exact nl_lt s x (List.mem_of_mem_drop (by rw [h5]; exact List.mem_cons_self ..))
theorem UqI.fail {s : ByteArray} {p : Nat} {cs : List Nat} (h : UqI s p cs) (hp : p < s.size) (hst : stp ((nl s).drop p) = none) : uqV s = (⟨#[]⟩, false) := by
  unfold uqV
  rw [h.eq, uqs_none (by rw [nl_drop s p hp]; simp) hst]
  rfl
theorem UqI.done {s : ByteArray} {p : Nat} {cs : List Nat} (h : UqI s p cs) (hp : p = s.size) : uqV s = (strOfNums (ints cs), true) := by
  unfold uqV
  rw [h.eq, List.drop_of_length_le (by rw [nl_length]; omega), uqs_nil]
  simp
theorem UqI.snoc (cs : List Nat) (c : Nat) : ints (cs ++ [c]) = ints cs ++ [(c : Int)] := by unfold ints; rw [List.map_append]; rfl
theorem ints_length (l : List Nat) : (ints l).length = l.length := List.length_map _

def uqR (r : ByteArray × Bool) : Value := .tuple #[.string r.1, .bool r.2]

set_option maxRecDepth 100000 in
set_option maxHeartbeats 3200000 in
theorem unquote_any (w : World) (s : ByteArray) (hs : s.size ≤ 100000) : Calls Tryd.prog 20 #[.string s] w fun e w' => e = .returned (uqR (uqV s)) ∧ Below w.heap.size w w' := by
  obtain ⟨i0, hi, hz0, hz1, hz2⟩ := info_parts Tryd.info5
  go_enter Tryd.func20, Tryd.ntmps20
  go_wp2
  go_loopw [4, 5] (fun bv av wr => ∃ (p : Nat) (cs : List Nat), av = .int .i64 p ∧ p ≤ s.size ∧ Hid (UqI s p cs) ∧ wr.ownsRow w.heap.size 5 1 bv (ints cs).length (u8s (ints cs)) ∧ Below w.heap.size w wr) (fun _ av _ => s.size - (intOf av).toNat)
  case atStart => exact ⟨0, [], rfl, by omega, Lib.hid (UqI.start s), World.ownsRow_nil _ _ _ _, Below.refl _ _⟩
  case round =>
    obtain ⟨p, cs, rfl, hk, HC, hW, hE⟩ := hrel
    have HW := Lib.hid hW
    have HE := Lib.hid hE
    have hB2 := hE.size
    have hl : (ints cs).length ≤ 100000 := by rw [ints_length]; have := HC.out.len; omega
    by_cases hlt : p < s.size
    · have hx256 : (s[p]'hlt).toNat < 256 := UInt8.toNat_lt _
      have hd := nl_drop s p hlt
      obtain ⟨ao, cp, rfl⟩ := own_shape hW
      have P := Lib.hid (fun W => plain_any W (s[p]'hlt).toNat)
      clear hW hE
      by_cases hp : plainB (s[p]'hlt).toNat = true
      · rw [hp] at P
        have HS := Lib.hid (HC.out.step (by rw [hd]; exact stp_plain hp))
        have HL := Lib.hid (UqI.snoc cs (s[p]'hlt).toNat)
        clear hp hd
        go_wp2_with fail
        refine (P.out _).mono ?_
        rintro e w1 ⟨rfl, rfl⟩
        go_wp2_with (at_builtin; refine wpList_append_src_own rfl (.tmp 31) (.tmp 33) 42 42 rfl w.heap.size 5 i0 (.int .u8 0) 1 1 Tryd.underlying42 hi hz0 hz1 hz2 rfl (by decide) _ _ _ rfl (HW.out.alloc _) _ 1 _ rfl (src_one Tryd.underlying42 _ ((s[p]'hlt).toNat : Int) 5) (by unfold maxLen; omega) (by omega) (by simp; omega) ?_; intro v3 w3 hown hgr hspr; have K := Lib.hid (row_one HE.out HW.out hown hgr); clear hown hgr hspr)
        go_roundw
        case rel => exact ⟨p + 1, cs ++ [(s[p]'hlt).toNat], by go_num, by omega, HS, by rw [HL.out]; exact K.out.1, K.out.2⟩
        case measure => simp [intOf]; omega
      · have hp := eq_false_of_ne_true hp
        rw [hp] at P
        have hz : 0 < (s.extract p s.size).size := by simp only [ByteArray.size_extract]; omega
        have hnx : nl (s.extract p s.size) = (nl s).drop p := by
          rw [nl_extract, List.take_of_length_le (by rw [nl_length]; omega)]
        have hp2 : plainB ((s.extract p s.size)[0]'hz).toNat = false := by
          have h1 := nl_drop (s.extract p s.size) 0 hz
          rw [List.drop_zero, hnx, hd] at h1
          injection h1 with h1 _
          rw [← h1]; exact hp
        have Q := Lib.hid (fun W => quoted_any W (s.extract p s.size) (by simp only [ByteArray.size_extract]; omega) hz hp2)
        rw [hnx] at Q
        clear hp2 hnx hz
        cases hst : stp ((nl s).drop p) with
        | none =>
          rw [quoV_none hst] at Q
          have HX := Lib.hid (HC.out.fail hlt hst)
          clear hst hp hd
          go_wp2_with fail
          refine (P.out _).mono ?_
          rintro e w1 ⟨rfl, rfl⟩
          go_wp2_with fail
          refine (Q.out _).mono ?_
          rintro e w2 ⟨rfl, hb⟩
          have HX2 := Lib.hid (HE.out.trans (hb.mono hB2))
          clear hb
          go_wp2
          go_returns
          exact ⟨by rw [HX.out]; rfl, HX2.out⟩
        | some r =>
          obtain ⟨c, n⟩ := r
          rw [quoV_some hst] at Q
          have hn : n = 3 := by
            rw [hd] at hst
            have h1 := (stp_some hst)
            have h2 : ¬ plainB c = true := by
              intro hc
              rw [oneN_plain hc] at h1
              have hn1 : n = 1 := h1.2.1
              have h3 := h1.1
              rw [hn1] at h3
              injection h3 with h3 _
              rw [h3] at hc
              rw [hp] at hc; cases hc
            rw [oneN_hex (eq_false_of_ne_true h2)] at h1
            exact h1.2.1
          subst hn
          have HS := Lib.hid (HC.out.step hst)
          have hle := HS.out.le
          have HL := Lib.hid (UqI.snoc cs c)
          clear hst hp hd
          go_wp2_with fail
          refine (P.out _).mono ?_
          rintro e w1 ⟨rfl, rfl⟩
          go_wp2_with fail
          refine (Q.out _).mono ?_
          rintro e w2 ⟨rfl, hb⟩
          have HO : Hid (w2.ownsRow w.heap.size 5 1 (.slice ao (ints cs).length cp) (ints cs).length (u8s (ints cs))) := Lib.hid (by
            have h2 := HW.out
            exact h2.kept (row := none) ⟨hb.os, hb.tape, hb.output, hb.size, fun k hk _ => hb.block k hk⟩ (by cases h : (Value.slice ao (ints cs).length cp).ownBlock <;> simp))
          have HX := Lib.hid (HE.out.trans (hb.mono hB2))
          have hB3 := HX.out.size
          clear hb
          go_wp2_with (at_builtin; refine wpList_append_src_own rfl (.tmp 31) (.tmp 33) 42 42 rfl w.heap.size 5 i0 (.int .u8 0) 1 1 Tryd.underlying42 hi hz0 hz1 hz2 rfl (by decide) _ _ _ rfl (HO.out.alloc _) _ 1 _ rfl (src_one Tryd.underlying42 _ (c : Int) 5) (by unfold maxLen; omega) (by omega) (by simp; omega) ?_; intro v3 w3 hown hgr hspr; have K := Lib.hid (row_one HX.out HO.out hown hgr); clear hown hgr hspr)
          go_roundw
          case rel => exact ⟨p + 3, cs ++ [c], by go_num, by omega, HS, by rw [HL.out]; exact K.out.1, K.out.2⟩
          case measure => simp [intOf]; omega
    · have hke : p = s.size := by omega
      have cvt := conv_own hW
      have HX := Lib.hid (HC.out.done hke)
      generalize strOfNums (ints cs) = q at *
      obtain ⟨ao, cp, rfl⟩ := own_shape hW
      clear hW hE hke
      go_wp2
      go_returns
      exact ⟨by rw [HX.out]; rfl, HE.out⟩
end Go.Proofs.YtiolkopmoailmaaDoor
