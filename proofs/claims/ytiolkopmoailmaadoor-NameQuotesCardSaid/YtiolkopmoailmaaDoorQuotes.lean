/- The reference's Unquote, and NameQuotes, walked. -/
import Derived.Test.YtiolkopmoailmaaDoorUnqW
set_option linter.unusedVariables false
namespace Go.Proofs.YtiolkopmoailmaaDoor
open Go.RowKit

/-- What the tries at one place come to: none yet, or the byte that stands there. -/
def TryI (s : ByteArray) (p : Nat) (cs : List Nat) (c : Nat) (found : Bool) (p' : Nat) (cs' : List Nat) : Prop :=
  (found = false ∧ p' = p ∧ cs' = cs ∧ ∀ x, x < c → ¬ oneN x <+: (nl s).drop p) ∨ (found = true ∧ ∃ x n, stp ((nl s).drop p) = some (x, n) ∧ p' = p + n ∧ cs' = cs ++ [x])

theorem prefix_iff {s t u : ByteArray} {p : Nat} (hu : u.size ≤ s.size - p) (ht : t = s.extract p (p + u.size)) : (t = u) ↔ nl u <+: (nl s).drop p := by
  subst ht
  have e : nl (s.extract p (p + u.size)) = ((nl s).drop p).take u.size := by
    rw [nl_extract, List.drop_take]; congr 1; omega
  constructor
  · intro h
    rw [← h, e]
    exact List.take_prefix _ _
  · rintro ⟨r, hr⟩
    apply nl_ext
    rw [e, ← hr, ← nl_length u, List.take_left]

set_option maxRecDepth 100000 in
set_option maxHeartbeats 3200000 in
theorem runquote_any (w : World) (s : ByteArray) (hs : s.size ≤ 100000) : Calls Tryd.prog 21 #[.string s] w fun e w' => e = .returned (uqR (uqV s)) ∧ Below w.heap.size w w' := by
  obtain ⟨i0, hi, hz0, hz1, hz2⟩ := info_parts Tryd.info5
  go_enter Tryd.func21, Tryd.ntmps21
  go_wp2
  go_loopw [4, 5] (fun bv av wr => ∃ (p : Nat) (cs : List Nat), av = .int .i64 p ∧ p ≤ s.size ∧ Hid (UqI s p cs) ∧ wr.ownsRow w.heap.size 5 1 bv (ints cs).length (u8s (ints cs)) ∧ Below w.heap.size w wr) (fun _ av _ => s.size - (intOf av).toNat)
  case atStart => exact ⟨0, [], rfl, by omega, Lib.hid (UqI.start s), World.ownsRow_nil _ _ _ _, Below.refl _ _⟩
  case round =>
    obtain ⟨p, cs, rfl, hk, HC, hW, hE⟩ := hrel
    have HW := Lib.hid hW
    have HE := Lib.hid hE
    have hlen := HC.out.len
    by_cases hlt : p < s.size
    · obtain ⟨ao, cp, rfl⟩ := own_shape hW
      obtain ⟨wo, hwo⟩ : ∃ wo : World, wo = wr := ⟨_, rfl⟩
      subst hwo
      clear hW hE
      go_wp2
      go_loopw [4, 5, 6, 7] (fun bv av fv cv wx => ∃ (c p' : Nat) (cs' : List Nat) (f : Bool), cv = .int .i64 c ∧ c ≤ 256 ∧ fv = .bool f ∧ av = .int .i64 p' ∧ p' ≤ s.size ∧ (ints cs').length ≤ 100001 ∧ Hid (TryI s p cs c f p' cs') ∧ wx.ownsRow w.heap.size 5 1 bv (ints cs').length (u8s (ints cs')) ∧ Below w.heap.size w wx) (fun _ _ _ cv _ => 256 - (intOf cv).toNat)
      case atStart => exact ⟨0, p, cs, false, rfl, by omega, rfl, rfl, by omega, by rw [ints_length]; omega, Lib.hid (.inl ⟨rfl, rfl, rfl, fun x hx => absurd hx (Nat.not_lt_zero _)⟩), HW.out, HE.out⟩
      case round =>
        obtain ⟨c, p', cs', f, rfl, hc, rfl, rfl, hp', hl', HT, hW2, hE2⟩ := hrel
        have HW2 := Lib.hid hW2
        have HE2 := Lib.hid hE2
        have hB2 := hE2.size
        obtain ⟨ao2, cp2, rfl⟩ := own_shape hW2
        clear hW2 hE2
        cases f with
        | true =>
          have hT := HT.out
          unfold TryI at hT
          rcases hT with ⟨h1, _⟩ | ⟨_, x, n, h2, h3, h4⟩
          · cases h1
          · have HS := Lib.hid (HC.out.step h2)
            have hn := (stp_some h2).2.2.1
            rw [← h3, ← h4] at HS
            have hlt2 : p < p' := by omega
            clear h2 h3 h4 hn
            by_cases h256 : c < 256
            · go_wp2
              go_roundw
              case rel => exact ⟨p', cs', rfl, by omega, HS, HW2.out, HE2.out⟩
              case measure => simp [intOf]; omega
            · go_wp2
              go_roundw
              case rel => exact ⟨p', cs', rfl, by omega, HS, HW2.out, HE2.out⟩
              case measure => simp [intOf]; omega
        | false =>
          have hT := HT.out
          unfold TryI at hT
          rcases hT with ⟨_, h2, h3, h4⟩ | ⟨h1, _⟩
          · subst h2 h3
            have H4 := Lib.hid h4
            clear h4 HT
            by_cases h256 : c < 256
            · obtain ⟨u, hu⟩ : ∃ u : ByteArray, nl u = oneN c := ⟨strOfNums (ints (oneN c)), nl_str (fun x hx => by have := oneN_good _ h256 x hx; omega)⟩
              have P := Lib.hid (fun W => one_any W c h256 u hu)
              have wc : IntKind.u8.wrap (c : Int) = (c : Int) := by unfold IntKind.wrap; simp [IntKind.bits, IntKind.signed]; omega
              have z1 : u.size ≤ 3 := by rw [← nl_length, hu]; exact oneN_len _
              have HU := Lib.hid hu
              clear hu
              by_cases hfit : (u.size : Int) ≤ (s.size : Int) - p'
              · by_cases heq : s.extract p' (p' + u.size) = u
                · have hpre : oneN c <+: (nl s).drop p' := by
                    rw [← HU.out]; exact (prefix_iff (by omega) rfl).1 heq
                  have hst := stp_of h256 hpre
                  rw [← HU.out, nl_length] at hst
                  have hle := (HC.out.step hst).le
                  have HST := Lib.hid hst
                  have t1 := tl_eq heq
                  have HL := Lib.hid (UqI.snoc cs' c)
                  clear heq hpre hst
                  go_wp2_with fail
                  refine (P.out _).mono ?_
                  rintro e w1 ⟨rfl, hb⟩
                  have HO : Hid (w1.ownsRow w.heap.size 5 1 (.slice ao2 (ints cs').length cp2) (ints cs').length (u8s (ints cs'))) := Lib.hid (by
                    have h2 := HW2.out
                    exact h2.kept (row := none) ⟨hb.os, hb.tape, hb.output, hb.size, fun k hk _ => hb.block k hk⟩ (by cases h : (Value.slice ao2 (ints cs').length cp2).ownBlock <;> simp))
                  have HX := Lib.hid (HE2.out.trans (hb.mono hB2))
                  have hB3 := HX.out.size
                  clear hb
                  go_wp2_with (at_builtin; refine wpList_append_src_own rfl (.tmp 42) (.tmp 45) 42 42 rfl w.heap.size 5 i0 (.int .u8 0) 1 1 Tryd.underlying42 hi hz0 hz1 hz2 rfl (by decide) _ _ _ rfl (HO.out.alloc _) _ 1 _ rfl (src_one Tryd.underlying42 _ (c : Int) 5) (by unfold maxLen; omega) (by omega) (by simp; omega) ?_; intro v3 w3 hown hgr hspr; have K := Lib.hid (row_one HX.out HO.out hown hgr); clear hown hgr hspr)
                  go_roundw
                  case rel => exact ⟨c + 1, p' + u.size, cs' ++ [c], true, by go_num, by omega, rfl, by go_num, by omega, by rw [HL.out, List.length_append]; rw [ints_length]; simp; omega, Lib.hid (.inr ⟨rfl, c, u.size, HST.out, rfl, rfl⟩), by rw [HL.out]; exact K.out.1, K.out.2⟩
                  case measure => simp [intOf]; omega
                · have hpre : ¬ oneN c <+: (nl s).drop p' := by
                    rw [← HU.out]; exact fun h => heq ((prefix_iff (by omega) rfl).2 h)
                  have H5 : Hid (∀ x, x < c + 1 → ¬ oneN x <+: (nl s).drop p') := Lib.hid (fun x hx => by
                    by_cases e : x = c
                    · rw [e]; exact hpre
                    · exact H4.out x (by omega))
                  have t1 := tl_ne heq
                  clear heq hpre
                  go_wp2_with fail
                  refine (P.out _).mono ?_
                  rintro e w1 ⟨rfl, hb⟩
                  have HO : Hid (w1.ownsRow w.heap.size 5 1 (.slice ao2 (ints cs').length cp2) (ints cs').length (u8s (ints cs'))) := Lib.hid (by
                    have h2 := HW2.out
                    exact h2.kept (row := none) ⟨hb.os, hb.tape, hb.output, hb.size, fun k hk _ => hb.block k hk⟩ (by cases h : (Value.slice ao2 (ints cs').length cp2).ownBlock <;> simp))
                  have HX := Lib.hid (HE2.out.trans (hb.mono hB2))
                  clear hb
                  go_wp2
                  go_roundw
                  case rel => exact ⟨c + 1, p', cs', false, by go_num, by omega, rfl, rfl, by omega, hl', Lib.hid (.inl ⟨rfl, rfl, rfl, H5.out⟩), HO.out, HX.out⟩
                  case measure => simp [intOf]; omega
              · have hpre : ¬ oneN c <+: (nl s).drop p' := by
                  intro h
                  have := h.length_le
                  rw [← HU.out, nl_length, List.length_drop, nl_length] at this
                  omega
                have H5 : Hid (∀ x, x < c + 1 → ¬ oneN x <+: (nl s).drop p') := Lib.hid (fun x hx => by
                  by_cases e : x = c
                  · rw [e]; exact hpre
                  · exact H4.out x (by omega))
                clear hpre
                go_wp2_with fail
                refine (P.out _).mono ?_
                rintro e w1 ⟨rfl, hb⟩
                have HO : Hid (w1.ownsRow w.heap.size 5 1 (.slice ao2 (ints cs').length cp2) (ints cs').length (u8s (ints cs'))) := Lib.hid (by
                  have h2 := HW2.out
                  exact h2.kept (row := none) ⟨hb.os, hb.tape, hb.output, hb.size, fun k hk _ => hb.block k hk⟩ (by cases h : (Value.slice ao2 (ints cs').length cp2).ownBlock <;> simp))
                have HX := Lib.hid (HE2.out.trans (hb.mono hB2))
                clear hb
                go_wp2
                go_roundw
                case rel => exact ⟨c + 1, p', cs', false, by go_num, by omega, rfl, rfl, by omega, hl', Lib.hid (.inl ⟨rfl, rfl, rfl, H5.out⟩), HO.out, HX.out⟩
                case measure => simp [intOf]; omega
            · have hno : stp ((nl s).drop p') = none := by
                cases hst : stp ((nl s).drop p') with
                | none => rfl
                | some r =>
                  obtain ⟨x, n⟩ := r
                  have h5 := stp_some hst
                  have hx : x < 256 := by
                    rcases h5.2.2.2.2 with h | ⟨t, h⟩
                    · exact h
                    · exact nl_lt s x (List.mem_of_mem_drop (by rw [h]; exact List.mem_cons_self ..))
                  exact absurd (by rw [h5.1]; exact List.take_prefix _ _) (H4.out x (by omega))
              have HF := Lib.hid (HC.out.fail hlt hno)
              clear hno
              go_wp2
              go_returns
              exact ⟨by rw [HF.out]; rfl, HE2.out⟩
          · cases h1
    · have hke : p = s.size := by omega
      obtain ⟨ao, cp, rfl⟩ := own_shape hW
      have cvt := conv_own hW
      have HX := Lib.hid (HC.out.done hke)
      clear hW hE hke
      go_wp2
      go_returns
      exact ⟨by rw [HX.out]; rfl, HE.out⟩

theorem nl_at_good {s : ByteArray} (k : Nat) (hk : k < (quT s).size) : 33 ≤ ((quT s)[k]'hk).toNat ∧ ((quT s)[k]'hk).toNat ≤ 126 := by
  have h1 := nl_get (quT s) k hk
  rw [← h1]
  exact qn_good (nl s) (nl_lt s) _ (by rw [← nl_quT]; exact List.getElem_mem _)

set_option maxRecDepth 100000 in
set_option maxHeartbeats 3200000 in
theorem quotes_all (w : World) (s : ByteArray) (hs : s.size ≤ 9223372036854775807) :
    Calls Tryd.prog 5 #[.string s] w fun e w' => e = .returned (.bool true) ∧ Below w.heap.size w w' := by
  by_cases h : 400 < s.size
  · go_enter Tryd.func5, Tryd.ntmps5
    go_wp2_with fail
    refine (awake_any _).mono ?_
    rintro e w1 ⟨rfl, hb1⟩
    have B1 := Lib.hid hb1
    clear hb1
    go_wp2
    go_returns
    exact ⟨rfl, B1.out⟩
  · have P := Lib.hid (fun W => quote_any W s (by omega))
    have Q := Lib.hid (fun W => rquote_any W s (by omega))
    have hqz := quT_size s
    have R := Lib.hid (fun W => unquote_any W (quT s) (by omega))
    rw [uqV_quT] at R
    obtain ⟨b, ok, hv⟩ : ∃ b ok, uqV s = (b, ok) := ⟨_, _, rfl⟩
    have S := Lib.hid (fun W => unquote_any W s (by omega))
    have T := Lib.hid (fun W => runquote_any W s (by omega))
    rw [hv] at S T
    have G := Lib.hid (fun k hk => nl_at_good (s := s) k hk)
    have hqz2 : (quT s).size ≤ 1200 := by omega
    generalize quT s = q at *
    have t1 := tl_eq (a := q) rfl
    have t2 := tl_eq (a := s) rfl
    have t3 := tl_eq (a := b) rfl
    have t4 := beq_self_b ok
    unfold uqR at R S T
    clear hv hqz
    go_enter Tryd.func5, Tryd.ntmps5
    go_wp2_with fail
    refine (P.out _).mono ?_
    rintro e w1 ⟨rfl, hb1⟩
    have B1 := Lib.hid hb1
    clear hb1
    go_wp2
    go_loop [4] (fun kv => ∃ k : Nat, kv = .int .i64 k ∧ k ≤ q.size) (fun kv => q.size - (intOf kv).toNat)
    case atStart => exact ⟨0, rfl, by omega⟩
    case round =>
      obtain ⟨k, rfl, hk⟩ := hrel
      by_cases hlt : k < q.size
      · obtain ⟨g1, g2⟩ := G.out k hlt
        generalize hgx : (q[k]'hlt).toNat = x at *
        go_wp2
        go_round
        case rel => exact ⟨k + 1, by go_num, by omega⟩
        case measure => simp [intOf]; omega
      · go_wp2_with fail
        refine (R.out _).mono ?_
        rintro e w2 ⟨rfl, hb2⟩
        have B2 := Lib.hid (B1.out.trans (hb2.mono B1.out.size))
        clear hb2
        go_wp2_with fail
        refine (S.out _).mono ?_
        rintro e w3 ⟨rfl, hb3⟩
        have B3 := Lib.hid (B2.out.trans (hb3.mono B2.out.size))
        clear hb3
        go_wp2_with fail
        refine (T.out _).mono ?_
        rintro e w4 ⟨rfl, hb4⟩
        have B4 := Lib.hid (B3.out.trans (hb4.mono B3.out.size))
        clear hb4
        go_wp2_with fail
        refine (Q.out _).mono ?_
        rintro e w5 ⟨rfl, hb5⟩
        have B5 := Lib.hid (B4.out.trans (hb5.mono B4.out.size))
        clear hb5
        go_wp2_with fail
        refine (awake_any _).mono ?_
        rintro e w6 ⟨rfl, hb6⟩
        have B6 := Lib.hid (B5.out.trans (hb6.mono B5.out.size))
        clear hb6
        go_wp2
        go_returns
        exact ⟨rfl, B6.out⟩
end Go.Proofs.YtiolkopmoailmaaDoor
