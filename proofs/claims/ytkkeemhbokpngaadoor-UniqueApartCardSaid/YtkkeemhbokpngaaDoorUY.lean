/- UniqueApart's law. Made by genuy.py. -/
import Derived.Test.YtkkeemhbokpngaaDoorUX
set_option linter.unusedVariables false
namespace Go.Proofs.YtkkeemhbokpngaaDoor
open Go.RowKit

theorem beq_ff : ((false : Bool) != false) = false := rfl
theorem beq_tt : ((true : Bool) != true) = false := rfl
theorem later_has (w : World) (v : Value) (l : List ByteArray) (s : ByteArray) (h : SLies w v l) (b : Bool) (hb : memB l s = b) : ∀ x : Later w, Calls Tryd.prog 14 #[v, .string s] x.w fun e w' => e = .returned (.bool b) ∧ Below x.w.heap.size x.w w' := fun x =>
  (rhas_any x.w v l s (h.step x.below)).mono fun e w' ⟨h1, h2⟩ => ⟨by rw [h1, hb], h2 ▸ Below.refl _ _⟩
theorem later_check (w : World) (s : ByteArray) (hs : s.size ≤ 9223372036854775807) (c : Int) (hc : CheckIs s c) : ∀ x : Later w, Calls Tryd.prog 13 #[.string s] x.w fun e w' => e = .returned (.int .i64 c) ∧ Below x.w.heap.size x.w w' := fun x =>
  (rcheck_any x.w s hs c hc).mono fun e w' ⟨h1, h2⟩ => ⟨h1, h2 ▸ Below.refl _ _⟩
theorem later_kept (w : World) (v t : Value) (l m : List ByteArray) (h : SLies w v l) (hm : SLies w t m) (i : Nat) (s : ByteArray) (hs : l[i]? = some s) (b : Bool) (hb : keptB l m i s = b) : ∀ x : Later w, Calls Tryd.prog 11 #[v, t, .int .i64 (i : Int)] x.w fun e w' => e = .returned (.bool b) ∧ Below x.w.heap.size x.w w' := fun x =>
  (kept_at x.w v t l m (h.step x.below) (hm.step x.below) i s hs).mono fun e w' ⟨h1, h2⟩ => ⟨by rw [h1, hb], h2⟩
theorem later_str (w : World) (g o i : Nat) (s : ByteArray) (hg : g < w.heap.size) (hc : w.cell? ⟨g, o + i, none⟩ = some (.string s)) : ∀ x : Later w, x.w.cell? ⟨g, o + i, none⟩ = some (.string s) := fun x => (x.below.cell (p := ⟨g, o + i, none⟩) hg).trans hc
theorem mem_get {l : List ByteArray} {i : Nat} {x : ByteArray} (h : l[i]? = some x) : x ∈ l := List.mem_iff_getElem?.2 ⟨i, h⟩
theorem keptB_iff {raw taken : List ByteArray} {i : Nat} {s : ByteArray} : keptB raw taken i s = true ↔ KeptAt raw taken i s := by
  constructor
  · intro h
    by_cases q : KeptAt raw taken i s
    · exact q
    · rw [keptB_false q] at h; cases h
  · exact keptB_true
set_option maxRecDepth 100000 in
set_option maxHeartbeats 12800000 in
theorem apart_law (w : World) (ht : Tab w) (v t : Value) (raw taken : List ByteArray) (h : SLies w v raw) (hm : SLies w t taken) :
    Calls Tryd.prog 4 #[v, t] w fun e w' => e = .returned (.bool true) ∧ Below w.heap.size w w' := by
  have H := Lib.hid h
  have HM := Lib.hid hm
  have L1 := Lib.hid (long_any w v raw h)
  have L2 := Lib.hid (long_any w t taken hm)
  have AW := Lib.hid (fun W (hb : Below w.heap.size w W) => awake_any W (tab_step ht hb))
  cases h1 : longB raw with
  | true =>
    rw [h1] at L1
    clear h1 h hm ht
    go_enter Tryd.func4, Tryd.ntmps4
    go_wp2_with fail
    refine L1.out.mono ?_
    rintro e w1 ⟨rfl, rfl⟩
    go_wp2_with fail
    refine (AW.out _ (Below.refl _ _)).mono ?_
    rintro e w1 ⟨rfl, hb⟩
    have B := Lib.hid hb
    clear hb
    go_wp2
    go_returns
    exact ⟨rfl, B.out⟩
  | false =>
    rw [h1] at L1
    cases h2 : longB taken with
    | true =>
      rw [h2] at L2
      clear h1 h2 h hm ht
      go_enter Tryd.func4, Tryd.ntmps4
      go_wp2_with fail
      refine L1.out.mono ?_
      rintro e w1 ⟨rfl, rfl⟩
      go_wp2_with fail
      refine L2.out.mono ?_
      rintro e w1 ⟨rfl, rfl⟩
      go_wp2_with fail
      refine (AW.out _ (Below.refl _ _)).mono ?_
      rintro e w1 ⟨rfl, hb⟩
      have B := Lib.hid hb
      clear hb
      go_wp2
      go_returns
      exact ⟨rfl, B.out⟩
    | false =>
      rw [h2] at L2
      obtain ⟨q1, q2⟩ := longB_false h1
      obtain ⟨q3, q4⟩ := longB_false h2
      have NM := Lib.hid (names_any w v t raw taken ht h hm q1 q3 q2 q4)
      have TL := Lib.hid (tell_len raw taken raw.length (Nat.le_refl _))
      have Q2 := Lib.hid q2
      obtain ⟨ao, cap, rfl, -⟩ := h
      obtain ⟨ta, tc, rfl, -⟩ := hm
      clear h1 h2 ht q2 q4
      go_enter Tryd.func4, Tryd.ntmps4
      go_wp2_with fail
      refine L1.out.mono ?_
      rintro e w1 ⟨rfl, rfl⟩
      go_wp2_with fail
      refine L2.out.mono ?_
      rintro e w1 ⟨rfl, rfl⟩
      go_wp2_with fail
      refine NM.out.mono ?_
      rintro e w1 ⟨r1, rfl, ho1, hb1⟩
      obtain ⟨oa, oc, rfl⟩ := own_shape ho1
      have S1 := Lib.hid (show SLies w1 (.slice oa raw.length oc) (tell raw taken raw.length) from own_slies (by rw [TL.out]; exact ho1))
      have B1 := Lib.hid hb1
      have hoc : raw.length ≤ oc ∧ oc ≤ 9223372036854775807 := by
        obtain ⟨a, c, e, c1, c2, _⟩ := S1.out
        injection e with e1 e2 e3
        subst e1 e3
        rw [TL.out] at c1
        unfold maxLen at c2
        omega
      clear ho1 hb1 NM L1 L2
      go_wp2_with fail
      go_loopw [6, 7] (fun rv iv wr => ∃ (i : Nat) (b : Bool), iv = .int .i64 i ∧ i ≤ raw.length ∧ rv = .bool b ∧ Hid (b = true → ∀ x ∈ raw.take i, CheckIs x 0) ∧ Hid (w1 = wr)) (fun _ iv _ => raw.length - (intOf iv).toNat)
      case atStart => exact ⟨0, true, rfl, Nat.zero_le _, rfl, Lib.hid (fun _ x hx => by simp at hx), Lib.hid (by first | rfl | trivial)⟩
      case round =>
        obtain ⟨i, b, rfl, hi, rfl, hB, hw⟩ := hrel
        obtain rfl := hw.out
        clear hw
        by_cases hlt : i < raw.length
        · obtain ⟨g, o, x, rfl, hx, hg, hc⟩ := H.out.at' hlt
          have hc1 := (B1.out.cell (p := ⟨g, o + i, none⟩) hg).trans hc
          have HX := Lib.hid hx
          have HXS := Lib.hid (Q2.out x (mem_get hx))
          clear hx hc hg
          cases b with
          | false =>
            clear hB
            go_wp2
            go_roundw
            case rel => exact ⟨i + 1, false, by go_num, by omega, rfl, Lib.hid (fun q => by cases q), Lib.hid (by first | rfl | trivial)⟩
            case measure => simp [intOf]; omega
          | true =>
            obtain ⟨c, hck⟩ := check_is x
            have CK := Lib.hid (rcheck_any w1 x (by have := HXS.out; omega) c hck)
            have HCK := Lib.hid hck
            clear hck
            by_cases h0 : c = 0
            · subst h0
              have HN := Lib.hid (show ∀ y ∈ raw.take (i + 1), CheckIs y 0 from fun y hy => by
                rcases (take_succ_mem HX.out).1 hy with q | q
                · exact hB.out rfl y q
                · rw [q]; exact HCK.out)
              go_wp2_with fail
              refine CK.out.mono ?_
              rintro e w2 ⟨rfl, rfl⟩
              go_wp2
              go_roundw
              case rel => exact ⟨i + 1, true, by go_num, by omega, rfl, Lib.hid (fun _ => HN.out), Lib.hid (by first | rfl | trivial)⟩
              case measure => simp [intOf]; omega
            · have t1 := bneb_ c 0 h0
              clear hB
              go_wp2_with fail
              refine CK.out.mono ?_
              rintro e w2 ⟨rfl, rfl⟩
              go_wp2
              go_roundw
              case rel => exact ⟨i + 1, false, by go_num, by omega, rfl, Lib.hid (fun q => by cases q), Lib.hid (by first | rfl | trivial)⟩
              case measure => simp [intOf]; omega
        · have HR := Lib.hid (show b = true → ∀ x ∈ raw, CheckIs x 0 from by
            have e : i = raw.length := by omega
            have := hB.out
            rwa [e, List.take_length] at this)
          clear hB
          go_wp2_with fail
          go_loopw [8] (fun jv w2 => ∃ j : Nat, jv = .int .i64 j ∧ j ≤ raw.length ∧ Hid (Below w1.heap.size w1 w2)) (fun jv _ => raw.length - (intOf jv).toNat)
          case atStart => exact ⟨0, rfl, Nat.zero_le _, Lib.hid (Below.refl _ _)⟩
          case round =>
            obtain ⟨j, rfl, hj, hW⟩ := hrel
            by_cases hjl : j < raw.length
            · obtain ⟨g, o, x, rfl, hx, hg, hc⟩ := H.out.at' hjl
              obtain ⟨gl, ol, s, rfl, hs, hgl, hcl⟩ := S1.out.at' hjl
              have BW := Lib.hid (B1.out.trans (hW.out.mono B1.out.size))
              have hgw : g < wr.heap.size := Nat.lt_of_lt_of_le hg BW.out.size
              have hglw : gl < wr.heap.size := Nat.lt_of_lt_of_le hgl hW.out.size
              have HCX := Lib.hid (later_str wr g o j x hgw ((BW.out.cell (p := ⟨g, o + j, none⟩) hg).trans hc))
              have HCS := Lib.hid (later_str wr gl ol j s hglw ((hW.out.cell (p := ⟨gl, ol + j, none⟩) hgl).trans hcl))
              have N1 := told_not_taken hjl (Nat.le_refl _) (by omega) (by omega) hs
              have N2 := told_unlike hjl (Nat.le_refl _) (by omega) (by omega) hs
              have KT := Lib.hid (told_kept hjl (Nat.le_refl _) (by omega) (by omega) hx hs)
              have TA := Lib.hid (told_all (i := j) (by omega) (by omega) hx : x ∈ tell raw taken raw.length ∨ x ∈ taken)
              have HSZ := Lib.hid (show s.size ≤ 300 from by
                rw [tell_at raw taken hjl (Nat.le_refl _) hx] at hs
                injection hs with hs
                rw [← hs]
                rcases nx_cases raw taken j x (by omega) (by omega) (by omega) with ⟨_, e⟩ | ⟨_, k, hf, e, hk⟩
                · rw [e]; exact Q2.out x (mem_get hx)
                · rw [e]
                  obtain ⟨p, e, _, q, _⟩ := suff_list (k := (k : Int)) (by omega) (sfx_is x k)
                  have q2 : (sfx x k).size = p.length + 1 + (decS (max (k : Int) 2)).size := by
                    rw [← size_list, e, ← size_list (decS _), decS_list]; simp; omega
                  omega)
              have SLW := Lib.hid (S1.out.step hW.out)
              have RW := Lib.hid (H.out.step BW.out)
              have MW := Lib.hid (HM.out.step BW.out)
              have T0 := Lib.hid (later_has wr _ taken s MW.out false (memB_false N1))
              have T1 := Lib.hid (later_has wr _ ((tell raw taken raw.length).take j) s (SLW.out.take j (by omega)) false (memB_false N2))
              have U0 := Lib.hid (fun b hb => later_has wr _ (tell raw taken raw.length) x SLW.out b hb)
              have U1 := Lib.hid (fun b hb => later_has wr _ taken x MW.out b hb)
              have U2 := Lib.hid (fun b hb => later_kept wr _ _ raw taken RW.out MW.out j x hx b hb)
              have HNM := Lib.hid (show (∀ x ∈ raw, CheckIs x 0) → CheckIs s 0 from fun hr => told_names hjl (Nat.le_refl _) (by omega) (by omega) hr hs)
              have h0 : (0 : Int) ≤ (j : Int) := by omega
              have h1 : (j : Int) < (raw.length : Int) := by omega
              have h2 : (j : Int) ≤ (oc : Int) := by omega
              have hcx := HCX.out
              have hcs := HCS.out
              clear hx hs hg hc hgl hcl hgw hglw N1 N2
              cases b with
              | false =>
                have CK : True := trivial
                go_upto_region 14 with (fail)
                refine wp_region_later (by kernel_rfl) (by kernel_rfl) ?_
                repeat (go_big_quiet_step (first
                    | (go_at_call 14; with_reducible exact later_call (T0.out _))
                    | (go_at_call 14; with_reducible exact later_call (T1.out _))))
                refine wpQuiet_nil ?_
                rintro _ ⟨xl, rfl⟩
                have XB := Lib.hid xl.below
                have HCX2 := Lib.hid (show ∀ y : Later xl.w, y.w.cell? ⟨g, o + j, none⟩ = some (.string x) from fun y => hcx ⟨y.w, xl.below.trans (y.below.mono xl.below.size)⟩)
                have HCS2 := Lib.hid (show ∀ y : Later xl.w, y.w.cell? ⟨gl, ol + j, none⟩ = some (.string s) from fun y => hcs ⟨y.w, xl.below.trans (y.below.mono xl.below.size)⟩)
                have V0 := Lib.hid (show ∀ b, memB (tell raw taken raw.length) x = b → ∀ y : Later xl.w, Calls Tryd.prog 14 #[.slice (some ⟨gl, ol, none⟩) raw.length oc, .string x] y.w (fun e w' => e = Ending.returned (.bool b) ∧ Below y.w.heap.size y.w w') from fun b hb y => U0.out b hb ⟨y.w, xl.below.trans (y.below.mono xl.below.size)⟩)
                have V1 := Lib.hid (show ∀ b, memB taken x = b → ∀ y : Later xl.w, Calls Tryd.prog 14 #[.slice ta taken.length tc, .string x] y.w (fun e w' => e = Ending.returned (.bool b) ∧ Below y.w.heap.size y.w w') from fun b hb y => U1.out b hb ⟨y.w, xl.below.trans (y.below.mono xl.below.size)⟩)
                have V2 := Lib.hid (show ∀ b, keptB raw taken j x = b → ∀ y : Later xl.w, Calls Tryd.prog 11 #[.slice (some ⟨g, o, none⟩) raw.length cap, .slice ta taken.length tc, .int .i64 (j : Int)] y.w (fun e w' => e = Ending.returned (.bool b) ∧ Below y.w.heap.size y.w w') from fun b hb y => U2.out b hb ⟨y.w, xl.below.trans (y.below.mono xl.below.size)⟩)
                clear hcx hcs HCX HCS U0 U1 U2 T0 T1
                generalize xl.w = wq at *
                go_upto_region 16 with (fail)
                have hcx := HCX2.out
                have hcs := HCS2.out
                by_cases hm1 : x ∈ tell raw taken raw.length
                · cases hk : keptB raw taken j x with
                  | true =>
                    have W0 := Lib.hid (V0.out true (memB_true hm1))
                    have W2 := Lib.hid (V2.out true hk)
                    have t1 := tl_eq (KT.out.1 (keptB_iff.1 hk))
                    clear hm1 hk V0 V1 V2
                    refine wp_region_later (by kernel_rfl) (by kernel_rfl) ?_
                    repeat (go_big_quiet_step (first
                        | (go_at_call 14; with_reducible exact later_call (W0.out _))
                        | (go_at_call 11; with_reducible exact later_call (W2.out _))))
                    refine wpQuiet_nil ?_
                    rintro _ ⟨xm, rfl⟩
                    have FB := Lib.hid (hW.out.trans ((XB.out.trans (xm.below.mono XB.out.size)).mono hW.out.size))
                    clear t1 hcx hcs
                    go_wp2_with fail
                    go_roundw
                    case rel => exact ⟨j + 1, by go_num, by omega, FB⟩
                    case measure => simp [intOf]; omega
                  | false =>
                    have W0 := Lib.hid (V0.out true (memB_true hm1))
                    have W2 := Lib.hid (V2.out false hk)
                    have t1 := tl_ne (fun e => by rw [keptB_true (KT.out.2 e)] at hk; cases hk)
                    clear hm1 hk V0 V1 V2
                    refine wp_region_later (by kernel_rfl) (by kernel_rfl) ?_
                    repeat (go_big_quiet_step (first
                        | (go_at_call 14; with_reducible exact later_call (W0.out _))
                        | (go_at_call 11; with_reducible exact later_call (W2.out _))))
                    refine wpQuiet_nil ?_
                    rintro _ ⟨xm, rfl⟩
                    have FB := Lib.hid (hW.out.trans ((XB.out.trans (xm.below.mono XB.out.size)).mono hW.out.size))
                    clear t1 hcx hcs
                    go_wp2_with fail
                    go_roundw
                    case rel => exact ⟨j + 1, by go_num, by omega, FB⟩
                    case measure => simp [intOf]; omega
                · cases hk : keptB raw taken j x with
                  | true =>
                    have W0 := Lib.hid (V0.out false (memB_false hm1))
                    have W1 := Lib.hid (V1.out true (memB_true (TA.out.resolve_left hm1)))
                    have W2 := Lib.hid (V2.out true hk)
                    have t1 := tl_eq (KT.out.1 (keptB_iff.1 hk))
                    clear hm1 hk V0 V1 V2
                    refine wp_region_later (by kernel_rfl) (by kernel_rfl) ?_
                    repeat (go_big_quiet_step (first
                        | (go_at_call 14; with_reducible exact later_call (W0.out _))
                        | (go_at_call 14; with_reducible exact later_call (W1.out _))
                        | (go_at_call 11; with_reducible exact later_call (W2.out _))))
                    refine wpQuiet_nil ?_
                    rintro _ ⟨xm, rfl⟩
                    have FB := Lib.hid (hW.out.trans ((XB.out.trans (xm.below.mono XB.out.size)).mono hW.out.size))
                    clear t1 hcx hcs
                    go_wp2_with fail
                    go_roundw
                    case rel => exact ⟨j + 1, by go_num, by omega, FB⟩
                    case measure => simp [intOf]; omega
                  | false =>
                    have W0 := Lib.hid (V0.out false (memB_false hm1))
                    have W1 := Lib.hid (V1.out true (memB_true (TA.out.resolve_left hm1)))
                    have W2 := Lib.hid (V2.out false hk)
                    have t1 := tl_ne (fun e => by rw [keptB_true (KT.out.2 e)] at hk; cases hk)
                    clear hm1 hk V0 V1 V2
                    refine wp_region_later (by kernel_rfl) (by kernel_rfl) ?_
                    repeat (go_big_quiet_step (first
                        | (go_at_call 14; with_reducible exact later_call (W0.out _))
                        | (go_at_call 14; with_reducible exact later_call (W1.out _))
                        | (go_at_call 11; with_reducible exact later_call (W2.out _))))
                    refine wpQuiet_nil ?_
                    rintro _ ⟨xm, rfl⟩
                    have FB := Lib.hid (hW.out.trans ((XB.out.trans (xm.below.mono XB.out.size)).mono hW.out.size))
                    clear t1 hcx hcs
                    go_wp2_with fail
                    go_roundw
                    case rel => exact ⟨j + 1, by go_num, by omega, FB⟩
                    case measure => simp [intOf]; omega
              | true =>
                have CK := Lib.hid (later_check wr s (by have := HSZ.out; omega) 0 (HNM.out (HR.out rfl)))
                go_upto_region 14 with (fail)
                refine wp_region_later (by kernel_rfl) (by kernel_rfl) ?_
                repeat (go_big_quiet_step (first
                    | (go_at_call 14; with_reducible exact later_call (T0.out _))
                    | (go_at_call 14; with_reducible exact later_call (T1.out _))
                    | (go_at_call 13; with_reducible exact later_call (CK.out _))))
                refine wpQuiet_nil ?_
                rintro _ ⟨xl, rfl⟩
                have XB := Lib.hid xl.below
                have HCX2 := Lib.hid (show ∀ y : Later xl.w, y.w.cell? ⟨g, o + j, none⟩ = some (.string x) from fun y => hcx ⟨y.w, xl.below.trans (y.below.mono xl.below.size)⟩)
                have HCS2 := Lib.hid (show ∀ y : Later xl.w, y.w.cell? ⟨gl, ol + j, none⟩ = some (.string s) from fun y => hcs ⟨y.w, xl.below.trans (y.below.mono xl.below.size)⟩)
                have V0 := Lib.hid (show ∀ b, memB (tell raw taken raw.length) x = b → ∀ y : Later xl.w, Calls Tryd.prog 14 #[.slice (some ⟨gl, ol, none⟩) raw.length oc, .string x] y.w (fun e w' => e = Ending.returned (.bool b) ∧ Below y.w.heap.size y.w w') from fun b hb y => U0.out b hb ⟨y.w, xl.below.trans (y.below.mono xl.below.size)⟩)
                have V1 := Lib.hid (show ∀ b, memB taken x = b → ∀ y : Later xl.w, Calls Tryd.prog 14 #[.slice ta taken.length tc, .string x] y.w (fun e w' => e = Ending.returned (.bool b) ∧ Below y.w.heap.size y.w w') from fun b hb y => U1.out b hb ⟨y.w, xl.below.trans (y.below.mono xl.below.size)⟩)
                have V2 := Lib.hid (show ∀ b, keptB raw taken j x = b → ∀ y : Later xl.w, Calls Tryd.prog 11 #[.slice (some ⟨g, o, none⟩) raw.length cap, .slice ta taken.length tc, .int .i64 (j : Int)] y.w (fun e w' => e = Ending.returned (.bool b) ∧ Below y.w.heap.size y.w w') from fun b hb y => U2.out b hb ⟨y.w, xl.below.trans (y.below.mono xl.below.size)⟩)
                clear hcx hcs HCX HCS U0 U1 U2 T0 T1
                generalize xl.w = wq at *
                go_upto_region 16 with (fail)
                have hcx := HCX2.out
                have hcs := HCS2.out
                by_cases hm1 : x ∈ tell raw taken raw.length
                · cases hk : keptB raw taken j x with
                  | true =>
                    have W0 := Lib.hid (V0.out true (memB_true hm1))
                    have W2 := Lib.hid (V2.out true hk)
                    have t1 := tl_eq (KT.out.1 (keptB_iff.1 hk))
                    clear hm1 hk V0 V1 V2
                    refine wp_region_later (by kernel_rfl) (by kernel_rfl) ?_
                    repeat (go_big_quiet_step (first
                        | (go_at_call 14; with_reducible exact later_call (W0.out _))
                        | (go_at_call 11; with_reducible exact later_call (W2.out _))))
                    refine wpQuiet_nil ?_
                    rintro _ ⟨xm, rfl⟩
                    have FB := Lib.hid (hW.out.trans ((XB.out.trans (xm.below.mono XB.out.size)).mono hW.out.size))
                    clear t1 hcx hcs
                    go_wp2_with fail
                    go_roundw
                    case rel => exact ⟨j + 1, by go_num, by omega, FB⟩
                    case measure => simp [intOf]; omega
                  | false =>
                    have W0 := Lib.hid (V0.out true (memB_true hm1))
                    have W2 := Lib.hid (V2.out false hk)
                    have t1 := tl_ne (fun e => by rw [keptB_true (KT.out.2 e)] at hk; cases hk)
                    clear hm1 hk V0 V1 V2
                    refine wp_region_later (by kernel_rfl) (by kernel_rfl) ?_
                    repeat (go_big_quiet_step (first
                        | (go_at_call 14; with_reducible exact later_call (W0.out _))
                        | (go_at_call 11; with_reducible exact later_call (W2.out _))))
                    refine wpQuiet_nil ?_
                    rintro _ ⟨xm, rfl⟩
                    have FB := Lib.hid (hW.out.trans ((XB.out.trans (xm.below.mono XB.out.size)).mono hW.out.size))
                    clear t1 hcx hcs
                    go_wp2_with fail
                    go_roundw
                    case rel => exact ⟨j + 1, by go_num, by omega, FB⟩
                    case measure => simp [intOf]; omega
                · cases hk : keptB raw taken j x with
                  | true =>
                    have W0 := Lib.hid (V0.out false (memB_false hm1))
                    have W1 := Lib.hid (V1.out true (memB_true (TA.out.resolve_left hm1)))
                    have W2 := Lib.hid (V2.out true hk)
                    have t1 := tl_eq (KT.out.1 (keptB_iff.1 hk))
                    clear hm1 hk V0 V1 V2
                    refine wp_region_later (by kernel_rfl) (by kernel_rfl) ?_
                    repeat (go_big_quiet_step (first
                        | (go_at_call 14; with_reducible exact later_call (W0.out _))
                        | (go_at_call 14; with_reducible exact later_call (W1.out _))
                        | (go_at_call 11; with_reducible exact later_call (W2.out _))))
                    refine wpQuiet_nil ?_
                    rintro _ ⟨xm, rfl⟩
                    have FB := Lib.hid (hW.out.trans ((XB.out.trans (xm.below.mono XB.out.size)).mono hW.out.size))
                    clear t1 hcx hcs
                    go_wp2_with fail
                    go_roundw
                    case rel => exact ⟨j + 1, by go_num, by omega, FB⟩
                    case measure => simp [intOf]; omega
                  | false =>
                    have W0 := Lib.hid (V0.out false (memB_false hm1))
                    have W1 := Lib.hid (V1.out true (memB_true (TA.out.resolve_left hm1)))
                    have W2 := Lib.hid (V2.out false hk)
                    have t1 := tl_ne (fun e => by rw [keptB_true (KT.out.2 e)] at hk; cases hk)
                    clear hm1 hk V0 V1 V2
                    refine wp_region_later (by kernel_rfl) (by kernel_rfl) ?_
                    repeat (go_big_quiet_step (first
                        | (go_at_call 14; with_reducible exact later_call (W0.out _))
                        | (go_at_call 14; with_reducible exact later_call (W1.out _))
                        | (go_at_call 11; with_reducible exact later_call (W2.out _))))
                    refine wpQuiet_nil ?_
                    rintro _ ⟨xm, rfl⟩
                    have FB := Lib.hid (hW.out.trans ((XB.out.trans (xm.below.mono XB.out.size)).mono hW.out.size))
                    clear t1 hcx hcs
                    go_wp2_with fail
                    go_roundw
                    case rel => exact ⟨j + 1, by go_num, by omega, FB⟩
                    case measure => simp [intOf]; omega
            · have HW := Lib.hid (B1.out.trans (hW.out.mono B1.out.size))
              go_wp2_with fail
              refine (AW.out _ HW.out).mono ?_
              rintro e w6 ⟨rfl, hb6⟩
              have B6 := Lib.hid (HW.out.trans (hb6.mono HW.out.size))
              clear hb6
              go_wp2
              go_returns
              exact ⟨rfl, B6.out⟩
end Go.Proofs.YtkkeemhbokpngaaDoor
