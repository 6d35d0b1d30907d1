/- The reference's names. Made by genur.py. -/
import Derived.Test.YtkkeemhbokpngaaDoorUK
import Derived.OwnWalk
import Derived.Deep.Cut
set_option linter.unusedVariables false
namespace Go.Proofs.YtkkeemhbokpngaaDoor
open Go.RowKit

theorem info9 : (Tryd.prog.info? 9).map (fun i => (i.zero, i.size, i.bytes)) = some (some (.string ⟨#[]⟩), 1, 16) := by kernel_rfl
theorem app1_below {w w' w3 : World} {v : Value} {E k b : Nat} {xs : List Value} {o : Obj} (hb4 : Below w.heap.size w w') (ho3 : w'.ownsRow b E 1 v k xs) (hb : w.heap.size ≤ b)
    (hg : (w'.alloc o).grownBy w3 v.ownBlock) : Below w.heap.size w w3 :=
  (hb4.alloc hb4.size o).grown hg (by have := hb4.size; simp; omega) (fun j hj => Nat.le_trans hb (ho3.lt j hj).1)
theorem own_kept {w w' : World} {B e n size : Nat} {v : Value} {xs : List Value} (h : w.ownsRow B e size v n xs) (hb : Below w.heap.size w w') : w'.ownsRow B e size v n xs :=
  h.kept (row := none) ⟨hb.os, hb.tape, hb.output, hb.size, fun k hk _ => hb.block k hk⟩ (by cases h : v.ownBlock <;> simp)
theorem own_shape {w : World} {B e size n : Nat} {v : Value} {xs : List Value} (h : w.ownsRow B e size v n xs) : ∃ ao cap, v = .slice ao n cap := by
  rcases h.2 with ⟨rfl, rfl⟩ | ⟨g, cap, cur, rfl, _⟩
  · exact ⟨_, _, rfl⟩
  · exact ⟨_, _, rfl⟩
theorem one_new (w : World) (v : Value) (T : TypeId) : ∀ j u, [v][j]? = some u → (w.alloc (.cells #[v] T)).cell? ((⟨w.heap.size, 0, none⟩ : Addr).add j) = some u := by
  intro j u hj
  match j, hj with
  | 0, hj =>
    injection hj with hj
    rw [addr0, cell_of_row _ _ _ _ _ _ (heap_alloc_new w _), ← hj]
    rfl
  | j + 1, hj => simp at hj
theorem kept_at (w : World) (v t : Value) (l m : List ByteArray) (h : SLies w v l) (hm : SLies w t m) (i : Nat) (s : ByteArray) (hs : l[i]? = some s) :
    Calls Tryd.prog 11 #[v, t, .int .i64 (i : Int)] w fun e w' => e = .returned (.bool (keptB l m i s)) ∧ Below w.heap.size w w' := by
  by_cases ht : s ∈ m
  · rw [keptB_false (fun x => x.1 ht)]
    exact kept_taken w v t l m h hm i s hs ht
  · have := kept_in w v t l m h hm i s hs ht
    by_cases hx : s ∈ l.take i
    · rw [memB_true hx] at this
      rw [keptB_false (fun x => x.2 hx)]
      exact this
    · rw [memB_false hx] at this
      rw [keptB_true ⟨ht, hx⟩]
      exact this
theorem rkept_at (w : World) (v t : Value) (l m : List ByteArray) (h : SLies w v l) (hm : SLies w t m) (i : Nat) (s : ByteArray) (hs : l[i]? = some s) :
    Calls Tryd.prog 12 #[v, t, .int .i64 (i : Int)] w fun e w' => e = .returned (.bool (keptB l m i s)) ∧ Below w.heap.size w w' := by
  by_cases ht : s ∈ m
  · rw [keptB_false (fun x => x.1 ht)]
    exact rkept_taken w v t l m h hm i s hs ht
  · have := rkept_in w v t l m h hm i s hs ht
    by_cases hx : s ∈ l.take i
    · rw [memB_true hx] at this
      rw [keptB_false (fun x => x.2 hx)]
      exact this
    · rw [memB_false hx] at this
      rw [keptB_true ⟨ht, hx⟩]
      exact this
theorem still (U : List ByteArray) (s : ByteArray) (k : Nat) (h2 : 2 ≤ k) (hk : k ≤ 1000) (h : ∀ j, 2 ≤ j → j < k → sfx s j ∈ U) : k ≤ U.length + 2 := by
  have := all_in U s (k - 2) (fun j a b => h j a (by omega)) (by omega)
  omega
theorem nx_kept {raw taken out : List ByteArray} {i : Nat} {s : ByteArray} (h : keptB raw taken i s = true) : nx raw taken out i s = s := by unfold nx; rw [h, if_pos rfl]
theorem nx_free {raw taken out : List ByteArray} {i : Nat} {s : ByteArray} {k : Nat} (h : keptB raw taken i s = false) (hf : FreeAt (taken ++ raw ++ out) s k) : nx raw taken out i s = sfx s k := by
  unfold nx; rw [h, if_neg (by decide), least_is hf]
set_option maxRecDepth 100000 in
set_option maxHeartbeats 6400000 in
theorem rnames_any (w : World) (v t : Value) (raw taken : List ByteArray) (h : SLies w v raw) (hm : SLies w t taken) (hr : raw.length ≤ 30) (ht : taken.length ≤ 30) (hs : ∀ s ∈ raw, s.size ≤ 300) :
    Calls Tryd.prog 10 #[v, t] w fun e w' => ∃ r, e = .returned r ∧ w'.ownsRow w.heap.size 9 1 r raw.length (strs (tell raw taken raw.length)) ∧ Below w.heap.size w w' := by
  obtain ⟨i0, hi9, hz0, hz1, hz2⟩ := info_parts info9
  have H := Lib.hid h
  have HM := Lib.hid hm
  have HS := Lib.hid hs
  obtain ⟨ao, cap, rfl, -⟩ := h
  obtain ⟨ta, tc, rfl, -⟩ := hm
  clear hs
  go_enter Tryd.func10, Tryd.ntmps10
  go_wp2
  go_loopw [5, 6] (fun ov iv wr => ∃ i : Nat, iv = .int .i64 i ∧ i ≤ raw.length ∧ Hid (wr.ownsRow w.heap.size 9 1 ov i (strs (tell raw taken i)) ∧ Below w.heap.size w wr)) (fun _ iv _ => raw.length - (intOf iv).toNat)
  case atStart => exact ⟨0, rfl, Nat.zero_le _, Lib.hid ⟨World.ownsRow_nil _ _ _ _, Below.refl _ _⟩⟩
  case round =>
    obtain ⟨i, rfl, hi, hI⟩ := hrel
    by_cases hlt : i < raw.length
    · obtain ⟨g, o, x, rfl, hx, hg, hc⟩ := H.out.at' hlt
      have hc1 := (hI.out.2.cell (p := ⟨g, o + i, none⟩) hg).trans hc
      have KP := Lib.hid (rkept_at wr _ _ raw taken (H.out.step hI.out.2) (HM.out.step hI.out.2) i x hx)
      have TL := Lib.hid (tell_len raw taken i (by omega))
      have TS := Lib.hid (tell_succ (taken := taken) hx)
      have HXS := Lib.hid (show x.size ≤ 300 from HS.out x (List.mem_iff_getElem?.2 ⟨i, hx⟩))
      have HG := Lib.hid (And.intro hg hc)
      clear hx hc hg
      cases hkb : keptB raw taken i x with
      | true =>
        rw [hkb] at KP
        have TN := Lib.hid (nx_kept (out := tell raw taken i) hkb)
        clear hkb
        go_wp2_with fail
        refine KP.out.mono ?_
        rintro e w1 ⟨rfl, hb1⟩
        have HO := Lib.hid (own_kept hI.out.1 hb1)
        have HB := Lib.hid (hI.out.2.trans (hb1.mono hI.out.2.size))
        have hbsz := HB.out.size
        clear hb1 hI hc1
        go_wp2_with (at_builtin; refine wpList_append_own _ rfl (.tmp 51) (.tmp 53) 22 rfl w.heap.size 9 i0 (.string ⟨#[]⟩) 1 16 Tryd.underlying22 hi9 hz0 hz1 hz2 rfl (by decide) _ _ _ rfl (HO.out.alloc _) ⟨_, 0, none⟩ 1 1 [.string x] rfl rfl (one_new _ _ _) (by intro u hu; simp at hu; subst hu; rfl) (by unfold maxLen; omega) (by omega) (by simp; omega) ?_; intro v3 w3 hown3 hgrow3 hnil3)
        have HX := Lib.hid (show w3.ownsRow w.heap.size 9 1 v3 (i + 1) (strs (tell raw taken (i + 1))) from by
          rw [TS.out, TN.out, strs_append]; exact hown3)
        have HB3 := Lib.hid (app1_below HB.out HO.out (Nat.le_refl _) hgrow3)
        clear hown3 hgrow3 hnil3
        go_wp2
        go_roundw
        case rel => exact ⟨i + 1, by go_num, by omega, Lib.hid ⟨HX.out, HB3.out⟩⟩
        case measure => simp [intOf]; omega
      | false =>
        rw [hkb] at KP
        have TN := Lib.hid (fun k (hf : FreeAt (taken ++ raw ++ tell raw taken i) x k) => nx_free hkb hf)
        have S2 := Lib.hid (fun W => rsuffixed_any W x (sfx x 2) 2 (by have := HXS.out; omega) (by omega) (sfx_is x 2))
        clear hkb
        go_wp2_with fail
        refine KP.out.mono ?_
        rintro e w1 ⟨rfl, hb1⟩
        have HO := Lib.hid (own_kept hI.out.1 hb1)
        have HB := Lib.hid (hI.out.2.trans (hb1.mono hI.out.2.size))
        have hc1 := (HB.out.cell (p := ⟨g, o + i, none⟩) HG.out.1).trans HG.out.2
        clear hb1 hI
        go_wp2_with fail
        refine (S2.out _).mono ?_
        rintro e w2 ⟨rfl, hb2⟩
        have HB2 := Lib.hid hb2
        clear hb2 hc1
        generalize wr = wo at *
        go_wp2_with fail
        go_loopw [7, 8] (fun sv kv w5 => ∃ k : Nat, kv = .int .i64 k ∧ sv = .string (sfx x k) ∧ 2 ≤ k ∧ k ≤ 1000 ∧ Hid ((∀ j, 2 ≤ j → j < k → sfx x j ∈ taken ++ raw ++ tell raw taken i) ∧ Below w1.heap.size w1 w5)) (fun _ kv _ => 1000 - (intOf kv).toNat)
        case atStart => exact ⟨2, rfl, rfl, by omega, by omega, Lib.hid ⟨fun j a b => by omega, HB2.out⟩⟩
        case round =>
          obtain ⟨k, rfl, rfl, hk2, hk1, hJ⟩ := hrel
          have hst : k ≤ 102 := by
            have q := still _ x k hk2 hk1 hJ.out.1
            rw [List.length_append, List.length_append, TL.out] at q
            omega
          have HBJ := Lib.hid (HB.out.trans (hJ.out.2.mono HB.out.size))
          have hc1 := (HBJ.out.cell (p := ⟨g, o + i, none⟩) HG.out.1).trans HG.out.2
          have HO5 := Lib.hid (own_kept HO.out hJ.out.2)
          obtain ⟨oa, oc, hov⟩ := own_shape HO5.out
          rw [hov] at HO5 HO ⊢
          have OS := Lib.hid (show SLies wr (.slice oa i oc) (tell raw taken i) from own_slies (by rw [TL.out]; exact HO5.out))
          have R1 := Lib.hid (rhas_any wr _ taken (sfx x k) (HM.out.step HBJ.out))
          have R2 := Lib.hid (rhas_any wr _ raw (sfx x k) (H.out.step HBJ.out))
          have R3 := Lib.hid (rhas_any wr _ (tell raw taken i) (sfx x k) OS.out)
          have SN := Lib.hid (fun W => rsuffixed_any W x (sfx x (k + 1)) ((k + 1 : Nat) : Int) (by have := HXS.out; omega) (by omega) (sfx_is x (k + 1)))
          have hkk : ((k + 1 : Nat) : Int) = (k : Int) + 1 := by omega
          rw [hkk] at SN
          clear hkk
          by_cases hin : sfx x k ∈ taken ++ raw ++ tell raw taken i
          · have HNX := Lib.hid (show ∀ j, 2 ≤ j → j < k + 1 → sfx x j ∈ taken ++ raw ++ tell raw taken i from fun j a b => by
              by_cases e : j = k
              · rw [e]; exact hin
              · exact hJ.out.1 j a (by omega))
            by_cases h1 : sfx x k ∈ taken
            · rw [memB_true h1] at R1
              clear h1 hin
              generalize sfx x k = sk at *
              generalize hsn : sfx x (k + 1) = sn at *
              have HSN := Lib.hid hsn
              clear hsn
              go_wp2_with fail
              refine R1.out.mono ?_
              rintro e w6 ⟨rfl, rfl⟩
              go_wp2_with fail
              refine (SN.out _).mono ?_
              rintro e w7 ⟨rfl, hb7⟩
              have HB7 := Lib.hid (hJ.out.2.trans (hb7.mono hJ.out.2.size))
              clear hb7 hc1
              go_wp2_with fail
              go_roundw
              case rel => exact ⟨k + 1, by go_num, by rw [HSN.out], by omega, by omega, Lib.hid ⟨HNX.out, HB7.out⟩⟩
              case measure => simp [intOf]; omega
            · rw [memB_false h1] at R1
              by_cases h2 : sfx x k ∈ raw
              · rw [memB_true h2] at R2
                clear h1 h2 hin
                generalize sfx x k = sk at *
                generalize hsn : sfx x (k + 1) = sn at *
                have HSN := Lib.hid hsn
                clear hsn
                go_wp2_with fail
                refine R1.out.mono ?_
                rintro e w6 ⟨rfl, rfl⟩
                go_wp2_with fail
                refine R2.out.mono ?_
                rintro e w6 ⟨rfl, rfl⟩
                go_wp2_with fail
                refine (SN.out _).mono ?_
                rintro e w7 ⟨rfl, hb7⟩
                have HB7 := Lib.hid (hJ.out.2.trans (hb7.mono hJ.out.2.size))
                clear hb7 hc1
                go_wp2_with fail
                go_roundw
                case rel => exact ⟨k + 1, by go_num, by rw [HSN.out], by omega, by omega, Lib.hid ⟨HNX.out, HB7.out⟩⟩
                case measure => simp [intOf]; omega
              · rw [memB_false h2] at R2
                rw [memB_true (by rcases List.mem_append.1 hin with q | q; exact absurd q (by simp [h1, h2]); exact q)] at R3
                clear h1 h2 hin
                generalize sfx x k = sk at *
                generalize hsn : sfx x (k + 1) = sn at *
                have HSN := Lib.hid hsn
                clear hsn
                go_wp2_with fail
                refine R1.out.mono ?_
                rintro e w6 ⟨rfl, rfl⟩
                go_wp2_with fail
                refine R2.out.mono ?_
                rintro e w6 ⟨rfl, rfl⟩
                go_wp2_with fail
                refine R3.out.mono ?_
                rintro e w6 ⟨rfl, rfl⟩
                go_wp2_with fail
                refine (SN.out _).mono ?_
                rintro e w7 ⟨rfl, hb7⟩
                have HB7 := Lib.hid (hJ.out.2.trans (hb7.mono hJ.out.2.size))
                clear hb7 hc1
                go_wp2_with fail
                go_roundw
                case rel => exact ⟨k + 1, by go_num, by rw [HSN.out], by omega, by omega, Lib.hid ⟨HNX.out, HB7.out⟩⟩
                case measure => simp [intOf]; omega
          · rw [memB_false (fun q => hin (by simp [q]))] at R1 R2 R3
            have TE := Lib.hid (TN.out k ⟨hk2, hin, hJ.out.1⟩)
            clear hin hc1 hJ
            generalize sfx x k = sk at *
            clear SN
            have HO := HO5
            go_wp2_with fail
            refine R1.out.mono ?_
            rintro e w6 ⟨rfl, rfl⟩
            go_wp2_with fail
            refine R2.out.mono ?_
            rintro e w6 ⟨rfl, rfl⟩
            go_wp2_with fail
            refine R3.out.mono ?_
            rintro e w6 ⟨rfl, rfl⟩
            clear R1 R2 R3
            have hbsz := HBJ.out.size
            go_wp2_with (at_builtin; refine wpList_append_own _ rfl (.tmp 51) (.tmp 53) 22 rfl w.heap.size 9 i0 (.string ⟨#[]⟩) 1 16 Tryd.underlying22 hi9 hz0 hz1 hz2 rfl (by decide) _ _ _ rfl (HO.out.alloc _) ⟨_, 0, none⟩ 1 1 [.string sk] rfl rfl (one_new _ _ _) (by intro u hu; simp at hu; subst hu; rfl) (by unfold maxLen; omega) (by omega) (by simp; omega) ?_; intro v3 w3 hown3 hgrow3 hnil3)
            have HX := Lib.hid (show w3.ownsRow w.heap.size 9 1 v3 (i + 1) (strs (tell raw taken (i + 1))) from by
              rw [TS.out, TE.out, strs_append]; exact hown3)
            have HB3 := Lib.hid (app1_below HBJ.out HO.out (Nat.le_refl _) hgrow3)
            clear hown3 hgrow3 hnil3
            go_wp2
            go_roundw
            case rel => exact ⟨i + 1, by go_num, by omega, Lib.hid ⟨HX.out, HB3.out⟩⟩
            case measure => simp [intOf]; omega
    · have he : i = raw.length := by omega
      have HF := Lib.hid (he ▸ hI.out)
      clear hI
      go_wp2
      go_returns
      exact ⟨_, rfl, HF.out.1, HF.out.2⟩
end Go.Proofs.YtkkeemhbokpngaaDoor
