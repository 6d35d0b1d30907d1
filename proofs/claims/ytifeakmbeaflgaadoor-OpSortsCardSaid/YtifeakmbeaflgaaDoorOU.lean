/- OpOnce's law. -/
import Derived.Test.YtifeakmbeaflgaaDoorRH
import Derived.Deep.Cut
set_option linter.unusedVariables false
namespace Go.Proofs.YtifeakmbeaflgaaDoor
open Go.RowKit
open Wi (RowOut Byt)

noncomputable def rgB (l : List O) (i : Nat) : Bool := decide (l.length ≤ 64) && (l.take i).all rO
theorem rgB_zero (l : List O) : rgB l 0 = decide (l.length ≤ 64) := by unfold rgB; simp
theorem rgB_snoc (l : List O) (i : Nat) (x : O) (h : l[i]? = some x) : rgB l (i + 1) = (rgB l i && rO x) := by
  obtain ⟨hl, he⟩ := List.getElem?_eq_some_iff.1 h
  unfold rgB
  rw [List.take_succ_eq_append_getElem hl, he, List.all_append]
  simp [Bool.and_assoc]
theorem rgB_end (l : List O) (h : rgB l l.length = true) : l.length ≤ 64 ∧ ∀ o ∈ l, rO o = true := by
  unfold rgB at h
  rw [List.take_length, Bool.and_eq_true] at h
  exact ⟨of_decide_eq_true h.1, List.all_eq_true.1 h.2⟩
theorem parsed_right (bs : List Int) (hb : Byt bs) : ∀ o ∈ (parseO bs).1, rO o = true := by
  by_cases h : (parseO bs).2 = 0
  · exact (parse_inv bs hb h).2.1
  · rw [parse_bad_nil bs h]; intro o ho; cases ho
set_option maxRecDepth 100000 in
set_option maxHeartbeats 6400000 in
theorem once_law (w : World) (v1 v2 : Value) (bs : List Int) (l : List O) (hT : Tab w) (h1 : Wi.Lies w v1 bs) (hb : Byt bs) (hbl : bs.length ≤ maxLen) (h2 : OLies w v2 l) (hf : ∀ o ∈ l, Fit o) :
    Calls Tryd.prog 6 #[v1, v2] w fun e w' => e = .returned (.bool true) ∧ Below w.heap.size w w' := by
  have AW := Lib.hid (fun W (hb : Below w.heap.size w W) => awake_any W (tab_later hT hb))
  have hm := h2.len
  have L1 := Lib.hid h1
  have L2 := Lib.hid h2
  have HB := Lib.hid hb
  have HF := Lib.hid hf
  obtain ⟨a1, c1, rfl, _⟩ := id h1
  obtain ⟨a2, c2, rfl⟩ := h2.shape
  unfold maxLen at hbl
  by_cases hlen : 2000 < bs.length
  · clear h1 h2 hb hf hT
    go_enter Tryd.func6, Tryd.ntmps6
    go_wp2_with fail
    refine (AW.out _ (Below.refl _ _)).mono ?_
    rintro e w2 ⟨rfl, hb⟩
    go_wp2
    go_returns
    exact ⟨rfl, hb⟩
  · have LG := Lib.hid (long_any w _ l h2)
    have PA := Lib.hid (parse_any w _ bs h1 hb (by omega))
    have NL := Lib.hid (longO_no (l := l))
    have PR := Lib.hid (parsed_right bs hb)
    have PI := Lib.hid (parse_inv bs hb)
    cases hlo : longO l with
    | true =>
      rw [hlo] at LG
      clear h1 h2 hb hf hT hlo
      go_enter Tryd.func6, Tryd.ntmps6
      go_wp2_with fail
      refine LG.out.mono ?_
      rintro e w1 ⟨rfl, rfl⟩
      go_wp2_with fail
      refine (AW.out _ (Below.refl _ _)).mono ?_
      rintro e w2 ⟨rfl, hb⟩
      go_wp2
      go_returns
      exact ⟨rfl, hb⟩
    | false =>
      rw [hlo] at LG
      obtain ⟨hn1, hn2⟩ := NL.out hlo
      have H1 := Lib.hid hn1
      have H2 := Lib.hid hn2
      clear h1 h2 hb hf hT hlo hn1 hn2
      generalize parseO bs = mr at *
      obtain ⟨m, ec⟩ := mr
      dsimp only at PA PR PI
      go_enter Tryd.func6, Tryd.ntmps6
      go_wp2_with fail
      refine LG.out.mono ?_
      rintro e w0 ⟨rfl, rfl⟩
      go_wp2_with fail
      refine PA.out.mono ?_
      rintro e w1 ⟨v', rfl, hl, hb1⟩
      have M1 := Lib.hid hl
      have B1 := Lib.hid hb1
      have hml := hl.len
      obtain ⟨ma, mc, rfl⟩ := hl.shape
      clear hl hb1 PA LG
      go_upto_region 4 with (fail)
      go_cut [6, 34] from 26 (fun ev tv wx => ev = .int .i64 ec ∧ tv = .bool false ∧ Hid (Below w.heap.size w wx ∧ OLies wx (.slice ma m.length mc) m))
      case first =>
        by_cases he : ec = 0
        · subst he
          obtain ⟨p1, p2, p3⟩ := PI.out rfl
          have CO := Lib.hid (code_any w1 _ m M1.out (by omega) (fun o ho => ⟨rO_fit (p2 o ho), by have := (rO_parts (p2 o ho)); omega⟩))
          rw [p1] at CO
          clear p1 p2 p3
          go_wp2_with fail
          refine CO.out.mono ?_
          rintro e w2 ⟨r, rfl, ho⟩
          have R2 := Lib.hid (Wi.own_lies ho.1)
          have B2 := Lib.hid (B1.out.trans (ho.2.mono B1.out.size))
          have M2 := Lib.hid (M1.out.step ho.2)
          have SA := Lib.hid (Wi.same_any w2 _ _ bs R2.out (L1.out.later B2.out) (by omega))
          obtain ⟨ra, rc, rfl⟩ := Wi.own_shape ho.1
          clear ho CO
          go_wp2_with fail
          refine SA.out.mono ?_
          rintro e w3 ⟨rfl, hb⟩
          have FIN := Lib.hid (show Below w.heap.size w w3 ∧ OLies w3 (.slice ma m.length mc) m from ⟨B2.out.trans (hb.mono B2.out.size), M2.out.step hb⟩)
          clear hb
          go_wp2_with fail
          go_meet
          exact ⟨rfl, rfl, FIN⟩
        · have t1 := Wi.bneb_ ec 0 he
          have FIN := Lib.hid (show Below w.heap.size w w1 ∧ OLies w1 (.slice ma m.length mc) m from ⟨B1.out, M1.out⟩)
          go_wp2_with fail
          go_meet
          exact ⟨rfl, rfl, FIN⟩
      case rest =>
        obtain ⟨rfl, rfl, hI⟩ := hcut
        have BC := Lib.hid hI.out.1
        have MC := Lib.hid hI.out.2
        clear hI M1 B1 PI
        generalize wc = wz at *
        go_wp2_with fail
        go_loopw [8] (fun kv wr => ∃ i : Nat, kv = .int .i64 i ∧ i ≤ m.length ∧ Hid (Below w.heap.size w wr ∧ OLies wr (.slice ma m.length mc) m)) (fun kv _ => m.length - (intOf kv).toNat)
        case atStart => exact ⟨0, rfl, Nat.zero_le _, Lib.hid ⟨BC.out, MC.out⟩⟩
        case round =>
          obtain ⟨i, rfl, hi, hJ⟩ := hrel
          by_cases hlt : i < m.length
          · obtain ⟨g, o, p, rfl, hp, hg, hc⟩ := hJ.out.2.at' hlt
            obtain ⟨c0, c1, c2, c3, c4, c5, c6, c7, c8⟩ := hc
            have hr := PR.out p (List.mem_of_getElem? hp)
            have RQ := Lib.hid (rright_any wr p.t p.r p.q p.nt p.nr p.pt p.pr p.nm p.d (by have := rO_parts hr; omega))
            rw [show rB p.t p.r p.q p.nt p.nr p.pt p.pr p.nm = true from hr] at RQ
            have HJ := Lib.hid hJ.out
            clear hp hg hr hJ
            go_wp2_with fail
            refine RQ.out.mono ?_
            rintro e w3 ⟨rfl, hb⟩
            have FIN := Lib.hid (show Below w.heap.size w w3 ∧ OLies w3 (.slice (some ⟨g, o, none⟩) m.length mc) m from ⟨HJ.out.1.trans (hb.mono HJ.out.1.size), HJ.out.2.step hb⟩)
            clear hb c0 c1 c2 c3 c4 c5 c6 c7 c8
            go_wp2
            go_roundw
            case rel => exact ⟨i + 1, by go_num, by omega, FIN⟩
            case measure => simp [intOf]; omega
          · have BR := Lib.hid hJ.out.1
            clear hJ
            generalize wr = wy at *
            go_wp2_with fail
            go_loopw [7, 9] (fun rv kv wr => ∃ i : Nat, kv = .int .i64 i ∧ i ≤ l.length ∧ rv = .bool (rgB l i) ∧ Hid (Below w.heap.size w wr)) (fun _ kv _ => l.length - (intOf kv).toNat)
            case atStart => exact ⟨0, rfl, Nat.zero_le _, by rw [rgB_zero]; exact congrArg _ (decide_eq_decide.2 (by omega)), BR⟩
            case round =>
              obtain ⟨j, rfl, hj, rfl, hK⟩ := hrel
              by_cases hjl : j < l.length
              · obtain ⟨g, o, p, rfl, hp, hg, hc⟩ := (L2.out.step hK.out).at' hjl
                obtain ⟨c0, c1, c2, c3, c4, c5, c6, c7, c8⟩ := hc
                have SN := Lib.hid (rgB_snoc l j p hp)
                have RQ := Lib.hid (rright_any wr p.t p.r p.q p.nt p.nr p.pt p.pr p.nm p.d (by have := H2.out p (List.mem_of_getElem? hp); omega))
                rw [show rB p.t p.r p.q p.nt p.nr p.pt p.pr p.nm = rO p from rfl] at RQ
                clear hp hg
                cases hb0 : rgB l j with
                | false =>
                  rw [hb0] at SN
                  clear hb0
                  have BK := Lib.hid hK.out
                  clear hK
                  go_wp2
                  go_roundw
                  case rel => exact ⟨j + 1, by go_num, by omega, by rw [SN.out]; rfl, BK⟩
                  case measure => simp [intOf]; omega
                | true =>
                  rw [hb0] at SN
                  clear hb0
                  have BK := Lib.hid hK.out
                  clear hK
                  generalize rO p = rp at *
                  go_wp2_with fail
                  refine RQ.out.mono ?_
                  rintro e w3 ⟨rfl, hb⟩
                  have FIN := Lib.hid (BK.out.trans (hb.mono BK.out.size))
                  clear hb c0 c1 c2 c3 c4 c5 c6 c7 c8
                  go_wp2
                  go_roundw
                  case rel => exact ⟨j + 1, by go_num, by omega, by rw [SN.out]; rfl, FIN⟩
                  case measure => simp [intOf]; omega
              · have BK := Lib.hid hK.out
                clear hK
                have hjl' : j = l.length := by omega
                subst hjl'
                have FH := Lib.hid (fun o ho => (⟨HF.out o ho, H2.out o ho⟩ : Fit o ∧ o.nm.size ≤ 300))
                have CO := Lib.hid (fun W (hb : Below w.heap.size w W) => code_any W _ l (L2.out.step hb) (by have := H1.out; omega) FH.out)
                have RCO := Lib.hid (fun W (hb : Below w.heap.size w W) => rcode_any W _ l (L2.out.step hb) (by have := H1.out; omega) FH.out)
                have RE := Lib.hid (rgB_end l)
                have CL := Lib.hid (codeB_len l FH.out H1.out)
                have CB := Lib.hid (byt_code l)
                have PC := Lib.hid (fun h => parse_code l (RE.out h).1 (RE.out h).2)
                generalize codeB l = cs at *
                go_wp2_with fail
                refine (CO.out _ BK.out).mono ?_
                rintro e w2 ⟨r, rfl, ho⟩
                have R2 := Lib.hid (Wi.own_lies ho.1)
                have B2 := Lib.hid (BK.out.trans (ho.2.mono BK.out.size))
                obtain ⟨ra, rc, rfl⟩ := Wi.own_shape ho.1
                clear ho CO
                have PB := Lib.hid (parse_any w2 _ cs R2.out CB.out (by have := CL.out; omega))
                generalize parseO cs = mr at *
                obtain ⟨x, f⟩ := mr
                dsimp only at PB
                go_wp2_with fail
                refine PB.out.mono ?_
                rintro e w3 ⟨v', rfl, hl, hb⟩
                have M3 := Lib.hid hl
                have B3 := Lib.hid (B2.out.trans (hb.mono B2.out.size))
                have R3 := Lib.hid (R2.out.later hb)
                obtain ⟨xa, xc, rfl⟩ := hl.shape
                have hxl := hl.len
                clear hl hb PB
                go_wp2_with fail
                refine (RCO.out _ B3.out).mono ?_
                rintro e w4 ⟨r4, rfl, ho⟩
                have R4 := Lib.hid (Wi.own_lies ho.1)
                have B4 := Lib.hid (B3.out.trans (ho.2.mono B3.out.size))
                have M4 := Lib.hid (M3.out.step ho.2)
                have SA := Lib.hid (Wi.same_any w4 _ _ cs (R3.out.later ho.2) R4.out (by have := CL.out; omega))
                obtain ⟨ra4, rc4, rfl⟩ := Wi.own_shape ho.1
                clear ho RCO
                cases hrg : rgB l l.length with
                | false =>
                  clear PC RE hrg
                  go_wp2_with fail
                  refine SA.out.mono ?_
                  rintro e w5 ⟨rfl, hb⟩
                  have B5 := Lib.hid (B4.out.trans (hb.mono B4.out.size))
                  clear hb
                  go_wp2_with fail
                  refine (AW.out _ B5.out).mono ?_
                  rintro e w6 ⟨rfl, hb⟩
                  have B6 := Lib.hid (B5.out.trans (hb.mono B5.out.size))
                  clear hb
                  go_wp2
                  go_returns
                  exact ⟨rfl, B6.out⟩
                | true =>
                  have hpc := PC.out hrg
                  injection hpc with e1 e2
                  subst e1 e2
                  clear PC RE hrg
                  go_wp2_with fail
                  refine SA.out.mono ?_
                  rintro e w5 ⟨rfl, hb⟩
                  have B5 := Lib.hid (B4.out.trans (hb.mono B4.out.size))
                  have M5 := Lib.hid (M4.out.step hb)
                  clear hb
                  have SO := Lib.hid (rsameO_any w5 _ _ x x M5.out (L2.out.step B5.out))
                  rw [sameO_self] at SO
                  go_wp2_with fail
                  refine SO.out.mono ?_
                  rintro e w7 ⟨rfl, hb⟩
                  have B7 := Lib.hid (B5.out.trans (hb.mono B5.out.size))
                  clear hb
                  go_wp2_with fail
                  refine (AW.out _ B7.out).mono ?_
                  rintro e w6 ⟨rfl, hb⟩
                  have B6 := Lib.hid (B7.out.trans (hb.mono B7.out.size))
                  clear hb
                  go_wp2
                  go_returns
                  exact ⟨rfl, B6.out⟩
end Go.Proofs.YtifeakmbeaflgaaDoor
