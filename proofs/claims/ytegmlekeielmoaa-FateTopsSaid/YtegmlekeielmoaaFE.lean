/- FateOnce's law. -/
import Derived.Test.YtegmlekeielmoaaFD
set_option linter.unusedVariables false
set_option maxRecDepth 100000
namespace Go.Proofs.Ytegmlekeielmoaa
open Go.RowKit Go.WideMaps Go.Maps

theorem fate_node {l : List Rw} (hr : Rise l) {s : Sp} (hs : s ∈ nodesF l) : fateF l s.1 s.2 = 1 ∨ fateF l s.1 s.2 = 2 ∨ fateF l s.1 s.2 = 3 := by
  obtain ⟨x, hx, rfl⟩ := List.mem_map.1 hs
  have hg := (get_some hr).2 ⟨hx, rfl, rfl⟩
  show fateF l x.t x.r = 1 ∨ fateF l x.t x.r = 2 ∨ fateF l x.t x.r = 3
  unfold fateF
  rw [hg]
  dsimp only
  split
  · exact .inl rfl
  · split
    · exact .inr (.inr rfl)
    · split
      · exact .inr (.inl rfl)
      · split
        · exact .inr (.inr rfl)
        · exact .inr (.inl rfl)
theorem nodes_up {l : List Rw} (hr : Rise l) : UpS (nodesF l) := by
  unfold UpS nodesF
  rw [List.pairwise_map]
  exact hr
theorem all_up {l : List Rw} (hr : Rise l) (k : Int) : UpS (allF l k) := (nodes_up hr).filter _
theorem all_mem {l : List Rw} {k : Int} {s : Sp} (h : s ∈ allF l k) : s ∈ nodesF l ∧ fateF l s.1 s.2 = k := by
  obtain ⟨h1, h2⟩ := List.mem_filter.1 h
  exact ⟨h1, of_decide_eq_true h2⟩
def cntF (l : List Rw) : Nat → Nat
  | 0 => 0
  | i + 1 => cntF l i + (allF l ((i : Int) + 1)).length
theorem three_parts (f : Sp → Int) : ∀ ks : List Sp, (∀ s ∈ ks, f s = 1 ∨ f s = 2 ∨ f s = 3) →
    (ks.filter (fun s => decide (f s = 1))).length + (ks.filter (fun s => decide (f s = 2))).length + (ks.filter (fun s => decide (f s = 3))).length = ks.length
  | [], _ => rfl
  | s :: ks, h => by
    have ih := three_parts f ks (fun x hx => h x (List.mem_cons_of_mem _ hx))
    rcases h s (List.mem_cons_self ..) with e | e | e <;> simp [List.filter_cons, e] <;> omega
theorem cnt_three {l : List Rw} (hr : Rise l) : cntF l 3 = (nodesF l).length := by
  have h := three_parts (fun s => fateF l s.1 s.2) (nodesF l) (fun s hs => fate_node hr hs)
  show 0 + (allF l (((0 : Nat) : Int) + 1)).length + (allF l (((1 : Nat) : Int) + 1)).length + (allF l (((2 : Nat) : Int) + 1)).length = (nodesF l).length
  rw [← h, Nat.zero_add]
  rfl
theorem all_len (l : List Rw) (k : Int) : (allF l k).length ≤ l.length := Nat.le_trans (List.length_filter_le _ _) (by unfold nodesF; rw [List.length_map]; exact Nat.le_refl _)
theorem cnt_len (l : List Rw) : ∀ i, cntF l i ≤ i * l.length
  | 0 => Nat.zero_le _
  | i + 1 => by
    have := cnt_len l i
    have := all_len l ((i : Int) + 1)
    rw [Nat.succ_mul]
    show cntF l i + (allF l ((i : Int) + 1)).length ≤ _
    omega
set_option maxHeartbeats 6400000 in
theorem once_law (w : World) (v : Value) (l : List Rw) (h : LiesR w v l) (hk : ∀ x ∈ l, x.ok) :
    Calls Try.prog 7 #[v] w fun e w' => e = .returned (.bool true) ∧ Below w.heap.size w w' := by
  have hlm := h.len
  have L := Lib.hid h
  have HK := Lib.hid hk
  have AW := Lib.hid (fun W => fawake_any W)
  obtain ⟨ao, cap, rfl⟩ := h.shape
  clear h hk
  by_cases hlen : 40 < l.length
  · have AW1 := Lib.hid (AW.out w)
    go_enter Try.func7, Try.ntmps7
    go_wp2_with fail
    refine AW1.out.mono ?_
    rintro e w2 ⟨rfl, hb⟩
    have FIN := Lib.hid hb
    clear hb
    go_wp2
    go_returns
    exact ⟨rfl, FIN.out⟩
  · have MY := Lib.hid (may_any w _ l L.out)
    go_enter Try.func7, Try.ntmps7
    go_wp2_with fail
    refine MY.out.mono ?_
    rintro e w1 ⟨rfl, hb⟩
    have B1 := Lib.hid hb
    clear hb MY
    generalize mayB l = mb at *
    cases mb
    · have AW1 := Lib.hid (AW.out w1)
      go_wp2_with fail
      refine AW1.out.mono ?_
      rintro e w2 ⟨rfl, hb⟩
      have FIN := Lib.hid (B1.out.trans (hb.mono B1.out.size))
      clear hb
      go_wp2
      go_returns
      exact ⟨rfl, FIN.out⟩
    · have MD := Lib.hid (made_rows w1 _ l (L.out.step B1.out) (by omega) HK.out)
      go_wp2_with fail
      refine MD.out.mono ?_
      rintro e w2 ⟨p, b, rfl, h1, h2, h3, h4⟩
      have LM := Lib.hid (show (madeF l).length ≤ 40 from by have := madeF_len l; omega)
      have RM := Lib.hid (madeF_rise l)
      have T2 := Lib.hid h1
      have B2 := Lib.hid (B1.out.trans (h4.mono B1.out.size))
      clear h1 h2 h3 h4 MD B1
      generalize madeF l = m at *
      have ND := Lib.hid (nodes_any w2 p b m T2.out (by have := LM.out; omega))
      go_wp2_with fail
      refine ND.out.mono ?_
      rintro e w3 ⟨u, rfl, ho, hb⟩
      have T3 := Lib.hid (T2.out.step hb)
      have B3 := Lib.hid (B2.out.trans (hb.mono B2.out.size))
      have SK := Lib.hid (own_liesK encS_len ho)
      obtain ⟨ua, uc, rfl⟩ := own_shapeK ho
      have OK := Lib.hid (fun s (hs : s ∈ nodesF m) => nodes_ok T3.out.map.oks hs)
      have CT := Lib.hid (cnt_three RM.out)
      clear ho hb ND T2 B2
      go_wp2
      go_loopw [5, 6] (fun cv kv wr => ∃ (i n : Nat), cv = .int .i64 n ∧ kv = .int .i64 ((i : Int) + 1) ∧ i ≤ 3 ∧ n ≤ 120 ∧ Hid (n = cntF m i ∧ Below w3.heap.size w3 wr)) (fun _ kv _ => 4 - (intOf kv).toNat)
      case atStart => exact ⟨0, 0, rfl, rfl, Nat.zero_le _, Nat.zero_le _, Lib.hid ⟨rfl, Below.refl _ _⟩⟩
      case round =>
        obtain ⟨i, n, rfl, rfl, hi, hn, hK⟩ := hrel
        have K0 := Lib.hid hK.out.2
        have CN := Lib.hid hK.out.1
        clear hK
        by_cases hlt : i < 3
        · have hi3 : (i : Int) + 1 ≤ 3 := by omega
          have AL := Lib.hid (all_any wr p b m (T3.out.step K0.out) (by have := LM.out; omega) ((i : Int) + 1))
          have UP := Lib.hid (all_up RM.out ((i : Int) + 1))
          have EA := Lib.hid (fun s (hs : s ∈ allF m ((i : Int) + 1)) => all_mem hs)
          have CN1 := Lib.hid (show n + (allF m ((i : Int) + 1)).length = cntF m (i + 1) from by rw [CN.out]; rfl)
          have JL := Lib.hid (show n + (allF m ((i : Int) + 1)).length ≤ 120 from by
            have h1 := cnt_len m (i + 1)
            have h2 := LM.out
            have h3 : (i + 1) * m.length ≤ 3 * 40 := Nat.mul_le_mul (by omega) h2
            have := CN1.out
            omega)
          clear CN
          generalize allF m ((i : Int) + 1) = js at *
          have jl := JL.out
          go_wp2_with fail
          refine AL.out.mono ?_
          rintro e w4 ⟨u4, rfl, ho, hb⟩
          have K4 := Lib.hid (K0.out.trans (hb.mono K0.out.size))
          have SJ := Lib.hid (own_liesK encS_len ho)
          obtain ⟨ja, jc, rfl⟩ := own_shapeK ho
          clear ho hb AL K0
          have RI := Lib.hid (rrises_any w4 _ js SJ.out UP.out)
          go_wp2_with fail
          refine RI.out.mono ?_
          rintro e w5 ⟨rfl, hb⟩
          have K5 := Lib.hid (K4.out.trans (hb.mono K4.out.size))
          have SJ5 := Lib.hid (SJ.out.step hb)
          clear hb RI K4 SJ
          go_wp2
          go_loopw [8] (fun jv wr => ∃ j : Nat, jv = .int .i64 j ∧ j ≤ js.length ∧ Hid (Below w5.heap.size w5 wr)) (fun jv _ => js.length - (intOf jv).toNat)
          case atStart => exact ⟨0, rfl, Nat.zero_le _, Lib.hid (Below.refl _ _)⟩
          case round =>
            obtain ⟨j, rfl, hj, hB⟩ := hrel
            by_cases hjl : j < js.length
            · obtain ⟨g, o, s1, s2, rfl, hx, hg, a0, a1⟩ := (SJ5.out.step hB.out).sp hjl
              have EE := Lib.hid (EA.out _ (List.mem_of_getElem? hx))
              dsimp only at EE
              have BW := Lib.hid (K5.out.trans (hB.out.mono K5.out.size))
              have OF := Lib.hid (of_any wr p b m (T3.out.step BW.out) s1 s2 (OK.out _ EE.out.1).1 (OK.out _ EE.out.1).2)
              rw [EE.out.2] at OF
              clear hx
              go_wp2_with fail
              refine OF.out.mono ?_
              rintro e w6 ⟨rfl, hb⟩
              have B6 := Lib.hid (hB.out.trans (hb.mono hB.out.size))
              have HA := Lib.hid (rhas_any w6 _ (nodesF m) s1 s2 ((SK.out.step BW.out).step hb) EE.out.1)
              have a0 := (hb.cell (p := ⟨g, o + j * 2, none⟩) hg).trans a0
              have a1 := (hb.cell (p := ⟨g, o + j * 2 + 1, none⟩) hg).trans a1
              clear hb OF BW hB hg
              go_wp2_with fail
              refine HA.out.mono ?_
              rintro e w7 ⟨rfl, hb⟩
              have B7 := Lib.hid (B6.out.trans (hb.mono B6.out.size))
              clear hb HA B6 a0 a1 EE
              go_wp2
              go_roundw
              case rel => exact ⟨j + 1, by go_num, by omega, B7⟩
              case measure => simp [intOf]; omega
            · have K6 := Lib.hid (K5.out.trans (hB.out.mono K5.out.size))
              clear hB
              go_wp2
              go_roundw
              case rel => exact ⟨i + 1, n + js.length, by go_num, by go_num, by omega, by omega, Lib.hid ⟨CN1.out, K6.out⟩⟩
              case measure => simp [intOf]; omega
        · obtain rfl : n = (nodesF m).length := by
            have := CN.out
            rw [show i = 3 by omega, CT.out] at this
            exact this
          have hi4 : ¬ ((i : Int) + 1 ≤ 3) := by omega
          have s0 : (((nodesF m).length : Int) == ((nodesF m).length : Int)) = true := by simp
          have AW1 := Lib.hid (AW.out wr)
          have B4 := Lib.hid (B3.out.trans (K0.out.mono B3.out.size))
          clear CN
          go_wp2_with fail
          refine AW1.out.mono ?_
          rintro e w8 ⟨rfl, hb⟩
          have FIN := Lib.hid (B4.out.trans (hb.mono B4.out.size))
          clear hb
          go_wp2
          go_returns
          exact ⟨rfl, FIN.out⟩
end Go.Proofs.Ytegmlekeielmoaa
