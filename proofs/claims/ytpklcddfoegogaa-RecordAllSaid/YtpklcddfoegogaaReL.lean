/- RecordTorn, walked. -/
import Derived.Test.YtpklcddfoegogaaReJ
import Derived.Test.YtpklcddfoegogaaReK
set_option linter.unusedVariables false
namespace Go.Proofs.Ytpklcddfoegogaa
open Go.RowKit

/-- Rows of bytes, in a slice, wherever. -/
def RowsE (w : World) (v : Value) (Ls : List (Value × List Nat)) : Prop := ∃ ao cap, v = .slice ao Ls.length cap ∧
  (Ls ≠ [] → ∃ k o, ao = some ⟨k, o, none⟩ ∧ k < w.heap.size ∧ ∀ (j : Nat) p, Ls[j]? = some p → w.cell? ⟨k, o + j, none⟩ = some p.1) ∧ ∀ p ∈ Ls, Lies w p.1 p.2 ∧ Byt p.2
def bl (Ls : List (Value × List Nat)) : List (List Nat) := Ls.map (·.2)
theorem bl_snoc (Ls : List (Value × List Nat)) (i : Nat) (p : Value × List Nat) (h : Ls[i]? = some p) : bl (Ls.take (i + 1)) = bl (Ls.take i) ++ [p.2] := by
  rw [take_snoc' Ls i p h]; unfold bl; rw [List.map_append]; rfl
theorem cat_le : ∀ (l : List (List Nat)), (∀ b ∈ l, b.length ≤ 100) → (cat l).length ≤ 108 * l.length
  | [], _ => Nat.le_refl _
  | b :: l, h => by
    have := cat_le l (fun x hx => h x (List.mem_cons_of_mem _ hx))
    have hb := h b (List.mem_cons_self ..)
    rw [cat_len_cons]
    show _ ≤ 108 * (l.length + 1)
    omega
theorem cat_byt : ∀ (l : List (List Nat)), (∀ b ∈ l, Byt b) → Byt (cat l)
  | [], _ => fun x hx => by cases hx
  | b :: l, h => by
    rw [cat_cons]
    exact Byt.append (rec_byt (h b (List.mem_cons_self ..))) (cat_byt l (fun x hx => h x (List.mem_cons_of_mem _ hx)))

set_option maxRecDepth 100000 in
set_option maxHeartbeats 1000000 in
theorem same_q (w : World) (v1 v2 : Value) (l : List Nat) (h1 : Lies w v1 l) (h2 : Lies w v2 l) :
    Calls Try.prog 10 #[v1, v2] w fun e w' => e = .returned (.bool true) ∧ ∃ m, w' = w.drewN m := by
  have hlm : l.length ≤ maxLen := by obtain ⟨_, _, _, g1, g2, _⟩ := h1; omega
  unfold maxLen at hlm
  obtain ⟨a1, p1, rfl, _, _, n1, hc1⟩ := h1
  obtain ⟨a2, p2, rfl, _, _, n2, hc2⟩ := h2
  go_enter Try.func10, Try.ntmps10
  go_wp2
  go_loopw [5] (fun kv wr => ∃ k : Nat, kv = .int .i64 k ∧ k ≤ l.length ∧ ∃ n, wr = w.drewN n) (fun kv _ => l.length - (intOf kv).toNat)
  case atStart => exact ⟨0, rfl, Nat.zero_le _, 0, rfl⟩
  case round =>
    obtain ⟨k, rfl, hk, n, rfl⟩ := hrel
    by_cases hlt : k < l.length
    · obtain ⟨x, hx⟩ : ∃ x, l[k]? = some x := ⟨_, List.getElem?_eq_getElem hlt⟩
      cases a1 with
      | none => have := (n1 rfl).1; rw [this] at hlt; simp at hlt
      | some b1 =>
        cases a2 with
        | none => have := (n2 rfl).1; rw [this] at hlt; simp at hlt
        | some b2 =>
          obtain ⟨k1, o1, rfl, _, hc1⟩ := hc1 b1 rfl (ne_of_lt hlt)
          obtain ⟨k2, o2, rfl, _, hc2⟩ := hc2 b2 rfl (ne_of_lt hlt)
          have d1 := hc1 k x hx
          have d2 := hc2 k x hx
          clear hc1 hc2 n1 n2 hx
          go_wp2
          go_quiet (fail)
          go_wp2
          go_roundw
          case rel => exact ⟨k + 1, by go_num, by omega, _, rfl⟩
          case measure => simp [intOf]; omega
    · clear hc1 hc2 n1 n2
      go_wp2
      go_returns
      exact ⟨rfl, n, rfl⟩

set_option maxRecDepth 100000 in
set_option maxHeartbeats 800000 in
theorem torn_big (w : World) (ao : Option Addr) (n cap : Nat) (cut : Int) (h : 20 < n) :
    Calls Try.prog 5 #[.slice ao n cap, .int .i64 cut] w fun e w' => e = .returned (.bool true) ∧ Below w.heap.size w w' := by
  have A := Lib.hid awake_any
  go_enter Try.func5, Try.ntmps5
  go_wp2_with fail
  refine (A.out _).mono ?_
  rintro e w1 ⟨rfl, hb⟩
  have HB := Lib.hid hb
  clear hb
  go_wp2
  go_returns
  exact ⟨rfl, HB.out⟩

set_option maxRecDepth 100000 in
set_option maxHeartbeats 3200000 in
theorem torn_small (w : World) (v : Value) (Ls : List (Value × List Nat)) (cut : Int) (h : RowsE w v Ls) (hl : Ls.length ≤ 20) :
    Calls Try.prog 5 #[v, .int .i64 cut] w fun e w' => e = .returned (.bool true) ∧ Below w.heap.size w w' := by
  obtain ⟨i0, hi, hz0, hz1, hz2⟩ := info_parts Try.info5
  have A := Lib.hid awake_any
  obtain ⟨ao, cap, rfl, hcell, heach⟩ := h
  have HC := Lib.hid hcell
  have HE := Lib.hid heach
  clear hcell heach
  go_enter Try.func5, Try.ntmps5
  go_wp2
  go_loopw [5, 6, 7, 8] (fun av wv ev iv wr => ∃ i : Nat, iv = .int .i64 i ∧ i ≤ Ls.length ∧ wv = .int .i64 (wnI (bl (Ls.take i)) cut : Int) ∧ ev = .int .i64 (enI (bl (Ls.take i)) cut : Int) ∧ Hid ((∀ b ∈ bl (Ls.take i), b.length ≤ 100) ∧ wr.ownsRow w.heap.size 5 1 av (cat (bl (Ls.take i))).length (u8s (cat (bl (Ls.take i)))) ∧ Below w.heap.size w wr)) (fun _ _ _ iv _ => Ls.length - (intOf iv).toNat)
  case atStart =>
    refine ⟨0, rfl, Nat.zero_le _, ?_, ?_, Lib.hid ⟨(fun b hb => by cases hb), World.ownsRow_nil _ _ _ _, Below.refl _ _⟩⟩
    · unfold wnI bl; rw [List.take_zero]; simp [wn]
    · unfold enI bl; rw [List.take_zero]; simp [en]
  case round =>
    obtain ⟨i, rfl, hil, rfl, rfl, hI⟩ := hrel
    have HB := Lib.hid hI.out.2.2
    have HO := Lib.hid hI.out.2.1
    have HS := Lib.hid hI.out.1
    obtain ⟨ra, rc, rfl⟩ := own_shape hI.out.2.1
    have hcl := cat_le _ hI.out.1
    have hbl : (bl (Ls.take i)).length = i := by unfold bl; rw [List.length_map, List.length_take]; omega
    rw [hbl] at hcl
    have HBL := Lib.hid hbl
    have hcl2 : (cat (bl (Ls.take i))).length ≤ 2160 := by omega
    clear hI hcl hbl
    by_cases hlt : i < Ls.length
    · obtain ⟨p, hp⟩ : ∃ p, Ls[i]? = some p := ⟨_, List.getElem?_eq_getElem hlt⟩
      obtain ⟨k, o, rfl, hk, hcs⟩ := HC.out (fun e => by rw [e] at hlt; simp at hlt)
      have d1 := (HB.out.cell (p := ⟨k, o + i, none⟩) hk).trans (hcs i p hp)
      have hpm := HE.out p (List.mem_of_getElem? hp)
      obtain ⟨pv, pb⟩ := p
      dsimp only at d1 hpm
      have L1 := hpm.1.later HB.out
      obtain ⟨pa, pc, rfl⟩ := lies_shape L1
      by_cases h100 : 100 < pb.length
      · clear hcs hpm L1 hp
        go_wp2_with fail
        refine (A.out _).mono ?_
        rintro e w1 ⟨rfl, hb⟩
        have B1 := Lib.hid (HB.out.trans (hb.mono HB.out.size))
        clear hb
        go_wp2
        go_returns
        exact ⟨rfl, B1.out⟩
      · have P := Lib.hid (put_any wr _ pb L1 hpm.2 (by omega))
        have hsn := bl_snoc Ls i _ hp
        dsimp only at hsn
        have HN1 : Hid (cat (bl (Ls.take (i + 1))) = cat (bl (Ls.take i)) ++ rec pb) := Lib.hid (by rw [hsn, cat_snoc])
        have hS1 : ∀ b ∈ bl (Ls.take (i + 1)), b.length ≤ 100 := by
          rw [hsn]; intro b hb
          rcases List.mem_append.1 hb with hb | hb
          · exact HS.out b hb
          · rw [List.mem_singleton.1 hb]; omega
        have HS1 := Lib.hid hS1
        have hyes := fun hh => wnI_yes (bl (Ls.take i)) pb cut hh
        have hno := fun hh => wnI_no (bl (Ls.take i)) pb cut hh
        rw [← hsn] at hyes hno
        rw [HBL.out] at hyes
        have hrl := rec_length pb
        have hnl : (cat (bl (Ls.take (i + 1)))).length = (cat (bl (Ls.take i))).length + (pb.length + 8) := by rw [HN1.out, List.length_append, hrl]
        rw [hnl] at hyes hno
        have HNL := Lib.hid hnl
        have HRL := Lib.hid hrl
        have hyes := Lib.hid hyes
        have hno := Lib.hid hno
        generalize cat (bl (Ls.take i)) = ct at *
        clear hcs hpm L1 hp hsn hS1 hrl hnl
        go_wp2_with fail
        refine P.out.mono ?_
        rintro e w1 ⟨r, rfl, ho⟩
        have B1 := Lib.hid (HB.out.trans (ho.2.mono HB.out.size))
        have O1 := Lib.hid (own_kept HO.out ho.2)
        have S1 := Lib.hid (own_lies ho.1).src
        obtain ⟨r1, c1, rfl⟩ := own_shape ho.1
        rw [HRL.out] at S1 ⊢
        clear ho
        have hs1 := B1.out.size
        have SB := Lib.hid (show ct.length + (pb.length + 8) ≤ maxLen by unfold maxLen; omega)
        by_cases hle : (ct.length : Int) + ((pb.length : Int) + 8) ≤ cut
        · have hy := hyes.out (by omega)
          have HY1 := Lib.hid hy.1
          have HY2 := Lib.hid hy.2
          clear hy hyes hno
          go_wp2_with (at_builtin; refine wpList_append_src_own rfl (.tmp 44) (.tmp 45) 22 22 rfl w.heap.size 5 i0 (.int .u8 0) 1 1 Try.underlying22 hi hz0 hz1 hz2 rfl (by decide) (.slice ra ct.length rc) ct.length (u8s ct) rfl O1.out _ (pb.length + 8) (u8s (rec pb)) rfl S1.out SB.out (by omega) hs1 ?_; intro v3 w3 hown hgr hspr; have K1 := Lib.hid hown; have B3 := Lib.hid (B1.out.grown hgr hs1 (fun k hk => (O1.out.lt k hk).1)); clear hown hgr hspr; obtain ⟨a3, c3, rfl⟩ := own_shape K1.out)
          go_roundw
          case rel => exact ⟨i + 1, by go_num, by omega, by rw [HY1.out]; go_num, by rw [HY2.out]; go_num, Lib.hid ⟨HS1.out, by rw [HN1.out, u8s_append, List.length_append, HRL.out]; exact K1.out, B3.out⟩⟩
          case measure => simp [intOf]; omega
        · have hy := hno.out (by omega)
          have HY1 := Lib.hid hy.1
          have HY2 := Lib.hid hy.2
          clear hy hyes hno
          go_wp2_with (at_builtin; refine wpList_append_src_own rfl (.tmp 44) (.tmp 45) 22 22 rfl w.heap.size 5 i0 (.int .u8 0) 1 1 Try.underlying22 hi hz0 hz1 hz2 rfl (by decide) (.slice ra ct.length rc) ct.length (u8s ct) rfl O1.out _ (pb.length + 8) (u8s (rec pb)) rfl S1.out SB.out (by omega) hs1 ?_; intro v3 w3 hown hgr hspr; have K1 := Lib.hid hown; have B3 := Lib.hid (B1.out.grown hgr hs1 (fun k hk => (O1.out.lt k hk).1)); clear hown hgr hspr; obtain ⟨a3, c3, rfl⟩ := own_shape K1.out)
          go_roundw
          case rel => exact ⟨i + 1, by go_num, by omega, by rw [HY1.out], by rw [HY2.out], Lib.hid ⟨HS1.out, by rw [HN1.out, u8s_append, List.length_append, HRL.out]; exact K1.out, B3.out⟩⟩
          case measure => simp [intOf]; omega
    · have hiL : i = Ls.length := by omega
      have htk : Ls.take i = Ls := List.take_of_length_le (by omega)
      rw [htk] at HS HO HBL hcl2 ⊢
      have L0 := own_lies HO.out
      have hbb : Byt (cat (bl Ls)) := cat_byt _ (fun b hb => by
        obtain ⟨p, hp, rfl⟩ := List.mem_map.1 hb
        exact (HE.out p hp).2)
      obtain ⟨T, hT⟩ : ∃ T, T = (cat (bl Ls)).length := ⟨_, rfl⟩
      rw [← hT] at hcl2 ⊢
      by_cases hc0 : cut < 0
      · clear htk L0 hbb hT hiL
        go_wp2_with fail
        refine (A.out _).mono ?_
        rintro e w1 ⟨rfl, hb⟩
        have B1 := Lib.hid (HB.out.trans (hb.mono HB.out.size))
        clear hb
        go_wp2
        go_returns
        exact ⟨rfl, B1.out⟩
      · by_cases hc1 : (T : Int) < cut
        · have hc2 : 0 ≤ cut := by omega
          clear htk L0 hbb hT hiL hc0
          go_wp2_with fail
          refine (A.out _).mono ?_
          rintro e w1 ⟨rfl, hb⟩
          have B1 := Lib.hid (HB.out.trans (hb.mono HB.out.size))
          clear hb
          go_wp2
          go_returns
          exact ⟨rfl, B1.out⟩
        · obtain ⟨c, rfl⟩ : ∃ c : Nat, cut = (c : Int) := ⟨cut.toNat, by omega⟩
          have hcT : c ≤ T := by omega
          have hrc := recs_cut (bl Ls) c 0 (fun b hb => by have := HS.out b hb; omega)
          have ew : wnI (bl Ls) (c : Int) = wn (bl Ls) c := by unfold wnI; rw [if_neg (by omega)]; rfl
          have ee : enI (bl Ls) (c : Int) = en (bl Ls) c := by unfold enI; rw [if_neg (by omega)]; rfl
          have hwl := wn_le (bl Ls) c
          rw [HBL.out] at hwl
          rw [ew, ee]
          generalize wn (bl Ls) c = N at *
          generalize en (bl Ls) c = E at *
          have hlen : (recs ((cat (bl Ls)).take c)).length = N := by
            have := congrArg List.length hrc.1
            rw [List.length_map, List.length_take, HBL.out] at this
            have h3 : recs ((cat (bl Ls)).take c) = recsAt 0 ((cat (bl Ls)).take c) := rfl
            rw [h3]; omega
          rw [hT] at hcT hcl2
          have LT := Lib.hid (L0.take c hcT)
          have W := fun W' (hW : Below w.heap.size w W') (hL : Lies W' (.slice ra c rc) ((cat (bl Ls)).take c)) => whole_any W' _ _ hL (hbb.take c) (by rw [List.length_take]; omega)
          have R := fun W' (hL : Lies W' (.slice ra c rc) ((cat (bl Ls)).take c)) => rall_any W' _ _ hL (hbb.take c) (by rw [List.length_take]; omega)
          rw [hlen] at W
          have htk2 : takes (recs ((cat (bl Ls)).take c)) = E := hrc.2
          rw [htk2] at W R
          have HRC : Hid ((recs ((cat (bl Ls)).take c)).map (·.2) = (bl Ls).take N) := Lib.hid hrc.1
          rw [← hT] at hcT hcl2
          have W := Lib.hid W
          have R := Lib.hid R
          have HLEN := Lib.hid hlen
          have hrcap : (c : Int) ≤ (rc : Int) := by
            obtain ⟨_, _, e, h1, _⟩ := L0
            injection e with _ e2 e3
            subst e3
            omega
          have hcT2 : (c : Int) ≤ (T : Int) := by omega
          generalize (cat (bl Ls)).take c = tk at *
          clear hrc ew ee hlen htk2 htk L0 hbb hT hiL hc0 hc1
          go_wp2_with fail
          refine (W.out _ HB.out LT.out).mono ?_
          rintro e w1 ⟨rfl, hb⟩
          have B1 := Lib.hid (HB.out.trans (hb.mono HB.out.size))
          have LT1 := Lib.hid (LT.out.later hb)
          clear hb
          go_wp2_with fail
          refine (R.out _ LT1.out).mono ?_
          rintro e w2 ⟨v1, v2, l, rfl, hbo, hA⟩
          have B2 := Lib.hid (B1.out.trans (hA.below.mono B1.out.size))
          have hll : l.length = N := by
            have := congrArg List.length hbo
            unfold both at this
            rw [List.length_map, HLEN.out] at this
            exact this
          have HX : Hid (l.map (·.2.2) = (bl Ls).take N) := Lib.hid (by
            rw [← HRC.out, ← hbo]; unfold both; simp [Function.comp_def])
          have HEL := Lib.hid (fun p hp => (hA.each p hp).later hA.below)
          have HO2 := Lib.hid hA.own2
          obtain ⟨x1, y1, rfl⟩ := own_shape hA.own1
          obtain ⟨x2, y2, rfl⟩ := own_shape hA.own2
          rw [hll] at HO2 ⊢
          have HLL := Lib.hid hll
          clear hA hbo hll
          go_wp2
          go_loopw [16] (fun jv wr => ∃ j : Nat, jv = .int .i64 j ∧ j ≤ N ∧ ∃ m, wr = w2.drewN m) (fun jv _ => N - (intOf jv).toNat)
          case atStart => exact ⟨0, rfl, Nat.zero_le _, 0, rfl⟩
          case round =>
            obtain ⟨j, rfl, hj, m, rfl⟩ := hrel
            by_cases hjN : j < N
            · obtain ⟨p, hp⟩ : ∃ p, l[j]? = some p := ⟨_, List.getElem?_eq_getElem (by rw [HLL.out]; exact hjN)⟩
              obtain ⟨q, hq⟩ : ∃ q, Ls[j]? = some q := ⟨_, List.getElem?_eq_getElem (by omega)⟩
              have hpq : p.2.2 = q.2 := by
                have h1 := congrArg (fun z : List (List Nat) => z[j]?) HX.out
                try dsimp only at h1
                rw [List.getElem?_map, hp, List.getElem?_take, if_pos hjN] at h1
                unfold bl at h1
                rw [List.getElem?_map, hq] at h1
                injection h1
              have LP := HEL.out p (List.mem_of_getElem? hp)
              have LQ := (HE.out q (List.mem_of_getElem? hq)).1.later B2.out
              obtain ⟨k, o, e1, hk, hcs⟩ := HC.out (fun e => by rw [e] at hq; simp at hq)
              have d2 := (B2.out.cell (p := ⟨k, o + j, none⟩) hk).trans (hcs j q hq)
              have d1 : ∃ g, x2 = some ⟨g, 0, none⟩ ∧ w2.cell? ⟨g, j, none⟩ = some p.2.1 := by
                rcases HO2.out.2 with ⟨_, h0⟩ | ⟨g, cp, cur, e, _⟩
                · omega
                · injection e with e _ _
                  subst e
                  have := HO2.out.cells (g := g) rfl j p.2.1 (by unfold ins; rw [List.getElem?_map, hp]; rfl)
                  rw [add_addr, Nat.zero_add] at this
                  exact ⟨g, rfl, this⟩
              obtain ⟨g, rfl, d1⟩ := d1
              subst e1
              obtain ⟨pa, pv, px⟩ := p
              obtain ⟨qv, qx⟩ := q
              dsimp only at hpq d1 d2 LP LQ
              subst hpq
              have SQ := fun n => same_q ((w2.drewN m).drewN n) pv qv px ((LP.later (below_drewN _ m)).later (below_drewN _ n)) ((LQ.later (below_drewN _ m)).later (below_drewN _ n))
              have e1 : (w2.drewN m).cell? ⟨g, j, none⟩ = some pv := d1
              have e2 : (w2.drewN m).cell? ⟨k, o + j, none⟩ = some qv := d2
              obtain ⟨wq, hwq⟩ : ∃ wq, w2.drewN m = wq := ⟨_, rfl⟩
              rw [hwq] at SQ e1 e2 ⊢
              have SQ := Lib.hid SQ
              have HWQ := Lib.hid hwq
              obtain ⟨pva, pvc, rfl⟩ := lies_shape LP
              obtain ⟨qva, qvc, rfl⟩ := lies_shape LQ
              have hjI : (j : Int) < (N : Int) := by omega
              have hjL : (j : Int) < (Ls.length : Int) := by omega
              clear hp hq LP LQ hcs hk d1 d2 hwq
              go_wp2
              go_quiet ((go_at_call 10; exact Calls.quiet_of (SQ.out _)))
              go_wp2
              go_roundw
              case rel => exact ⟨j + 1, by go_num, by omega, _, by rw [← HWQ.out, World.drewN_drewN]⟩
              case measure => simp [intOf]; omega
            · go_wp2_with fail
              refine (A.out _).mono ?_
              rintro e w3 ⟨rfl, hb⟩
              have BD := B2.out.trans ((below_drewN w2 m).mono B2.out.size)
              have B3 := Lib.hid (BD.trans (hb.mono BD.size))
              clear hb BD
              go_wp2
              go_returns
              exact ⟨rfl, B3.out⟩
end Go.Proofs.Ytpklcddfoegogaa
