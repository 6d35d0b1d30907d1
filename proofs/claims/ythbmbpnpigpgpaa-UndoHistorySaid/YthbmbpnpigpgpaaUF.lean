/- Same of rows, Same of tables. Made by genuf13.py. -/
import Derived.Test.YthbmbpnpigpgpaaUE
import Derived.MapKept
import Derived.Lib.SlicesS
set_option linter.unusedVariables false
set_option linter.unusedSimpArgs false
set_option maxRecDepth 100000
namespace Go.Proofs.Ythbmbpnpigpgpaa
open Go.RowKit Go.WideMaps Go.Maps

noncomputable instance : DecidableEq Rw := fun a b => Classical.propDecidable (a = b)
theorem nm_yes {a b : ByteArray} (h : a = b) : (a.toList == b.toList) = true := by rw [h]; simp
theorem nm_no {a b : ByteArray} (h : a ≠ b) : (a.toList == b.toList) = false := by
  cases e : (a.toList == b.toList) with
  | false => rfl
  | true => exact absurd ((Go.Lib.bytes_beq_iff a b).1 e) h
theorem nm_no' {a b : ByteArray} (h : a ≠ b) : (a == b) = false := by
  cases e : (a == b) with
  | false => rfl
  | true => exact absurd ((Go.MapKept.bytes_beq a b).1 e) h
theorem d_no {a b : Bool} (h : a ≠ b) : (a == b) = false := by cases a <;> cases b <;> simp_all
theorem LiesK.spU {w : World} {ao : Option Addr} {n cap : Nat} {l : List Sp} (h : LiesK encS 2 w (.slice ao n cap) l) {i : Nat} (hi : i < n) : ∃ g o s1 s2, ao = some ⟨g, o, none⟩ ∧ l[i]? = some (s1, s2) ∧ g < w.heap.size ∧ w.cell? ⟨g, o + i * 2, none⟩ = some (.int .i64 s1) ∧ w.cell? ⟨g, o + i * 2 + 1, none⟩ = some (.int .i64 s2) := by
  obtain ⟨g, o, x, rfl, hx, hg, hc⟩ := h.at' hi
  exact ⟨g, o, x.1, x.2, rfl, hx, hg, hc 0 _ rfl, hc 1 _ rfl⟩
theorem get_in {l : List Rw} (h : Rise l) {x : Rw} (hx : x ∈ l) : getF l x.t x.r = some x := (get_some h).2 ⟨hx, rfl, rfl⟩
theorem same_sub {l m : List Rw} (hl : Rise l) (hm : Rise m) (hn : l.length = m.length) (h : ∀ x ∈ l, x ∈ m) : l = m := by
  refine rise_ext hl hm (fun y => ⟨h y, fun hy => ?_⟩)
  by_cases hyl : y ∈ l
  · exact hyl
  · exfalso
    have hnd : (y :: l).Nodup := List.nodup_cons.2 ⟨hyl, rise_nodup hl⟩
    have := List.Nodup.length_le_of_subset hnd (fun z hz => by
      rcases List.mem_cons.1 hz with e | e
      · rw [e]; exact hy
      · exact h z e)
    rw [List.length_cons] at this
    omega
set_option maxHeartbeats 12800000 in
theorem tsame_any (w : World) (p b p' b' : Nat) (l m : List Rw) (h : TabI w p b l) (h' : TabI w p' b' m) (hl : l.length < 100000) :
    Calls Try.prog 16 #[.pointer (some ⟨p, 0, none⟩), .pointer (some ⟨p', 0, none⟩)] w fun e w' => e = .returned (.bool (decide (l = m))) ∧ Below w.heap.size w w' := by
  have H1 := Lib.hid h
  have H2 := Lib.hid h'
  have LN1 := Lib.hid (len_any w p b l h)
  have LN2 := Lib.hid (len_any w p' b' m h')
  have ND := Lib.hid (nodes_any w p b l h hl)
  have RL := Lib.hid h.map.rise
  have RM := Lib.hid h'.map.rise
  have OK := Lib.hid h.map.oks
  clear h h'
  by_cases hne : l.length = m.length
  · have HN := Lib.hid hne
    have t0 : ((l.length : Int) != (m.length : Int)) = false := by simp [hne]
    clear hne
    go_enter Try.func16, Try.ntmps16
    go_wp2_with fail
    refine LN1.out.mono ?_
    rintro e w1 ⟨rfl, rfl⟩
    go_wp2_with fail
    refine LN2.out.mono ?_
    rintro e w1 ⟨rfl, rfl⟩
    go_wp2_with fail
    refine ND.out.mono ?_
    rintro e w1 ⟨u, rfl, ho, hb⟩
    have SK := Lib.hid (own_liesK encS_len ho)
    have B1 := Lib.hid hb
    obtain ⟨ua, uc, rfl⟩ := own_shapeK ho
    have NL := Lib.hid (show (nodesF l).length = l.length from by unfold nodesF; rw [List.length_map])
    clear ho hb ND t0 LN1 LN2
    rw [NL.out] at SK ⊢
    go_wp2
    go_loopw [19] (fun kv wr => ∃ i : Nat, kv = .int .i64 i ∧ i ≤ l.length ∧ Hid (∀ (j : Nat) z, j < i → l[j]? = some z → z ∈ m) ∧ Hid (Below w.heap.size w wr ∧ Below w1.heap.size w1 wr)) (fun kv _ => l.length - (intOf kv).toNat)
    case atStart => exact ⟨0, rfl, Nat.zero_le _, Lib.hid (fun j z h => absurd h (Nat.not_lt_zero _)), Lib.hid ⟨B1.out, Below.refl _ _⟩⟩
    case round =>
      obtain ⟨i, rfl, hi, hJ, hK⟩ := hrel
      by_cases hlt : i < l.length
      · obtain ⟨g, o, s1, s2, rfl, hs, hg, a0, a1⟩ := (SK.out.step hK.out.2).spU hlt
        obtain ⟨x, hx⟩ : ∃ x, l[i]? = some x := ⟨_, List.getElem?_eq_getElem hlt⟩
        have hst : (s1, s2) = stOf x := by
          unfold nodesF at hs
          rw [List.getElem?_map, hx] at hs
          injection hs with hs
          exact hs.symm
        injection hst with e1 e2
        subst e1 e2
        have HX := Lib.hid hx
        have XO := Lib.hid (OK.out x (List.mem_of_getElem? hx))
        have G1 := Lib.hid (fun W (hb : Below w.heap.size w W) => get_any W p b l (H1.out.step hb) x.t x.r XO.out.1 XO.out.2.1)
        rw [show gv l x.t x.r = .agg #[.int .i64 x.pt, .int .i64 x.pr, .string x.nm, .bool x.d] from by unfold gv; rw [get_in RL.out (List.mem_of_getElem? hx)]] at G1
        have G2 := Lib.hid (fun W (hb : Below w.heap.size w W) => get_any W p' b' m (H2.out.step hb) x.t x.r XO.out.1 XO.out.2.1)
        have BX := vstep wr (.cells #[.int .i64 x.t, .int .i64 x.r] 61)
        have B2 := Lib.hid (show Below w.heap.size w (wr.alloc (.cells #[.int .i64 x.t, .int .i64 x.r] 61)) ∧ Below w1.heap.size w1 (wr.alloc (.cells #[.int .i64 x.t, .int .i64 x.r] 61)) from ⟨hK.out.1.trans (BX.mono hK.out.1.size), hK.out.2.trans (BX.mono hK.out.2.size)⟩)
        have S2 := Lib.hid (StAt.new wr x.t x.r)
        clear hs hg hx BX
        go_upto_region 6 with (fail)
        obtain ⟨k2, hk2⟩ : ∃ k, wr.heap.size = k := ⟨_, rfl⟩
        rw [hk2] at S2 ⊢
        generalize (wr.alloc (.cells #[.int .i64 x.t, .int .i64 x.r] 61)) = w2 at *
        clear hk2 a0 a1 hK
        have G1w := Lib.hid (G1.out w2 B2.out.1)
        obtain ⟨c1, c2⟩ := S2.out.cells
        go_wp2_with fail
        refine G1w.out.mono ?_
        rintro e w3 ⟨rfl, hb⟩
        have BX := vstep w3 (.cells #[.int .i64 x.pt, .int .i64 x.pr, .string x.nm, .bool x.d] 78)
        have hbb := hb.trans (BX.mono hb.size)
        have B4 := Lib.hid (show Below w.heap.size w (w3.alloc (.cells #[.int .i64 x.pt, .int .i64 x.pr, .string x.nm, .bool x.d] 78)) ∧ Below w1.heap.size w1 (w3.alloc (.cells #[.int .i64 x.pt, .int .i64 x.pr, .string x.nm, .bool x.d] 78)) from ⟨B2.out.1.trans (hbb.mono B2.out.1.size), B2.out.2.trans (hbb.mono B2.out.2.size)⟩)
        have S4 := Lib.hid (S2.out.step hbb)
        have E4 := Lib.hid (EnAt.new w3 x.pt x.pr x.nm x.d)
        clear hb hbb BX c1 c2 G1 G1w B2 S2
        go_upto_region 7 with (fail)
        obtain ⟨k4, hk4⟩ : ∃ k, w3.heap.size = k := ⟨_, rfl⟩
        rw [hk4] at E4 ⊢
        generalize (w3.alloc (.cells #[.int .i64 x.pt, .int .i64 x.pr, .string x.nm, .bool x.d] 78)) = w4 at *
        clear hk4
        have G2w := Lib.hid (G2.out w4 B4.out.1)
        clear G2
        obtain ⟨c1, c2⟩ := S4.out.cells
        cases hg2 : getF m x.t x.r with
        | none =>
          obtain ⟨x1, x2, x3, x4, hxx⟩ := gv_form m x.t x.r
          rw [hxx, hg2] at G2w
          have HE := Lib.hid (show decide (l = m) = false from decide_eq_false (fun e => by
            have a := get_in RM.out (by rw [← e]; exact List.mem_of_getElem? HX.out)
            rw [hg2] at a
            cases a))
          clear hxx hg2 hJ
          go_wp2_with fail
          refine G2w.out.mono ?_
          rintro e w5 ⟨rfl, hb⟩
          have BX := vstep w5 (.cells #[.int .i64 x1, .int .i64 x2, .string x3, .bool x4] 78)
          have hbb := hb.trans (BX.mono hb.size)
          have B9 := Lib.hid (B4.out.1.trans (hbb.mono B4.out.1.size))
          clear hb hbb BX c1 c2
          go_wp2
          go_returns
          exact ⟨ret_b' HE.out, B9.out⟩
        | some y =>
          rw [show gv m x.t x.r = .agg #[.int .i64 y.pt, .int .i64 y.pr, .string y.nm, .bool y.d] from by unfold gv; rw [hg2], show (getF m x.t x.r).isSome = true from by rw [hg2]; rfl] at G2w
          have HG := Lib.hid hg2
          have HY := Lib.hid ((get_some RM.out).1 hg2)
          clear hg2
          go_wp2_with fail
          refine G2w.out.mono ?_
          rintro e w5 ⟨rfl, hb⟩
          have BX := vstep w5 (.cells #[.int .i64 y.pt, .int .i64 y.pr, .string y.nm, .bool y.d] 78)
          have hbb := hb.trans (BX.mono hb.size)
          have B8 := Lib.hid (show Below w.heap.size w (w5.alloc (.cells #[.int .i64 y.pt, .int .i64 y.pr, .string y.nm, .bool y.d] 78)) ∧ Below w1.heap.size w1 (w5.alloc (.cells #[.int .i64 y.pt, .int .i64 y.pr, .string y.nm, .bool y.d] 78)) from ⟨B4.out.1.trans (hbb.mono B4.out.1.size), B4.out.2.trans (hbb.mono B4.out.2.size)⟩)
          have E8 := Lib.hid (E4.out.step hbb)
          have F8 := Lib.hid (EnAt.new w5 y.pt y.pr y.nm y.d)
          clear hb hbb BX c1 c2 B4 E4 S4
          go_upto_region 8 with (fail)
          obtain ⟨k8, hk8⟩ : ∃ k, w5.heap.size = k := ⟨_, rfl⟩
          rw [hk8] at F8 ⊢
          generalize (w5.alloc (.cells #[.int .i64 y.pt, .int .i64 y.pr, .string y.nm, .bool y.d] 78)) = w8 at *
          clear hk8
          obtain ⟨d0, d1, d2, d3⟩ := E8.out.cells
          obtain ⟨f0, f1, f2, f3⟩ := F8.out.cells
          by_cases h_pt : x.pt = y.pt
          · by_cases h_pr : x.pr = y.pr
            · by_cases h_nm : x.nm = y.nm
              · by_cases h_d : x.d = y.d
                · have HJ2 := Lib.hid (show ∀ (j : Nat) z, j < i + 1 → l[j]? = some z → z ∈ m from fun j z hj hz => by
                    by_cases e : j = i
                    · subst e
                      rw [HX.out] at hz
                      injection hz with hz
                      rw [← hz, Rw.ext' HY.out.2.1.symm HY.out.2.2.symm h_pt h_pr h_nm h_d]
                      exact HY.out.1
                    · exact hJ.out j z (by omega) hz)
                  have q0 := beqb_ _ _ h_pt
                  have q1 := beqb_ _ _ h_pr
                  have q2 := (Go.MapKept.bytes_beq _ _).2 h_nm
                  have q2l := nm_yes h_nm
                  have q3 : (x.d == y.d) = true := by rw [h_d]; simp
                  clear h_pt h_pr h_nm h_d hJ
                  go_wp2
                  go_roundw
                  case rel => exact ⟨i + 1, by go_num, by omega, HJ2, Lib.hid B8.out⟩
                  case measure => simp [intOf]; omega
                · have q0 := beqb_ _ _ h_pt
                  have q1 := beqb_ _ _ h_pr
                  have q2 := (Go.MapKept.bytes_beq _ _).2 h_nm
                  have q2l := nm_yes h_nm
                  have q3 := d_no h_d
                  have HE := Lib.hid (show decide (l = m) = false from decide_eq_false (fun e => by
                    have a := get_in RM.out (by rw [← e]; exact List.mem_of_getElem? HX.out)
                    rw [HG.out] at a
                    injection a with a
                    exact h_d (by rw [a])))
                  clear h_pt h_pr h_nm h_d hJ
                  go_wp2
                  go_returns
                  exact ⟨ret_b' HE.out, B8.out.1⟩
              · have q0 := beqb_ _ _ h_pt
                have q1 := beqb_ _ _ h_pr
                have q2 := nm_no' h_nm
                have q2l := nm_no h_nm
                have HE := Lib.hid (show decide (l = m) = false from decide_eq_false (fun e => by
                  have a := get_in RM.out (by rw [← e]; exact List.mem_of_getElem? HX.out)
                  rw [HG.out] at a
                  injection a with a
                  exact h_nm (by rw [a])))
                clear h_pt h_pr h_nm hJ
                go_wp2
                go_returns
                exact ⟨ret_b' HE.out, B8.out.1⟩
            · have q0 := beqb_ _ _ h_pt
              have q1 := bneb_ _ _ h_pr
              have HE := Lib.hid (show decide (l = m) = false from decide_eq_false (fun e => by
                have a := get_in RM.out (by rw [← e]; exact List.mem_of_getElem? HX.out)
                rw [HG.out] at a
                injection a with a
                exact h_pr (by rw [a])))
              clear h_pt h_pr hJ
              go_wp2
              go_returns
              exact ⟨ret_b' HE.out, B8.out.1⟩
          · have q0 := bneb_ _ _ h_pt
            have HE := Lib.hid (show decide (l = m) = false from decide_eq_false (fun e => by
              have a := get_in RM.out (by rw [← e]; exact List.mem_of_getElem? HX.out)
              rw [HG.out] at a
              injection a with a
              exact h_pt (by rw [a])))
            clear h_pt hJ
            go_wp2
            go_returns
            exact ⟨ret_b' HE.out, B8.out.1⟩
      · have HE := Lib.hid (show decide (l = m) = true from decide_eq_true (same_sub RL.out RM.out HN.out (fun x hx => by
          obtain ⟨j, hj⟩ := List.mem_iff_getElem?.1 hx
          exact hJ.out j x (by have := (List.getElem?_eq_some_iff.1 hj).1; omega) hj)))
        clear hJ
        go_wp2
        go_returns
        exact ⟨ret_b' HE.out, hK.out.1⟩
  · have HE := Lib.hid (show decide (l = m) = false from decide_eq_false (fun e => hne (by rw [e])))
    have t0 : ((l.length : Int) != (m.length : Int)) = true := by simp; omega
    clear hne
    go_enter Try.func16, Try.ntmps16
    go_wp2_with fail
    refine LN1.out.mono ?_
    rintro e w1 ⟨rfl, rfl⟩
    go_wp2_with fail
    refine LN2.out.mono ?_
    rintro e w1 ⟨rfl, rfl⟩
    go_wp2
    go_returns
    exact ⟨ret_b' HE.out, Below.refl _ _⟩
end Go.Proofs.Ythbmbpnpigpgpaa

