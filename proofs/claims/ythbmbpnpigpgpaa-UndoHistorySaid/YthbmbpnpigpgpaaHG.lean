/- The cache's Set, Follow; law 23's Made. -/
import Derived.Test.YthbmbpnpigpgpaaHF
set_option linter.unusedVariables false
set_option linter.unusedSimpArgs false
set_option maxRecDepth 100000
namespace Go.Proofs.Ythbmbpnpigpgpaa
open Go.RowKit Go.Shelf

set_option maxHeartbeats 3200000 in
theorem cset_any (w : World) (c p b tb : Nat) (T : List Rw) (h : CaI w c p b tb T) (hl : T.length < 1000000) (x : Rw) (hx : x.ok) :
    Calls Try.prog 35 #[.pointer (some ⟨c, 0, none⟩), .agg #[.int .i64 x.t, .int .i64 x.r], .agg #[.int .i64 x.pt, .int .i64 x.pr, .string x.nm, .bool x.d]] w fun e w' => e = .returned (.int .i64 0) ∧ COut w w' c p b tb (setF T x) := by
  have B0 := vstep w (.cells #[.int .i64 x.t, .int .i64 x.r] 61)
  have S0 := StAt.new w x.t x.r
  have z0 : (w.alloc (.cells #[.int .i64 x.t, .int .i64 x.r] 61)).heap.size = w.heap.size + 1 := by simp
  obtain ⟨wa, hwa⟩ : ∃ z, w.alloc (.cells #[.int .i64 x.t, .int .i64 x.r] 61) = z := ⟨_, rfl⟩
  rw [hwa] at B0 S0 z0
  have B1 := vstep wa (.cells #[.int .i64 x.pt, .int .i64 x.pr, .string x.nm, .bool x.d] 78)
  have E1 := EnAt.new wa x.pt x.pr x.nm x.d
  rw [z0] at E1
  obtain ⟨w0, hw0⟩ : ∃ z, wa.alloc (.cells #[.int .i64 x.pt, .int .i64 x.pr, .string x.nm, .bool x.d] 78) = z := ⟨_, rfl⟩
  rw [hw0] at B1 E1
  have HWA := Lib.hid hwa
  have HW0 := Lib.hid hw0
  have K := Lib.hid (show PQ w w0 c p b tb T x from ⟨B0.trans (B1.mono B0.size), h.step (B0.trans (B1.mono B0.size)), S0.step B1, E1⟩)
  have RD := Lib.hid (ready_any w0 c p b tb T K.out.ci)
  have PT := Lib.hid (put_any w0 c p b tb T K.out.ci hl x hx)
  have LS := Lib.hid (ldT K.out.st)
  have LE := Lib.hid (ldE K.out.en)
  clear B0 S0 z0 B1 E1 hwa hw0 h hx hl
  go_enter Try.func35, Try.ntmps35
  go_upto_region 1 with (fail)
  rw [HWA.out, HW0.out]
  go_wp2_with fail
  refine RD.out.mono ?_
  rintro e w1 ⟨rfl, hw⟩
  subst hw
  clear RD
  go_wp2_with (first
    | (refine wpList_ldG rfl (.tmp 4) 61 rfl (.pointer (some ⟨w.heap.size, 0, none⟩)) (.agg #[.int .i64 x.t, .int .i64 x.r]) rfl LS.out ?_)
    | (refine wpList_ldG rfl (.tmp 5) 78 rfl (.pointer (some ⟨w.heap.size + 1, 0, none⟩)) (.agg #[.int .i64 x.pt, .int .i64 x.pr, .string x.nm, .bool x.d]) rfl LE.out ?_))
  refine PT.out.mono ?_
  rintro e w2 ⟨q, rfl, ho⟩
  have HO := Lib.hid (COut.pre K.out.bel ho)
  clear ho PT LS LE K
  go_wp2
  go_returns
  exact ⟨rfl, HO.out⟩
/-- A cache that came out new, with a table's entries. -/
structure CN (w W : World) (c p b tb : Nat) (T : List Rw) : Prop where
  ci : CaI W c p b tb T
  bel : Below w.heap.size w W
  lo : w.heap.size ≤ b
theorem CN.out {w W W' : World} {c p b tb : Nat} {T T' : List Rw} (h : CN w W c p b tb T) (ho : COut W W' c p b tb T') : CN w W' c p b tb T' :=
  ⟨ho.ci, h.bel.trans ((Below.refl _ _).grown ho.grow h.bel.size (fun k e => by injection e with e; rw [← e]; exact h.lo)), h.lo⟩
theorem CN.step {w W W' : World} {c p b tb : Nat} {T : List Rw} (h : CN w W c p b tb T) (hb : Below W.heap.size W W') : CN w W' c p b tb T := ⟨h.ci.step hb, h.bel.trans (hb.mono h.bel.size), h.lo⟩
theorem get_some_in {l : List Rw} (h : Rise l) {x : Rw} (hx : x ∈ l) : getF l x.t x.r = some x := (get_some h).2 ⟨hx, rfl, rfl⟩
/-- What stands while a cache follows a table. -/
structure FLI (w0 wN W : World) (c p b tb q qb : Nat) (L T : List Rw) (v : Value) : Prop where
  cn : CN w0 W c p b tb T
  tab : TabI W q qb L
  row : W.ownsRow wN.heap.size 61 2 v (nodesF L).length ((nodesF L).flatMap encS)
theorem FLI.step {w0 wN W W' : World} {c p b tb q qb : Nat} {L T : List Rw} {v : Value} (h : FLI w0 wN W c p b tb q qb L T v) (hb : Below W.heap.size W W') : FLI w0 wN W' c p b tb q qb L T v := ⟨h.cn.step hb, h.tab.step hb, own_belowK h.row hb⟩
theorem tab_cells {w : World} {q qb b : Nat} {L T : List Rw} (h : TabI w q qb L) (h' : TM w b T) : q ≠ b := fun e => by
  obtain ⟨es, ⟨es', c', hb', _⟩, _⟩ := h'
  have := h.box
  rw [e, hb'] at this
  cases this
theorem FLI.put {w0 wN W W' : World} {c p b tb q qb : Nat} {L T T' : List Rw} {v : Value} (h : FLI w0 wN W c p b tb q qb L T v) (hne : qb ≠ b) (hbN : b < wN.heap.size) (ho : COut W W' c p b tb T') : FLI w0 wN W' c p b tb q qb L T' v :=
  ⟨h.cn.out ho, h.tab.grown ho.grow (fun e => by injection e with e; exact tab_cells h.tab h.cn.ci.tab.map e) (fun e => by injection e with e; exact hne e), own_grown h.row ho.grow (fun j hj e => by have := (h.row.lt j hj).1; injection e with e; omega)⟩
set_option maxHeartbeats 6400000 in
theorem follow_any (w0 w : World) (c p b tb q qb : Nat) (L : List Rw) (h : CN w0 w c p b tb []) (ht : TabI w q qb L) (hne : qb ≠ b) (hl : L.length ≤ 1000) :
    Calls Try.prog 30 #[.pointer (some ⟨c, 0, none⟩), .pointer (some ⟨q, 0, none⟩)] w fun e w' => ∃ n, e = .returned (.int .i64 n) ∧ CN w0 w' c p b tb L := by
  have RD := Lib.hid (ready_any w c p b tb [] h.ci)
  have N1 := Lib.hid (nodes_any w p b [] h.ci.tab (by simp))
  have N2 := Lib.hid (fun W (hb : Below w.heap.size w W) => nodes_any W q qb L (ht.step hb) (by omega))
  have HC := Lib.hid h
  have HT := Lib.hid ht
  have RS := Lib.hid ht.map.rise
  have OK := Lib.hid ht.map.oks
  have HNE := Lib.hid hne
  have HL := Lib.hid hl
  have MP := Lib.hid (made_perm ht.map.rise (List.Perm.refl L))
  obtain ⟨c0, c1⟩ := h.ci.cells
  clear h ht hne
  go_enter Try.func30, Try.ntmps30
  go_wp2_with fail
  refine RD.out.mono ?_
  rintro e wa ⟨rfl, hw⟩
  subst hw
  clear RD
  go_wp2_with fail
  refine N1.out.mono ?_
  rintro e w1 ⟨v1, rfl, ho1, hb1⟩
  obtain ⟨a1, k1, rfl⟩ := own_shapeK ho1
  have B1 := Lib.hid hb1
  clear ho1 hb1 N1 c0 c1
  rw [show (nodesF []).length = 0 from rfl]
  go_wp2_with fail
  go_loopw [5, 23] (fun nv kv wr => nv = .int .i64 0 ∧ kv = .int .i64 0 ∧ Hid (wr = w1)) (fun _ _ _ => 0)
  case atStart => exact ⟨rfl, rfl, Lib.hid rfl⟩
  case round =>
    obtain ⟨rfl, rfl, hw⟩ := hrel
    have hw := hw.out.symm
    subst hw
    have N2w := Lib.hid (N2.out w1 B1.out)
    clear N2
    go_wp2_with fail
    refine N2w.out.mono ?_
    rintro e w2 ⟨v2, rfl, ho2, hb2⟩
    obtain ⟨a2, k2, rfl⟩ := own_shapeK ho2
    have B2 := Lib.hid (B1.out.trans (hb2.mono B1.out.size))
    have NL := Lib.hid (show (nodesF L).length = L.length from by unfold nodesF; rw [List.length_map])
    have J0 := Lib.hid (show FLI w0 w1 w2 c p b tb q qb L (madeF (L.take 0)) (.slice a2 (nodesF L).length k2) from ⟨HC.out.step B2.out, HT.out.step B2.out, ho2⟩)
    have HBN := Lib.hid (show b < w1.heap.size from Nat.lt_of_lt_of_le HC.out.ci.tab.blt B1.out.size)
    clear ho2 hb2 N2w
    rw [NL.out] at J0 ⊢
    go_wp2_with fail
    go_loopw [5, 44] (fun nv kv wr => ∃ (i : Nat) (n : Int), kv = .int .i64 i ∧ i ≤ L.length ∧ nv = .int .i64 n ∧ Hid (FLI w0 w1 wr c p b tb q qb L (madeF (L.take i)) (.slice a2 L.length k2))) (fun _ kv _ => L.length - (intOf kv).toNat)
    case atStart => exact ⟨0, 0, rfl, Nat.zero_le _, rfl, J0⟩
    case round =>
      clear J0
      obtain ⟨i, n, rfl, hi, rfl, K⟩ := hrel
      by_cases hlt : i < L.length
      · have hi0 : (0 : Int) ≤ (i : Int) := by omega
        have hi1 : (i : Int) < (L.length : Int) := by omega
        have hd : decide ((i : Int) < (L.length : Int)) = true := decide_eq_true hi1
        have SK := own_liesK encS_len K.out.row
        obtain ⟨g, o, s1, s2, rfl, hs, hg, a0, a1'⟩ := LiesK.spU SK hlt
        obtain ⟨x, hx⟩ : ∃ x, L[i]? = some x := ⟨_, List.getElem?_eq_getElem hlt⟩
        have hst : (s1, s2) = stOf x := by
          unfold nodesF at hs
          rw [List.getElem?_map, hx] at hs
          injection hs with hs
          exact hs.symm
        injection hst with e1 e2
        subst e1 e2
        have XM := Lib.hid (List.mem_of_getElem? hx)
        have XO := Lib.hid (OK.out x XM.out)
        have MS := Lib.hid (madeF_snoc hx)
        have ML := Lib.hid (show (madeF (L.take i)).length < 1000000 from by have := madeF_len (L.take i); rw [List.length_take] at this; omega)
        have LS := Lib.hid (ldS (W := wr) a0 a1')
        have B3 := vstep wr (.cells #[.int .i64 x.t, .int .i64 x.r] 61)
        have K3 := Lib.hid (K.out.step B3)
        have S3 := Lib.hid (StAt.new wr x.t x.r)
        clear hs hg a0 a1' SK B3 hx
        go_upto_region 15 with (first
          | (refine wpList_ldG rfl (.tmp 46) 61 rfl (.pointer (some ⟨g, o + i * 2, none⟩)) (.agg #[.int .i64 x.t, .int .i64 x.r]) rfl LS.out ?_))
        obtain ⟨k11, hk11⟩ : ∃ k, wr.heap.size = k := ⟨_, rfl⟩
        rw [hk11] at S3 ⊢
        generalize (wr.alloc (.cells #[.int .i64 x.t, .int .i64 x.r] 61)) = w3 at *
        clear hk11 LS K
        have LT := Lib.hid (ldT S3.out)
        have G := Lib.hid (get_any w3 q qb L K3.out.tab x.t x.r XO.out.1 XO.out.2.1)
        rw [show gv L x.t x.r = .agg #[.int .i64 x.pt, .int .i64 x.pr, .string x.nm, .bool x.d] from by unfold gv; rw [get_some_in RS.out XM.out], show (getF L x.t x.r).isSome = true from by rw [get_some_in RS.out XM.out]; rfl] at G
        go_wp2_with (first
          | (refine wpList_ldG rfl (.tmp 11) 61 rfl (.pointer (some ⟨k11, 0, none⟩)) (.agg #[.int .i64 x.t, .int .i64 x.r]) rfl LT.out ?_))
        refine G.out.mono ?_
        rintro e w4 ⟨rfl, hb⟩
        have BX := vstep w4 (.cells #[.int .i64 x.pt, .int .i64 x.pr, .string x.nm, .bool x.d] 78)
        have hbb := hb.trans (BX.mono hb.size)
        have K5 := Lib.hid (K3.out.step hbb)
        have S5 := Lib.hid (S3.out.step hbb)
        have E5 := Lib.hid (EnAt.new w4 x.pt x.pr x.nm x.d)
        clear hb hbb BX G LT K3 S3
        go_upto_region 16 with (fail)
        obtain ⟨k12, hk12⟩ : ∃ k, w4.heap.size = k := ⟨_, rfl⟩
        rw [hk12] at E5 ⊢
        generalize (w4.alloc (.cells #[.int .i64 x.pt, .int .i64 x.pr, .string x.nm, .bool x.d] 78)) = w5 at *
        clear hk12
        have LT := Lib.hid (ldT S5.out)
        have LE := Lib.hid (ldE E5.out)
        have PT := Lib.hid (put_any w5 c p b tb (madeF (L.take i)) K5.out.cn.ci ML.out x XO.out)
        go_wp2_with (first
          | (refine wpList_ldG rfl (.tmp 11) 61 rfl (.pointer (some ⟨k11, 0, none⟩)) (.agg #[.int .i64 x.t, .int .i64 x.r]) rfl LT.out ?_)
          | (refine wpList_ldG rfl (.tmp 12) 78 rfl (.pointer (some ⟨k12, 0, none⟩)) (.agg #[.int .i64 x.pt, .int .i64 x.pr, .string x.nm, .bool x.d]) rfl LE.out ?_))
        refine PT.out.mono ?_
        rintro e w6 ⟨qq, rfl, ho⟩
        have K6 := Lib.hid (show FLI w0 w1 w6 c p b tb q qb L (madeF (L.take (i + 1))) (.slice (some ⟨g, o, none⟩) L.length k2) from by rw [MS.out]; exact K5.out.put HNE.out HBN.out ho)
        clear ho PT LT LE K5 S5 E5
        cases qq with
        | true =>
          go_wp2_with fail
          go_roundw
          case rel => exact ⟨i + 1, _, by go_num, by omega, rfl, K6⟩
          case measure => simp [intOf]; omega
        | false =>
          go_wp2_with fail
          go_roundw
          case rel => exact ⟨i + 1, _, by go_num, by omega, rfl, K6⟩
          case measure => simp [intOf]; omega
      · have FIN := Lib.hid (show CN w0 wr c p b tb L from by
          have h := K.out.cn
          rw [show L.take i = L from List.take_of_length_le (by omega), MP.out] at h
          exact h)
        clear K
        go_wp2
        go_returns
        exact ⟨_, rfl, FIN.out⟩
end Go.Proofs.Ythbmbpnpigpgpaa
