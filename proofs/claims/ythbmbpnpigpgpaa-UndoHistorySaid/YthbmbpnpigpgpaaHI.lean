/- Changes taken back: the reference's. Made by genhi38.py. -/
import Derived.Test.YthbmbpnpigpgpaaHH
set_option linter.unusedVariables false
set_option linter.unusedSimpArgs false
set_option maxRecDepth 100000
namespace Go.Proofs.Ythbmbpnpigpgpaa
open Go.RowKit Go.Shelf

theorem own_base {w : World} {B B' e k n : Nat} {v : Value} {xs : List Value} (h : w.ownsRow B e k v n xs) (hB : B' ≤ B) : w.ownsRow B' e k v n xs := by
  refine ⟨h.1, ?_⟩
  rcases h.2 with h | ⟨g, cap, cur, h1, h2, h3⟩
  · exact .inl h
  · exact .inr ⟨g, cap, cur, h1, Nat.le_trans hB h2, h3⟩
theorem gv_none {T : List Rw} {t r : Int} (h : getF T t r = none) : (getF T t r).isSome = false := by rw [h]; rfl
theorem bk_new {T : List Rw} {x : Ch} (h : x.nw = true) : bkF T x = some ⟨false, x.t, x.r, 0, 1, x.nm, x.d⟩ := if_pos h
theorem bk_some {T : List Rw} {x : Ch} {y1 y2 : Int} {y3 : ByteArray} {y4 : Bool} (hT : Rise T) (h : x.nw = false) (hg : GV T x.t x.r y1 y2 y3 y4 true) : bkF T x = some ⟨false, x.t, x.r, y1, y2, y3, y4⟩ := by
  have hm := (get_some hT).2 ⟨hg.mem hT, rfl, rfl⟩
  unfold bkF
  rw [if_neg (by rw [h]; simp)]
  have hm : getF T x.t x.r = some ⟨x.t, x.r, y1, y2, y3, y4⟩ := hm
  rw [hm]
  rfl
theorem bk_none {T : List Rw} {x : Ch} {y1 y2 : Int} {y3 : ByteArray} {y4 : Bool} (h : x.nw = false) (hg : GV T x.t x.r y1 y2 y3 y4 false) : bkF T x = none := by
  unfold bkF
  rw [if_neg (by rw [h]; simp)]
  cases hq : getF T x.t x.r with
  | none => rfl
  | some y => have := hg.has; rw [hq] at this; cases this
set_option maxHeartbeats 6400000 in
theorem rback_any (w : World) (t v u : Value) (T : List Rw) (l : List Ch) (made : List Sp) (h : LiesR w t T) (hv : LiesK encH 7 w v l) (hu : LiesK encS 2 w u made) (hl : l.length ≤ 1000) (hml : made.length ≤ 1000) (hr : Rise T) :
    Calls Try.prog 14 #[t, v, u] w fun e w' => ∃ r, e = .returned r ∧ w'.ownsRow w.heap.size 63 7 r (backF T (namedF made l)).length ((backF T (namedF made l)).flatMap encH) ∧ Below w.heap.size w w' := by
  obtain ⟨i0, hi9, hz0, hz1, hz2⟩ := info_parts info63
  have NM := Lib.hid (rnamed_any w v u l made hv hu hl hml)
  have HT := Lib.hid h
  have NLE := Lib.hid (show (namedF made l).length ≤ 1000 from Nat.le_trans (named_len made l) hl)
  have RT := Lib.hid hr
  obtain ⟨va, vc, rfl⟩ := hv.shape
  obtain ⟨ua, uc, rfl⟩ := hu.shape
  obtain ⟨ta, tc, rfl⟩ := h.shape
  clear h hv hu hr
  go_enter Try.func14, Try.ntmps14
  go_wp2_with fail
  refine NM.out.mono ?_
  rintro e w1 ⟨r, rfl, ho, hb⟩
  obtain ⟨na, nc, rfl⟩ := own_shapeK ho
  have NR := Lib.hid (own_liesK encH_len ho)
  have B1 := Lib.hid hb
  clear ho hb NM
  obtain ⟨N, hN⟩ : ∃ z, namedF made l = z := ⟨_, rfl⟩
  have HN := Lib.hid hN
  rw [hN] at NR NLE
  try rw [hN]
  clear hN
  obtain ⟨BL, hBL⟩ : ∃ z : Nat → List Ch, (fun k => ((N.drop k).reverse).filterMap (bkF T)) = z := ⟨_, rfl⟩
  have HBL := Lib.hid (fun k => (show BL k = ((N.drop k).reverse).filterMap (bkF T) from by rw [← hBL]))
  have BLE := Lib.hid (fun k => (show (BL k).length ≤ 1000 from by rw [HBL.out]; have := back_le T N k; have := NLE.out; omega))
  clear hBL
  have J0 := Lib.hid (show NMI w1 w1 63 (.slice none 0 0) (BL N.length, 0) from ⟨Below.refl _ _, by rw [show BL N.length = [] from by rw [HBL.out, List.drop_length]; rfl]; exact World.ownsRow_nil _ _ _ _⟩)
  have HWS := Lib.hid (show wrap64 ((N.length : Int) - 1) = (N.length : Int) - 1 from by have := NLE.out; unfold wrap64; omega)
  have hnle := NLE.out
  go_wp2_with fail
  go_loopw [8, 9] (fun ov iv wr => ∃ (j : Nat) (z : Int), iv = .int .i64 z ∧ z + 1 = (j : Int) ∧ j ≤ N.length ∧ Hid (NMI w1 wr 63 ov (BL j, 0))) (fun _ iv _ => (intOf iv + 1).toNat)
  case atStart => exact ⟨N.length, (N.length : Int) - 1, by first | (rw [HWS.out]; rfl) | go_num, by omega, Nat.le_refl _, J0⟩
  case round =>
    clear J0 HWS
    obtain ⟨j, z, rfl, hz, hj, K⟩ := hrel
    obtain ⟨oa, oc, rfl⟩ := own_shapeK K.out.row
    by_cases h0 : 0 < j
    · obtain ⟨k, rfl⟩ : ∃ k, j = k + 1 := ⟨j - 1, by omega⟩
      obtain rfl : z = (k : Int) := by omega
      have q1 : decide ((k : Int) ≥ 0) = true := decide_eq_true (by omega)
      have q2 : (0 : Int) ≤ (k : Int) := by omega
      have hk1 : (k : Int) < (N.length : Int) := by omega
      have hk : k < N.length := by omega
      have HKM := Lib.hid (show ((k : Int) - 1 + 1).toNat < ((k : Int) + 1).toNat from by omega)
      have HWK := Lib.hid (show wrap64 ((k : Int) - 1) = (k : Int) - 1 from by have := NLE.out; unfold wrap64; omega)
      have HKL := Lib.hid (show k ≤ N.length from by omega)
      obtain ⟨g, o, x, e7, hx, hg, hc⟩ := (NR.out.step K.out.bel).at' hk
      subst e7
      have LX := Lib.hid (ldC63 (ChAt.of hc))
      have BS := Lib.hid (show BL k = BL (k + 1) ++ (bkF T x).toList from by rw [HBL.out, HBL.out]; exact back_step hx)
      have LM := Lib.hid (BLE.out (k + 1))
      have B5 := vstep wr (.cells (#[.bool x.nw, .int .i64 x.t, .int .i64 x.r, .int .i64 x.pt, .int .i64 x.pr, .string x.nm, .bool x.d]) 63)
      have K5 := Lib.hid (K.out.step B5)
      have N5 := Lib.hid (show (wr.alloc (.cells (#[.bool x.nw, .int .i64 x.t, .int .i64 x.r, .int .i64 x.pt, .int .i64 x.pr, .string x.nm, .bool x.d]) 63)).heap[wr.heap.size]? = some (.cells (encH x).toArray 63 (0, 0)) from heap_alloc_new wr _)
      clear hx hg hc K B5 h0 hz hj
      go_upto_region 7 with (first
        | (refine wpList_ldG rfl (.tmp 25) 63 rfl (.pointer (some ⟨g, o + k * 7, none⟩)) (.agg #[.bool x.nw, .int .i64 x.t, .int .i64 x.r, .int .i64 x.pt, .int .i64 x.pr, .string x.nm, .bool x.d]) rfl LX.out ?_))
      obtain ⟨kb, hkb⟩ : ∃ z, wr.heap.size = z := ⟨_, rfl⟩
      rw [hkb] at N5 ⊢
      generalize (wr.alloc (.cells (#[.bool x.nw, .int .i64 x.t, .int .i64 x.r, .int .i64 x.pt, .int .i64 x.pr, .string x.nm, .bool x.d]) 63)) = w5 at *
      clear hkb LX
      obtain ⟨c0, c1, c2, c3, c4, c5, c6⟩ := ChAt.row N5.out
      obtain ⟨y1, y2, y3, y4, ok, hgv⟩ := GV.ex T x.t x.r
      have GG := Lib.hid hgv
      have G := Lib.hid (rget_any w5 _ T (HT.out.step (B1.out.trans (K5.out.bel.mono B1.out.size))) x.t x.r)
      rw [hgv.val, hgv.has] at G
      clear hgv
      go_wp2_with fail
      refine G.out.mono ?_
      rintro e w6 ⟨rfl, hb⟩
      have BX := vstep w6 (.cells #[.int .i64 y1, .int .i64 y2, .string y3, .bool y4] 66)
      have hbb := hb.trans (BX.mono hb.size)
      have K7 := Lib.hid (K5.out.step hbb)
      have N7 := Lib.hid ((hbb.block kb (lt_of_block N5.out)).trans N5.out)
      have E7 := Lib.hid (show (w6.alloc (.cells #[.int .i64 y1, .int .i64 y2, .string y3, .bool y4] 66)).heap[w6.heap.size]? = some (.cells #[.int .i64 y1, .int .i64 y2, .string y3, .bool y4] 66 (0, 0)) from heap_alloc_new w6 _)
      clear hb hbb BX G K5 N5 c0 c1 c2 c3 c4 c5 c6
      go_upto_region 8 with (fail)
      obtain ⟨k8, hk8⟩ : ∃ z, w6.heap.size = z := ⟨_, rfl⟩
      rw [hk8] at E7 ⊢
      generalize (w6.alloc (.cells #[.int .i64 y1, .int .i64 y2, .string y3, .bool y4] 66)) = w7 at *
      clear hk8
      have d0 := cell_row (j := 0) E7.out rfl
      have d1 := cell_row (j := 1) E7.out rfl
      have d2 := cell_row (j := 2) E7.out rfl
      have d3 := cell_row (j := 3) E7.out rfl
      obtain ⟨c0, c1, c2, c3, c4, c5, c6⟩ := ChAt.row N7.out
      have K9 := K7
      obtain ⟨xnw, xt, xr, xpt, xpr, xnm, xd⟩ := x
      dsimp only at c0 c1 c2 c3 c4 c5 c6 GG
      cases xnw with
      | true =>
        have BS := Lib.hid (BS.out.trans (by rw [bk_new rfl]))
        have SE1 := Lib.hid (show (BL k, 0).1 = (BL (k + 1), 0).1 ++ [(⟨false, xt, xr, 0, 1, xnm, xd⟩ : Ch)] from BS.out)
        have OX := Lib.hid (own_belowK K9.out.row (vstep w7 (.cells #[.bool false, .int .i64 xt, .int .i64 xr, .int .i64 0, .int .i64 1, .string xnm, .bool xd] 63)))
        have HX := Lib.hid (show (w7.alloc (.cells #[.bool false, .int .i64 xt, .int .i64 xr, .int .i64 0, .int .i64 1, .string xnm, .bool xd] 63)).heap[w7.heap.size]? = some (.cells (encH ((⟨false, xt, xr, 0, 1, xnm, xd⟩ : Ch))).toArray 63 (0, 0)) from heap_alloc_new w7 _)
        have QX := Lib.hid (And.intro (show (BL (k + 1)).length + 1 ≤ maxLen from by have := LM.out; unfold maxLen; omega) (And.intro (show ((BL (k + 1)).length + 1) * 64 ≤ 140737488355328 from by have := LM.out; omega) (show w1.heap.size ≤ (w7.alloc (.cells #[.bool false, .int .i64 xt, .int .i64 xr, .int .i64 0, .int .i64 1, .string xnm, .bool xd] 63)).heap.size from Nat.le_trans K9.out.bel.size (vstep w7 _).size)))
        go_wp2_with (at_builtin; refine wpList_pushK rfl (.tmp 36) (.tmp 45) 23 rfl encH_len (by decide) encH_one w1.heap.size 63 i0 (.agg #[.bool false, .int .i64 0, .int .i64 0, .int .i64 0, .int .i64 0, .string ⟨#[]⟩, .bool false]) 64 Try.u23 hi9 hz0 hz1 hz2 rfl _ (BL (k + 1)) ((⟨false, xt, xr, 0, 1, xnm, xd⟩ : Ch)) w7.heap.size rfl rfl HX.out OX.out QX.out.1 QX.out.2.1 QX.out.2.2 ?_; intro v9 w9 hown hgr; have P9 := Lib.hid (K9.out.push (s' := (BL k, 0)) hown hgr SE1.out); obtain ⟨va9, vc9, rfl⟩ := own_shapeK hown; clear hown hgr)
        have P9 := Lib.hid (show NMI w1 w9 63 (.slice va9 ((BL (k + 1)).length + 1) vc9) (BL k, 0) from by have h := P9.out; rwa [List.length_append] at h)
        go_roundw
        case rel => exact ⟨k, (k : Int) - 1, by first | (rw [HWK.out]; rfl) | go_num, by omega, by omega, P9⟩
        case measure => first | (rw [HWK.out]; exact HKM.out) | exact HKM.out
      | false =>
        cases ok with
        | true =>
          have BS := Lib.hid (BS.out.trans (by rw [bk_some RT.out rfl GG.out]))
          have SE1 := Lib.hid (show (BL k, 0).1 = (BL (k + 1), 0).1 ++ [(⟨false, xt, xr, y1, y2, y3, y4⟩ : Ch)] from BS.out)
          have OX := Lib.hid (own_belowK K9.out.row (vstep w7 (.cells #[.bool false, .int .i64 xt, .int .i64 xr, .int .i64 y1, .int .i64 y2, .string y3, .bool y4] 63)))
          have HX := Lib.hid (show (w7.alloc (.cells #[.bool false, .int .i64 xt, .int .i64 xr, .int .i64 y1, .int .i64 y2, .string y3, .bool y4] 63)).heap[w7.heap.size]? = some (.cells (encH ((⟨false, xt, xr, y1, y2, y3, y4⟩ : Ch))).toArray 63 (0, 0)) from heap_alloc_new w7 _)
          have QX := Lib.hid (And.intro (show (BL (k + 1)).length + 1 ≤ maxLen from by have := LM.out; unfold maxLen; omega) (And.intro (show ((BL (k + 1)).length + 1) * 64 ≤ 140737488355328 from by have := LM.out; omega) (show w1.heap.size ≤ (w7.alloc (.cells #[.bool false, .int .i64 xt, .int .i64 xr, .int .i64 y1, .int .i64 y2, .string y3, .bool y4] 63)).heap.size from Nat.le_trans K9.out.bel.size (vstep w7 _).size)))
          go_wp2_with (at_builtin; refine wpList_pushK rfl (.tmp 48) (.tmp 58) 23 rfl encH_len (by decide) encH_one w1.heap.size 63 i0 (.agg #[.bool false, .int .i64 0, .int .i64 0, .int .i64 0, .int .i64 0, .string ⟨#[]⟩, .bool false]) 64 Try.u23 hi9 hz0 hz1 hz2 rfl _ (BL (k + 1)) ((⟨false, xt, xr, y1, y2, y3, y4⟩ : Ch)) w7.heap.size rfl rfl HX.out OX.out QX.out.1 QX.out.2.1 QX.out.2.2 ?_; intro v9 w9 hown hgr; have P9 := Lib.hid (K9.out.push (s' := (BL k, 0)) hown hgr SE1.out); obtain ⟨va9, vc9, rfl⟩ := own_shapeK hown; clear hown hgr)
          have P9 := Lib.hid (show NMI w1 w9 63 (.slice va9 ((BL (k + 1)).length + 1) vc9) (BL k, 0) from by have h := P9.out; rwa [List.length_append] at h)
          go_roundw
          case rel => exact ⟨k, (k : Int) - 1, by first | (rw [HWK.out]; rfl) | go_num, by omega, by omega, P9⟩
          case measure => first | (rw [HWK.out]; exact HKM.out) | exact HKM.out
        | false =>
          have BS := Lib.hid (show BL k = BL (k + 1) from by rw [BS.out, bk_none rfl GG.out]; simp)
          have P9 := Lib.hid (show NMI w1 w7 63 (.slice oa (BL (k + 1)).length oc) (BL k, 0) from by rw [BS.out]; exact K7.out)
          go_wp2_with fail
          go_roundw
          case rel => exact ⟨k, (k : Int) - 1, by first | (rw [HWK.out]; rfl) | go_num, by omega, by omega, P9⟩
          case measure => first | (rw [HWK.out]; exact HKM.out) | exact HKM.out
    · obtain rfl : j = 0 := by omega
      obtain rfl : z = -1 := by omega
      have FIN := Lib.hid (show wr.ownsRow w.heap.size 63 7 (.slice oa (BL 0).length oc) (backF T N).length ((backF T N).flatMap encH) ∧ Below w.heap.size w wr from by
        have e : BL 0 = backF T N := by rw [HBL.out, List.drop_zero]; rfl
        have h := K.out
        rw [e] at h ⊢
        exact ⟨own_base h.row B1.out.size, B1.out.trans (h.bel.mono B1.out.size)⟩)
      clear K
      go_wp2
      go_returns
      exact ⟨_, rfl, by rw [HN.out]; exact FIN.out.1, FIN.out.2⟩
end Go.Proofs.Ythbmbpnpigpgpaa
