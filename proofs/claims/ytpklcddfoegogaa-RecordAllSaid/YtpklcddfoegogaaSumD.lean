/- Seal of both; Runs; the same bytes? -/
import Derived.Test.YtpklcddfoegogaaSumC
set_option linter.unusedVariables false
namespace Go.Proofs.Ytpklcddfoegogaa
open Go.RowKit

theorem le4_byt (s : Nat) : Byt (le4 s) := le4_lt s
theorem seal_byt {l : List Nat} (h : Byt l) : Byt (seal' l) := seal_lt h

set_option maxRecDepth 100000 in
set_option maxHeartbeats 800000 in
theorem seal_any (w : World) (v : Value) (bs : List Nat) (h : Lies w v bs) (hb : Byt bs) (hl : bs.length ≤ 200000) :
    Calls Try.prog 16 #[v] w fun e w' => ∃ r, e = .returned r ∧ RowOut w w' r (seal' bs) := by
  have H := Lib.hid h
  have HB := Lib.hid hb
  have hm := more_lt 0 bs
  have HO := Lib.hid (fun W => of_any W v bs)
  have HT := Lib.hid (fun W => told_any W (more 0 bs) hm)
  have HZ : Hid (∀ r, cats [(v, bs), (r, le4 (more 0 bs))] = seal' bs) := Lib.hid (fun r => by unfold cats seal'; simp)
  generalize more 0 bs = s at *
  obtain ⟨ao, cap, rfl, _⟩ := h
  clear hb
  go_enter Try.func16, Try.ntmps16
  go_wp2_with fail
  refine (HO.out _ H.out HB.out).mono ?_
  rintro e w1 ⟨rfl, hb1⟩
  have B1 := Lib.hid hb1
  clear hb1
  go_wp2_with fail
  refine (HT.out _).mono ?_
  rintro e w2 ⟨r, rfl, ho⟩
  have hB2 := B1.out.trans (ho.2.mono B1.out.size)
  have hL2 := own_lies ho.1
  have hL1 := H.out.later hB2
  obtain ⟨ra, rc, rfl⟩ := own_shape ho.1
  have KZ := HZ.out (.slice ra (le4 s).length rc)
  have KL := Lib.hid (show Byt bs ∧ Byt (le4 s) from ⟨HB.out, le4_byt s⟩)
  clear ho
  have B2 := Lib.hid hB2
  have hR : ∀ W3, Below w2.heap.size w2 W3 → W3.heap[w2.heap.size]? = some (.cells #[.slice ao bs.length cap, .slice ra (le4 s).length rc] 22 (0, 0)) → Rows2 W3 (.slice (some ⟨w2.heap.size, 0, none⟩) 2 2) [(.slice ao bs.length cap, bs), (.slice ra (le4 s).length rc, le4 s)] := by
    intro W3 hb3 hg
    refine ⟨some ⟨w2.heap.size, 0, none⟩, 2, rfl, (fun e => by cases e), fun b hb => ?_, fun p hp => ?_⟩
    · cases hb
      refine ⟨w2.heap.size, 0, rfl, (Array.getElem?_eq_some_iff.1 hg).1, fun j p hj => ?_⟩
      match j, hj with
      | 0, hj => rw [cell_of_row _ _ _ _ _ _ hg]; injection hj with hj; subst hj; rfl
      | 1, hj => rw [cell_of_row _ _ _ _ _ _ hg]; injection hj with hj; subst hj; rfl
      | j + 2, hj => simp at hj
    · rcases List.mem_cons.1 hp with rfl | hp
      · exact ⟨hL1.later hb3, KL.out.1⟩
      · rcases List.mem_cons.1 hp with rfl | hp
        · exact ⟨hL2.later hb3, KL.out.2⟩
        · cases hp
  have hC := concat_any (w2.alloc (.cells #[.slice ao bs.length cap, .slice ra (le4 s).length rc] 22)) _ _ (hR _ ((Below.refl _ _).alloc (Nat.le_refl _) _) (heap_alloc_new w2 _)) (by simp) (by
    rw [KZ, seal_length]; omega)
  rw [KZ] at hC
  have HC := Lib.hid hC
  have HX := Lib.hid ((B2.out.alloc B2.out.size (.cells #[.slice ao bs.length cap, .slice ra (le4 s).length rc] 22)))
  clear hC hR hL1 hL2 hB2 KZ
  go_wp2_with fail
  refine HC.out.mono ?_
  rintro e w3 ⟨r, rfl, ho⟩
  have HOut : RowOut w w3 r (seal' bs) := by
    refine ⟨?_, HX.out.trans (ho.2.mono HX.out.size)⟩
    have hle := HX.out.size
    rcases ho.1 with ⟨hlen, hrest⟩
    refine ⟨hlen, ?_⟩
    rcases hrest with h | ⟨g, cap, cur, e, hB, rest⟩
    · exact .inl h
    · exact .inr ⟨g, cap, cur, e, by omega, rest⟩
  obtain ⟨ra3, rc3, rfl⟩ := own_shape ho.1
  have HQ := Lib.hid HOut
  clear ho HOut
  go_wp2
  go_returns
  exact ⟨_, rfl, HQ.out⟩

set_option maxRecDepth 100000 in
set_option maxHeartbeats 800000 in
theorem rseal_any (w : World) (v : Value) (bs : List Nat) (h : Lies w v bs) (hb : Byt bs) (hl : bs.length ≤ 200000) :
    Calls Try.prog 20 #[v] w fun e w' => ∃ r, e = .returned r ∧ RowOut w w' r (seal' bs) := by
  obtain ⟨i0, hi, hz0, hz1, hz2⟩ := info_parts Try.info5
  have H := Lib.hid (rmore_any w 0 v bs (by omega) h hb)
  have hm := more_lt 0 bs
  have HS := Lib.hid h.src
  have HZ : Hid (seal' bs = bs ++ le4 (more 0 bs)) := Lib.hid rfl
  generalize more 0 bs = s0 at *
  obtain ⟨ao, cap, rfl, _⟩ := h
  clear hb
  go_enter Try.func20, Try.ntmps20
  go_wp2_with fail
  refine H.out.mono ?_
  rintro e w1 ⟨rfl, rfl⟩
  go_wp2_with (at_builtin; refine wpList_append_src_own rfl (.tmp 8) (.tmp 9) 22 22 rfl w.heap.size 5 i0 (.int .u8 0) 1 1 Try.underlying22 hi hz0 hz1 hz2 rfl (by decide) _ 0 [] rfl (World.ownsRow_nil _ _ _ _) _ bs.length (u8s bs) rfl HS.out (by unfold maxLen; omega) (by omega) (by omega) ?_; intro v3 w3 hown hgr hspr; rw [Nat.zero_add, List.nil_append] at hown; have K := Lib.hid (And.intro hown ((Below.refl w.heap.size w).grown hgr (Nat.le_refl _) (fun k hk => by simp [Act.eval, Value.ownBlock] at hk))); clear hown hgr hspr)
  obtain ⟨va, vc, rfl⟩ := own_shape K.out.1
  go_loopw [3, 4, 5] (fun sv bv iv wr => ∃ (i s : Nat) (cs : List Nat), iv = .int .i64 i ∧ i ≤ 4 ∧ sv = .int .u32 s ∧ s < 4294967296 ∧ cs.length ≤ 200004 ∧ Hid (s = s0 / 256 ^ i ∧ cs = bs ++ (le4 s0).take i) ∧ wr.ownsRow w.heap.size 5 1 bv cs.length (u8s cs) ∧ Below w.heap.size w wr) (fun _ _ iv _ => 4 - (intOf iv).toNat)
  case atStart => exact ⟨0, s0, bs, rfl, by omega, rfl, hm, by omega, Lib.hid ⟨by simp, by simp⟩, K.out.1, K.out.2⟩
  case round =>
    obtain ⟨i, s, cs, rfl, hi4, rfl, hs, hcs, hS, hW, hE⟩ := hrel
    have HW := Lib.hid hW
    have HE := Lib.hid hE
    have hB2 := hE.size
    obtain ⟨ba, bc, rfl⟩ := own_shape hW
    clear hW hE
    by_cases hlt : i < 4
    · obtain ⟨x, hx⟩ : ∃ x, x = s % 256 := ⟨_, rfl⟩
      obtain ⟨q, hq⟩ : ∃ q, q = s / 256 := ⟨_, rfl⟩
      have e1 : (s : Int) % 256 = (x : Int) := by omega
      have e2 : (s : Int) / 256 = (q : Int) := by omega
      have e3 : IntKind.u8.wrap (x : Int) = (x : Int) := by rw [IntKind.wrap_u8']; omega
      have hq32 : q < 4294967296 := by omega
      have hcl : (cs ++ [x]).length ≤ 200004 := by
        rw [hS.out.2, List.append_assoc, List.length_append, List.length_append, List.length_take]
        have : (le4 s0).length = 4 := rfl
        simp; omega
      have HN : Hid (q = s0 / 256 ^ (i + 1) ∧ cs ++ [x] = bs ++ (le4 s0).take (i + 1)) := Lib.hid ⟨by rw [hq, hS.out.1, Nat.div_div_eq_div_mul, ← Nat.pow_succ], by
        rw [hS.out.2, List.append_assoc]
        congr 1
        rw [hx, hS.out.1]
        rcases (show i = 0 ∨ i = 1 ∨ i = 2 ∨ i = 3 by omega) with rfl | rfl | rfl | rfl <;> simp [le4]⟩
      have hcl3 : cs.length + 1 ≤ 200004 := by rw [List.length_append] at hcl; simpa using hcl
      clear hx hq hS
      go_wp2_with (at_builtin; refine wpList_append_src_own rfl (.tmp 15) (.tmp 19) 22 22 rfl w.heap.size 5 i0 (.int .u8 0) 1 1 Try.underlying22 hi hz0 hz1 hz2 rfl (by decide) _ _ _ rfl (HW.out.alloc _) _ 1 _ rfl (src_one _ x 5) (by unfold maxLen; omega) (by omega) (by simp; omega) ?_; intro v3 w3 hown hgr hspr; have K2 := Lib.hid (And.intro hown ((HE.out.alloc hB2 _).grown hgr (by simp; omega) (fun k hk => (HW.out.lt k hk).1))); clear hown hgr hspr)
      go_roundw
      case rel => exact ⟨i + 1, q, cs ++ [x], by go_num, by omega, rfl, hq32, hcl, HN, by rw [u8s_append, List.length_append]; exact K2.out.1, K2.out.2⟩
      case measure => simp [intOf]; omega
    · have HX : Hid (cs = seal' bs) := Lib.hid (by
        rw [HZ.out, hS.out.2, show i = 4 by omega]
        rfl)
      clear hS
      go_wp2
      go_returns
      exact ⟨_, rfl, by rw [← HX.out]; exact ⟨HW.out, HE.out⟩⟩

set_option maxRecDepth 100000 in
set_option maxHeartbeats 1000000 in
theorem same_any (w : World) (v1 v2 : Value) (l : List Nat) (h1 : Lies w v1 l) (h2 : Lies w v2 l) :
    Calls Try.prog 10 #[v1, v2] w fun e w' => e = .returned (.bool true) ∧ Below w.heap.size w w' := by
  have hlm : l.length ≤ maxLen := by obtain ⟨_, _, _, g1, g2, _⟩ := h1; omega
  unfold maxLen at hlm
  obtain ⟨a1, p1, rfl, _, _, n1, hc1⟩ := h1
  obtain ⟨a2, p2, rfl, _, _, n2, hc2⟩ := h2
  go_enter Try.func10, Try.ntmps10
  go_wp2
  go_loopw [5] (fun kv wr => ∃ k : Nat, kv = .int .i64 k ∧ k ≤ l.length ∧ ∃ n, wr = w.drewN n) (fun kv _ => l.length - (intOf kv).toNat)
  case atStart => exact ⟨0, rfl, Nat.zero_le _, 0, rfl⟩
  case round =>
    obtain ⟨k, rfl, hk, n, rfl⟩ := hrel
    by_cases hlt : k < l.length
    · obtain ⟨x, hx⟩ : ∃ x, l[k]? = some x := ⟨_, List.getElem?_eq_getElem hlt⟩
      cases a1 with
      | none => have := (n1 rfl).1; rw [this] at hlt; simp at hlt
      | some b1 =>
        cases a2 with
        | none => have := (n2 rfl).1; rw [this] at hlt; simp at hlt
        | some b2 =>
          obtain ⟨k1, o1, rfl, _, hc1⟩ := hc1 b1 rfl (ne_of_lt hlt)
          obtain ⟨k2, o2, rfl, _, hc2⟩ := hc2 b2 rfl (ne_of_lt hlt)
          have d1 := hc1 k x hx
          have d2 := hc2 k x hx
          clear hc1 hc2 n1 n2 hx
          go_wp2
          go_quiet (fail)
          go_wp2
          go_roundw
          case rel => exact ⟨k + 1, by go_num, by omega, _, rfl⟩
          case measure => simp [intOf]; omega
    · clear hc1 hc2 n1 n2
      go_wp2
      go_returns
      exact ⟨rfl, below_drewN w n⟩

end Go.Proofs.Ytpklcddfoegogaa
