/- The reference's Parse. -/
import Derived.Test.YtifeakmbeaflgaaDoorPE
set_option linter.unusedVariables false
set_option linter.unusedSimpArgs false
set_option maxRecDepth 100000
namespace Go.Proofs.YtifeakmbeaflgaaDoor
open Go.RowKit
open Wi (Kr St Byt rd bytesOf)

theorem feed_lies {w w' : World} {v : Value} {bs : List Int} (h : Wi.Lies w v bs) (hb : Below w.heap.size w w') : FeedR w' w.heap.size w.heap.size v bs := by
  obtain ⟨ao, cap, rfl, hn, h0, hc⟩ := h
  refine ⟨ao, cap, rfl, hn, trivial, fun hne => ?_⟩
  cases ao with
  | none => exact absurd (h0 rfl).1 hne
  | some b =>
    obtain ⟨x0, hx0⟩ : ∃ x, bs[0]? = some x := by
      cases bs with
      | nil => exact absurd rfl hne
      | cons a l => exact ⟨a, rfl⟩
    have c0 := hc b rfl 0 (.int .u8 x0) (by simp [Wi.u8s, hx0])
    obtain ⟨g, off, spot⟩ := b
    have hz : (⟨g, off, spot⟩ : Addr).add 0 = ⟨g, off, spot⟩ := by unfold Addr.add; cases spot <;> simp
    rw [hz] at c0
    have hspot : spot = none := by simpa using World.cell?_spot c0
    subst hspot
    have hgl : g < w.heap.size := by simpa using World.block_lt_of_cell? w _ c0
    refine ⟨g, off, rfl, ⟨by omega, hgl⟩, fun j x hj => ?_⟩
    have := hc ⟨g, off, none⟩ rfl j (.int .u8 x) (by simp [Wi.u8s, hj])
    have e : (⟨g, off, none⟩ : Addr).add j = ⟨g, off + j, none⟩ := by rw [Addr.add_lit]
    rw [e] at this
    exact (hb.cell (p := ⟨g, off + j, none⟩) hgl).trans this
theorem stay {s : St} (h : s.bad ≠ 0) : (getO s).2 = s := by
  have hn := num_bad s h
  have hst : s.stamp = ((0, 0), s) := by unfold St.stamp; rw [hn]; simp only; rw [hn]; simp only; rw [if_pos h]
  have htx : s.text 255 = (⟨#[]⟩, s) := by unfold St.text; rw [hn]; simp only; rw [if_pos h]
  have hfl : s.flag.2 = s := by unfold St.flag; rw [hn]; simp
  have hgr : (getR s).2 = s := by
    unfold getR
    simp only [hst, hn, htx, hfl]
  have hgs : getS s = s := by
    unfold getS
    rw [hgr]
    split
    · rfl
    · unfold St.fail; rw [if_pos (.inl h)]
  unfold getO
  rw [hgs, if_pos h]
theorem ops_stay {s : St} {k : Nat} (h : (opsS k s).2.bad ≠ 0) : ∀ n, k ≤ n → (opsS n s).2 = (opsS k s).2
  | 0, hn => by rw [show k = 0 by omega]
  | n + 1, hn => by
    by_cases e : k = n + 1
    · subst e; rfl
    · have ih := ops_stay h n (by omega)
      show (getO (opsS n s).2).2 = _
      rw [ih]
      exact stay h
theorem fin_bad {s : St} (h : s.bad ≠ 0) : s.fin.bad = s.bad := by
  unfold St.fin
  split
  · unfold St.fail; rw [if_pos (.inl h)]
  · rfl
structure PI7 (w wr : World) (M g : Nat) (v : Value) (bs : List Int) (s : St) (u : Value) (l : List O) : Prop where
  rs : RS wr M g v bs s
  bel : Below g w wr
  own : wr.ownsRow (g + 1) 25 9 u l.length (cs9 l)
theorem own_kr2 {w w' : World} {E r : Nat} {v : Value} {xs : List Value} {n : Nat} (h : w.ownsRow E 25 9 v n xs) (k : Kr w w' r) (hr : r < E) : w'.ownsRow E 25 9 v n xs := own_kr h k hr
theorem rs_keep {w w' : World} {M g : Nat} {v : Value} {bs : List Int} {s : St} (h : RS w M g v bs s) (hM : M ≤ g + 1) (hb : Below (g + 1) w w') : RS w' M g v bs s := by
  obtain ⟨p, hi, hd⟩ := h
  obtain ⟨ao, cap, e, h1, h2, h3⟩ := hi.feed
  refine ⟨p, ⟨(hb.block g (Nat.lt_succ_self _)).trans hi.box, ⟨ao, cap, e, h1, h2, fun hne => ?_⟩, hi.byt, hi.len, Nat.le_trans hi.top hb.size, hi.le⟩, hd⟩
  obtain ⟨b', off, e2, ⟨n1, n2⟩, hc⟩ := h3 hne
  exact ⟨b', off, e2, ⟨n1, n2⟩, fun j x hj => (hb.cell (p := ⟨b', off + j, none⟩) (by show b' < g + 1; omega)).trans (hc j x hj)⟩
set_option maxHeartbeats 12800000 in
theorem rparse_any (w : World) (v : Value) (bs : List Int) (h : Wi.Lies w v bs) (hb : Byt bs) (hl : bs.length ≤ 100000) :
    Calls Tryd.prog 28 #[v] w fun e w' => ∃ v', e = .returned (.tuple #[v', .int .i64 (parseO bs).2]) ∧ OLies w' v' (parseO bs).1 ∧ Below w.heap.size w w' := by
  have PO := Lib.hid (show parseO bs = if (64 : Int) < (St.num ⟨bs, 0⟩).1 ∨ (bs.length : Int) < (St.num ⟨bs, 0⟩).1 then ([], 6) else if (opsS (St.num ⟨bs, 0⟩).1.toNat (St.num ⟨bs, 0⟩).2).2.fin.bad ≠ 0 then ([], (opsS (St.num ⟨bs, 0⟩).1.toNat (St.num ⟨bs, 0⟩).2).2.fin.bad) else ((opsS (St.num ⟨bs, 0⟩).1.toNat (St.num ⟨bs, 0⟩).2).1, 0) from rfl)
  have hrg := Wi.St.num_range ⟨bs, 0⟩ hb
  have hnb := Wi.St.num_bad ⟨bs, 0⟩ hb
  obtain ⟨i0, hi9, hz0, hz1, hz2⟩ := info_parts info25
  obtain ⟨ao, cap, rfl, -⟩ := id h
  have V := vstep w (.cells #[.slice ao bs.length cap, .int .i64 0, .int .i64 0] 81)
  have R0 := Lib.hid (show RS (w.alloc (.cells #[.slice ao bs.length cap, .int .i64 0, .int .i64 0] 81)) w.heap.size w.heap.size (.slice ao bs.length cap) bs ⟨bs, 0⟩ from ⟨0, ⟨heap_alloc_new w _, feed_lies h V, hb, by omega, V.size, Nat.zero_le _⟩, fun _ => rfl⟩)
  have NUM := Lib.hid (rrnum_any _ _ _ _ _ _ R0.out)
  have KV := Lib.hid (Kr.ofBelow w.heap.size V)
  obtain ⟨W1, hW1⟩ : ∃ z, w.alloc (.cells #[.slice ao bs.length cap, .int .i64 0, .int .i64 0] 81) = z := ⟨_, rfl⟩
  rw [hW1] at R0 NUM KV
  have HW := Lib.hid hW1
  obtain ⟨R, hR⟩ : ∃ R, parseO bs = R := ⟨_, rfl⟩
  rw [hR] at PO ⊢
  obtain ⟨g, hg⟩ : ∃ g, w.heap.size = g := ⟨_, rfl⟩
  rw [hg] at R0 NUM KV
  have HG := Lib.hid hg
  have SZ1 := Lib.hid (show W1.heap.size = g + 1 from by rw [← hW1, ← hg]; simp)
  clear h hb V hW1 hR
  obtain ⟨⟨n, s1⟩, hns⟩ : ∃ q, St.num ⟨bs, 0⟩ = q := ⟨_, rfl⟩
  rw [hns] at PO NUM hrg hnb
  simp only at PO NUM hrg hnb
  clear hns hg
  unfold ptrR at *
  go_enter Tryd.func28, Tryd.ntmps28
  go_upto_region 2 with (fail)
  rw [HW.out, HG.out]
  go_wp2_with fail
  refine NUM.out.mono ?_
  rintro e w2 ⟨rfl, hRS, hKr⟩
  have RS2 := Lib.hid hRS
  have K2 := Lib.hid (KV.out.trans hKr)
  have SZ2 := Lib.hid (show g + 1 ≤ w2.heap.size from by have := hKr.size; have := SZ1.out; omega)
  clear hRS hKr NUM R0 KV
  by_cases hbig : 64 < n ∨ (bs.length : Int) < n
  · have E := Lib.hid (show R = ([], 6) from by rw [PO.out, if_pos hbig])
    have hs1 : s1.bad = 0 := hnb.resolve_right (by omega)
    have FA := Lib.hid (rfail_any w2 _ _ _ _ s1 6 (by decide) RS2.out)
    have EF := Lib.hid (show s1.fail 6 = ⟨[], 6⟩ from by unfold St.fail; rw [if_neg (by omega)])
    rw [EF.out] at FA
    unfold ptrR at FA
    clear hs1 hnb hrg
    rcases Int.lt_or_le 64 n with h64 | h64
    · clear hbig
      go_wp2_with fail
      refine FA.out.mono ?_
      rintro e w3 ⟨rfl, hRS, hKr⟩
      have RS3 := Lib.hid hRS
      have K3 := Lib.hid (K2.out.trans hKr)
      obtain ⟨p, hi, hd⟩ := hRS
      obtain ⟨c0, c1, c2⟩ := hi.cells
      clear hKr hi hd c0 c1
      have EN := Lib.hid (rend_any w3 _ _ _ _ _ RS3.out)
      rw [show (⟨[], 6⟩ : St).fin.bad = 6 from rfl] at EN
      unfold ptrR at EN
      have hn0 : (0 : Int) < n := by omega
      go_wp2_with fail
      go_loopw [6, 7] (fun a6 a7 wr => a6 = .slice none 0 0 ∧ a7 = .int .i64 0 ∧ Hid (wr = w3)) (fun _ _ _ => 0)
      case atStart => exact ⟨rfl, rfl, Lib.hid rfl⟩
      case round =>
        obtain ⟨rfl, rfl, hK⟩ := hrel
        obtain rfl := hK.out
        clear hK
        go_wp2_with fail
        refine EN.out.mono ?_
        rintro e w4 ⟨rfl, _, hKr⟩
        have K4 := Lib.hid (K3.out.trans hKr)
        clear hKr
        go_wp2
        go_returns
        exact ⟨.slice none 0 0, ret_pp (by rw [E.out]), by rw [E.out]; exact OLies.nil _, by rw [HG.out]; exact K4.out.below (Nat.le_refl _) (by rw [HG.out]; exact Nat.le_refl _)⟩
    · have h64' : ¬ (64 : Int) < n := by omega
      have hlen : (bs.length : Int) < n := by omega
      clear hbig h64
      go_wp2_with fail
      refine FA.out.mono ?_
      rintro e w3 ⟨rfl, hRS, hKr⟩
      have RS3 := Lib.hid hRS
      have K3 := Lib.hid (K2.out.trans hKr)
      obtain ⟨p, hi, hd⟩ := hRS
      obtain ⟨c0, c1, c2⟩ := hi.cells
      clear hKr hi hd c0 c1
      have EN := Lib.hid (rend_any w3 _ _ _ _ _ RS3.out)
      rw [show (⟨[], 6⟩ : St).fin.bad = 6 from rfl] at EN
      unfold ptrR at EN
      have hn0 : (0 : Int) < n := by omega
      go_wp2_with fail
      go_loopw [6, 7] (fun a6 a7 wr => a6 = .slice none 0 0 ∧ a7 = .int .i64 0 ∧ Hid (wr = w3)) (fun _ _ _ => 0)
      case atStart => exact ⟨rfl, rfl, Lib.hid rfl⟩
      case round =>
        obtain ⟨rfl, rfl, hK⟩ := hrel
        obtain rfl := hK.out
        clear hK
        go_wp2_with fail
        refine EN.out.mono ?_
        rintro e w4 ⟨rfl, _, hKr⟩
        have K4 := Lib.hid (K3.out.trans hKr)
        clear hKr
        go_wp2
        go_returns
        exact ⟨.slice none 0 0, ret_pp (by rw [E.out]), by rw [E.out]; exact OLies.nil _, by rw [HG.out]; exact K4.out.below (Nat.le_refl _) (by rw [HG.out]; exact Nat.le_refl _)⟩
  · have E1 := Lib.hid (show R = if (opsS n.toNat s1).2.fin.bad ≠ 0 then ([], (opsS n.toNat s1).2.fin.bad) else ((opsS n.toNat s1).1, 0) from by rw [PO.out, if_neg hbig])
    have h64' : ¬ (64 : Int) < n := by omega
    have hlen : ¬ (bs.length : Int) < n := by omega
    obtain ⟨m, rfl⟩ : ∃ m : Nat, n = (m : Int) := ⟨n.toNat, by omega⟩
    rw [Int.toNat_natCast] at E1
    have hm : m ≤ 64 := by omega
    clear PO hbig hrg hnb
    have d1 : decide (bs.length < m) = false := decide_eq_false (by omega)
    have d2 : decide ((64 : Int) < (m : Int)) = false := decide_eq_false (by omega)
    go_upto_region 6 with (fail)
    try simp only [d1, d2, Bool.or_false]
    clear d1 d2
    go_wp2_with fail
    clear h64' hlen
    go_loopw [6, 7] (fun lv kv wr => ∃ k : Nat, kv = .int .i64 k ∧ k ≤ m ∧ Hid (PI7 w wr g g (.slice ao bs.length cap) bs (opsS k s1).2 lv (opsS k s1).1 ∧ g + 1 ≤ wr.heap.size)) (fun _ kv _ => m - (intOf kv).toNat)
    case atStart => exact ⟨0, rfl, Nat.zero_le _, Lib.hid ⟨⟨RS2.out, K2.out.below (Nat.le_refl _) (by rw [HG.out]; exact Nat.le_refl _), World.ownsRow_nil _ _ _ _⟩, SZ2.out⟩⟩
    case round =>
      obtain ⟨k, rfl, hk, hI0⟩ := hrel
      have hI := Lib.hid hI0.out.1
      have SZ := Lib.hid hI0.out.2
      clear hI0
      obtain ⟨lo, lc, hlv⟩ := Wi.own_shape hI.out.own
      subst hlv
      obtain ⟨p, hi, hd⟩ := hI.out.rs
      obtain ⟨c0, c1, c2⟩ := hi.cells
      clear hi hd c0 c1
      have EN := Lib.hid (rend_any wr _ _ _ _ _ hI.out.rs)
      unfold ptrR at EN
      by_cases hlt : k < m
      · by_cases hbad : (opsS k s1).2.bad = 0
        · have q1 := eqb0 _ _ hbad
          have GT := Lib.hid (rrget_any wr _ _ _ _ _ hI.out.rs)
          unfold ptrR at GT
          have NX := Lib.hid (show opsS (k + 1) s1 = ((opsS k s1).1 ++ [(getO (opsS k s1).2).1], (getO (opsS k s1).2).2) from rfl)
          have LN := Lib.hid (show (opsS k s1).1.length ≤ 1000 from by rw [opsS_len]; omega)
          obtain ⟨o, ho⟩ : ∃ o, (getO (opsS k s1).2).1 = o := ⟨_, rfl⟩
          obtain ⟨s2, hs2⟩ : ∃ s2, (getO (opsS k s1).2).2 = s2 := ⟨_, rfl⟩
          rw [ho, hs2] at GT NX
          clear ho hs2 hbad EN
          have GT := Lib.hid (show Calls Tryd.prog 65 #[.pointer (some ⟨g, 0, none⟩)] wr fun e w' => e = .returned (.agg #[.int .i64 o.t, .int .i64 o.r, .int .i64 o.q, .int .i64 o.nt, .int .i64 o.nr, .int .i64 o.pt, .int .i64 o.pr, .string o.nm, .bool o.d]) ∧ RO wr w' g g (.slice ao bs.length cap) bs s2 from GT.out)
          go_wp2_with fail
          refine GT.out.mono ?_
          rintro e w3 ⟨rfl, hw⟩
          have OW := Lib.hid (own_kr2 hI.out.own hw.2 (Nat.lt_succ_self _))
          have K3 := Lib.hid (hI.out.bel.trans (hw.2.below (Nat.le_refl _) (by have := SZ.out; omega)))
          have R3 := Lib.hid hw.1
          have SZ3 := Lib.hid (Nat.le_trans SZ.out hw.2.size)
          have V1 := vstep w3 (.cells #[.int .i64 o.t, .int .i64 o.r, .int .i64 o.q, .int .i64 o.nt, .int .i64 o.nr, .int .i64 o.pt, .int .i64 o.pr, .string o.nm, .bool o.d] 25)
          have BX := Lib.hid (show (w3.alloc (.cells #[.int .i64 o.t, .int .i64 o.r, .int .i64 o.q, .int .i64 o.nt, .int .i64 o.nr, .int .i64 o.pt, .int .i64 o.pr, .string o.nm, .bool o.d] 25)).heap[w3.heap.size]? = some (.cells #[.int .i64 o.t, .int .i64 o.r, .int .i64 o.q, .int .i64 o.nt, .int .i64 o.nr, .int .i64 o.pt, .int .i64 o.pr, .string o.nm, .bool o.d] 25 (0, 0)) from heap_alloc_new w3 _)
          have OW4 := Lib.hid (own_below OW.out V1)
          have K4 := Lib.hid (K3.out.trans (V1.mono (by have := SZ3.out; omega)))
          have R4 := Lib.hid (R3.out.below V1)
          have SZ4 := Lib.hid (Nat.le_trans SZ3.out V1.size)
          clear hw hI GT
          go_upto_region 10 with (fail)
          obtain ⟨w4, hw4⟩ : ∃ z, w3.alloc (.cells #[.int .i64 o.t, .int .i64 o.r, .int .i64 o.q, .int .i64 o.nt, .int .i64 o.nr, .int .i64 o.pt, .int .i64 o.pr, .string o.nm, .bool o.d] 25) = z := ⟨_, rfl⟩
          rw [hw4] at BX OW4 K4 R4 SZ4 ⊢
          obtain ⟨b8, hb8⟩ : ∃ z, w3.heap.size = z := ⟨_, rfl⟩
          rw [hb8] at BX ⊢
          clear hw4 hb8 V1 OW K3 R3 SZ3 c2 q1 SZ
          obtain ⟨d0, _⟩ := row_cells BX.out (j := 0) rfl
          obtain ⟨d1, _⟩ := row_cells BX.out (j := 1) rfl
          obtain ⟨d2, _⟩ := row_cells BX.out (j := 2) rfl
          obtain ⟨d3, _⟩ := row_cells BX.out (j := 3) rfl
          obtain ⟨d4, _⟩ := row_cells BX.out (j := 4) rfl
          obtain ⟨d5, _⟩ := row_cells BX.out (j := 5) rfl
          obtain ⟨d6, _⟩ := row_cells BX.out (j := 6) rfl
          obtain ⟨d7, _⟩ := row_cells BX.out (j := 7) rfl
          obtain ⟨d8, _⟩ := row_cells BX.out (j := 8) rfl
          have hX := vstep w4 (.cells #[.int .i64 o.t, .int .i64 o.r, .int .i64 o.q, .int .i64 o.nt, .int .i64 o.nr, .int .i64 o.pt, .int .i64 o.pr, .string o.nm, .bool o.d] 25)
          have OW5 := Lib.hid (own_below OW4.out hX)
          have FINF := Lib.hid (fun v' w5 (ho5 : w5.ownsRow (g + 1) 25 9 v' ((opsS k s1).1.length + 1) (cs9 (opsS k s1).1 ++ cs9 [o])) (hg5 : (w4.alloc (.cells #[.int .i64 o.t, .int .i64 o.r, .int .i64 o.q, .int .i64 o.nt, .int .i64 o.nr, .int .i64 o.pt, .int .i64 o.pr, .string o.nm, .bool o.d] 25)).grownBy w5 (Value.slice lo (opsS k s1).1.length lc).ownBlock) => show PI7 w w5 g g (.slice ao bs.length cap) bs (opsS (k + 1) s1).2 v' (opsS (k + 1) s1).1 ∧ g + 1 ≤ w5.heap.size from by
            have hb4 : Below (g + 1) w4 w5 := ((Below.refl (g + 1) w4).alloc SZ4.out _).trans ((Below.refl (g + 1) _).grown hg5 (Nat.le_trans SZ4.out hX.size) (fun k hk => (OW4.out.lt k hk).1))
            rw [NX.out]
            exact ⟨⟨rs_keep R4.out (Nat.le_succ _) hb4, K4.out.trans (hb4.mono (Nat.le_succ _)), by rw [List.length_append, cs9_append]; exact ho5⟩, Nat.le_trans SZ4.out hb4.size⟩)
          have bso := bs_op w4 o
          have SR := Lib.hid (one_op w4 o).src
          have Q := Lib.hid (show (opsS k s1).1.length + 1 ≤ maxLen ∧ ((opsS k s1).1.length + 1) * 80 ≤ 140737488355328 ∧ g + 1 ≤ (w4.alloc (.cells #[.int .i64 o.t, .int .i64 o.r, .int .i64 o.q, .int .i64 o.nt, .int .i64 o.nr, .int .i64 o.pt, .int .i64 o.pr, .string o.nm, .bool o.d] 25)).heap.size from ⟨by have := LN.out; unfold maxLen; omega, by have := LN.out; omega, Nat.le_trans SZ4.out hX.size⟩)
          clear NX LN hX
          go_wp2_with (at_builtin; refine Wi.wpList_append_src_own rfl (.tmp 39) (.tmp 41) 27 27 rfl (g + 1) 25 i0 (oV O0) 9 80 Tryd.u27 hi9 hz0 hz1 hz2 rfl (by decide) _ _ _ rfl OW5.out _ 1 (cs9 [o]) rfl SR.out Q.out.1 Q.out.2.1 Q.out.2.2 ?_; intro v' w5 hown hgr hsp; obtain ⟨ra, rc, rfl⟩ := Wi.own_shape hown; have FIN := Lib.hid (FINF.out _ w5 hown hgr); clear hown hgr hsp)
          go_roundw
          case rel => exact ⟨k + 1, by go_num, by omega, FIN⟩
          case measure => simp [intOf]; omega
        · have q1 := eqbF _ _ hbad
          have E := Lib.hid (show R = ([], (opsS k s1).2.bad) from by
            have e := ops_stay hbad m (by omega)
            rw [E1.out, e, fin_bad hbad, if_pos hbad])
          rw [fin_bad hbad] at EN
          have q2 := nebT _ _ hbad
          have KK := Lib.hid (And.intro hI.out.bel SZ.out)
          obtain ⟨bb, hbb⟩ : ∃ bb, (opsS k s1).2.bad = bb := ⟨_, rfl⟩
          rw [hbb] at E EN q1 q2 c2
          clear hbad hbb hI
          go_wp2_with fail
          refine EN.out.mono ?_
          rintro e w4 ⟨rfl, _, hKr⟩
          have K4 := Lib.hid (KK.out.1.trans (hKr.below (Nat.le_refl _) (by have := KK.out.2; omega)))
          clear hKr c2 q1
          go_wp2
          go_returns
          exact ⟨.slice none 0 0, ret_pp (by rw [E.out]), by rw [E.out]; exact OLies.nil _, by rw [HG.out]; exact K4.out⟩
      · have hkm : k = m := by omega
        subst hkm
        obtain ⟨fb, hfb0⟩ : ∃ fb, (opsS k s1).2.fin.bad = fb := ⟨_, rfl⟩
        rw [hfb0] at EN E1
        have LE := Lib.hid (fun (W : World) (hK : Kr wr W g) => own_olies (own_kr2 hI.out.own hK (Nat.lt_succ_self _)))
        have KK := Lib.hid (And.intro hI.out.bel SZ.out)
        obtain ⟨lm, hlm⟩ : ∃ lm, (opsS k s1).1 = lm := ⟨_, rfl⟩
        rw [hlm] at LE E1
        simp only [hlm]
        have hge : ¬ ((k : Int) < (k : Int)) := by omega
        clear hI hlm hfb0
        go_wp2_with fail
        refine EN.out.mono ?_
        rintro e w4 ⟨rfl, _, hKr⟩
        have K4 := Lib.hid (KK.out.1.trans (hKr.below (Nat.le_refl _) (by have := KK.out.2; omega)))
        have L4 := Lib.hid (LE.out _ hKr)
        clear hKr c2 EN LE
        by_cases hfb : fb = 0
        · have E := Lib.hid (show R = (lm, 0) from by rw [E1.out, if_neg (by simpa using hfb)])
          have t1 := nebF fb 0 hfb
          clear hfb
          go_wp2
          go_returns
          exact ⟨_, ret_pp (by rw [E.out]), by rw [E.out]; exact L4.out, by rw [HG.out]; exact K4.out⟩
        · have E := Lib.hid (show R = ([], fb) from by rw [E1.out, if_pos (by simpa using hfb)])
          have t1 := nebT fb 0 hfb
          clear hfb
          go_wp2
          go_returns
          exact ⟨.slice none 0 0, ret_pp (by rw [E.out]), by rw [E.out]; exact OLies.nil _, by rw [HG.out]; exact K4.out⟩
end Go.Proofs.YtifeakmbeaflgaaDoor
