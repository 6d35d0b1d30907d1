/- fold.Idle. Made by genfb15.py. -/
import Derived.Test.YtbeodechhneeeaaGreatDoorFB
set_option linter.unusedVariables false
set_option linter.unusedSimpArgs false
set_option maxRecDepth 100000
namespace Go.Proofs.YtbeodechhneeeaaGreatDoor
open Go.RowKit Go.Shelf
open Tb (Rw setF getF aboveF Rise TabI TM TOut LiesK LiesR ltS encS Sp)


set_option maxHeartbeats 12800000 in
theorem playIdle_any (w00 w : World) (h00 : Below w00.heap.size w00 w) (v : Value) (l : List O) (h : OLies w v l) (hok : ∀ o ∈ l, OkO o) (hsz : ∀ o ∈ l, o.nm.size ≤ 9223372036854775807) (hl : l.length ≤ 1000) (hu : (uniqF l).length ≤ 79) (ib : Nat) (h0b : w00.heap.size ≤ ib) (hib : w.heap[ib]? = some (.cells #[.slice none 0 0] 34 (0, 0))) :
    Calls Tryz.prog 37 #[v, .func (.func 38) #[] #[.pointer (some ⟨ib, 0, none⟩)]] w fun e w' => ∃ q mb, e = .returned (.pointer (some ⟨q, 0, none⟩)) ∧ TabI w' q mb (playF [] (setO l)) ∧ w00.heap.size ≤ q ∧ w00.heap.size ≤ mb ∧ Below w00.heap.size w00 w' ∧ ∃ iv, IDI w00 w' ib iv (idleF [] (setO l)) := by
  have H := Lib.hid h
  have NT := Lib.hid (fun W => Tb.new_any W)
  have ST := Lib.hid (fun W (hW : Below w.heap.size w W) => fset_any W v l (h.step hW) hok hsz hl hu)
  obtain ⟨ao, cap, rfl⟩ := h.shape
  have SOK := Lib.hid (show ∀ x ∈ setO l, OkO x from fun x hx => hok x ((uniq_is l).mem x (srt_mem hx)))
  have SLN := Lib.hid (show (setO l).length ≤ 79 from by show (srtO (uniqF l)).length ≤ 79; rw [srtO_len]; exact hu)
  obtain ⟨SS, hSS⟩ : ∃ z, setO l = z := ⟨_, rfl⟩
  rw [hSS] at SOK SLN ST
  try rw [hSS]
  clear h hok hsz hl hu hSS
  go_enter Tryz.func37, Tryz.ntmps37
  go_wp2_with fail
  refine (NT.out w).mono ?_
  rintro e w1 ⟨q, mb, rfl, ht, hq, hm, hb1⟩
  have T1 := Lib.hid (And.intro ht (And.intro hb1 (And.intro hq hm)))
  clear ht hb1 hq hm NT
  go_wp2_with fail
  refine (ST.out w1 T1.out.2.1).mono ?_
  rintro e w2 ⟨rv, rfl, hown, hb2⟩
  have B12 := Lib.hid (T1.out.2.1.trans (hb2.mono T1.out.2.1.size))
  have J0 := Lib.hid (show PLI w00 w2 q mb (playF [] (SS.take 0)) rv SS from ⟨h00.trans (B12.out.mono h00.size), T1.out.1.step hb2, ⟨Nat.le_trans h00.size T1.out.2.2.1, Nat.le_trans h00.size T1.out.2.2.2⟩, own_base hown (Nat.le_trans h00.size T1.out.2.1.size)⟩)
  have J0 := Lib.hid (And.intro J0.out (show ∃ iv, IDI w00 w2 ib iv (idleF [] (SS.take 0)) from ⟨_, (B12.out.block _ (pl_lt hib)).trans hib, World.ownsRow_nil _ _ _ _, h0b⟩))
  obtain ⟨ra, rc, hrv⟩ := Ve.own_shape hown
  subst hrv
  clear hown hb2 T1 ST B12
  go_wp2_with fail
  go_loopw [13] (fun iv wr => ∃ i : Nat, iv = .int .i64 i ∧ i ≤ SS.length ∧ Hid (PLI w00 wr q mb (playF [] (SS.take i)) (.slice ra SS.length rc) SS ∧ ∃ iv, IDI w00 wr ib iv (idleF [] (SS.take i)))) (fun iv _ => SS.length - (intOf iv).toNat)
  case atStart => exact ⟨0, rfl, Nat.zero_le _, J0⟩
  case round =>
    clear J0
    obtain ⟨i, rfl, hi, K⟩ := hrel
    by_cases hlt : i < SS.length
    · have hi0 : (0 : Int) ≤ (i : Int) := by omega
      have hi1 : (i : Int) < (SS.length : Int) := by omega
      have hd : decide ((i : Int) < (SS.length : Int)) = true := decide_eq_true hi1
      have HL1 := Lib.hid (show i + 1 ≤ SS.length from hlt)
      have HW9 := Lib.hid (wrap_nat hlt (show SS.length ≤ 100000 by have := SLN.out; omega))
      have HMS := Lib.hid (meas_nat hlt)
      obtain ⟨g, k, x, e7, hx, hg, hc⟩ := (own_olies K.out.1.set).atK hlt
      subst e7
      have OKX := Lib.hid (SOK.out x (List.mem_of_getElem? hx))
      have LX := Lib.hid (@ldO wr g (k + i * 9) x hc)
      have PS := Lib.hid (play_snoc ([] : List Rw) hx)
      have IS := Lib.hid (idle_snoc ([] : List Rw) hx)
      have LI := Lib.hid (show (idleF [] (SS.take i)).length ≤ 1000 from by have := idle_len (SS.take i) []; have := SLN.out; rw [List.length_take] at *; omega)
      obtain ⟨II, hII⟩ : ∃ z, idleF [] (SS.take i) = z := ⟨_, rfl⟩
      rw [hII] at IS LI K
      clear hII
      have LT := Lib.hid (show (playF [] (SS.take i)).length < 1000 from by have := play_len (SS.take i) []; have := SLN.out; rw [List.length_take] at *; simp at *; omega)
      obtain ⟨T, hT⟩ : ∃ z, playF [] (SS.take i) = z := ⟨_, rfl⟩
      rw [hT] at PS LT K IS
      clear hx hg hc hT
      have N5 := heap_alloc_new wr (.cells #[.int .i64 x.t, .int .i64 x.r, .int .i64 x.q, .int .i64 x.nt, .int .i64 x.nr, .int .i64 x.pt, .int .i64 x.pr, .string x.nm, .bool x.d] 33)
      have B5 := pl_vstep wr (.cells #[.int .i64 x.t, .int .i64 x.r, .int .i64 x.q, .int .i64 x.nt, .int .i64 x.nr, .int .i64 x.pt, .int .i64 x.pr, .string x.nm, .bool x.d] 33)
      have K5 := Lib.hid (And.intro (K.out.1.step B5) (K.out.2.imp fun _ h => h.step B5))
      go_upto_region 5 with (first
        | (refine Ve.wpList_load_arr rfl (.tmp 15) 33 rfl (.pointer (some ⟨g, k + i * 9, none⟩)) (.agg #[.int .i64 x.t, .int .i64 x.r, .int .i64 x.q, .int .i64 x.nt, .int .i64 x.nr, .int .i64 x.pt, .int .i64 x.pr, .string x.nm, .bool x.d]) rfl LX.out ?_))
      obtain ⟨w5, hw5⟩ : ∃ z, wr.alloc (.cells #[.int .i64 x.t, .int .i64 x.r, .int .i64 x.q, .int .i64 x.nt, .int .i64 x.nr, .int .i64 x.pt, .int .i64 x.pr, .string x.nm, .bool x.d] 33) = z := ⟨_, rfl⟩
      obtain ⟨bx, hbx⟩ : ∃ z, wr.heap.size = z := ⟨_, rfl⟩
      rw [hw5, hbx] at N5
      rw [hw5] at K5
      rw [hw5]
      try rw [hbx]
      have N5 := Lib.hid N5
      clear hw5 hbx LX K B5
      have SK := Lib.hid (show skipF T x = (decide (x.nt = x.pt ∧ x.nr = x.pr) || aboveF T x.nt x.nr T.length x.pt x.pr) from rfl)
      have DF := Lib.hid (show doF T x = if skipF T x = true then T else setF T (rwO x) from rfl)
      have AB := Lib.hid (Tb.above_any w5 q mb T K5.out.1.tab (by have := LT.out; omega) x.nt x.nr x.pt x.pr OKX.out.pt OKX.out.pr)
      obtain ⟨sk, hsk⟩ : ∃ z, skipF T x = z := ⟨_, rfl⟩
      have HSK := Lib.hid hsk
      rw [hsk] at SK DF
      clear hsk
      obtain ⟨c0, c1, c2, c3, c4, c5, c6, c7, c8⟩ := cell9 N5.out
      go_cut [8] from 17 to 29 (fun xv wx => xv = .bool sk ∧ Hid (Below w5.heap.size w5 wx))
      case first =>
        by_cases hq : x.nt = x.pt ∧ x.nr = x.pr
        · have E1 := Lib.hid (show sk = true by rw [SK.out, decide_eq_true hq]; rfl)
          obtain ⟨u1, u2⟩ := yes2 hq
          clear hq SK AB
          go_wp2_with fail
          go_meet
          exact ⟨by rw [E1.out], Lib.hid (Below.refl _ _)⟩
        · have E1 := Lib.hid (show sk = aboveF T x.nt x.nr T.length x.pt x.pr by rw [SK.out, decide_eq_false hq]; rfl)
          have hn := no2 hq
          clear hq SK
          rw [← E1.out] at AB
          rcases hn with u1 | ⟨u1, u2⟩
          all_goals
            go_wp2_with fail
            refine AB.out.mono ?_
            rintro e wy ⟨rfl, hb⟩
            have HB := Lib.hid hb
            clear hb
            go_wp2_with fail
            go_meet
            exact ⟨rfl, HB⟩
      case rest =>
        obtain ⟨rfl, HB⟩ := hcut
        clear c0 c1 c2 c3 c4 c5 c6 c7 c8 AB SK
        rename_i wc
        have K6 := Lib.hid (And.intro (K5.out.1.step HB.out) (K5.out.2.imp fun _ h => h.step HB.out))
        have N6 := Lib.hid ((HB.out.block _ (pl_lt N5.out)).trans N5.out)
        clear HB K5 N5
        cases sk with
        | true =>
          have E2 := Lib.hid (show playF [] (SS.take (i + 1)) = T from by rw [PS.out, DF.out, if_pos rfl])
          obtain ⟨c0, c1, c2, c3, c4, c5, c6, c7, c8⟩ := cell9 N6.out
          obtain ⟨iv, ki⟩ := K6.out.2
          have CL := Lib.hid (idle1_any wc w00.heap.size ib iv II K6.out.1.bel.size ki.box ki.row LI.out x false)
          have KI := Lib.hid ki
          clear ki
          go_wp2_with fail
          refine CL.out.mono ?_
          rintro e w8 ⟨rfl, hz⟩
          have KF := Lib.hid (show PLI w00 w8 q mb (playF [] (SS.take (i + 1))) (.slice (some ⟨g, k, none⟩) SS.length rc) SS ∧ ∃ iv, IDI w00 w8 ib iv (idleF [] (SS.take (i + 1))) from by
            rw [E2.out, IS.out, HSK.out]
            exact K6.out.1.far KI.out hz)
          clear hz CL KI
          go_wp2_with fail
          go_roundw
          case rel => exact ⟨i + 1, by first | (rw [HW9.out]; rfl) | go_num, HL1.out, KF⟩
          case measure => first | (rw [HW9.out]; exact HMS.out) | exact HMS.out
        | false =>
          have SE := Lib.hid (Tb.set_any wc q mb T K6.out.1.tab (by have := LT.out; omega) (rwO x) ⟨OKX.out.nt, OKX.out.nr, OKX.out.pt, OKX.out.pr⟩)
          unfold rwO at SE
          dsimp only at SE
          have E2 := Lib.hid (show playF [] (SS.take (i + 1)) = setF T (rwO x) from by rw [PS.out, DF.out, if_neg (by simp)])
          obtain ⟨c0, c1, c2, c3, c4, c5, c6, c7, c8⟩ := cell9 N6.out
          go_wp2_with fail
          refine SE.out.mono ?_
          rintro e w7 ⟨rfl, ho⟩
          have N7 := Lib.hid ((ho.grow.block _ (pl_lt N6.out) (fun e => by injection e with e; exact map_ne N6.out K6.out.1.tab.map e)).trans N6.out)
          have K7 := Lib.hid (And.intro (K6.out.1.put ho) (K6.out.2.imp fun _ h => h.put K6.out.1.tab.map ho))
          clear c0 c1 c2 c3 c4 c5 c6 c7 c8 ho SE K6 N6
          obtain ⟨c0, c1, c2, c3, c4, c5, c6, c7, c8⟩ := cell9 N7.out
          obtain ⟨iv, ki⟩ := K7.out.2
          have CL := Lib.hid (idle1_any w7 w00.heap.size ib iv II K7.out.1.bel.size ki.box ki.row LI.out x true)
          have KI := Lib.hid ki
          clear ki
          go_wp2_with fail
          refine CL.out.mono ?_
          rintro e w8 ⟨rfl, hz⟩
          have KF := Lib.hid (show PLI w00 w8 q mb (playF [] (SS.take (i + 1))) (.slice (some ⟨g, k, none⟩) SS.length rc) SS ∧ ∃ iv, IDI w00 w8 ib iv (idleF [] (SS.take (i + 1))) from by
            rw [E2.out, IS.out, HSK.out]
            exact K7.out.1.far KI.out hz)
          clear hz CL KI
          go_wp2_with fail
          go_roundw
          case rel => exact ⟨i + 1, by first | (rw [HW9.out]; rfl) | go_num, HL1.out, KF⟩
          case measure => first | (rw [HW9.out]; exact HMS.out) | exact HMS.out
    · have ei : i = SS.length := by omega
      subst ei
      have FIN := Lib.hid K.out
      simp only [List.take_length] at FIN ⊢
      clear K
      go_wp2
      go_returns
      exact ⟨_, _, rfl, FIN.out.1.tab, FIN.out.1.hq.1, FIN.out.1.hq.2, FIN.out.1.bel, FIN.out.2⟩

set_option maxHeartbeats 3200000 in
theorem fof_any (w : World) (v : Value) (l : List O) (h : OLies w v l) (hok : ∀ o ∈ l, OkO o) (hsz : ∀ o ∈ l, o.nm.size ≤ 9223372036854775807) (hl : l.length ≤ 1000) (hu : (uniqF l).length ≤ 79) :
    Calls Tryz.prog 16 #[v] w fun e w' => ∃ q mb, e = .returned (.pointer (some ⟨q, 0, none⟩)) ∧ TabI w' q mb (playF [] (setO l)) ∧ w.heap.size ≤ q ∧ w.heap.size ≤ mb ∧ Below w.heap.size w w' := by
  have C := Lib.hid (playOf_any w w (Below.refl _ _) v l h hok hsz hl hu)
  obtain ⟨ao, cap, rfl⟩ := h.shape
  clear h hok hsz
  go_enter Tryz.func16, Tryz.ntmps16
  go_wp2_with fail
  refine C.out.mono ?_
  rintro e w1 ⟨q, mb, rfl, h1, h2, h3, hb⟩
  have F := Lib.hid (And.intro h1 (And.intro h2 (And.intro h3 hb)))
  clear h1 h2 h3 hb
  go_wp2
  go_returns
  exact ⟨_, _, rfl, F.out.1, F.out.2.1, F.out.2.2.1, F.out.2.2.2⟩
set_option maxHeartbeats 3200000 in
theorem fidle_any (w : World) (v : Value) (l : List O) (h : OLies w v l) (hok : ∀ o ∈ l, OkO o) (hsz : ∀ o ∈ l, o.nm.size ≤ 9223372036854775807) (hl : l.length ≤ 1000) (hu : (uniqF l).length ≤ 79) :
    Calls Tryz.prog 10 #[v] w fun e w' => ∃ r, e = .returned r ∧ LiesK encS 2 w' r (idleF [] (setO l)) ∧ Below w.heap.size w w' := by
  have B1 := pl_vstep w (.cells #[.slice none 0 0] 34)
  have N1 := heap_alloc_new w (.cells #[.slice none 0 0] 34)
  have C := Lib.hid (playIdle_any w _ B1 v l (h.step B1) hok hsz hl hu w.heap.size (Nat.le_refl _) N1)
  obtain ⟨ao, cap, rfl⟩ := h.shape
  clear h hok hsz B1 N1
  go_enter Tryz.func10, Tryz.ntmps10
  go_wp2_with fail
  refine C.out.mono ?_
  rintro e w1 ⟨q, mb, rfl, h1, h2, h3, hb, iv, ki⟩
  obtain ⟨ia, ic, hiv⟩ := Tb.own_shapeK ki.row
  have L1 := Lib.hid (ldSl ki.box hiv)
  have F := Lib.hid (show LiesK encS 2 w1 (.slice ia (idleF [] (setO l)).length ic) (idleF [] (setO l)) ∧ Below w.heap.size w w1 from ⟨by rw [← hiv]; exact Tb.own_liesK (enc := encS) (k := 2) (fun _ => rfl) ki.row, hb⟩)
  clear h1 h2 h3 hb ki hiv
  go_wp2_with (first | (refine Ve.wpList_load_arr rfl (.tmp 3) 34 rfl (.pointer (some ⟨w.heap.size, 0, none⟩)) (.slice ia (idleF [] (setO l)).length ic) rfl L1.out ?_))
  go_returns
  exact ⟨_, rfl, F.out.1, F.out.2⟩
end Go.Proofs.YtbeodechhneeeaaGreatDoor

