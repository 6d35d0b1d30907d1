/- fold.rooted, Honest. Made by genfe15.py. -/
import Derived.Test.YtbeodechhneeeaaGreatDoorFD
set_option linter.unusedVariables false
set_option linter.unusedSimpArgs false
set_option maxRecDepth 100000
namespace Go.Proofs.YtbeodechhneeeaaGreatDoor
open Go.RowKit Go.Shelf
open Tb (Rw setF getF aboveF Rise TabI TM LiesK LiesR ltS encS Sp)
open Vx (zs)

theorem zeroOp (w : World) : (zeroValue 33).run Tryz.prog w = .ok (oV O0) w := by kernel_rfl
theorem und93 : Tryz.prog.underlying 110 = some (.map 31 33) := by kernel_rfl
def isMk (x : O) : Prop := x.t = x.nt ∧ x.r = x.nr
instance (x : O) : Decidable (isMk x) := by unfold isMk; infer_instance
abbrev GF := Int → Int → Option O
def gx (g : GF) (x : O) : GF := if isMk x then (fun a b => if a = x.t ∧ b = x.r then some x else g a b) else g
def gF (L : List O) : GF := L.foldl gx (fun _ _ => none)
noncomputable def mF (g : GF) : Ms.PF := fun t r => (g t r).map oV
theorem g_snoc {L : List O} {i : Nat} {x : O} (h : L[i]? = some x) : gF (L.take (i + 1)) = gx (gF (L.take i)) x := by
  obtain ⟨h1, h2⟩ := List.getElem?_eq_some_iff.1 h
  unfold gF
  rw [List.take_succ_eq_append_getElem h1, h2, List.foldl_append]
  rfl
theorem m_upd (g : GF) (x : O) (h : isMk x) : Ms.upd (mF g) x.t x.r (oV x) = mF (gx g x) := by
  funext a c
  unfold Ms.upd mF gx
  rw [if_pos h]
  by_cases e : a = x.t ∧ c = x.r
  · rw [if_pos e]
    show some (oV x) = (if a = x.t ∧ c = x.r then some x else g a c).map oV
    rw [if_pos e]
    rfl
  · rw [if_neg e]
    show _ = (if a = x.t ∧ c = x.r then some x else g a c).map oV
    rw [if_neg e]
theorem m_look (g : GF) (t r : Int) : (mF g t r).getD (oV O0) = oV ((g t r).getD O0) ∧ (mF g t r).isSome = (g t r).isSome := by
  unfold mF
  cases g t r <;> exact ⟨rfl, rfl⟩
theorem kind_mk {x : O} (h : isMk x) : kindI x.t x.r x.nt x.nr x.pt x.pr = 1 := if_pos h
theorem kind_no {x : O} (h : ¬ isMk x) : kindI x.t x.r x.nt x.nr x.pt x.pr ≠ 1 := by
  unfold kindI
  rw [if_neg (show ¬ (x.t = x.nt ∧ x.r = x.nr) from h)]
  split <;> omega
noncomputable def okR (g : GF) (x : O) : Bool := ((g x.nt x.nr).isSome && (((g x.nt x.nr).getD O0).d == x.d)) && (resB x.pt x.pr || ((g x.pt x.pr).isSome && ((g x.pt x.pr).getD O0).d))
noncomputable def rootB (S : List O) : Bool := S.all (okR (gF S))
theorem root_no {S : List O} {x : O} (h : x ∈ S) (hx : okR (gF S) x = false) : rootB S = false := by
  cases hq : rootB S with
  | false => rfl
  | true => have := List.all_eq_true.1 hq x h; rw [hx] at this; cases this
/-- rooted's map. -/
structure RTI (w W : World) (mb : Nat) (g : GF) (n : Nat) : Prop where
  bel : Below w.heap.size w W
  map : Ms.FM (oV O0) W mb n (mF g)
  hmb : w.heap.size ≤ mb
theorem RTI.step {w W W' : World} {mb : Nat} {g : GF} {n : Nat} (h : RTI w W mb g n) (hb : Below W.heap.size W W') : RTI w W' mb g n := ⟨h.bel.trans (hb.mono h.bel.size), h.map.step hb, h.hmb⟩
theorem RTI.up {w W : World} {mb : Nat} {g : GF} {n : Nat} (h : RTI w W mb g n) : RTI w W mb g (n + 1) := ⟨h.bel, by obtain ⟨D, ⟨es, clock, hb, F, hs, hD⟩, h2⟩ := h.map; exact ⟨D, ⟨es, clock, hb, F, Nat.le_succ_of_le hs, hD⟩, h2⟩, h.hmb⟩
theorem RTI.put {w W : World} {mb : Nat} {g : GF} {n : Nat} (h : RTI w W mb g n) (x : O) (hx : OkO x) (hm : isMk x) (hn : n < 100000) :
    ∃ W', (Instr.mapUpdate 110 (.map (some mb)) (.agg #[.int .i64 x.t, .int .i64 x.r]) (.agg #[.int .i64 x.t, .int .i64 x.r, .int .i64 x.q, .int .i64 x.nt, .int .i64 x.nr, .int .i64 x.pt, .int .i64 x.pr, .string x.nm, .bool x.d])).run Tryz.prog W = .ok () W' ∧ RTI w W' mb (gx g x) (n + 1) := by
  obtain ⟨W', h1, h2, h3⟩ := h.map.put und93 (by unfold maxLen; omega) hx.t hx.r (oV x)
  rw [m_upd g x hm] at h2
  exact ⟨W', h1, h.bel.grown h3 h.bel.size (fun k e => by injection e with e; rw [← e]; exact h.hmb), h2, h.hmb⟩
theorem RTI.look {w W : World} {mb : Nat} {g : GF} {n : Nat} (h : RTI w W mb g n) {t r : Int} (ht : Tb.I64 t) (hr : Tb.I64 r) :
    (Instr.lookup 110 (.map (some mb)) (.agg #[.int .i64 t, .int .i64 r]) true).run Tryz.prog W = .ok (.tuple #[oV ((g t r).getD O0), .bool (g t r).isSome]) W := by
  have := h.map.look und93 zeroOp ht hr
  rw [(m_look g t r).1, (m_look g t r).2] at this
  exact this
set_option maxHeartbeats 12800000 in
theorem rooted_any (w : World) (v : Value) (SS : List O) (h : OLies w v SS) (hok : ∀ x ∈ SS, OkO x) (hl : SS.length ≤ 1000) :
    Calls Tryz.prog 43 #[v] w fun e w' => e = .returned (.bool (rootB SS)) ∧ Below w.heap.size w w' := by
  have hmm := @run_makeMap Tryz.prog
  have H := Lib.hid h
  have HOK := Lib.hid hok
  have J0 := Lib.hid (show RTI w (w.alloc (.map #[] 0)) w.heap.size (gF (SS.take 0)) 0 from ⟨pl_vstep w _, Ms.FM.made w, Nat.le_refl _⟩)
  obtain ⟨ao, cap, rfl⟩ := h.shape
  clear h hok
  go_enter Tryz.func43, Tryz.ntmps43
  go_upto_region 2 with (fail)
  obtain ⟨wS, hwS⟩ : ∃ z, w.alloc (.map #[] 0) = z := ⟨_, rfl⟩
  obtain ⟨mb, hmb⟩ : ∃ z, w.heap.size = z := ⟨_, rfl⟩
  rw [hwS] at J0
  rw [hwS]
  have J0 : Hid (RTI w wS mb (gF (SS.take 0)) 0) := by rw [← hmb]; exact J0
  rw [hmb]
  clear hwS hmb
  go_wp2_with fail
  go_loopw [15] (fun iv wr => ∃ i : Nat, iv = .int .i64 i ∧ i ≤ SS.length ∧ Hid (RTI w wr mb (gF (SS.take i)) i)) (fun iv _ => SS.length - (intOf iv).toNat)
  case atStart => exact ⟨0, rfl, Nat.zero_le _, J0⟩
  case round =>
    clear J0
    obtain ⟨i, rfl, hi, K⟩ := hrel
    by_cases hlt : i < SS.length
    · have hi0 : (0 : Int) ≤ (i : Int) := by omega
      have hi1 : (i : Int) < (SS.length : Int) := by omega
      have hd : decide ((i : Int) < (SS.length : Int)) = true := decide_eq_true hi1
      have HL1 := Lib.hid (show i + 1 ≤ SS.length from hlt)
      have HW9 := Lib.hid (wrap_nat hlt (show SS.length ≤ 100000 by omega))
      have HMS := Lib.hid (meas_nat hlt)
      obtain ⟨g, k, x, e7, hx, hg, hc⟩ := (H.out.step K.out.bel).atK hlt
      subst e7
      have OKX := Lib.hid (HOK.out x (List.mem_of_getElem? hx))
      have LX := Lib.hid (@ldO wr g (k + i * 9) x hc)
      have GS := Lib.hid (g_snoc hx)
      have KC := Lib.hid (fun W => kind_any W x.t x.r x.q x.nt x.nr x.pt x.pr x.nm x.d)
      clear hx hg hc
      have N5 := heap_alloc_new wr (.cells #[.int .i64 x.t, .int .i64 x.r, .int .i64 x.q, .int .i64 x.nt, .int .i64 x.nr, .int .i64 x.pt, .int .i64 x.pr, .string x.nm, .bool x.d] 33)
      have K5 := Lib.hid (K.out.step (pl_vstep wr (.cells #[.int .i64 x.t, .int .i64 x.r, .int .i64 x.q, .int .i64 x.nt, .int .i64 x.nr, .int .i64 x.pt, .int .i64 x.pr, .string x.nm, .bool x.d] 33)))
      go_upto_region 5 with (first
        | (refine Ve.wpList_load_arr rfl (.tmp 17) 33 rfl (.pointer (some ⟨g, k + i * 9, none⟩)) (.agg #[.int .i64 x.t, .int .i64 x.r, .int .i64 x.q, .int .i64 x.nt, .int .i64 x.nr, .int .i64 x.pt, .int .i64 x.pr, .string x.nm, .bool x.d]) rfl LX.out ?_))
      obtain ⟨w5, hw5⟩ : ∃ z, wr.alloc (.cells #[.int .i64 x.t, .int .i64 x.r, .int .i64 x.q, .int .i64 x.nt, .int .i64 x.nr, .int .i64 x.pt, .int .i64 x.pr, .string x.nm, .bool x.d] 33) = z := ⟨_, rfl⟩
      obtain ⟨bx, hbx⟩ : ∃ z, wr.heap.size = z := ⟨_, rfl⟩
      rw [hw5, hbx] at N5
      rw [hw5] at K5
      rw [hw5]
      try rw [hbx]
      have N5 := Lib.hid N5
      clear hw5 hbx LX K
      obtain ⟨c0, c1, c2, c3, c4, c5, c6, c7, c8⟩ := cell9 N5.out
      by_cases hm : isMk x
      · rw [kind_mk hm] at KC
        have GE := Lib.hid (GS.out.trans (show gx (gF (SS.take i)) x = gx (gF (SS.take i)) x from rfl))
        have HM := Lib.hid hm
        clear hm
        go_wp2_with fail
        refine (KC.out w5).mono ?_
        rintro e w6 ⟨rfl, hb⟩
        have N6 := Lib.hid ((hb.block _ (pl_lt N5.out)).trans N5.out)
        obtain ⟨w7, hrun, k7⟩ := (K5.out.step hb).put x OKX.out HM.out (by omega)
        have MU := Lib.hid hrun
        have K7 := Lib.hid (show RTI w w7 mb (gF (SS.take (i + 1))) (i + 1) from by rw [GE.out]; exact k7)
        clear hb hrun k7 K5 N5 KC c0 c1 c2 c3 c4 c5 c6 c7 c8
        obtain ⟨c0, c1, c2, c3, c4, c5, c6, c7, c8⟩ := cell9 N6.out
        go_wp2_with (first
          | (refine wpList_mupd rfl (.tmp 22) (.tmp 24) (.tmp 25) 110 rfl (.map (some mb)) (.agg #[.int .i64 x.t, .int .i64 x.r]) (.agg #[.int .i64 x.t, .int .i64 x.r, .int .i64 x.q, .int .i64 x.nt, .int .i64 x.nr, .int .i64 x.pt, .int .i64 x.pr, .string x.nm, .bool x.d]) rfl rfl rfl w7 MU.out ?_))
        go_roundw
        case rel => exact ⟨i + 1, by first | (rw [HW9.out]; rfl) | go_num, HL1.out, K7⟩
        case measure => first | (rw [HW9.out]; exact HMS.out) | exact HMS.out
      · have GE := Lib.hid (GS.out.trans (show gx (gF (SS.take i)) x = gF (SS.take i) from if_neg hm))
        have hk1 := kind_no hm
        obtain ⟨kk, hkk⟩ : ∃ z, kindI x.t x.r x.nt x.nr x.pt x.pr = z := ⟨_, rfl⟩
        rw [hkk] at KC hk1
        have hk2 := Tb.bneb_ kk 1 hk1
        clear hm hkk hk1
        go_wp2_with fail
        refine (KC.out w5).mono ?_
        rintro e w6 ⟨rfl, hb⟩
        have K7 := Lib.hid (show RTI w w6 mb (gF (SS.take (i + 1))) (i + 1) from by rw [GE.out]; exact (K5.out.step hb).up)
        clear hb K5 N5 KC c0 c1 c2 c3 c4 c5 c6 c7 c8
        go_wp2_with fail
        go_roundw
        case rel => exact ⟨i + 1, by first | (rw [HW9.out]; rfl) | go_num, HL1.out, K7⟩
        case measure => first | (rw [HW9.out]; exact HMS.out) | exact HMS.out
    · have ei : i = SS.length := by omega
      subst ei
      have K1 := Lib.hid (show RTI w wr mb (gF SS) SS.length from by have := K.out; rwa [List.take_length] at this)
      clear K
      generalize wr = wb at *
      obtain ⟨GG, hGG⟩ : ∃ z, gF SS = z := ⟨_, rfl⟩
      rw [hGG] at K1
      have HGG := Lib.hid hGG
      clear hGG
      go_wp2_with fail
      go_loopw [29] (fun iv wr => ∃ i : Nat, iv = .int .i64 i ∧ i ≤ SS.length ∧ Hid (RTI w wr mb GG SS.length ∧ ∀ y ∈ SS.take i, okR GG y = true)) (fun iv _ => SS.length - (intOf iv).toNat)
      case atStart => exact ⟨0, rfl, Nat.zero_le _, Lib.hid ⟨K1.out, fun y hy => by cases hy⟩⟩
      case round =>
        clear K1
        obtain ⟨i, rfl, hi, K⟩ := hrel
        by_cases hlt : i < SS.length
        · have hi0 : (0 : Int) ≤ (i : Int) := by omega
          have hi1 : (i : Int) < (SS.length : Int) := by omega
          have hd : decide ((i : Int) < (SS.length : Int)) = true := decide_eq_true hi1
          have HL1 := Lib.hid (show i + 1 ≤ SS.length from hlt)
          have HW9 := Lib.hid (wrap_nat hlt (show SS.length ≤ 100000 by omega))
          have HMS := Lib.hid (meas_nat hlt)
          obtain ⟨g, k, x, e7, hx, hg, hc⟩ := (H.out.step K.out.1.bel).atK hlt
          subst e7
          have OKX := Lib.hid (HOK.out x (List.mem_of_getElem? hx))
          have LX := Lib.hid (@ldO wr g (k + i * 9) x hc)
          have MX := Lib.hid (List.mem_of_getElem? hx)
          have NX := Lib.hid (fun (hq : okR GG x = true) => (show ∀ y ∈ SS.take (i + 1), okR GG y = true from fun y hy => by
            obtain ⟨q1, q2⟩ := List.getElem?_eq_some_iff.1 hx
            rw [List.take_succ_eq_append_getElem q1, q2] at hy
            rcases List.mem_append.1 hy with hy | hy
            · exact K.out.2 y hy
            · rw [List.mem_singleton.1 hy]; exact hq))
          have OK0 := Lib.hid (show okR GG x = (((GG x.nt x.nr).isSome && (((GG x.nt x.nr).getD O0).d == x.d)) && (resB x.pt x.pr || ((GG x.pt x.pr).isSome && ((GG x.pt x.pr).getD O0).d))) from rfl)
          have LA := Lib.hid (fun W (hb : Below wr.heap.size wr W) => (K.out.1.step hb).look OKX.out.nt OKX.out.nr)
          have LB := Lib.hid (fun W (hb : Below wr.heap.size wr W) => (K.out.1.step hb).look OKX.out.pt OKX.out.pr)
          have RS := Lib.hid (fun W => res_any W x.pt x.pr)
          have KK := Lib.hid K.out.1
          obtain ⟨m1, hm1⟩ : ∃ z, (GG x.nt x.nr).getD O0 = z := ⟨_, rfl⟩
          obtain ⟨b1, hb1⟩ : ∃ z, (GG x.nt x.nr).isSome = z := ⟨_, rfl⟩
          rw [hm1, hb1] at LA OK0
          obtain ⟨m2, hm2⟩ : ∃ z, (GG x.pt x.pr).getD O0 = z := ⟨_, rfl⟩
          obtain ⟨b2, hb2⟩ : ∃ z, (GG x.pt x.pr).isSome = z := ⟨_, rfl⟩
          rw [hm2, hb2] at LB OK0
          obtain ⟨rs, hrs⟩ : ∃ z, resB x.pt x.pr = z := ⟨_, rfl⟩
          rw [hrs] at RS OK0
          clear hx hg hc hm1 hb1 hm2 hb2 hrs K
          have N5 := heap_alloc_new wr (.cells #[.int .i64 x.t, .int .i64 x.r, .int .i64 x.q, .int .i64 x.nt, .int .i64 x.nr, .int .i64 x.pt, .int .i64 x.pr, .string x.nm, .bool x.d] 33)
          have B5 := pl_vstep wr (.cells #[.int .i64 x.t, .int .i64 x.r, .int .i64 x.q, .int .i64 x.nt, .int .i64 x.nr, .int .i64 x.pt, .int .i64 x.pr, .string x.nm, .bool x.d] 33)
          go_upto_region 11 with (first
            | (refine Ve.wpList_load_arr rfl (.tmp 31) 33 rfl (.pointer (some ⟨g, k + i * 9, none⟩)) (.agg #[.int .i64 x.t, .int .i64 x.r, .int .i64 x.q, .int .i64 x.nt, .int .i64 x.nr, .int .i64 x.pt, .int .i64 x.pr, .string x.nm, .bool x.d]) rfl LX.out ?_))
          obtain ⟨w5, hw5⟩ : ∃ z, wr.alloc (.cells #[.int .i64 x.t, .int .i64 x.r, .int .i64 x.q, .int .i64 x.nt, .int .i64 x.nr, .int .i64 x.pt, .int .i64 x.pr, .string x.nm, .bool x.d] 33) = z := ⟨_, rfl⟩
          obtain ⟨bx, hbx⟩ : ∃ z, wr.heap.size = z := ⟨_, rfl⟩
          rw [hw5, hbx] at N5
          rw [hw5] at B5
          rw [hw5]
          rw [hbx]
          have B5 := Lib.hid B5
          have N5 := Lib.hid N5
          have HBX := Lib.hid hbx
          clear hw5 hbx LX
          obtain ⟨c0, c1, c2, c3, c4, c5, c6, c7, c8⟩ := cell9 N5.out
          have L5 := Lib.hid (LA.out w5 B5.out)
          have N6 := heap_alloc_new w5 (.cells #[.int .i64 m1.t, .int .i64 m1.r, .int .i64 m1.q, .int .i64 m1.nt, .int .i64 m1.nr, .int .i64 m1.pt, .int .i64 m1.pr, .string m1.nm, .bool m1.d] 33)
          have B6 := pl_vstep w5 (.cells #[.int .i64 m1.t, .int .i64 m1.r, .int .i64 m1.q, .int .i64 m1.nt, .int .i64 m1.nr, .int .i64 m1.pt, .int .i64 m1.pr, .string m1.nm, .bool m1.d] 33)
          go_upto_region 12 with (first
            | (refine wpList_look rfl (.tmp 34) (.tmp 36) 110 rfl (.map (some mb)) (.agg #[.int .i64 x.nt, .int .i64 x.nr]) (.tuple #[.agg #[.int .i64 m1.t, .int .i64 m1.r, .int .i64 m1.q, .int .i64 m1.nt, .int .i64 m1.nr, .int .i64 m1.pt, .int .i64 m1.pr, .string m1.nm, .bool m1.d], .bool b1]) rfl rfl L5.out ?_))
          obtain ⟨w6, hw6⟩ : ∃ z, w5.alloc (.cells #[.int .i64 m1.t, .int .i64 m1.r, .int .i64 m1.q, .int .i64 m1.nt, .int .i64 m1.nr, .int .i64 m1.pt, .int .i64 m1.pr, .string m1.nm, .bool m1.d] 33) = z := ⟨_, rfl⟩
          obtain ⟨bm, hbm⟩ : ∃ z, w5.heap.size = z := ⟨_, rfl⟩
          rw [hw6, hbm] at N6
          rw [hw6] at B6
          rw [hw6]
          rw [hbm]
          have N6 := Lib.hid N6
          have N5 := Lib.hid ((B6.block _ (pl_lt N5.out)).trans N5.out)
          have B6 := Lib.hid (B5.out.trans (B6.mono B5.out.size))
          clear hw6 hbm c0 c1 c2 c3 c4 c5 c6 c7 c8 L5 B5 LA
          cases b1 with
          | false =>
            have RN := Lib.hid (root_no MX.out (by rw [HGG.out, OK0.out]; simp))
            have FB := Lib.hid (KK.out.step B6.out).bel
            go_wp2_with fail
            go_returns
            exact ⟨by rw [RN.out]; rfl, FB.out⟩
          | true =>
            obtain ⟨c0, c1, c2, c3, c4, c5, c6, c7, c8⟩ := cell9 N5.out
            have d8 : w6.cell? ⟨bm, 8, none⟩ = some (.bool m1.d) := by rw [cell_of_row _ _ _ _ _ _ N6.out]; rfl
            obtain ⟨md, hmd⟩ : ∃ z, m1.d = z := ⟨_, rfl⟩
            obtain ⟨xd, hxd⟩ : ∃ z, x.d = z := ⟨_, rfl⟩
            rw [hmd] at d8 OK0
            rw [hxd] at c8 OK0
            clear hmd
            by_cases hq : md = xd
            · subst hq
              have hne : (md != md) = false := by cases md <;> rfl
              have L6 := Lib.hid (LB.out w6 B6.out)
              have N7 := heap_alloc_new w6 (.cells #[.int .i64 m2.t, .int .i64 m2.r, .int .i64 m2.q, .int .i64 m2.nt, .int .i64 m2.nr, .int .i64 m2.pt, .int .i64 m2.pr, .string m2.nm, .bool m2.d] 33)
              have B7 := pl_vstep w6 (.cells #[.int .i64 m2.t, .int .i64 m2.r, .int .i64 m2.q, .int .i64 m2.nt, .int .i64 m2.nr, .int .i64 m2.pt, .int .i64 m2.pr, .string m2.nm, .bool m2.d] 33)
              go_upto_region 15 with (first
                | (refine wpList_look rfl (.tmp 50) (.tmp 52) 110 rfl (.map (some mb)) (.agg #[.int .i64 x.pt, .int .i64 x.pr]) (.tuple #[.agg #[.int .i64 m2.t, .int .i64 m2.r, .int .i64 m2.q, .int .i64 m2.nt, .int .i64 m2.nr, .int .i64 m2.pt, .int .i64 m2.pr, .string m2.nm, .bool m2.d], .bool b2]) rfl rfl L6.out ?_))
              obtain ⟨w7, hw7⟩ : ∃ z, w6.alloc (.cells #[.int .i64 m2.t, .int .i64 m2.r, .int .i64 m2.q, .int .i64 m2.nt, .int .i64 m2.nr, .int .i64 m2.pt, .int .i64 m2.pr, .string m2.nm, .bool m2.d] 33) = z := ⟨_, rfl⟩
              obtain ⟨bn, hbn⟩ : ∃ z, w6.heap.size = z := ⟨_, rfl⟩
              rw [hw7, hbn] at N7
              rw [hw7] at B7
              rw [hw7]
              rw [hbn]
              have N7 := Lib.hid N7
              have N5 := Lib.hid ((B7.block _ (pl_lt N5.out)).trans N5.out)
              have B7 := Lib.hid (B6.out.trans (B7.mono B6.out.size))
              clear hw7 hbn c0 c1 c2 c3 c4 c5 c6 c7 c8 L6 B6 N6 d8 LB hxd
              obtain ⟨c0, c1, c2, c3, c4, c5, c6, c7, c8⟩ := cell9 N5.out
              go_wp2_with fail
              refine (RS.out w7).mono ?_
              rintro e w8 ⟨rfl, hb⟩
              have N8 := Lib.hid ((hb.block _ (pl_lt N7.out)).trans N7.out)
              have B8 := Lib.hid (B7.out.trans (hb.mono B7.out.size))
              clear hb c0 c1 c2 c3 c4 c5 c6 c7 c8 RS B7 N7 N5
              cases rs with
              | true =>
                have KF := Lib.hid (And.intro (KK.out.step B8.out) (NX.out (by rw [OK0.out]; simp)))
                go_wp2_with fail
                go_roundw
                case rel => exact ⟨i + 1, by first | (rw [HW9.out]; rfl) | go_num, HL1.out, KF⟩
                case measure => first | (rw [HW9.out]; exact HMS.out) | exact HMS.out
              | false =>
                cases b2 with
                | false =>
                  have RN := Lib.hid (root_no MX.out (by rw [HGG.out, OK0.out]; simp))
                  have FB := Lib.hid (KK.out.step B8.out).bel
                  go_wp2_with fail
                  go_returns
                  exact ⟨by rw [RN.out]; rfl, FB.out⟩
                | true =>
                  have d8 : w8.cell? ⟨bn, 8, none⟩ = some (.bool m2.d) := by rw [cell_of_row _ _ _ _ _ _ N8.out]; rfl
                  obtain ⟨me, hme⟩ : ∃ z, m2.d = z := ⟨_, rfl⟩
                  rw [hme] at d8 OK0
                  clear hme
                  cases me with
                  | true =>
                    have KF := Lib.hid (And.intro (KK.out.step B8.out) (NX.out (by rw [OK0.out]; simp)))
                    go_wp2_with fail
                    go_roundw
                    case rel => exact ⟨i + 1, by first | (rw [HW9.out]; rfl) | go_num, HL1.out, KF⟩
                    case measure => first | (rw [HW9.out]; exact HMS.out) | exact HMS.out
                  | false =>
                    have RN := Lib.hid (root_no MX.out (by rw [HGG.out, OK0.out]; simp))
                    have FB := Lib.hid (KK.out.step B8.out).bel
                    go_wp2_with fail
                    go_returns
                    exact ⟨by rw [RN.out]; rfl, FB.out⟩
            · have RN := Lib.hid (root_no MX.out (by rw [HGG.out, OK0.out, show (md == xd) = false from by simpa using hq]; simp))
              have FB := Lib.hid (KK.out.step B6.out).bel
              have hmx : (md = true ∧ xd = false) ∨ (md = false ∧ xd = true) := by cases md <;> cases xd <;> simp at hq ⊢
              clear hq hxd OK0
              rcases hmx with ⟨rfl, rfl⟩ | ⟨rfl, rfl⟩
              all_goals
                go_wp2_with fail
                go_returns
                exact ⟨by rw [RN.out]; rfl, FB.out⟩
        · have ei : i = SS.length := by omega
          subst ei
          have RY := Lib.hid (show rootB SS = true from List.all_eq_true.2 (fun y hy => by rw [HGG.out]; exact K.out.2 y (by rw [List.take_length]; exact hy)))
          have FB := Lib.hid K.out.1.bel
          go_wp2
          go_returns
          exact ⟨by rw [RY.out]; rfl, FB.out⟩
theorem rO_rep {x : O} (h : rO x = true) : 0 ≤ x.r ∧ x.r < 64 := by
  unfold rO rB St.rightB St.rR at h
  simp only [Bool.and_eq_true, decide_eq_true_eq] at h
  exact h.1.2
noncomputable def honestP (l : List O) : Bool := decide ((setO l).length = l.length) && (riseQ zs (setO l) && rootB (setO l))
set_option maxHeartbeats 3200000 in
theorem fhonest_any (w : World) (v : Value) (l : List O) (h : OLies w v l) (hok : ∀ o ∈ l, OkO o) (hsz : ∀ o ∈ l, o.nm.size ≤ 9223372036854775807) (hl : l.length ≤ 1000) (hu : (uniqF l).length ≤ 79) :
    Calls Tryz.prog 19 #[v] w fun e w' => e = .returned (.bool (honestP l)) ∧ Below w.heap.size w w' := by
  have Cc := Lib.hid (fset_any w v l h hok hsz hl hu)
  have SLN := Lib.hid (show (setO l).length ≤ 79 from by show (srtO (uniqF l)).length ≤ 79; rw [srtO_len]; exact hu)
  have SOK := Lib.hid (show ∀ x ∈ setO l, OkO x ∧ 0 ≤ x.r ∧ x.r < 64 from fun x hx => ⟨hok x ((uniq_is l).mem x (srt_mem hx)), rO_rep ((uniq_is l).right x (srt_mem hx))⟩)
  obtain ⟨ao, cap, rfl⟩ := h.shape
  have HP := Lib.hid (show honestP l = (decide ((setO l).length = l.length) && (riseQ zs (setO l) && rootB (setO l))) from rfl)
  obtain ⟨SS, hSS⟩ : ∃ z, setO l = z := ⟨_, rfl⟩
  rw [hSS] at Cc SLN SOK HP
  clear h hok hsz hu hSS
  go_enter Tryz.func19, Tryz.ntmps19
  go_wp2_with fail
  refine Cc.out.mono ?_
  rintro e w1 ⟨rv, rfl, hown, hb⟩
  have HB := Lib.hid hb
  obtain ⟨ra, rc, rfl⟩ := Ve.own_shape hown
  have SO := Lib.hid (own_olies hown)
  clear hown hb Cc
  by_cases hn : SS.length = l.length
  · have hq := Tb.beqb_ (SS.length : Int) (l.length : Int) (by omega)
    have RC := Lib.hid (fun W (hb : Below w1.heap.size w1 W) => rising_any W _ SS (SO.out.step hb) (fun x hx => (SOK.out x hx).2) (by have := SLN.out; omega))
    have RT := Lib.hid (fun W (hb : Below w1.heap.size w1 W) => rooted_any W _ SS (SO.out.step hb) (fun x hx => (SOK.out x hx).1) (by have := SLN.out; omega))
    rw [decide_eq_true hn] at HP
    obtain ⟨br, hbr⟩ : ∃ z, riseQ zs SS = z := ⟨_, rfl⟩
    obtain ⟨bt, hbt⟩ : ∃ z, rootB SS = z := ⟨_, rfl⟩
    rw [hbr] at RC HP
    rw [hbt] at RT HP
    have HN := Lib.hid hn
    clear hn hbr hbt
    go_wp2_with fail
    refine (RC.out w1 (Below.refl _ _)).mono ?_
    rintro e w2 ⟨rfl, hb⟩
    have B2 := Lib.hid hb
    clear hb
    cases br with
    | false =>
      have FB := Lib.hid (HB.out.trans (B2.out.mono HB.out.size))
      go_wp2_with fail
      go_returns
      exact ⟨by rw [HP.out]; rfl, FB.out⟩
    | true =>
      go_wp2_with fail
      refine (RT.out w2 B2.out).mono ?_
      rintro e w3 ⟨rfl, hb⟩
      have FB := Lib.hid (HB.out.trans ((B2.out.trans (hb.mono B2.out.size)).mono HB.out.size))
      clear hb
      go_wp2_with fail
      go_returns
      exact ⟨by rw [HP.out]; rfl, FB.out⟩
  · have hq := Tb.bneb_ (SS.length : Int) (l.length : Int) (by omega)
    rw [decide_eq_false hn] at HP
    clear hn
    go_wp2_with fail
    go_returns
    exact ⟨by rw [HP.out]; rfl, HB.out⟩
end Go.Proofs.YtbeodechhneeeaaGreatDoor

