/- StableRises, walked. Made by gensr.py. -/
import Derived.Test.YtgemlkccdcbpdaaSP
import Derived.Test.YtgemlkccdcbpdaaSView
import Derived.Deep.RegionHeld3
import Derived.Deep.CutRange
set_option linter.unusedVariables false
namespace Go.Proofs.Ytgemlkccdcbpdaa
open Go.RowKit

theorem WAt.blocks {W W' : World} {p q : Nat} {sf : Int} {ms : List Mb} (h : WAt W p sf q ms) (hp : W'.heap[p]? = W.heap[p]?) (hq : W'.heap[q]? = W.heap[q]?) (hs : W.heap.size ≤ W'.heap.size) : WAt W' p sf q ms := by
  have cp : ∀ o, W'.cell? ⟨p, o, none⟩ = W.cell? ⟨p, o, none⟩ := fun o => World.cell?_of_block (a := ⟨p, o, none⟩) hp
  have cq : ∀ o, W'.cell? ⟨q, o, none⟩ = W.cell? ⟨q, o, none⟩ := fun o => World.cell?_of_block (a := ⟨q, o, none⟩) hq
  refine ⟨⟨(cp 0).trans h.rd.c0, (cp 1).trans h.rd.c1, fun i m hm => ?_, h.rd.m64, h.rd.len⟩, fun i hi j hj => ?_, h.ne, Nat.lt_of_lt_of_le h.qlt hs⟩
  · obtain ⟨q', e, hq', hr⟩ := h.rd.row i m hm
    injection e with e
    injection e with e _ _
    subst e
    exact ⟨q, rfl, Nat.lt_of_lt_of_le hq' hs, fun j v hv => (cq _).trans (hr j v hv)⟩
  · have := h.may i hi j hj
    exact ⟨by rw [cq]; exact this.1, by rw [World.frozen?_of_block (a := ⟨q, _, none⟩) hq]; exact this.2⟩
theorem VAt.grown34 {W W' : World} {q g : Nat} {l : List Int} (h : VAt 34 W g l) (hg : W.grownBy W' (some q)) (hn : q ≠ g) : VAt 34 W' g l := (hg.block _ (lt_of_block h) (fun e => hn (by injection e with e; exact e.symm))).trans h
/-- The watch, the floor and the meet that were told last. -/
structure RI (w wr : World) (p q n gm : Nat) (sf : Int) (ms : List Mb) (f : Int) (mt : List Int) : Prop where
  wat : WAt wr p sf q ms
  len : ms.length = n
  at_ : VAt 34 wr gm mt
  ml : mt.length = 64
  hf : f ≤ floorF ms
  hm : CovP (meetAll ms) mt
  bel : Below w.heap.size w wr
theorem Acts.cells {w : World} {ao : Option Addr} {L : List Ac} (hat : ∀ (i : Nat) a, L[i]? = some a → ∃ g o, ao = some ⟨g, o, none⟩ ∧ g < w.heap.size ∧ w.cell? ⟨g, o + i * 4, none⟩ = some (.int .i64 a.kind) ∧ w.cell? ⟨g, o + i * 4 + 1, none⟩ = some (.int .i64 a.fr) ∧
    w.cell? ⟨g, o + i * 4 + 2, none⟩ = some a.kv ∧ LiesO w a.kv a.kl ∧ w.cell? ⟨g, o + i * 4 + 3, none⟩ = some (.int .i64 a.tm)) {i : Nat} (hi : i < L.length) :
    ∃ (kd fr tm : Int) (a0 : Option Addr) (kn c0 : Nat) (kl : List (Nat × Int)) (g o : Nat), ao = some ⟨g, o, none⟩ ∧ LiesO w (.slice a0 kn c0) kl ∧ ∀ W, Below w.heap.size w W → W.cell? ⟨g, o + i * 4, none⟩ = some (.int .i64 kd) ∧ W.cell? ⟨g, o + i * 4 + 1, none⟩ = some (.int .i64 fr) ∧
      W.cell? ⟨g, o + i * 4 + 2, none⟩ = some (.slice a0 kn c0) ∧ W.cell? ⟨g, o + i * 4 + 3, none⟩ = some (.int .i64 tm) := by
  obtain ⟨a, ha⟩ : ∃ a, L[i]? = some a := ⟨_, List.getElem?_eq_getElem hi⟩
  obtain ⟨g, o, e, hg, c0, c1, c2, hl, c3⟩ := hat i a ha
  obtain ⟨a0, cc, hkv⟩ := hl.shape
  rw [hkv] at hl c2
  exact ⟨a.kind, a.fr, a.tm, a0, _, cc, a.kl, g, o, e, hl, fun W hW => ⟨(hW.cell (p := ⟨g, _, none⟩) hg).trans c0, (hW.cell (p := ⟨g, _, none⟩) hg).trans c1, (hW.cell (p := ⟨g, _, none⟩) hg).trans c2, (hW.cell (p := ⟨g, _, none⟩) hg).trans c3⟩⟩

set_option maxRecDepth 100000 in
set_option maxHeartbeats 6400000 in
theorem rises_law (w : World) (s r : Nat) (hs : s < 256) (hr : r < 256) (v : Value) (L : List Ac) (h : Acts w v L) :
    Calls Try.prog 4 #[.int .u8 (s : Int), .int .u8 (r : Int), v] w fun e w' => e = .returned (.bool true) ∧ Below w.heap.size w w' := by
  obtain ⟨k, hk, hk8⟩ : ∃ k : Nat, (r : Int) % 8 = (k : Int) ∧ k < 8 := ⟨r % 8, by omega, by omega⟩
  obtain ⟨j, hj, hjk⟩ : ∃ j : Nat, (s : Int) % (1 + (k : Int)) = (j : Int) ∧ j < 1 + k := by
    refine ⟨s % (1 + k), ?_, Nat.mod_lt _ (by omega)⟩
    rw [Int.natCast_emod]; rfl
  have NW := Lib.hid (new_any w j (1 + k) hjk (by omega))
  rw [show ((1 + k : Nat) : Int) = 1 + (k : Int) by omega] at NW
  have hn0 : (1 + (k : Int)) ≠ 0 := by omega
  have AW := Lib.hid (fun W => awake_any W)
  obtain ⟨ao, cap, rfl, hlen, hat⟩ := h
  have HAT := Lib.hid (fun i (hi : i < L.length) => Acts.cells hat hi)
  have HJ := Lib.hid hjk
  clear hat hjk
  go_enter Try.func4, Try.ntmps4
  go_wp2_with fail
  refine NW.out.mono ?_
  rintro e w1 ⟨p, q, rfl, h1, b1, hp, hq⟩
  have HQ := Lib.hid hq
  obtain ⟨w2, e2, b2, v2, s2⟩ := boxed z34 w1
  have E2 := Lib.hid e2
  obtain ⟨gm, hgm⟩ : ∃ g, w1.heap.size = g := ⟨_, rfl⟩
  rw [hgm] at E2 v2
  have HN := Lib.hid (show p ≠ gm ∧ q ≠ gm ∧ w.heap.size ≤ gm from ⟨by rw [← hgm]; exact Nat.ne_of_lt h1.plt, by rw [← hgm]; exact Nat.ne_of_lt h1.qlt, by rw [← hgm]; exact b1.size⟩)
  have R2 := Lib.hid (show RI w w2 p q (1 + k) gm (j : Int) (List.replicate (1 + k) mz) 0 zs from
    ⟨h1.step b2, List.length_replicate, v2, zs_len, start_floor (by omega), start_meet (by omega), b1.trans (b2.mono b1.size)⟩)
  clear h1 b1 hp hq e2 b2 v2 s2 hgm NW hk hj hs hr
  go_wp2_with (refine wpList_alloc_arr rfl 34 rfl _ _ E2.out ?_)
  clear E2
  go_loopw [10, 12] (fun fv iv wr => ∃ (i : Nat) (f : Int) (ms : List Mb) (mt : List Int), iv = .int .i64 i ∧ fv = .int .i64 f ∧ i ≤ L.length ∧ i ≤ 40 ∧ Hid (RI w wr p q (1 + k) gm (j : Int) ms f mt)) (fun _ iv _ => 40 - (intOf iv).toNat)
  case atStart => exact ⟨0, 0, _, _, rfl, rfl, Nat.zero_le _, Nat.zero_le _, R2⟩
  case round =>
    obtain ⟨i, f, ms, mt, rfl, rfl, hil, hi40, hI⟩ := hrel
    clear R2
    by_cases hlt : i < L.length ∧ i < 40
    · obtain ⟨hl1, hl2⟩ := hlt
      obtain ⟨kd, fr, tm, a0, kn0, c0, kl, g, o, rfl, hl, hc⟩ := HAT.out i hl1
      have BX := Lib.hid hc
      obtain ⟨d0, -, -, -⟩ := hc _ hI.out.bel
      have MK := Lib.hid (fun W (hW : Below w.heap.size w W) => Made_any W (.slice a0 kn0 c0) kl (hl.later hW))
      obtain ⟨q1, hq1⟩ : ∃ c : Bool, c = true ↔ RightP (madeF kl) := by classical exact ⟨decide _, decide_eq_true_iff⟩
      have MI := Lib.hid (fun W (h : WAt W p (j : Int) q ms) => mine_any W p q j ms h (by rw [hI.out.len]; exact HJ.out) (madeF kl) (madeF_len _) q1 hq1 tm)
      have HE := Lib.hid (fun W (h : WAt W p (j : Int) q ms) => heard_any W p q j ms h (by rw [hI.out.len]; exact HJ.out) fr (madeF kl) (madeF_len _) q1 hq1 tm)
      have UM := Lib.hid (up_mine hI.out.wat.rd.m64 j (madeF_len kl) tm (rightM q1 tm))
      have UH := Lib.hid (up_heard hI.out.wat.rd.m64 j fr (madeF_len kl) q1 tm)
      generalize heardF ms j fr (madeF kl) q1 tm = msH at *
      generalize (if rightM q1 tm = true then toldAt ms j (madeF kl) tm else ms) = msM at *
      generalize heardB ms.length j fr q1 tm = bH at *
      generalize rightM q1 tm = bM at *
      generalize madeF kl = kn at *
      clear hq1 hc
      unfold vw at *
      go_upto_if 44 with (fail)
      go_cut [] from 29 to 108 (fun wx => ∃ ms', WAt wx p (j : Int) q ms' ∧ Up ms ms' ∧ VAt 34 wx gm mt ∧ Below w.heap.size w wx)
      case first =>
        have BB := Lib.hid (hI.out.bel.trans ((below_drewN wr 1).mono hI.out.bel.size))
        have HW := Lib.hid (hI.out.wat.step (below_drewN wr 1))
        have VM := Lib.hid (hI.out.at_.step (below_drewN wr 1))
        have bx := BX.out _ BB.out
        clear HAT hI
        by_cases hk0 : kd = 0
        · rw [hk0]
          go_upto_region 11 with (fail)
          go_region_held3 (fun w' => w'.cell? ⟨g, o + i * 4 + 2, none⟩ = some (.slice a0 kn0 c0) ∧ w'.cell? ⟨g, o + i * 4 + 3, none⟩ = some (.int .i64 tm)) (exact ⟨(BX.out _ BB.out).2.2.1, (BX.out _ BB.out).2.2.2⟩)
            (first
            | (go_at_call 10; refine (MK.out _ BB.out).mono ?_; rintro e w2 ⟨rfl, ho⟩; have HW := Lib.hid (HW.out.step ho); have VM := Lib.hid (VM.out.step ho); have BB := Lib.hid (BB.out.trans (ho.mono BB.out.size)); clear ho)
            | (go_at_call 12; refine (MI.out _ HW.out).mono ?_; rintro e w3 ⟨rfl, hh, gg⟩; have HZ := Lib.hid hh; have VM := Lib.hid (VM.out.grown34 gg HN.out.2.1); have BB := Lib.hid (below_own BB.out HQ.out gg); clear hh gg))
          all_goals (go_wp2_with fail; go_meet; exact ⟨_, HZ.out, UM.out, VM.out, BB.out⟩)
        · go_upto_region 12 with (fail)
          go_region_held3 (fun w' => w'.cell? ⟨g, o + i * 4 + 1, none⟩ = some (.int .i64 fr) ∧ w'.cell? ⟨g, o + i * 4 + 2, none⟩ = some (.slice a0 kn0 c0) ∧ w'.cell? ⟨g, o + i * 4 + 3, none⟩ = some (.int .i64 tm)) (exact (BX.out _ BB.out).2)
            (first
            | (go_at_call 10; refine (MK.out _ BB.out).mono ?_; rintro e w2 ⟨rfl, ho⟩; have HW := Lib.hid (HW.out.step ho); have VM := Lib.hid (VM.out.step ho); have BB := Lib.hid (BB.out.trans (ho.mono BB.out.size)); clear ho)
            | (go_at_call 14; refine (HE.out _ HW.out).mono ?_; rintro e w3 ⟨rfl, hh, gg⟩; have HZ := Lib.hid hh; have VM := Lib.hid (VM.out.grown34 gg HN.out.2.1); have BB := Lib.hid (below_own BB.out HQ.out gg); clear hh gg))
          all_goals (go_wp2_with fail; go_meet; exact ⟨_, HZ.out, UH.out, VM.out, BB.out⟩)
      case rest =>
        obtain ⟨ms', hw', hup, hvm, hbw⟩ := hcut
        have HW := Lib.hid hw'
        have VM := Lib.hid hvm
        have BW := Lib.hid hbw
        have h64 := hw'.rd.m64
        have hpos : 0 < ms.length := by rw [hI.out.len]; omega
        have hlen' : ms'.length = 1 + k := hup.1.trans hI.out.len
        have hpos' : 0 < ms'.length := by omega
        have hf' : ¬ floorF ms' < f := by
          have h1 := up_floor hpos hup
          have h2 := hI.out.hf
          omega
        have hcov : CovP (meetAll ms') mt := cov_trans (meetAll_len h64) (meetAll_len hI.out.wat.rd.m64) (up_meet hpos hI.out.wat.rd.m64 h64 hup) hI.out.hm
        have FL := Lib.hid (fun W (h : WAt W p (j : Int) q ms') => floor_any W (.pointer (some ⟨p, 0, none⟩)) _ ms' (.inr ⟨p, _, rfl, h.rd⟩) h64)
        have ME := Lib.hid (fun W (h : WAt W p (j : Int) q ms') => meetm_any W (.pointer (some ⟨p, 0, none⟩)) _ ms' (.inr ⟨p, _, rfl, h.rd⟩) h64)
        have CV := Lib.hid (fun W => covers_any W (meetAll ms') mt (meetAll_len h64) hI.out.ml true ⟨fun _ => hcov, fun _ => rfl⟩)
        have KR := Lib.hid (show ∀ u : Nat, u < 1 + k → ∃ (x : List Int) (t : Int), (∀ W (h : WAt W p (j : Int) q ms'), Calls Try.prog 20 #[.pointer (some ⟨p, 0, none⟩), .int .i64 (u : Int)] W fun e w' => e = .returned (vw x) ∧ Below W.heap.size W w') ∧
            (∀ W, Calls Try.prog 22 #[vw x, vw (meetAll ms')] W fun e w' => e = .returned (.bool true) ∧ Below W.heap.size W w') ∧
            (∀ W (h : WAt W p (j : Int) q ms'), Calls Try.prog 21 #[.pointer (some ⟨p, 0, none⟩), .int .i64 (u : Int)] W fun e w' => e = .returned (.int .i64 t) ∧ Below W.heap.size W w') ∧ ¬ t < floorF ms' from
          fun u hu => ⟨(memF ms' (u : Int)).1, (memF ms' (u : Int)).2, fun W h => knows_any W (.pointer (some ⟨p, 0, none⟩)) _ ms' (.inr ⟨p, _, rfl, h.rd⟩) h64 (u : Int),
            fun W => covers_any W _ _ (memF_len h64 _) (meetAll_len h64) true ⟨fun _ => meet_le h64 (mem_at (by omega)), fun _ => rfl⟩,
            fun W h => time_any W (.pointer (some ⟨p, 0, none⟩)) _ ms' (.inr ⟨p, _, rfl, h.rd⟩) h64 (u : Int), by have := floor_le (mem_at (ms := ms') (r := u) (by omega)); omega⟩)
        have MTL := Lib.hid (meetAll_len h64)
        have ML := Lib.hid hI.out.ml
        have HLN := Lib.hid hlen'
        obtain ⟨f', hfe⟩ : ∃ y, floorF ms' = y := ⟨_, rfl⟩
        obtain ⟨mt', hme⟩ : ∃ y, meetAll ms' = y := ⟨_, rfl⟩
        rw [hfe] at FL KR hf'
        rw [hme] at ME CV KR MTL
        have HFE := Lib.hid hfe
        have HME := Lib.hid hme
        clear hw' hup hvm hbw h64 hpos hlen' hpos' hcov hfe hme hI MK MI HE UM UH BX
        unfold vw at *
        have QM := Lib.hid (later_all (W := wc) (Q := fun w => (Instr.loadAt 34 (.pointer (some ⟨gm, 0, none⟩))).run Try.prog w = .ok (.agg (va mt)) w) (fun x => load_va v34 x.w gm mt ML.out (VM.out.step x.below)))
        have D1 := Lib.hid (fun x : Later wc => FL.out x.w (HW.out.step x.below))
        have D2 := Lib.hid (fun x : Later wc => ME.out x.w (HW.out.step x.below))
        have D3 := Lib.hid (fun x : Later wc => CV.out x.w)
        go_upto_region 13 with (fail)
        refine wp_region_later (by kernel_rfl) (by kernel_rfl) ?_
        repeat (first
          | (go_big_quiet_want; refine quiet_load (.tmp 11) 34 rfl (.pointer (some ⟨gm, 0, none⟩)) (.agg (va mt)) rfl QM.out ?_; (try simp only [Act.put, List.setIfInBounds_toArray, List.set_cons_zero, List.set_cons_succ]); go_big_quiet_on)
          | (go_big_quiet_step (first
            | (go_at_call 16; with_reducible exact later_call (D1.out _))
            | (go_at_call 17; with_reducible exact later_call (D2.out _))
            | (go_at_call 22; with_reducible exact later_call (D3.out _)))))
        refine wpQuiet_nil ?_
        intro _ hw'
        obtain ⟨x13, hw''⟩ := hw'
        subst hw''
        have HW := Lib.hid (HW.out.step x13.below)
        have VM := Lib.hid (VM.out.step x13.below)
        have BW := Lib.hid (BW.out.trans (x13.below.mono BW.out.size))
        obtain ⟨w13, hw13⟩ : ∃ y, x13.w = y := ⟨_, rfl⟩
        rw [hw13] at HW VM BW ⊢
        clear hw13 x13 QM D1 D2 D3 CV hf'
        go_wp2_with fail
        refine (FL.out _ HW.out).mono ?_
        rintro e w14 ⟨rfl, b14⟩
        have HW := Lib.hid (HW.out.step b14)
        have VM := Lib.hid (VM.out.step b14)
        have BW := Lib.hid (BW.out.trans (b14.mono BW.out.size))
        clear b14
        go_wp2_with fail
        refine (ME.out _ HW.out).mono ?_
        rintro e w15 ⟨rfl, b15⟩
        have HW := Lib.hid (HW.out.step b15)
        have VM := Lib.hid (VM.out.step b15)
        have BW := Lib.hid (BW.out.trans (b15.mono BW.out.size))
        clear b15
        obtain ⟨w16, s16, v16, o16, z16, b16⟩ := filled v34 ML.out VM.out mt' MTL.out
        have S16 := Lib.hid s16
        have HV := Lib.hid (show WAt w16 p (j : Int) q ms' ∧ VAt 34 w16 gm mt' ∧ Below w.heap.size w w16 from
          ⟨HW.out.blocks (by obtain ⟨x, hx⟩ : ∃ x, w15.heap[p]? = some x := ⟨_, Array.getElem?_eq_getElem HW.out.plt⟩; rw [o16 p x HN.out.1 hx, hx]) (by obtain ⟨x, hx⟩ : ∃ x, w15.heap[q]? = some x := ⟨_, Array.getElem?_eq_getElem HW.out.qlt⟩; rw [o16 q x HN.out.2.1 hx, hx]) (by rw [z16]; exact Nat.le_refl _), v16, b16 w HN.out.2.2 BW.out⟩)
        clear s16 v16 o16 z16 b16 HW VM BW FL ME
        go_wp2_with (refine wpList_store_arr rfl (.tmp 11) (.tmp 90) 34 rfl (.pointer (some ⟨gm, 0, none⟩)) (.agg (va mt')) rfl rfl _ S16.out ?_)
        go_loopw [13] (fun rv wr => ∃ u : Nat, rv = .int .i64 u ∧ u ≤ 1 + k ∧ Hid (WAt wr p (j : Int) q ms' ∧ VAt 34 wr gm mt' ∧ Below w.heap.size w wr)) (fun rv _ => 9 - (intOf rv).toNat)
        case atStart => exact ⟨0, rfl, by omega, HV⟩
        case round =>
          obtain ⟨u, rfl, huk, hJ⟩ := hrel
          clear HV S16
          by_cases hul : u < 1 + k
          · obtain ⟨x, t, hkn, hcv, htm, ht⟩ := KR.out u hul
            have hul' : (u : Int) < 1 + (k : Int) := by omega
            have QM := Lib.hid (later_all (W := wr) (Q := fun w => (Instr.loadAt 34 (.pointer (some ⟨gm, 0, none⟩))).run Try.prog w = .ok (.agg (va mt')) w) (fun x => load_va v34 x.w gm mt' MTL.out (hJ.out.2.1.step x.below)))
            have D1 := Lib.hid (fun x : Later wr => hkn x.w (hJ.out.1.step x.below))
            have D2 := Lib.hid (fun x : Later wr => hcv x.w)
            have D3 := Lib.hid (fun x : Later wr => htm x.w (hJ.out.1.step x.below))
            clear hkn hcv htm
            go_upto_region 20 with (fail)
            refine wp_region_later (by kernel_rfl) (by kernel_rfl) ?_
            repeat (first
              | (go_big_quiet_want; refine quiet_load (.tmp 11) 34 rfl (.pointer (some ⟨gm, 0, none⟩)) (.agg (va mt')) rfl QM.out ?_; (try simp only [Act.put, List.setIfInBounds_toArray, List.set_cons_zero, List.set_cons_succ]); go_big_quiet_on)
              | (go_big_quiet_step (first
                | (go_at_call 20; with_reducible exact later_call (D1.out _))
                | (go_at_call 22; with_reducible exact later_call (D2.out _))
                | (go_at_call 21; with_reducible exact later_call (D3.out _)))))
            refine wpQuiet_nil ?_
            intro _ hw'
            obtain ⟨x13, hw''⟩ := hw'
            subst hw''
            have HV := Lib.hid (show WAt x13.w p (j : Int) q ms' ∧ VAt 34 x13.w gm mt' ∧ Below w.heap.size w x13.w from ⟨hJ.out.1.step x13.below, hJ.out.2.1.step x13.below, hJ.out.2.2.trans (x13.below.mono hJ.out.2.2.size)⟩)
            obtain ⟨w13, hw13⟩ : ∃ y, x13.w = y := ⟨_, rfl⟩
            rw [hw13] at HV ⊢
            clear hw13 x13 QM D1 D2 D3
            go_wp2_with fail
            go_roundw
            case rel => exact ⟨u + 1, by go_num, by omega, HV⟩
            case measure => simp [intOf]; omega
          · have hul' : ¬ (u : Int) < 1 + (k : Int) := by omega
            go_wp2_with fail
            go_roundw
            case rel => exact ⟨i + 1, f', ms', mt', by go_num, rfl, by omega, by omega, Lib.hid ⟨hJ.out.1, HLN.out, hJ.out.2.1, MTL.out, by rw [HFE.out]; exact Int.le_refl _, by rw [HME.out]; exact cov_refl _, hJ.out.2.2⟩⟩
            case measure => simp [intOf]; omega
    · have BW := Lib.hid hI.out.bel
      clear hI HAT
      by_cases hl1 : i < L.length
      all_goals
        have hl2 : ¬ i < 40 ∨ ¬ i < L.length := by omega
        first
        | (have hl3 : ¬ i < 40 := by omega
           clear hlt hl2
           go_wp2_with fail
           refine (AW.out _).mono ?_
           rintro e w9 ⟨rfl, b9⟩
           have BW := Lib.hid (BW.out.trans (b9.mono BW.out.size))
           clear b9
           go_wp2
           go_returns
           exact ⟨rfl, BW.out⟩)
        | (clear hlt hl2
           go_wp2_with fail
           refine (AW.out _).mono ?_
           rintro e w9 ⟨rfl, b9⟩
           have BW := Lib.hid (BW.out.trans (b9.mono BW.out.size))
           clear b9
           go_wp2
           go_returns
           exact ⟨rfl, BW.out⟩)
end Go.Proofs.Ytgemlkccdcbpdaa
