/- StablePlays, walked. Made by genqf.py. -/
import Derived.Test.YtgemlkccdcbpdaaQD
import Derived.Test.YtgemlkccdcbpdaaQE
import Derived.Test.YtgemlkccdcbpdaaSR
import Derived.Deep.CutBlock
set_option linter.unusedVariables false
namespace Go.Proofs.Ytgemlkccdcbpdaa
open Go.RowKit

theorem alloc29 (W : World) : (Instr.alloc 29 true (.tuple #[])).run Try.prog W = .ok (.pointer (some ⟨W.heap.size, 0, none⟩)) (W.alloc (.cells #[.int .i64 0, .slice none 0 0] 29)) := by go_simp
theorem load44 (W : World) (b : Nat) (x y : Int) (h : W.heap[b]? = some (.cells #[.int .i64 x, .int .i64 y] 44 (0, 0))) : (Instr.loadAt 44 (.pointer (some ⟨b, 0, none⟩))).run Try.prog W = .ok (.agg #[.int .i64 x, .int .i64 y]) W := by
  have c0 := cell_of_row _ b 0 _ _ _ h
  have c1 := cell_of_row _ b 1 _ _ _ h
  simp at c0 c1
  go_simp
theorem index_acts (W : World) (g o n cap i : Nat) (hi : i < n) (hn : n ≤ 9223372036854775807) : (Instr.indexAt 22 (.slice (some ⟨g, o, none⟩) n cap) (.int .i64 (i : Int))).run Try.prog W = .ok (.pointer (some ⟨g, o + i * 4, none⟩)) W := by
  have h1 : (0 : Int) ≤ (i : Int) := by omega
  have h2 : (i : Int) < (n : Int) := by omega
  have hu : Try.prog.underlying 22 = some (.slice 38) := by kernel_rfl
  go_simp
theorem WAt.setCell {W : World} {p q b o : Nat} {sf : Int} {ms : List Mb} (h : WAt W p sf q ms) (hp : p ≠ b) (hq : q ≠ b) (v : Value) : WAt (W.setCell ⟨b, o, none⟩ v) p sf q ms :=
  h.blocks (Below.heap_setCell _ _ _ _ hp) (Below.heap_setCell _ _ _ _ hq) (by simp)
theorem cut_pos {f : Int} (h : 0 < f) : cutT f = f ∧ cutR f = 63 := by unfold cutT cutR; rw [if_neg (by omega), if_neg (by omega)]; exact ⟨rfl, rfl⟩
theorem cut_none {f : Int} (h : ¬ 0 < f) (h0 : 0 ≤ f) : cutT f = 0 ∧ cutR f = 0 := by unfold cutT cutR; rw [if_pos (by omega), if_pos (by omega)]; exact ⟨rfl, rfl⟩
theorem nn_told {ms : List Mb} (h : ∀ x ∈ ms, 0 ≤ x.2) (i : Nat) (l : List Int) (t : Int) : ∀ x ∈ toldAt ms i l t, 0 ≤ x.2 := fun x hx => by
  obtain ⟨k, hk⟩ := List.mem_iff_getElem?.1 hx
  unfold toldAt at hk
  rw [List.getElem?_set] at hk
  split at hk
  · split at hk
    · injection hk with hk
      subst hk
      rename_i e hi
      subst e
      have : 0 ≤ (ms.getD i mz).2 := by
        rw [List.getD_eq_getElem?_getD, List.getElem?_eq_getElem hi]
        exact h _ (List.getElem_mem _)
      show 0 ≤ max (ms.getD i mz).2 t
      omega
    · cases hk
  · exact h x (List.mem_iff_getElem?.2 ⟨k, hk⟩)
theorem nn_mine {ms : List Mb} (h : ∀ x ∈ ms, 0 ≤ x.2) (i : Nat) (l : List Int) (t : Int) (c : Bool) : ∀ x ∈ (if c then toldAt ms i l t else ms), 0 ≤ x.2 := by
  cases c
  · exact h
  · exact nn_told h i l t
theorem nn_heard {ms : List Mb} (h : ∀ x ∈ ms, 0 ≤ x.2) (i : Nat) (fr : Int) (l : List Int) (c : Bool) (t : Int) : ∀ x ∈ heardF ms i fr l c t, 0 ≤ x.2 := by
  unfold heardF
  split
  · exact nn_told h _ _ _
  · exact h
/-- The watch, and the reference's, side by side. -/
structure PI (w wr : World) (p qs bx n j : Nat) (ms : List Mb) (q cap : Nat) : Prop where
  wat : WAt wr p (j : Int) qs ms
  len : ms.length = n
  row : wr.heap[bx]? = some (.cells #[.int .i64 (j : Int), .slice (some ⟨q, 0, none⟩) n cap] 29 (0, 0))
  rat : RAt wr q ms
  qq : q ≠ qs
  qb : q ≠ bx
  nn : ∀ x ∈ ms, 0 ≤ x.2
  bel : Below w.heap.size w wr
theorem PI.step {w wr W' : World} {p qs bx n j : Nat} {ms : List Mb} {q cap : Nat} (h : PI w wr p qs bx n j ms q cap) (hb : Below wr.heap.size wr W') : PI w W' p qs bx n j ms q cap :=
  ⟨h.wat.step hb, h.len, (hb.block _ (lt_of_block h.row)).trans h.row, h.rat.step hb, h.qq, h.qb, h.nn, h.bel.trans (hb.mono h.bel.size)⟩

set_option maxRecDepth 100000 in
set_option maxHeartbeats 6400000 in
theorem plays_bad (w : World) (s r u : Int) (v : Value) (L : List Ac) (h : Acts w v L) (hbad : r < 1 ∨ 64 < r ∨ s < 0 ∨ r ≤ s) :
    Calls Try.prog 3 #[.int .i64 s, .int .i64 r, v, .int .i64 u] w fun e w' => e = .returned (.bool true) ∧ Below w.heap.size w w' := by
  have NW := Lib.hid (new_bad w s r hbad)
  have RN := Lib.hid (fun W => rnew_bad W s r hbad)
  have AW := Lib.hid (fun W => awake_any W)
  obtain ⟨ao, cap, rfl, hlen, hat⟩ := h
  clear hat hbad
  go_enter Try.func3, Try.ntmps3
  go_wp2_with fail
  refine NW.out.mono ?_
  rintro e w1 ⟨rfl, b1⟩
  have B1 := Lib.hid b1
  clear b1
  go_wp2_with fail
  refine (RN.out _).mono ?_
  rintro e w2 ⟨rfl, b2⟩
  have B2 := Lib.hid (B1.out.trans (b2.mono B1.out.size))
  have B3 := Lib.hid (B2.out.alloc B2.out.size (.cells #[.int .i64 0, .slice none 0 0] 29))
  clear b2
  go_wp2_with fail
  refine (AW.out _).mono ?_
  rintro e w3 ⟨rfl, b3⟩
  have B4 := Lib.hid (B3.out.trans (b3.mono B3.out.size))
  clear b3
  go_wp2
  go_returns
  exact ⟨rfl, B4.out⟩

set_option maxRecDepth 100000 in
set_option maxHeartbeats 16000000 in
theorem plays_good (w : World) (j n : Nat) (hj : j < n) (hn : n ≤ 64) (u : Int) (v : Value) (L : List Ac) (h : Acts w v L) :
    Calls Try.prog 3 #[.int .i64 (j : Int), .int .i64 (n : Int), v, .int .i64 u] w fun e w' => e = .returned (.bool true) ∧ Below w.heap.size w w' := by
  have NW := Lib.hid (new_any w j n hj hn)
  have RN := Lib.hid (fun W => rnew_any W j n hj hn)
  have AW := Lib.hid (fun W => awake_any W)
  obtain ⟨ao, cap0, rfl, hlen, hat⟩ := h
  have HAT := Lib.hid (fun i (hi : i < L.length) => Acts.cells hat hi)
  have HJ := Lib.hid (And.intro hj hn)
  have HL := Lib.hid hlen
  clear hat hj hn
  go_enter Try.func3, Try.ntmps3
  go_wp2_with fail
  refine NW.out.mono ?_
  rintro e w1 ⟨p, qs, rfl, h1, b1, hp1, hq1⟩
  have H1 := Lib.hid h1
  have B1 := Lib.hid b1
  have HQS := Lib.hid hq1
  clear h1 b1 hp1 hq1
  go_wp2_with fail
  refine (RN.out _).mono ?_
  rintro e w2 ⟨q, rfl, r2, b2, hq2⟩
  have HX := Lib.hid (show ∃ W, w2.alloc (.cells #[.int .i64 (j : Int), .slice (some ⟨q, 0, none⟩) n n] 29) = W ∧ PI w W p qs w2.heap.size n j (List.replicate n mz) q n ∧ p ≠ w2.heap.size ∧ qs ≠ w2.heap.size ∧ w.heap.size ≤ w2.heap.size from by
    have hv := vstep w2 (.cells #[.int .i64 (j : Int), .slice (some ⟨q, 0, none⟩) n n] 29)
    have h2 := H1.out.step b2
    exact ⟨_, rfl, ⟨h2.step hv, List.length_replicate, heap_alloc_new w2 _, r2.step hv, by have := H1.out.qlt; omega, Nat.ne_of_lt r2.qlt, fun x hx => by rw [rep_mem hx]; exact Int.le_refl _, (B1.out.trans (b2.mono B1.out.size)).trans (hv.mono (B1.out.trans (b2.mono B1.out.size)).size)⟩,
      Nat.ne_of_lt h2.plt, Nat.ne_of_lt h2.qlt, (B1.out.trans (b2.mono B1.out.size)).size⟩)
  clear r2 b2 hq2 H1 B1 NW RN
  obtain ⟨W0, hW0, hpi, hne⟩ := HX.out
  obtain ⟨bx, hbx⟩ : ∃ b, w2.heap.size = b := ⟨_, rfl⟩
  rw [hbx] at hpi hne
  have P0 := Lib.hid hpi
  have HN := Lib.hid hne
  clear hpi hne HX
  unfold rv
  go_upto_region 3 with (fail)

  clear hW0 hbx
  go_wp2_with fail
  go_loopw [13] (fun iv wr => ∃ (i : Nat) (ms : List Mb) (q cap : Nat), iv = .int .i64 i ∧ i ≤ L.length ∧ i ≤ 40 ∧ Hid (PI w wr p qs bx n j ms q cap)) (fun iv _ => 40 - (intOf iv).toNat)
  case atStart => exact ⟨0, _, _, _, rfl, Nat.zero_le _, Nat.zero_le _, P0⟩
  case round =>
    obtain ⟨i, ms, q, cap, rfl, hil, hi40, hI⟩ := hrel
    clear P0
    by_cases hlt : i < L.length ∧ i < 40
    · obtain ⟨hl1, hl2⟩ := hlt
      obtain ⟨kd, fr, tm, a0, kn0, c0, kl, g, o, rfl, hl, hc⟩ := HAT.out i hl1
      have BX := Lib.hid hc
      have bx0 := BX.out _ hI.out.bel
      obtain ⟨d0, -, d2, -⟩ := bx0
      have MK := Lib.hid (Made_any wr (.slice a0 kn0 c0) kl (hl.later hI.out.bel))
      have HGB := Lib.hid (show g < w.heap.size from World.block_lt_of_cell? w _ (hc w (Below.refl _ _)).1)
      obtain ⟨q1, hq1⟩ : ∃ c : Bool, c = true ↔ RightP (madeF kl) := by classical exact ⟨decide _, decide_eq_true_iff⟩
      have hkl := madeF_len kl
      have MI := Lib.hid (fun W (h : WAt W p (j : Int) qs ms) => mine_any W p qs j ms h (by rw [hI.out.len]; exact HJ.out.1) (madeF kl) hkl q1 hq1 tm)
      have HE := Lib.hid (fun W (h : WAt W p (j : Int) qs ms) => heard_any W p qs j ms h (by rw [hI.out.len]; exact HJ.out.1) fr (madeF kl) hkl q1 hq1 tm)
      have RMI := Lib.hid (fun W (h : RAt W q ms) => rmine_any W q cap j ms h (by rw [hI.out.len]; exact HJ.out.1) (madeF kl) hkl q1 hq1 tm)
      have RHE := Lib.hid (fun W (h : RAt W q ms) => rheard_any W q cap j ms h (by rw [hI.out.len]; exact HJ.out.1) hI.out.nn fr (madeF kl) hkl q1 hq1 tm)
      have NM := Lib.hid (And.intro (nn_mine hI.out.nn j (madeF kl) tm (rightM q1 tm)) (up_mine hI.out.wat.rd.m64 j hkl tm (rightM q1 tm)).1)
      have NH := Lib.hid (And.intro (nn_heard hI.out.nn j fr (madeF kl) q1 tm) (up_heard hI.out.wat.rd.m64 j fr hkl q1 tm).1)
      rw [hI.out.len] at RMI RHE HE
      generalize heardF ms j fr (madeF kl) q1 tm = msH at *
      generalize (if rightM q1 tm = true then toldAt ms j (madeF kl) tm else ms) = msM at *
      generalize heardB n j fr q1 tm = bH at *
      generalize rightM q1 tm = bM at *
      generalize madeF kl = kn at *
      have LN := Lib.hid (fun (W : World) (b : Nat) (h : VAt 34 W b kn) => load_va v34 W b kn hkl h)
      have LN33 := Lib.hid hkl
      clear hq1 hc hl hkl
      unfold vw rv at *
      go_upto_region 10 with (fail)
      go_cut [14] from 45 to 150 (fun vv wx => ∃ bv, vv = .pointer (some ⟨bv, 0, none⟩) ∧ VAt 34 wx bv kn ∧ PI w wx p qs bx n j ms q cap ∧ bv ≠ qs ∧ bv ≠ bx ∧ bv ≠ p)
      case first =>
        clear MI HE RMI RHE NM NH HAT AW
        go_wp2_with fail
        refine MK.out.mono ?_
        rintro e w5 ⟨rfl, b5⟩
        have P5 := Lib.hid (hI.out.step b5)
        obtain ⟨W6, W7, e6, e7, b7, v7⟩ := one_box z34 v34 w5 kn LN33.out
        have E6 := Lib.hid e6
        have E7 := Lib.hid e7
        have HZ := Lib.hid (show VAt 34 W7 w5.heap.size kn ∧ PI w W7 p qs bx n j ms q cap ∧ w5.heap.size ≠ qs ∧ w5.heap.size ≠ bx ∧ w5.heap.size ≠ p from ⟨v7, P5.out.step b7, Nat.ne_of_gt P5.out.wat.qlt, Nat.ne_of_gt (lt_of_block P5.out.row), Nat.ne_of_gt P5.out.wat.plt⟩)
        obtain ⟨bv, hbv⟩ : ∃ b, w5.heap.size = b := ⟨_, rfl⟩
        rw [hbv] at E6 E7 HZ
        clear b5 e6 e7 b7 v7 hI
        go_wp2_with (first | refine wpList_alloc_arr rfl 34 rfl _ _ E6.out ?_ | refine wpList_store_arr rfl (.tmp 14) (.tmp 60) 34 rfl (.pointer (some ⟨bv, 0, none⟩)) (.agg (va kn)) rfl rfl _ E7.out ?_)
        go_meet
        exact ⟨bv, rfl, HZ.out⟩
      case rest =>
        obtain ⟨bv, rfl, hvn, hpi, hbq, hbb, hbp⟩ := hcut
        have VN := Lib.hid hvn
        have P1 := Lib.hid hpi
        have HBV := Lib.hid (show bv ≠ qs ∧ bv ≠ bx ∧ bv ≠ p from ⟨hbq, hbb, hbp⟩)
        obtain ⟨wa, hwa⟩ : ∃ y, wc = y := ⟨_, rfl⟩
        rw [hwa] at VN P1 ⊢
        have d0 := (BX.out wa (by rw [← hwa]; exact hpi.bel)).1
        clear hvn hpi hbq hbb hbp hwa wc hI MK d2
        go_upto_block 2 with (fail)
        go_cut [15, 16, 17, 18] from 45 to 150 (fun _ _ _ _ wx => ∃ ms' q' cap', PI w wx p qs bx n j ms' q' cap')
        case first =>
          clear AW HAT
          by_cases hk0 : kd = 0
          · subst hk0
            go_upto_region 13 with (fail)
            go_cut [15, 16] from 45 to 150 (fun av cv wx => ∃ b15 q' cap', av = .pointer (some ⟨b15, 0, none⟩) ∧ cv = .bool bM ∧ wx.heap[b15]? = some (.cells #[.int .i64 (j : Int), .slice (some ⟨q', 0, none⟩) n cap'] 29 (0, 0)) ∧ RAt wx q' msM ∧ q' ≠ qs ∧ q' ≠ bx ∧ b15 ≠ bx ∧ PI w wx p qs bx n j ms q cap ∧ VAt 34 wx bv kn)
            case first =>
              have H0 := Lib.hid (show wa.drew.heap[bx]? = some (.cells #[.int .i64 (j : Int), .slice (some ⟨q, 0, none⟩) n cap] 29 (0, 0)) ∧ VAt 34 wa.drew bv kn ∧ wa.drew.cell? ⟨g, o + i * 4 + 1, none⟩ = some (.int .i64 fr) ∧ wa.drew.cell? ⟨g, o + i * 4 + 3, none⟩ = some (.int .i64 tm) from ⟨P1.out.row, VN.out, (BX.out wa P1.out.bel).2.1, (BX.out wa P1.out.bel).2.2.2⟩)
              refine wp_region_held_drew (S := fun w' => w'.heap[bx]? = some (.cells #[.int .i64 (j : Int), .slice (some ⟨q, 0, none⟩) n cap] 29 (0, 0)) ∧ VAt 34 w' bv kn ∧ w'.cell? ⟨g, o + i * 4 + 1, none⟩ = some (.int .i64 fr) ∧ w'.cell? ⟨g, o + i * 4 + 3, none⟩ = some (.int .i64 tm)) (by kernel_rfl) H0.out (fun hHeld => ?_)
              have LA := Lib.hid (fun (W : World) (h : W.heap[bx]? = some (.cells #[.int .i64 (j : Int), .slice (some ⟨q, 0, none⟩) n cap] 29 (0, 0)) ∧ VAt 34 W bv kn ∧ W.cell? ⟨g, o + i * 4 + 1, none⟩ = some (.int .i64 fr) ∧ W.cell? ⟨g, o + i * 4 + 3, none⟩ = some (.int .i64 tm)) => load29 W bx _ _ h.1)
              have LB := Lib.hid (fun (W : World) (h : W.heap[bx]? = some (.cells #[.int .i64 (j : Int), .slice (some ⟨q, 0, none⟩) n cap] 29 (0, 0)) ∧ VAt 34 W bv kn ∧ W.cell? ⟨g, o + i * 4 + 1, none⟩ = some (.int .i64 fr) ∧ W.cell? ⟨g, o + i * 4 + 3, none⟩ = some (.int .i64 tm)) => LN.out W bv h.2.1)
              have LC := Lib.hid (fun (W : World) (h : W.heap[bx]? = some (.cells #[.int .i64 (j : Int), .slice (some ⟨q, 0, none⟩) n cap] 29 (0, 0)) ∧ VAt 34 W bv kn ∧ W.cell? ⟨g, o + i * 4 + 1, none⟩ = some (.int .i64 fr) ∧ W.cell? ⟨g, o + i * 4 + 3, none⟩ = some (.int .i64 tm)) => load3 W ⟨g, o + i * 4 + 1, none⟩ _ h.2.2.1)
              have LD := Lib.hid (fun (W : World) (h : W.heap[bx]? = some (.cells #[.int .i64 (j : Int), .slice (some ⟨q, 0, none⟩) n cap] 29 (0, 0)) ∧ VAt 34 W bv kn ∧ W.cell? ⟨g, o + i * 4 + 1, none⟩ = some (.int .i64 fr) ∧ W.cell? ⟨g, o + i * 4 + 3, none⟩ = some (.int .i64 tm)) => load3 W ⟨g, o + i * 4 + 3, none⟩ _ h.2.2.2)
              have IX := Lib.hid (fun W => index_acts W g o L.length cap0 i hl1 HL.out)
              have PD := Lib.hid (show PI w wa.drew p qs bx n j ms q cap from P1.out.step (below_drewN wa 1))
              have HLT := Lib.hid (show ∀ W, Below wa.drew.heap.size wa.drew W → W.heap[bx]? = some (.cells #[.int .i64 (j : Int), .slice (some ⟨q, 0, none⟩) n cap] 29 (0, 0)) ∧ VAt 34 W bv kn ∧ W.cell? ⟨g, o + i * 4 + 1, none⟩ = some (.int .i64 fr) ∧ W.cell? ⟨g, o + i * 4 + 3, none⟩ = some (.int .i64 tm) from fun W hb => ⟨(hb.block _ (lt_of_block H0.out.1)).trans H0.out.1, H0.out.2.1.step hb, (BX.out W (PD.out.bel.trans (hb.mono PD.out.bel.size))).2.1, (BX.out W (PD.out.bel.trans (hb.mono PD.out.bel.size))).2.2.2⟩)
              refine take_at (i := 0) 69 (.agg #[.int .i64 (j : Int), .slice (some ⟨q, 0, none⟩) n cap]) rfl rfl (by kernel_rfl) (by kernel_rfl) (by kernel_rfl) (fun _ _ _ h => h) (yields_ld (.tmp 11) 29 (.pointer (some ⟨bx, 0, none⟩)) _ LA.out rfl rfl rfl) hHeld ?_
              simp only [Act.put, List.setIfInBounds_toArray, List.set_cons_zero, List.set_cons_succ]
              refine take_at (i := 1) 70 (.agg (va kn)) rfl rfl (by kernel_rfl) (by kernel_rfl) (by kernel_rfl) (fun _ _ _ h => h) (yields_ld (.tmp 14) 34 (.pointer (some ⟨bv, 0, none⟩)) _ LB.out rfl rfl rfl) hHeld ?_
              simp only [Act.put, List.setIfInBounds_toArray, List.set_cons_zero, List.set_cons_succ]
              refine take_at (i := 2) 71 ?_ rfl rfl (by kernel_rfl) (by kernel_rfl) (by kernel_rfl) (fun _ _ _ h => h) (.inl ⟨rfl, ?_⟩) hHeld ?_
              rotate_left 1
              · intro w hSw; go_simp; try with_reducible rfl
              simp only [Act.put, List.setIfInBounds_toArray, List.set_cons_zero, List.set_cons_succ]
              refine take_at (i := 3) 72 ?_ rfl rfl (by kernel_rfl) (by kernel_rfl) (by kernel_rfl) (fun _ _ _ h => h) (.inl ⟨rfl, ?_⟩) hHeld ?_
              rotate_left 1
              · intro w hSw; go_simp; try with_reducible rfl
              simp only [Act.put, List.setIfInBounds_toArray, List.set_cons_zero, List.set_cons_succ]
              refine take_at (i := 4) 73 (.pointer (some ⟨g, o + i * 4, none⟩)) rfl rfl (by kernel_rfl) (by kernel_rfl) (by kernel_rfl) (fun _ _ _ h => h) (yields_ix (.tmp 71) (.tmp 72) 22 (.slice (some ⟨g, o, none⟩) L.length cap0) (.int .i64 (i : Int)) _ IX.out rfl rfl rfl rfl) hHeld ?_
              simp only [Act.put, List.setIfInBounds_toArray, List.set_cons_zero, List.set_cons_succ]
              refine take_at (i := 5) 74 ?_ rfl rfl (by kernel_rfl) (by kernel_rfl) (by kernel_rfl) (fun _ _ _ h => h) (.inl ⟨rfl, ?_⟩) hHeld ?_
              rotate_left 1
              · intro w hSw; go_simp; try with_reducible rfl
              simp only [Act.put, List.setIfInBounds_toArray, List.set_cons_zero, List.set_cons_succ]
              refine take_at (i := 6) 75 (.int .i64 tm) rfl rfl (by kernel_rfl) (by kernel_rfl) (by kernel_rfl) (fun _ _ _ h => h) (yields_ld (.tmp 74) 3 (.pointer (some ⟨g, o + i * 4 + 3, none⟩)) _ LD.out rfl rfl rfl) hHeld ?_
              simp only [Act.put, List.setIfInBounds_toArray, List.set_cons_zero, List.set_cons_succ]
              refine wpAnyH_ready (rs := [7, 11]) (by kernel_rfl) (by simp) (br_call (i := 7) 76 11 #[.agg #[.int .i64 (j : Int), .slice (some ⟨q, 0, none⟩) n cap], .agg (va kn), .int .i64 tm] rfl rfl rfl (by go_simp) ((RMI.out wa.drew PD.out.rat).mono ?_) (br_alloc (i := 11) 15 29 _ _ rfl rfl rfl rfl (alloc29 wa.drew) (HLT.out _ (vstep wa.drew _)) (fun hH => ?_) AllReadyH.nil))
              · rintro e w5 ⟨q', cap', rfl, r5, b5, hq5⟩
                refine ⟨_, rfl, HLT.out w5 b5, fun hH => ?_⟩
                clear hHeld
                have hHeld := hH
                have hv := vstep w5 (.cells #[.int .i64 0, .slice none 0 0] 29)
                have PZ := Lib.hid ((PD.out.step b5).step hv)
                have RZ := Lib.hid (r5.step hv)
                have VZ := Lib.hid (show VAt 34 (w5.alloc (.cells #[.int .i64 0, .slice none 0 0] 29)) bv kn from (H0.out.2.1.step b5).step hv)
                have ZB := Lib.hid (heap_alloc_new w5 (.cells #[.int .i64 0, .slice none 0 0] 29))
                have HSA := Lib.hid (HLT.out _ (b5.trans (hv.mono b5.size)))
                have NZ := Lib.hid (show q' ≠ w5.heap.size ∧ q' ≠ qs ∧ q' ≠ bx ∧ w5.heap.size ≠ bx ∧ p ≠ w5.heap.size ∧ qs ≠ w5.heap.size ∧ q ≠ w5.heap.size ∧ bv ≠ w5.heap.size ∧ w.heap.size ≤ w5.heap.size from by
                  have s5 := b5.size
                  have l1 := r5.qlt
                  have l2 := PD.out.wat.plt
                  have l3 := PD.out.wat.qlt
                  have l4 := lt_of_block PD.out.row
                  have l5 := PD.out.rat.qlt
                  have l6 := lt_of_block H0.out.2.1
                  have l7 := PD.out.bel.size
                  refine ⟨by omega, ?_, ?_, by omega, by omega, by omega, by omega, by omega, by omega⟩
                  · rcases hq5 with e | e
                    · rw [e]; exact PD.out.qq
                    · omega
                  · rcases hq5 with e | e
                    · rw [e]; exact PD.out.qb
                    · omega)
                obtain ⟨b15, hb15⟩ : ∃ b, w5.heap.size = b := ⟨_, rfl⟩
                have AL := Lib.hid (alloc29 w5)
                obtain ⟨w6, hw6⟩ : ∃ y, w5.alloc (.cells #[.int .i64 0, .slice none 0 0] 29) = y := ⟨_, rfl⟩
                rw [hw6] at PZ RZ VZ ZB HSA AL
                rw [hb15] at ZB NZ AL
                clear hb15 hw6 hv r5 b5 hq5
                simp only [Act.put, List.setIfInBounds_toArray, List.set_cons_zero, List.set_cons_succ]
                refine take_at (i := 8) 68 ?_ rfl rfl (by kernel_rfl) (by kernel_rfl) (by kernel_rfl) (fun _ _ _ h => h) (.inl ⟨rfl, ?_⟩) hHeld ?_
                rotate_left 1
                · intro w hSw; go_simp; try with_reducible rfl
                simp only [Act.put, List.setIfInBounds_toArray, List.set_cons_zero, List.set_cons_succ]
                refine take_at (i := 9) 77 ?_ rfl rfl (by kernel_rfl) (by kernel_rfl) (by kernel_rfl) (fun _ _ _ h => h) (.inl ⟨rfl, ?_⟩) hHeld ?_
                rotate_left 1
                · intro w hSw; go_simp; try with_reducible rfl
                simp only [Act.put, List.setIfInBounds_toArray, List.set_cons_zero, List.set_cons_succ]
                refine take_at (i := 10) 78 ?_ rfl rfl (by kernel_rfl) (by kernel_rfl) (by kernel_rfl) (fun _ _ _ h => h) (.inl ⟨rfl, ?_⟩) hHeld ?_
                rotate_left 1
                · intro w hSw; go_simp; try with_reducible rfl
                simp only [Act.put, List.setIfInBounds_toArray, List.set_cons_zero, List.set_cons_succ]
                refine wpAnyH_ready (rs := [11]) (by kernel_rfl) (by simp) (br_alloc (i := 11) 15 29 _ w6 rfl rfl rfl rfl AL.out HSA.out (fun hH2 => ?_) AllReadyH.nil)
                simp only [Act.put, List.setIfInBounds_toArray, List.set_cons_zero, List.set_cons_succ]
                have S7 := Lib.hid (store29 w6 b15 (j : Int) (some ⟨q', 0, none⟩) n cap' _ _ ZB.out)
                obtain ⟨w7, hw7⟩ : ∃ y, (w6.setCell ⟨b15, 0, none⟩ (.int .i64 (j : Int))).setCell ⟨b15, 1, none⟩ (.slice (some ⟨q', 0, none⟩) n cap') = y := ⟨_, rfl⟩
                rw [hw7] at S7
                have k7 : ∀ b, b ≠ b15 → w7.heap[b]? = w6.heap[b]? := fun b hb => by rw [← hw7]; exact (Below.heap_setCell _ _ _ _ hb).trans (Below.heap_setCell _ _ _ _ hb)
                have z7 : w6.heap.size ≤ w7.heap.size := by rw [← hw7]; simp
                have FZ := Lib.hid (show w7.heap[b15]? = some (.cells #[.int .i64 (j : Int), .slice (some ⟨q', 0, none⟩) n cap'] 29 (0, 0)) ∧ RAt w7 q' msM ∧ q' ≠ qs ∧ q' ≠ bx ∧ b15 ≠ bx ∧ PI w w7 p qs bx n j ms q cap ∧ VAt 34 w7 bv kn from
                  ⟨by rw [← hw7]; exact row_setC (row_setC ZB.out), RZ.out.blocks (k7 _ NZ.out.1) z7, NZ.out.2.1, NZ.out.2.2.1, NZ.out.2.2.2.1, ⟨PZ.out.wat.blocks (k7 _ NZ.out.2.2.2.2.1) (k7 _ NZ.out.2.2.2.2.2.1) z7, PZ.out.len, (k7 _ (fun e => NZ.out.2.2.2.1 e.symm)).trans PZ.out.row, PZ.out.rat.blocks (k7 _ NZ.out.2.2.2.2.2.2.1) z7, PZ.out.qq, PZ.out.qb, PZ.out.nn, by rw [← hw7]; exact (PZ.out.bel.setCell (p := ⟨b15, 0, none⟩) NZ.out.2.2.2.2.2.2.2.2 _).setCell (p := ⟨b15, 1, none⟩) NZ.out.2.2.2.2.2.2.2.2 _⟩, (k7 _ NZ.out.2.2.2.2.2.2.2.1).trans VZ.out⟩)
                have hS7 := Lib.hid (show w7.heap[bx]? = some (.cells #[.int .i64 (j : Int), .slice (some ⟨q, 0, none⟩) n cap] 29 (0, 0)) ∧ VAt 34 w7 bv kn ∧ w7.cell? ⟨g, o + i * 4 + 1, none⟩ = some (.int .i64 fr) ∧ w7.cell? ⟨g, o + i * 4 + 3, none⟩ = some (.int .i64 tm) from ⟨FZ.out.2.2.2.2.2.1.row, FZ.out.2.2.2.2.2.2, (BX.out w7 FZ.out.2.2.2.2.2.1.bel).2.1, (BX.out w7 FZ.out.2.2.2.2.2.1.bel).2.2.2⟩)
                clear hw7 k7 z7
                refine wpAnyH_ready (rs := [12]) (by kernel_rfl) (by simp) (br_store 29 (.tmp 15) (.tmp 77) (.pointer (some ⟨b15, 0, none⟩)) (.agg #[.int .i64 (j : Int), .slice (some ⟨q', 0, none⟩) n cap']) w7 rfl rfl rfl rfl rfl rfl S7.out hS7.out (fun _ => ?_) AllReadyH.nil)
                simp only [Act.put]
                refine take_at (i := 13) 16 ?_ rfl rfl (by kernel_rfl) (by kernel_rfl) (by kernel_rfl) (fun _ _ _ h => h) (.inl ⟨rfl, ?_⟩) hS7.out ?_
                rotate_left 1
                · intro w hSw; go_simp; try with_reducible rfl
                simp only [Act.put, List.setIfInBounds_toArray, List.set_cons_zero, List.set_cons_succ]
                refine wpAnyH_done (by kernel_rfl) ?_ _
                go_wp2_with fail
                go_meet
                exact ⟨b15, q', cap', rfl, rfl, FZ.out⟩
              · have hv := vstep wa.drew (.cells #[.int .i64 0, .slice none 0 0] 29)
                obtain ⟨b15, hb15⟩ : ∃ b, wa.drew.heap.size = b := ⟨_, rfl⟩
                have ZA := Lib.hid (heap_alloc_new wa.drew (.cells #[.int .i64 0, .slice none 0 0] 29))
                have PA := Lib.hid (PD.out.step hv)
                have VA := Lib.hid (show VAt 34 (wa.drew.alloc (.cells #[.int .i64 0, .slice none 0 0] 29)) bv kn from H0.out.2.1.step hv)
                have HB15 := Lib.hid (show b15 = wa.drew.heap.size from hb15.symm)
                obtain ⟨w6, hw6⟩ : ∃ y, wa.drew.alloc (.cells #[.int .i64 0, .slice none 0 0] 29) = y := ⟨_, rfl⟩
                have HV6 := Lib.hid (show Below wa.drew.heap.size wa.drew w6 from by rw [← hw6]; exact hv)
                rw [hw6] at ZA PA VA ⊢
                rw [hb15] at ZA ⊢
                clear hb15 hw6 hv hHeld
                have hHeld := hH
                simp only [Act.put, List.setIfInBounds_toArray, List.set_cons_zero, List.set_cons_succ]
                refine one_call (i := 7) 76 11 #[.agg #[.int .i64 (j : Int), .slice (some ⟨q, 0, none⟩) n cap], .agg (va kn), .int .i64 tm] rfl rfl (by kernel_rfl) rfl (by go_simp) ?_
                refine (RMI.out w6 PA.out.rat).mono ?_
                rintro e w5 ⟨q', cap', rfl, r5, b5, hq5⟩
                have PZ := Lib.hid (PA.out.step b5)
                have RZ := Lib.hid r5
                have VZ := Lib.hid (VA.out.step b5)
                have ZB := Lib.hid ((b5.block _ (lt_of_block ZA.out)).trans ZA.out)
                have NZ := Lib.hid (show q' ≠ b15 ∧ q' ≠ qs ∧ q' ≠ bx ∧ b15 ≠ bx ∧ p ≠ b15 ∧ qs ≠ b15 ∧ q ≠ b15 ∧ bv ≠ b15 ∧ w.heap.size ≤ b15 from by
                  have s5 := b5.size
                  have l0 := HB15.out
                  have l1 := lt_of_block ZA.out
                  have l2 := PD.out.wat.plt
                  have l3 := PD.out.wat.qlt
                  have l4 := lt_of_block PD.out.row
                  have l5 := PD.out.rat.qlt
                  have l6 := lt_of_block H0.out.2.1
                  have l7 := PD.out.bel.size
                  have l8 := PA.out.wat.qlt
                  have l9 := lt_of_block PA.out.row
                  refine ⟨?_, ?_, ?_, by omega, by omega, by omega, by omega, by omega, by omega⟩
                  · rcases hq5 with e | e
                    · rw [e]; omega
                    · omega
                  · rcases hq5 with e | e
                    · rw [e]; exact PD.out.qq
                    · omega
                  · rcases hq5 with e | e
                    · rw [e]; exact PD.out.qb
                    · omega)
                refine ⟨_, rfl, HLT.out w5 (HV6.out.trans (b5.mono HV6.out.size)), fun hH => ?_⟩
                clear hHeld r5 b5 hq5
                have hHeld := hH
                simp only [Act.put, List.setIfInBounds_toArray, List.set_cons_zero, List.set_cons_succ]
                refine take_at (i := 8) 68 ?_ rfl rfl (by kernel_rfl) (by kernel_rfl) (by kernel_rfl) (fun _ _ _ h => h) (.inl ⟨rfl, ?_⟩) hHeld ?_
                rotate_left 1
                · intro w hSw; go_simp; try with_reducible rfl
                simp only [Act.put, List.setIfInBounds_toArray, List.set_cons_zero, List.set_cons_succ]
                refine take_at (i := 9) 77 ?_ rfl rfl (by kernel_rfl) (by kernel_rfl) (by kernel_rfl) (fun _ _ _ h => h) (.inl ⟨rfl, ?_⟩) hHeld ?_
                rotate_left 1
                · intro w hSw; go_simp; try with_reducible rfl
                simp only [Act.put, List.setIfInBounds_toArray, List.set_cons_zero, List.set_cons_succ]
                refine take_at (i := 10) 78 ?_ rfl rfl (by kernel_rfl) (by kernel_rfl) (by kernel_rfl) (fun _ _ _ h => h) (.inl ⟨rfl, ?_⟩) hHeld ?_
                rotate_left 1
                · intro w hSw; go_simp; try with_reducible rfl
                simp only [Act.put, List.setIfInBounds_toArray, List.set_cons_zero, List.set_cons_succ]
                have S7 := Lib.hid (store29 w5 b15 (j : Int) (some ⟨q', 0, none⟩) n cap' _ _ ZB.out)
                obtain ⟨w7, hw7⟩ : ∃ y, (w5.setCell ⟨b15, 0, none⟩ (.int .i64 (j : Int))).setCell ⟨b15, 1, none⟩ (.slice (some ⟨q', 0, none⟩) n cap') = y := ⟨_, rfl⟩
                rw [hw7] at S7
                have k7 : ∀ b, b ≠ b15 → w7.heap[b]? = w5.heap[b]? := fun b hb => by rw [← hw7]; exact (Below.heap_setCell _ _ _ _ hb).trans (Below.heap_setCell _ _ _ _ hb)
                have z7 : w5.heap.size ≤ w7.heap.size := by rw [← hw7]; simp
                have FZ := Lib.hid (show w7.heap[b15]? = some (.cells #[.int .i64 (j : Int), .slice (some ⟨q', 0, none⟩) n cap'] 29 (0, 0)) ∧ RAt w7 q' msM ∧ q' ≠ qs ∧ q' ≠ bx ∧ b15 ≠ bx ∧ PI w w7 p qs bx n j ms q cap ∧ VAt 34 w7 bv kn from
                  ⟨by rw [← hw7]; exact row_setC (row_setC ZB.out), RZ.out.blocks (k7 _ NZ.out.1) z7, NZ.out.2.1, NZ.out.2.2.1, NZ.out.2.2.2.1, ⟨PZ.out.wat.blocks (k7 _ NZ.out.2.2.2.2.1) (k7 _ NZ.out.2.2.2.2.2.1) z7, PZ.out.len, (k7 _ (fun e => NZ.out.2.2.2.1 e.symm)).trans PZ.out.row, PZ.out.rat.blocks (k7 _ NZ.out.2.2.2.2.2.2.1) z7, PZ.out.qq, PZ.out.qb, PZ.out.nn, by rw [← hw7]; exact (PZ.out.bel.setCell (p := ⟨b15, 0, none⟩) NZ.out.2.2.2.2.2.2.2.2 _).setCell (p := ⟨b15, 1, none⟩) NZ.out.2.2.2.2.2.2.2.2 _⟩, (k7 _ NZ.out.2.2.2.2.2.2.2.1).trans VZ.out⟩)
                have hS7 := Lib.hid (show w7.heap[bx]? = some (.cells #[.int .i64 (j : Int), .slice (some ⟨q, 0, none⟩) n cap] 29 (0, 0)) ∧ VAt 34 w7 bv kn ∧ w7.cell? ⟨g, o + i * 4 + 1, none⟩ = some (.int .i64 fr) ∧ w7.cell? ⟨g, o + i * 4 + 3, none⟩ = some (.int .i64 tm) from ⟨FZ.out.2.2.2.2.2.1.row, FZ.out.2.2.2.2.2.2, (BX.out w7 FZ.out.2.2.2.2.2.1.bel).2.1, (BX.out w7 FZ.out.2.2.2.2.2.1.bel).2.2.2⟩)
                clear hw7 k7 z7
                refine wpAnyH_ready (rs := [12]) (by kernel_rfl) (by simp) (br_store 29 (.tmp 15) (.tmp 77) (.pointer (some ⟨b15, 0, none⟩)) (.agg #[.int .i64 (j : Int), .slice (some ⟨q', 0, none⟩) n cap']) w7 rfl rfl rfl rfl rfl rfl S7.out hS7.out (fun _ => ?_) AllReadyH.nil)
                simp only [Act.put]
                refine take_at (i := 13) 16 ?_ rfl rfl (by kernel_rfl) (by kernel_rfl) (by kernel_rfl) (fun _ _ _ h => h) (.inl ⟨rfl, ?_⟩) hS7.out ?_
                rotate_left 1
                · intro w hSw; go_simp; try with_reducible rfl
                simp only [Act.put, List.setIfInBounds_toArray, List.set_cons_zero, List.set_cons_succ]
                refine wpAnyH_done (by kernel_rfl) ?_ _
                go_wp2_with fail
                go_meet
                exact ⟨b15, q', cap', rfl, rfl, FZ.out⟩
            case rest =>
              obtain ⟨b15, q', cap', rfl, rfl, h15, hr15, hqq, hqb, hbb, hpi, hvn⟩ := hcut
              have c150 := cell_of_row _ b15 0 _ _ _ h15
              have c151 := cell_of_row _ b15 1 _ _ _ h15
              have cb0 := cell_of_row _ bx 0 _ _ _ hpi.row
              have cb1 := cell_of_row _ bx 1 _ _ _ hpi.row
              have fb0 := frozen_of_row _ bx 0 _ _ hpi.row
              have fb1 := frozen_of_row _ bx 1 _ _ hpi.row
              have HC := Lib.hid (And.intro hr15 (And.intro hqq (And.intro hqb (And.intro hpi hvn))))
              clear h15 hr15 hqq hqb hbb hpi hvn RMI RHE
              go_upto_region 15 with (fail)
              obtain ⟨wd, hwd⟩ : ∃ y, (wc.setCell ⟨bx, 0, none⟩ (.int .i64 (j : Int))).setCell ⟨bx, 1, none⟩ (.slice (some ⟨q', 0, none⟩) n cap') = y := ⟨_, rfl⟩
              have kd7 : ∀ b, b ≠ bx → wd.heap[b]? = wc.heap[b]? := fun b hb => by rw [← hwd]; exact (Below.heap_setCell _ _ _ _ hb).trans (Below.heap_setCell _ _ _ _ hb)
              have zd : wc.heap.size ≤ wd.heap.size := by rw [← hwd]; simp
              have WD := Lib.hid (show WAt wd p (j : Int) qs ms from HC.out.2.2.2.1.wat.blocks (kd7 _ HN.out.1) (kd7 _ HN.out.2.1) zd)
              have RD := Lib.hid (show RAt wd q' msM from HC.out.1.blocks (kd7 _ HC.out.2.2.1) zd)
              have RW := Lib.hid (show wd.heap[bx]? = some (.cells #[.int .i64 (j : Int), .slice (some ⟨q', 0, none⟩) n cap'] 29 (0, 0)) by rw [← hwd]; exact row_setC (row_setC HC.out.2.2.2.1.row))
              have BD := Lib.hid (show Below w.heap.size w wd by rw [← hwd]; exact (HC.out.2.2.2.1.bel.setCell (p := ⟨bx, 0, none⟩) HN.out.2.2 _).setCell (p := ⟨bx, 1, none⟩) HN.out.2.2 _)
              have VD := Lib.hid (show VAt 34 wd bv kn from (kd7 _ HBV.out.2.1).trans HC.out.2.2.2.2)
              rw [hwd]
              clear kd7 zd hwd c150 c151 cb0 cb1 fb0 fb1
              have H0 := Lib.hid (show VAt 34 wd.drew bv kn ∧ wd.drew.cell? ⟨g, o + i * 4 + 1, none⟩ = some (.int .i64 fr) ∧ wd.drew.cell? ⟨g, o + i * 4 + 3, none⟩ = some (.int .i64 tm) from ⟨VD.out, (BX.out wd BD.out).2.1, (BX.out wd BD.out).2.2.2⟩)
              refine wp_region_held_drew (S := fun w' => VAt 34 w' bv kn ∧ w'.cell? ⟨g, o + i * 4 + 1, none⟩ = some (.int .i64 fr) ∧ w'.cell? ⟨g, o + i * 4 + 3, none⟩ = some (.int .i64 tm)) (by kernel_rfl) H0.out (fun hHeld => ?_)
              have LB := Lib.hid (fun (W : World) (h : VAt 34 W bv kn ∧ W.cell? ⟨g, o + i * 4 + 1, none⟩ = some (.int .i64 fr) ∧ W.cell? ⟨g, o + i * 4 + 3, none⟩ = some (.int .i64 tm)) => LN.out W bv h.1)
              have LC := Lib.hid (fun (W : World) (h : VAt 34 W bv kn ∧ W.cell? ⟨g, o + i * 4 + 1, none⟩ = some (.int .i64 fr) ∧ W.cell? ⟨g, o + i * 4 + 3, none⟩ = some (.int .i64 tm)) => load3 W ⟨g, o + i * 4 + 1, none⟩ _ h.2.1)
              have LD := Lib.hid (fun (W : World) (h : VAt 34 W bv kn ∧ W.cell? ⟨g, o + i * 4 + 1, none⟩ = some (.int .i64 fr) ∧ W.cell? ⟨g, o + i * 4 + 3, none⟩ = some (.int .i64 tm)) => load3 W ⟨g, o + i * 4 + 3, none⟩ _ h.2.2)
              have IX := Lib.hid (fun W => index_acts W g o L.length cap0 i hl1 HL.out)
              refine take_at (i := 0) 80 ?_ rfl rfl (by kernel_rfl) (by kernel_rfl) (by kernel_rfl) (fun _ _ _ h => h) (.inl ⟨rfl, ?_⟩) hHeld ?_
              rotate_left 1
              · intro w hSw; go_simp; try with_reducible rfl
              simp only [Act.put, List.setIfInBounds_toArray, List.set_cons_zero, List.set_cons_succ]
              refine take_at (i := 2) 82 ?_ rfl rfl (by kernel_rfl) (by kernel_rfl) (by kernel_rfl) (fun _ _ _ h => h) (.inl ⟨rfl, ?_⟩) hHeld ?_
              rotate_left 1
              · intro w hSw; go_simp; try with_reducible rfl
              simp only [Act.put, List.setIfInBounds_toArray, List.set_cons_zero, List.set_cons_succ]
              refine take_at (i := 3) 83 ?_ rfl rfl (by kernel_rfl) (by kernel_rfl) (by kernel_rfl) (fun _ _ _ h => h) (.inl ⟨rfl, ?_⟩) hHeld ?_
              rotate_left 1
              · intro w hSw; go_simp; try with_reducible rfl
              simp only [Act.put, List.setIfInBounds_toArray, List.set_cons_zero, List.set_cons_succ]
              refine take_at (i := 8) 88 ?_ rfl rfl (by kernel_rfl) (by kernel_rfl) (by kernel_rfl) (fun _ _ _ h => h) (.inl ⟨rfl, ?_⟩) hHeld ?_
              rotate_left 1
              · intro w hSw; go_simp; try with_reducible rfl
              simp only [Act.put, List.setIfInBounds_toArray, List.set_cons_zero, List.set_cons_succ]
              refine take_at (i := 1) 81 (.agg (va kn)) rfl rfl (by kernel_rfl) (by kernel_rfl) (by kernel_rfl) (fun _ _ _ h => h) (yields_ld (.tmp 14) 34 (.pointer (some ⟨bv, 0, none⟩)) _ LB.out rfl rfl rfl) hHeld ?_
              simp only [Act.put, List.setIfInBounds_toArray, List.set_cons_zero, List.set_cons_succ]
              refine take_at (i := 4) 84 (.pointer (some ⟨g, o + i * 4, none⟩)) rfl rfl (by kernel_rfl) (by kernel_rfl) (by kernel_rfl) (fun _ _ _ h => h) (yields_ix (.tmp 82) (.tmp 83) 22 (.slice (some ⟨g, o, none⟩) L.length cap0) (.int .i64 (i : Int)) _ IX.out rfl rfl rfl rfl) hHeld ?_
              simp only [Act.put, List.setIfInBounds_toArray, List.set_cons_zero, List.set_cons_succ]
              refine take_at (i := 5) 85 ?_ rfl rfl (by kernel_rfl) (by kernel_rfl) (by kernel_rfl) (fun _ _ _ h => h) (.inl ⟨rfl, ?_⟩) hHeld ?_
              rotate_left 1
              · intro w hSw; go_simp; try with_reducible rfl
              simp only [Act.put, List.setIfInBounds_toArray, List.set_cons_zero, List.set_cons_succ]
              refine take_at (i := 6) 86 (.int .i64 tm) rfl rfl (by kernel_rfl) (by kernel_rfl) (by kernel_rfl) (fun _ _ _ h => h) (yields_ld (.tmp 85) 3 (.pointer (some ⟨g, o + i * 4 + 3, none⟩)) _ LD.out rfl rfl rfl) hHeld ?_
              simp only [Act.put, List.setIfInBounds_toArray, List.set_cons_zero, List.set_cons_succ]
              refine one_call (i := 7) 87 12 #[.pointer (some ⟨p, 0, none⟩), .agg (va kn), .int .i64 tm] rfl rfl (by kernel_rfl) rfl (by go_simp) ?_
              refine (MI.out wd.drew (WD.out.step (below_drewN wd 1))).mono ?_
              rintro e w8 ⟨rfl, h8, g8⟩
              have B8 := Lib.hid (show Below w.heap.size w w8 from below_own (show Below w.heap.size w wd.drew from BD.out.trans ((below_drewN wd 1).mono BD.out.size)) HQS.out g8)
              have P8 := Lib.hid (show PI w w8 p qs bx n j msM q' cap' from ⟨h8, by rw [NM.out.2, HC.out.2.2.2.1.len], (g8.block _ (lt_of_block RW.out) (fun e => HN.out.2.1 (by injection e with e; exact e.symm))).trans RW.out, by
                have rd : RAt wd.drew q' msM := RD.out.blocks rfl (Nat.le_refl _)
                exact rd.blocks (g8.block _ rd.qlt (fun e => HC.out.2.1 (by injection e))) g8.size, HC.out.2.1, HC.out.2.2.1, NM.out.1, B8.out⟩)
              have V8 := Lib.hid (show VAt 34 w8 bv kn from (g8.block _ (lt_of_block VD.out) (fun e => HBV.out.1 (by injection e))).trans VD.out)
              refine ⟨_, rfl, ⟨V8.out, (BX.out w8 B8.out).2.1, (BX.out w8 B8.out).2.2.2⟩, fun hH => ?_⟩
              clear hHeld h8 g8
              have hHeld := hH
              simp only [Act.put, List.setIfInBounds_toArray, List.set_cons_zero, List.set_cons_succ]
              refine take_at (i := 9) 89 (.bool false) rfl rfl (by kernel_rfl) (by kernel_rfl) (by kernel_rfl) (fun _ _ _ h => h) (.inl ⟨rfl, ?_⟩) hHeld ?_
              · intro w hSw; cases bM <;> go_simp <;> (try with_reducible rfl)
              simp only [Act.put, List.setIfInBounds_toArray, List.set_cons_zero, List.set_cons_succ]
              refine wpAnyH_done (by kernel_rfl) ?_ _
              go_wp2_with fail
              go_meet
              exact ⟨_, q', cap', P8.out⟩
          · by_cases hk1 : kd = 1
            · subst hk1
              go_upto_region 20 with (fail)
              go_cut [17, 18] from 45 to 150 (fun av cv wx => ∃ b15 q' cap', av = .pointer (some ⟨b15, 0, none⟩) ∧ cv = .bool bH ∧ wx.heap[b15]? = some (.cells #[.int .i64 (j : Int), .slice (some ⟨q', 0, none⟩) n cap'] 29 (0, 0)) ∧ RAt wx q' msH ∧ q' ≠ qs ∧ q' ≠ bx ∧ b15 ≠ bx ∧ PI w wx p qs bx n j ms q cap ∧ VAt 34 wx bv kn)
              case first =>
                have H0 := Lib.hid (show wa.drew.heap[bx]? = some (.cells #[.int .i64 (j : Int), .slice (some ⟨q, 0, none⟩) n cap] 29 (0, 0)) ∧ VAt 34 wa.drew bv kn ∧ wa.drew.cell? ⟨g, o + i * 4 + 1, none⟩ = some (.int .i64 fr) ∧ wa.drew.cell? ⟨g, o + i * 4 + 3, none⟩ = some (.int .i64 tm) from ⟨P1.out.row, VN.out, (BX.out wa P1.out.bel).2.1, (BX.out wa P1.out.bel).2.2.2⟩)
                refine wp_region_held_drew (S := fun w' => w'.heap[bx]? = some (.cells #[.int .i64 (j : Int), .slice (some ⟨q, 0, none⟩) n cap] 29 (0, 0)) ∧ VAt 34 w' bv kn ∧ w'.cell? ⟨g, o + i * 4 + 1, none⟩ = some (.int .i64 fr) ∧ w'.cell? ⟨g, o + i * 4 + 3, none⟩ = some (.int .i64 tm)) (by kernel_rfl) H0.out (fun hHeld => ?_)
                have LA := Lib.hid (fun (W : World) (h : W.heap[bx]? = some (.cells #[.int .i64 (j : Int), .slice (some ⟨q, 0, none⟩) n cap] 29 (0, 0)) ∧ VAt 34 W bv kn ∧ W.cell? ⟨g, o + i * 4 + 1, none⟩ = some (.int .i64 fr) ∧ W.cell? ⟨g, o + i * 4 + 3, none⟩ = some (.int .i64 tm)) => load29 W bx _ _ h.1)
                have LB := Lib.hid (fun (W : World) (h : W.heap[bx]? = some (.cells #[.int .i64 (j : Int), .slice (some ⟨q, 0, none⟩) n cap] 29 (0, 0)) ∧ VAt 34 W bv kn ∧ W.cell? ⟨g, o + i * 4 + 1, none⟩ = some (.int .i64 fr) ∧ W.cell? ⟨g, o + i * 4 + 3, none⟩ = some (.int .i64 tm)) => LN.out W bv h.2.1)
                have LC := Lib.hid (fun (W : World) (h : W.heap[bx]? = some (.cells #[.int .i64 (j : Int), .slice (some ⟨q, 0, none⟩) n cap] 29 (0, 0)) ∧ VAt 34 W bv kn ∧ W.cell? ⟨g, o + i * 4 + 1, none⟩ = some (.int .i64 fr) ∧ W.cell? ⟨g, o + i * 4 + 3, none⟩ = some (.int .i64 tm)) => load3 W ⟨g, o + i * 4 + 1, none⟩ _ h.2.2.1)
                have LD := Lib.hid (fun (W : World) (h : W.heap[bx]? = some (.cells #[.int .i64 (j : Int), .slice (some ⟨q, 0, none⟩) n cap] 29 (0, 0)) ∧ VAt 34 W bv kn ∧ W.cell? ⟨g, o + i * 4 + 1, none⟩ = some (.int .i64 fr) ∧ W.cell? ⟨g, o + i * 4 + 3, none⟩ = some (.int .i64 tm)) => load3 W ⟨g, o + i * 4 + 3, none⟩ _ h.2.2.2)
                have IX := Lib.hid (fun W => index_acts W g o L.length cap0 i hl1 HL.out)
                have PD := Lib.hid (show PI w wa.drew p qs bx n j ms q cap from P1.out.step (below_drewN wa 1))
                have HLT := Lib.hid (show ∀ W, Below wa.drew.heap.size wa.drew W → W.heap[bx]? = some (.cells #[.int .i64 (j : Int), .slice (some ⟨q, 0, none⟩) n cap] 29 (0, 0)) ∧ VAt 34 W bv kn ∧ W.cell? ⟨g, o + i * 4 + 1, none⟩ = some (.int .i64 fr) ∧ W.cell? ⟨g, o + i * 4 + 3, none⟩ = some (.int .i64 tm) from fun W hb => ⟨(hb.block _ (lt_of_block H0.out.1)).trans H0.out.1, H0.out.2.1.step hb, (BX.out W (PD.out.bel.trans (hb.mono PD.out.bel.size))).2.1, (BX.out W (PD.out.bel.trans (hb.mono PD.out.bel.size))).2.2.2⟩)
                refine take_at (i := 0) 95 (.agg #[.int .i64 (j : Int), .slice (some ⟨q, 0, none⟩) n cap]) rfl rfl (by kernel_rfl) (by kernel_rfl) (by kernel_rfl) (fun _ _ _ h => h) (yields_ld (.tmp 11) 29 (.pointer (some ⟨bx, 0, none⟩)) _ LA.out rfl rfl rfl) hHeld ?_
                simp only [Act.put, List.setIfInBounds_toArray, List.set_cons_zero, List.set_cons_succ]
                refine take_at (i := 6) 101 (.agg (va kn)) rfl rfl (by kernel_rfl) (by kernel_rfl) (by kernel_rfl) (fun _ _ _ h => h) (yields_ld (.tmp 14) 34 (.pointer (some ⟨bv, 0, none⟩)) _ LB.out rfl rfl rfl) hHeld ?_
                simp only [Act.put, List.setIfInBounds_toArray, List.set_cons_zero, List.set_cons_succ]
                refine take_at (i := 1) 96 ?_ rfl rfl (by kernel_rfl) (by kernel_rfl) (by kernel_rfl) (fun _ _ _ h => h) (.inl ⟨rfl, ?_⟩) hHeld ?_
                rotate_left 1
                · intro w hSw; go_simp; try with_reducible rfl
                simp only [Act.put, List.setIfInBounds_toArray, List.set_cons_zero, List.set_cons_succ]
                refine take_at (i := 2) 97 ?_ rfl rfl (by kernel_rfl) (by kernel_rfl) (by kernel_rfl) (fun _ _ _ h => h) (.inl ⟨rfl, ?_⟩) hHeld ?_
                rotate_left 1
                · intro w hSw; go_simp; try with_reducible rfl
                simp only [Act.put, List.setIfInBounds_toArray, List.set_cons_zero, List.set_cons_succ]
                refine take_at (i := 7) 102 ?_ rfl rfl (by kernel_rfl) (by kernel_rfl) (by kernel_rfl) (fun _ _ _ h => h) (.inl ⟨rfl, ?_⟩) hHeld ?_
                rotate_left 1
                · intro w hSw; go_simp; try with_reducible rfl
                simp only [Act.put, List.setIfInBounds_toArray, List.set_cons_zero, List.set_cons_succ]
                refine take_at (i := 8) 103 ?_ rfl rfl (by kernel_rfl) (by kernel_rfl) (by kernel_rfl) (fun _ _ _ h => h) (.inl ⟨rfl, ?_⟩) hHeld ?_
                rotate_left 1
                · intro w hSw; go_simp; try with_reducible rfl
                simp only [Act.put, List.setIfInBounds_toArray, List.set_cons_zero, List.set_cons_succ]
                refine take_at (i := 3) 98 (.pointer (some ⟨g, o + i * 4, none⟩)) rfl rfl (by kernel_rfl) (by kernel_rfl) (by kernel_rfl) (fun _ _ _ h => h) (yields_ix (.tmp 96) (.tmp 97) 22 (.slice (some ⟨g, o, none⟩) L.length cap0) (.int .i64 (i : Int)) _ IX.out rfl rfl rfl rfl) hHeld ?_
                simp only [Act.put, List.setIfInBounds_toArray, List.set_cons_zero, List.set_cons_succ]
                refine take_at (i := 4) 99 ?_ rfl rfl (by kernel_rfl) (by kernel_rfl) (by kernel_rfl) (fun _ _ _ h => h) (.inl ⟨rfl, ?_⟩) hHeld ?_
                rotate_left 1
                · intro w hSw; go_simp; try with_reducible rfl
                simp only [Act.put, List.setIfInBounds_toArray, List.set_cons_zero, List.set_cons_succ]
                refine take_at (i := 5) 100 (.int .i64 fr) rfl rfl (by kernel_rfl) (by kernel_rfl) (by kernel_rfl) (fun _ _ _ h => h) (yields_ld (.tmp 99) 3 (.pointer (some ⟨g, o + i * 4 + 1, none⟩)) _ LC.out rfl rfl rfl) hHeld ?_
                simp only [Act.put, List.setIfInBounds_toArray, List.set_cons_zero, List.set_cons_succ]
                refine take_at (i := 9) 104 (.pointer (some ⟨g, o + i * 4, none⟩)) rfl rfl (by kernel_rfl) (by kernel_rfl) (by kernel_rfl) (fun _ _ _ h => h) (yields_ix (.tmp 102) (.tmp 103) 22 (.slice (some ⟨g, o, none⟩) L.length cap0) (.int .i64 (i : Int)) _ IX.out rfl rfl rfl rfl) hHeld ?_
                simp only [Act.put, List.setIfInBounds_toArray, List.set_cons_zero, List.set_cons_succ]
                refine take_at (i := 10) 105 ?_ rfl rfl (by kernel_rfl) (by kernel_rfl) (by kernel_rfl) (fun _ _ _ h => h) (.inl ⟨rfl, ?_⟩) hHeld ?_
                rotate_left 1
                · intro w hSw; go_simp; try with_reducible rfl
                simp only [Act.put, List.setIfInBounds_toArray, List.set_cons_zero, List.set_cons_succ]
                refine take_at (i := 11) 106 (.int .i64 tm) rfl rfl (by kernel_rfl) (by kernel_rfl) (by kernel_rfl) (fun _ _ _ h => h) (yields_ld (.tmp 105) 3 (.pointer (some ⟨g, o + i * 4 + 3, none⟩)) _ LD.out rfl rfl rfl) hHeld ?_
                simp only [Act.put, List.setIfInBounds_toArray, List.set_cons_zero, List.set_cons_succ]
                refine wpAnyH_ready (rs := [12, 16]) (by kernel_rfl) (by simp) (br_call (i := 12) 107 13 #[.agg #[.int .i64 (j : Int), .slice (some ⟨q, 0, none⟩) n cap], .int .i64 fr, .agg (va kn), .int .i64 tm] rfl rfl rfl (by go_simp) ((RHE.out wa.drew PD.out.rat).mono ?_) (br_alloc (i := 16) 17 29 _ _ rfl rfl rfl rfl (alloc29 wa.drew) (HLT.out _ (vstep wa.drew _)) (fun hH => ?_) AllReadyH.nil))
                · rintro e w5 ⟨q', cap', rfl, r5, b5, hq5⟩
                  refine ⟨_, rfl, HLT.out w5 b5, fun hH => ?_⟩
                  clear hHeld
                  have hHeld := hH
                  have hv := vstep w5 (.cells #[.int .i64 0, .slice none 0 0] 29)
                  have PZ := Lib.hid ((PD.out.step b5).step hv)
                  have RZ := Lib.hid (r5.step hv)
                  have VZ := Lib.hid (show VAt 34 (w5.alloc (.cells #[.int .i64 0, .slice none 0 0] 29)) bv kn from (H0.out.2.1.step b5).step hv)
                  have ZB := Lib.hid (heap_alloc_new w5 (.cells #[.int .i64 0, .slice none 0 0] 29))
                  have HSA := Lib.hid (HLT.out _ (b5.trans (hv.mono b5.size)))
                  have NZ := Lib.hid (show q' ≠ w5.heap.size ∧ q' ≠ qs ∧ q' ≠ bx ∧ w5.heap.size ≠ bx ∧ p ≠ w5.heap.size ∧ qs ≠ w5.heap.size ∧ q ≠ w5.heap.size ∧ bv ≠ w5.heap.size ∧ w.heap.size ≤ w5.heap.size from by
                    have s5 := b5.size
                    have l1 := r5.qlt
                    have l2 := PD.out.wat.plt
                    have l3 := PD.out.wat.qlt
                    have l4 := lt_of_block PD.out.row
                    have l5 := PD.out.rat.qlt
                    have l6 := lt_of_block H0.out.2.1
                    have l7 := PD.out.bel.size
                    refine ⟨by omega, ?_, ?_, by omega, by omega, by omega, by omega, by omega, by omega⟩
                    · rcases hq5 with e | e
                      · rw [e]; exact PD.out.qq
                      · omega
                    · rcases hq5 with e | e
                      · rw [e]; exact PD.out.qb
                      · omega)
                  obtain ⟨b15, hb15⟩ : ∃ b, w5.heap.size = b := ⟨_, rfl⟩
                  have AL := Lib.hid (alloc29 w5)
                  obtain ⟨w6, hw6⟩ : ∃ y, w5.alloc (.cells #[.int .i64 0, .slice none 0 0] 29) = y := ⟨_, rfl⟩
                  rw [hw6] at PZ RZ VZ ZB HSA AL
                  rw [hb15] at ZB NZ AL
                  clear hb15 hw6 hv r5 b5 hq5
                  simp only [Act.put, List.setIfInBounds_toArray, List.set_cons_zero, List.set_cons_succ]
                  refine take_at (i := 13) 94 ?_ rfl rfl (by kernel_rfl) (by kernel_rfl) (by kernel_rfl) (fun _ _ _ h => h) (.inl ⟨rfl, ?_⟩) hHeld ?_
                  rotate_left 1
                  · intro w hSw; go_simp; try with_reducible rfl
                  simp only [Act.put, List.setIfInBounds_toArray, List.set_cons_zero, List.set_cons_succ]
                  refine take_at (i := 14) 108 ?_ rfl rfl (by kernel_rfl) (by kernel_rfl) (by kernel_rfl) (fun _ _ _ h => h) (.inl ⟨rfl, ?_⟩) hHeld ?_
                  rotate_left 1
                  · intro w hSw; go_simp; try with_reducible rfl
                  simp only [Act.put, List.setIfInBounds_toArray, List.set_cons_zero, List.set_cons_succ]
                  refine take_at (i := 15) 109 ?_ rfl rfl (by kernel_rfl) (by kernel_rfl) (by kernel_rfl) (fun _ _ _ h => h) (.inl ⟨rfl, ?_⟩) hHeld ?_
                  rotate_left 1
                  · intro w hSw; go_simp; try with_reducible rfl
                  simp only [Act.put, List.setIfInBounds_toArray, List.set_cons_zero, List.set_cons_succ]
                  refine wpAnyH_ready (rs := [16]) (by kernel_rfl) (by simp) (br_alloc (i := 16) 17 29 _ w6 rfl rfl rfl rfl AL.out HSA.out (fun hH2 => ?_) AllReadyH.nil)
                  simp only [Act.put, List.setIfInBounds_toArray, List.set_cons_zero, List.set_cons_succ]
                  have S7 := Lib.hid (store29 w6 b15 (j : Int) (some ⟨q', 0, none⟩) n cap' _ _ ZB.out)
                  obtain ⟨w7, hw7⟩ : ∃ y, (w6.setCell ⟨b15, 0, none⟩ (.int .i64 (j : Int))).setCell ⟨b15, 1, none⟩ (.slice (some ⟨q', 0, none⟩) n cap') = y := ⟨_, rfl⟩
                  rw [hw7] at S7
                  have k7 : ∀ b, b ≠ b15 → w7.heap[b]? = w6.heap[b]? := fun b hb => by rw [← hw7]; exact (Below.heap_setCell _ _ _ _ hb).trans (Below.heap_setCell _ _ _ _ hb)
                  have z7 : w6.heap.size ≤ w7.heap.size := by rw [← hw7]; simp
                  have FZ := Lib.hid (show w7.heap[b15]? = some (.cells #[.int .i64 (j : Int), .slice (some ⟨q', 0, none⟩) n cap'] 29 (0, 0)) ∧ RAt w7 q' msH ∧ q' ≠ qs ∧ q' ≠ bx ∧ b15 ≠ bx ∧ PI w w7 p qs bx n j ms q cap ∧ VAt 34 w7 bv kn from
                    ⟨by rw [← hw7]; exact row_setC (row_setC ZB.out), RZ.out.blocks (k7 _ NZ.out.1) z7, NZ.out.2.1, NZ.out.2.2.1, NZ.out.2.2.2.1, ⟨PZ.out.wat.blocks (k7 _ NZ.out.2.2.2.2.1) (k7 _ NZ.out.2.2.2.2.2.1) z7, PZ.out.len, (k7 _ (fun e => NZ.out.2.2.2.1 e.symm)).trans PZ.out.row, PZ.out.rat.blocks (k7 _ NZ.out.2.2.2.2.2.2.1) z7, PZ.out.qq, PZ.out.qb, PZ.out.nn, by rw [← hw7]; exact (PZ.out.bel.setCell (p := ⟨b15, 0, none⟩) NZ.out.2.2.2.2.2.2.2.2 _).setCell (p := ⟨b15, 1, none⟩) NZ.out.2.2.2.2.2.2.2.2 _⟩, (k7 _ NZ.out.2.2.2.2.2.2.2.1).trans VZ.out⟩)
                  have hS7 := Lib.hid (show w7.heap[bx]? = some (.cells #[.int .i64 (j : Int), .slice (some ⟨q, 0, none⟩) n cap] 29 (0, 0)) ∧ VAt 34 w7 bv kn ∧ w7.cell? ⟨g, o + i * 4 + 1, none⟩ = some (.int .i64 fr) ∧ w7.cell? ⟨g, o + i * 4 + 3, none⟩ = some (.int .i64 tm) from ⟨FZ.out.2.2.2.2.2.1.row, FZ.out.2.2.2.2.2.2, (BX.out w7 FZ.out.2.2.2.2.2.1.bel).2.1, (BX.out w7 FZ.out.2.2.2.2.2.1.bel).2.2.2⟩)
                  clear hw7 k7 z7
                  refine wpAnyH_ready (rs := [17]) (by kernel_rfl) (by simp) (br_store 29 (.tmp 17) (.tmp 108) (.pointer (some ⟨b15, 0, none⟩)) (.agg #[.int .i64 (j : Int), .slice (some ⟨q', 0, none⟩) n cap']) w7 rfl rfl rfl rfl rfl rfl S7.out hS7.out (fun _ => ?_) AllReadyH.nil)
                  simp only [Act.put]
                  refine take_at (i := 18) 18 ?_ rfl rfl (by kernel_rfl) (by kernel_rfl) (by kernel_rfl) (fun _ _ _ h => h) (.inl ⟨rfl, ?_⟩) hS7.out ?_
                  rotate_left 1
                  · intro w hSw; go_simp; try with_reducible rfl
                  simp only [Act.put, List.setIfInBounds_toArray, List.set_cons_zero, List.set_cons_succ]
                  refine wpAnyH_done (by kernel_rfl) ?_ _
                  go_wp2_with fail
                  go_meet
                  exact ⟨b15, q', cap', rfl, rfl, FZ.out⟩
                · have hv := vstep wa.drew (.cells #[.int .i64 0, .slice none 0 0] 29)
                  obtain ⟨b15, hb15⟩ : ∃ b, wa.drew.heap.size = b := ⟨_, rfl⟩
                  have ZA := Lib.hid (heap_alloc_new wa.drew (.cells #[.int .i64 0, .slice none 0 0] 29))
                  have PA := Lib.hid (PD.out.step hv)
                  have VA := Lib.hid (show VAt 34 (wa.drew.alloc (.cells #[.int .i64 0, .slice none 0 0] 29)) bv kn from H0.out.2.1.step hv)
                  have HB15 := Lib.hid (show b15 = wa.drew.heap.size from hb15.symm)
                  obtain ⟨w6, hw6⟩ : ∃ y, wa.drew.alloc (.cells #[.int .i64 0, .slice none 0 0] 29) = y := ⟨_, rfl⟩
                  have HV6 := Lib.hid (show Below wa.drew.heap.size wa.drew w6 from by rw [← hw6]; exact hv)
                  rw [hw6] at ZA PA VA ⊢
                  rw [hb15] at ZA ⊢
                  clear hb15 hw6 hv hHeld
                  have hHeld := hH
                  simp only [Act.put, List.setIfInBounds_toArray, List.set_cons_zero, List.set_cons_succ]
                  refine one_call (i := 12) 107 13 #[.agg #[.int .i64 (j : Int), .slice (some ⟨q, 0, none⟩) n cap], .int .i64 fr, .agg (va kn), .int .i64 tm] rfl rfl (by kernel_rfl) rfl (by go_simp) ?_
                  refine (RHE.out w6 PA.out.rat).mono ?_
                  rintro e w5 ⟨q', cap', rfl, r5, b5, hq5⟩
                  have PZ := Lib.hid (PA.out.step b5)
                  have RZ := Lib.hid r5
                  have VZ := Lib.hid (VA.out.step b5)
                  have ZB := Lib.hid ((b5.block _ (lt_of_block ZA.out)).trans ZA.out)
                  have NZ := Lib.hid (show q' ≠ b15 ∧ q' ≠ qs ∧ q' ≠ bx ∧ b15 ≠ bx ∧ p ≠ b15 ∧ qs ≠ b15 ∧ q ≠ b15 ∧ bv ≠ b15 ∧ w.heap.size ≤ b15 from by
                    have s5 := b5.size
                    have l0 := HB15.out
                    have l1 := lt_of_block ZA.out
                    have l2 := PD.out.wat.plt
                    have l3 := PD.out.wat.qlt
                    have l4 := lt_of_block PD.out.row
                    have l5 := PD.out.rat.qlt
                    have l6 := lt_of_block H0.out.2.1
                    have l7 := PD.out.bel.size
                    have l8 := PA.out.wat.qlt
                    have l9 := lt_of_block PA.out.row
                    refine ⟨?_, ?_, ?_, by omega, by omega, by omega, by omega, by omega, by omega⟩
                    · rcases hq5 with e | e
                      · rw [e]; omega
                      · omega
                    · rcases hq5 with e | e
                      · rw [e]; exact PD.out.qq
                      · omega
                    · rcases hq5 with e | e
                      · rw [e]; exact PD.out.qb
                      · omega)
                  refine ⟨_, rfl, HLT.out w5 (HV6.out.trans (b5.mono HV6.out.size)), fun hH => ?_⟩
                  clear hHeld r5 b5 hq5
                  have hHeld := hH
                  simp only [Act.put, List.setIfInBounds_toArray, List.set_cons_zero, List.set_cons_succ]
                  refine take_at (i := 13) 94 ?_ rfl rfl (by kernel_rfl) (by kernel_rfl) (by kernel_rfl) (fun _ _ _ h => h) (.inl ⟨rfl, ?_⟩) hHeld ?_
                  rotate_left 1
                  · intro w hSw; go_simp; try with_reducible rfl
                  simp only [Act.put, List.setIfInBounds_toArray, List.set_cons_zero, List.set_cons_succ]
                  refine take_at (i := 14) 108 ?_ rfl rfl (by kernel_rfl) (by kernel_rfl) (by kernel_rfl) (fun _ _ _ h => h) (.inl ⟨rfl, ?_⟩) hHeld ?_
                  rotate_left 1
                  · intro w hSw; go_simp; try with_reducible rfl
                  simp only [Act.put, List.setIfInBounds_toArray, List.set_cons_zero, List.set_cons_succ]
                  refine take_at (i := 15) 109 ?_ rfl rfl (by kernel_rfl) (by kernel_rfl) (by kernel_rfl) (fun _ _ _ h => h) (.inl ⟨rfl, ?_⟩) hHeld ?_
                  rotate_left 1
                  · intro w hSw; go_simp; try with_reducible rfl
                  simp only [Act.put, List.setIfInBounds_toArray, List.set_cons_zero, List.set_cons_succ]
                  have S7 := Lib.hid (store29 w5 b15 (j : Int) (some ⟨q', 0, none⟩) n cap' _ _ ZB.out)
                  obtain ⟨w7, hw7⟩ : ∃ y, (w5.setCell ⟨b15, 0, none⟩ (.int .i64 (j : Int))).setCell ⟨b15, 1, none⟩ (.slice (some ⟨q', 0, none⟩) n cap') = y := ⟨_, rfl⟩
                  rw [hw7] at S7
                  have k7 : ∀ b, b ≠ b15 → w7.heap[b]? = w5.heap[b]? := fun b hb => by rw [← hw7]; exact (Below.heap_setCell _ _ _ _ hb).trans (Below.heap_setCell _ _ _ _ hb)
                  have z7 : w5.heap.size ≤ w7.heap.size := by rw [← hw7]; simp
                  have FZ := Lib.hid (show w7.heap[b15]? = some (.cells #[.int .i64 (j : Int), .slice (some ⟨q', 0, none⟩) n cap'] 29 (0, 0)) ∧ RAt w7 q' msH ∧ q' ≠ qs ∧ q' ≠ bx ∧ b15 ≠ bx ∧ PI w w7 p qs bx n j ms q cap ∧ VAt 34 w7 bv kn from
                    ⟨by rw [← hw7]; exact row_setC (row_setC ZB.out), RZ.out.blocks (k7 _ NZ.out.1) z7, NZ.out.2.1, NZ.out.2.2.1, NZ.out.2.2.2.1, ⟨PZ.out.wat.blocks (k7 _ NZ.out.2.2.2.2.1) (k7 _ NZ.out.2.2.2.2.2.1) z7, PZ.out.len, (k7 _ (fun e => NZ.out.2.2.2.1 e.symm)).trans PZ.out.row, PZ.out.rat.blocks (k7 _ NZ.out.2.2.2.2.2.2.1) z7, PZ.out.qq, PZ.out.qb, PZ.out.nn, by rw [← hw7]; exact (PZ.out.bel.setCell (p := ⟨b15, 0, none⟩) NZ.out.2.2.2.2.2.2.2.2 _).setCell (p := ⟨b15, 1, none⟩) NZ.out.2.2.2.2.2.2.2.2 _⟩, (k7 _ NZ.out.2.2.2.2.2.2.2.1).trans VZ.out⟩)
                  have hS7 := Lib.hid (show w7.heap[bx]? = some (.cells #[.int .i64 (j : Int), .slice (some ⟨q, 0, none⟩) n cap] 29 (0, 0)) ∧ VAt 34 w7 bv kn ∧ w7.cell? ⟨g, o + i * 4 + 1, none⟩ = some (.int .i64 fr) ∧ w7.cell? ⟨g, o + i * 4 + 3, none⟩ = some (.int .i64 tm) from ⟨FZ.out.2.2.2.2.2.1.row, FZ.out.2.2.2.2.2.2, (BX.out w7 FZ.out.2.2.2.2.2.1.bel).2.1, (BX.out w7 FZ.out.2.2.2.2.2.1.bel).2.2.2⟩)
                  clear hw7 k7 z7
                  refine wpAnyH_ready (rs := [17]) (by kernel_rfl) (by simp) (br_store 29 (.tmp 17) (.tmp 108) (.pointer (some ⟨b15, 0, none⟩)) (.agg #[.int .i64 (j : Int), .slice (some ⟨q', 0, none⟩) n cap']) w7 rfl rfl rfl rfl rfl rfl S7.out hS7.out (fun _ => ?_) AllReadyH.nil)
                  simp only [Act.put]
                  refine take_at (i := 18) 18 ?_ rfl rfl (by kernel_rfl) (by kernel_rfl) (by kernel_rfl) (fun _ _ _ h => h) (.inl ⟨rfl, ?_⟩) hS7.out ?_
                  rotate_left 1
                  · intro w hSw; go_simp; try with_reducible rfl
                  simp only [Act.put, List.setIfInBounds_toArray, List.set_cons_zero, List.set_cons_succ]
                  refine wpAnyH_done (by kernel_rfl) ?_ _
                  go_wp2_with fail
                  go_meet
                  exact ⟨b15, q', cap', rfl, rfl, FZ.out⟩
              case rest =>
                obtain ⟨b15, q', cap', rfl, rfl, h15, hr15, hqq, hqb, hbb, hpi, hvn⟩ := hcut
                have c150 := cell_of_row _ b15 0 _ _ _ h15
                have c151 := cell_of_row _ b15 1 _ _ _ h15
                have cb0 := cell_of_row _ bx 0 _ _ _ hpi.row
                have cb1 := cell_of_row _ bx 1 _ _ _ hpi.row
                have fb0 := frozen_of_row _ bx 0 _ _ hpi.row
                have fb1 := frozen_of_row _ bx 1 _ _ hpi.row
                have HC := Lib.hid (And.intro hr15 (And.intro hqq (And.intro hqb (And.intro hpi hvn))))
                clear h15 hr15 hqq hqb hbb hpi hvn RMI RHE
                go_upto_region 22 with (fail)
                obtain ⟨wd, hwd⟩ : ∃ y, (wc.setCell ⟨bx, 0, none⟩ (.int .i64 (j : Int))).setCell ⟨bx, 1, none⟩ (.slice (some ⟨q', 0, none⟩) n cap') = y := ⟨_, rfl⟩
                have kd7 : ∀ b, b ≠ bx → wd.heap[b]? = wc.heap[b]? := fun b hb => by rw [← hwd]; exact (Below.heap_setCell _ _ _ _ hb).trans (Below.heap_setCell _ _ _ _ hb)
                have zd : wc.heap.size ≤ wd.heap.size := by rw [← hwd]; simp
                have WD := Lib.hid (show WAt wd p (j : Int) qs ms from HC.out.2.2.2.1.wat.blocks (kd7 _ HN.out.1) (kd7 _ HN.out.2.1) zd)
                have RD := Lib.hid (show RAt wd q' msH from HC.out.1.blocks (kd7 _ HC.out.2.2.1) zd)
                have RW := Lib.hid (show wd.heap[bx]? = some (.cells #[.int .i64 (j : Int), .slice (some ⟨q', 0, none⟩) n cap'] 29 (0, 0)) by rw [← hwd]; exact row_setC (row_setC HC.out.2.2.2.1.row))
                have BD := Lib.hid (show Below w.heap.size w wd by rw [← hwd]; exact (HC.out.2.2.2.1.bel.setCell (p := ⟨bx, 0, none⟩) HN.out.2.2 _).setCell (p := ⟨bx, 1, none⟩) HN.out.2.2 _)
                have VD := Lib.hid (show VAt 34 wd bv kn from (kd7 _ HBV.out.2.1).trans HC.out.2.2.2.2)
                rw [hwd]
                clear kd7 zd hwd c150 c151 cb0 cb1 fb0 fb1
                have H0 := Lib.hid (show VAt 34 wd.drew bv kn ∧ wd.drew.cell? ⟨g, o + i * 4 + 1, none⟩ = some (.int .i64 fr) ∧ wd.drew.cell? ⟨g, o + i * 4 + 3, none⟩ = some (.int .i64 tm) from ⟨VD.out, (BX.out wd BD.out).2.1, (BX.out wd BD.out).2.2.2⟩)
                refine wp_region_held_drew (S := fun w' => VAt 34 w' bv kn ∧ w'.cell? ⟨g, o + i * 4 + 1, none⟩ = some (.int .i64 fr) ∧ w'.cell? ⟨g, o + i * 4 + 3, none⟩ = some (.int .i64 tm)) (by kernel_rfl) H0.out (fun hHeld => ?_)
                have LB := Lib.hid (fun (W : World) (h : VAt 34 W bv kn ∧ W.cell? ⟨g, o + i * 4 + 1, none⟩ = some (.int .i64 fr) ∧ W.cell? ⟨g, o + i * 4 + 3, none⟩ = some (.int .i64 tm)) => LN.out W bv h.1)
                have LC := Lib.hid (fun (W : World) (h : VAt 34 W bv kn ∧ W.cell? ⟨g, o + i * 4 + 1, none⟩ = some (.int .i64 fr) ∧ W.cell? ⟨g, o + i * 4 + 3, none⟩ = some (.int .i64 tm)) => load3 W ⟨g, o + i * 4 + 1, none⟩ _ h.2.1)
                have LD := Lib.hid (fun (W : World) (h : VAt 34 W bv kn ∧ W.cell? ⟨g, o + i * 4 + 1, none⟩ = some (.int .i64 fr) ∧ W.cell? ⟨g, o + i * 4 + 3, none⟩ = some (.int .i64 tm)) => load3 W ⟨g, o + i * 4 + 3, none⟩ _ h.2.2)
                have IX := Lib.hid (fun W => index_acts W g o L.length cap0 i hl1 HL.out)
                refine take_at (i := 0) 111 ?_ rfl rfl (by kernel_rfl) (by kernel_rfl) (by kernel_rfl) (fun _ _ _ h => h) (.inl ⟨rfl, ?_⟩) hHeld ?_
                rotate_left 1
                · intro w hSw; go_simp; try with_reducible rfl
                simp only [Act.put, List.setIfInBounds_toArray, List.set_cons_zero, List.set_cons_succ]
                refine take_at (i := 1) 112 ?_ rfl rfl (by kernel_rfl) (by kernel_rfl) (by kernel_rfl) (fun _ _ _ h => h) (.inl ⟨rfl, ?_⟩) hHeld ?_
                rotate_left 1
                · intro w hSw; go_simp; try with_reducible rfl
                simp only [Act.put, List.setIfInBounds_toArray, List.set_cons_zero, List.set_cons_succ]
                refine take_at (i := 2) 113 ?_ rfl rfl (by kernel_rfl) (by kernel_rfl) (by kernel_rfl) (fun _ _ _ h => h) (.inl ⟨rfl, ?_⟩) hHeld ?_
                rotate_left 1
                · intro w hSw; go_simp; try with_reducible rfl
                simp only [Act.put, List.setIfInBounds_toArray, List.set_cons_zero, List.set_cons_succ]
                refine take_at (i := 7) 118 ?_ rfl rfl (by kernel_rfl) (by kernel_rfl) (by kernel_rfl) (fun _ _ _ h => h) (.inl ⟨rfl, ?_⟩) hHeld ?_
                rotate_left 1
                · intro w hSw; go_simp; try with_reducible rfl
                simp only [Act.put, List.setIfInBounds_toArray, List.set_cons_zero, List.set_cons_succ]
                refine take_at (i := 8) 119 ?_ rfl rfl (by kernel_rfl) (by kernel_rfl) (by kernel_rfl) (fun _ _ _ h => h) (.inl ⟨rfl, ?_⟩) hHeld ?_
                rotate_left 1
                · intro w hSw; go_simp; try with_reducible rfl
                simp only [Act.put, List.setIfInBounds_toArray, List.set_cons_zero, List.set_cons_succ]
                refine take_at (i := 13) 124 ?_ rfl rfl (by kernel_rfl) (by kernel_rfl) (by kernel_rfl) (fun _ _ _ h => h) (.inl ⟨rfl, ?_⟩) hHeld ?_
                rotate_left 1
                · intro w hSw; go_simp; try with_reducible rfl
                simp only [Act.put, List.setIfInBounds_toArray, List.set_cons_zero, List.set_cons_succ]
                refine take_at (i := 6) 117 (.agg (va kn)) rfl rfl (by kernel_rfl) (by kernel_rfl) (by kernel_rfl) (fun _ _ _ h => h) (yields_ld (.tmp 14) 34 (.pointer (some ⟨bv, 0, none⟩)) _ LB.out rfl rfl rfl) hHeld ?_
                simp only [Act.put, List.setIfInBounds_toArray, List.set_cons_zero, List.set_cons_succ]
                refine take_at (i := 3) 114 (.pointer (some ⟨g, o + i * 4, none⟩)) rfl rfl (by kernel_rfl) (by kernel_rfl) (by kernel_rfl) (fun _ _ _ h => h) (yields_ix (.tmp 112) (.tmp 113) 22 (.slice (some ⟨g, o, none⟩) L.length cap0) (.int .i64 (i : Int)) _ IX.out rfl rfl rfl rfl) hHeld ?_
                simp only [Act.put, List.setIfInBounds_toArray, List.set_cons_zero, List.set_cons_succ]
                refine take_at (i := 4) 115 ?_ rfl rfl (by kernel_rfl) (by kernel_rfl) (by kernel_rfl) (fun _ _ _ h => h) (.inl ⟨rfl, ?_⟩) hHeld ?_
                rotate_left 1
                · intro w hSw; go_simp; try with_reducible rfl
                simp only [Act.put, List.setIfInBounds_toArray, List.set_cons_zero, List.set_cons_succ]
                refine take_at (i := 5) 116 (.int .i64 fr) rfl rfl (by kernel_rfl) (by kernel_rfl) (by kernel_rfl) (fun _ _ _ h => h) (yields_ld (.tmp 115) 3 (.pointer (some ⟨g, o + i * 4 + 1, none⟩)) _ LC.out rfl rfl rfl) hHeld ?_
                simp only [Act.put, List.setIfInBounds_toArray, List.set_cons_zero, List.set_cons_succ]
                refine take_at (i := 9) 120 (.pointer (some ⟨g, o + i * 4, none⟩)) rfl rfl (by kernel_rfl) (by kernel_rfl) (by kernel_rfl) (fun _ _ _ h => h) (yields_ix (.tmp 118) (.tmp 119) 22 (.slice (some ⟨g, o, none⟩) L.length cap0) (.int .i64 (i : Int)) _ IX.out rfl rfl rfl rfl) hHeld ?_
                simp only [Act.put, List.setIfInBounds_toArray, List.set_cons_zero, List.set_cons_succ]
                refine take_at (i := 10) 121 ?_ rfl rfl (by kernel_rfl) (by kernel_rfl) (by kernel_rfl) (fun _ _ _ h => h) (.inl ⟨rfl, ?_⟩) hHeld ?_
                rotate_left 1
                · intro w hSw; go_simp; try with_reducible rfl
                simp only [Act.put, List.setIfInBounds_toArray, List.set_cons_zero, List.set_cons_succ]
                refine take_at (i := 11) 122 (.int .i64 tm) rfl rfl (by kernel_rfl) (by kernel_rfl) (by kernel_rfl) (fun _ _ _ h => h) (yields_ld (.tmp 121) 3 (.pointer (some ⟨g, o + i * 4 + 3, none⟩)) _ LD.out rfl rfl rfl) hHeld ?_
                simp only [Act.put, List.setIfInBounds_toArray, List.set_cons_zero, List.set_cons_succ]
                refine one_call (i := 12) 123 14 #[.pointer (some ⟨p, 0, none⟩), .int .i64 fr, .agg (va kn), .int .i64 tm] rfl rfl (by kernel_rfl) rfl (by go_simp) ?_
                refine (HE.out wd.drew (WD.out.step (below_drewN wd 1))).mono ?_
                rintro e w8 ⟨rfl, h8, g8⟩
                have B8 := Lib.hid (show Below w.heap.size w w8 from below_own (show Below w.heap.size w wd.drew from BD.out.trans ((below_drewN wd 1).mono BD.out.size)) HQS.out g8)
                have P8 := Lib.hid (show PI w w8 p qs bx n j msH q' cap' from ⟨h8, by rw [NH.out.2, HC.out.2.2.2.1.len], (g8.block _ (lt_of_block RW.out) (fun e => HN.out.2.1 (by injection e with e; exact e.symm))).trans RW.out, by
                  have rd : RAt wd.drew q' msH := RD.out.blocks rfl (Nat.le_refl _)
                  exact rd.blocks (g8.block _ rd.qlt (fun e => HC.out.2.1 (by injection e))) g8.size, HC.out.2.1, HC.out.2.2.1, NH.out.1, B8.out⟩)
                have V8 := Lib.hid (show VAt 34 w8 bv kn from (g8.block _ (lt_of_block VD.out) (fun e => HBV.out.1 (by injection e))).trans VD.out)
                refine ⟨_, rfl, ⟨V8.out, (BX.out w8 B8.out).2.1, (BX.out w8 B8.out).2.2.2⟩, fun hH => ?_⟩
                clear hHeld h8 g8
                have hHeld := hH
                simp only [Act.put, List.setIfInBounds_toArray, List.set_cons_zero, List.set_cons_succ]
                refine take_at (i := 14) 125 (.bool false) rfl rfl (by kernel_rfl) (by kernel_rfl) (by kernel_rfl) (fun _ _ _ h => h) (.inl ⟨rfl, ?_⟩) hHeld ?_
                · intro w hSw; cases bH <;> go_simp <;> (try with_reducible rfl)
                simp only [Act.put, List.setIfInBounds_toArray, List.set_cons_zero, List.set_cons_succ]
                refine wpAnyH_done (by kernel_rfl) ?_ _
                go_wp2_with fail
                go_meet
                exact ⟨_, q', cap', P8.out⟩
            · by_cases hk2 : kd = 2
              · subst hk2
                go_upto_region 20 with (fail)
                go_cut [17, 18] from 45 to 150 (fun av cv wx => ∃ b15 q' cap', av = .pointer (some ⟨b15, 0, none⟩) ∧ cv = .bool bH ∧ wx.heap[b15]? = some (.cells #[.int .i64 (j : Int), .slice (some ⟨q', 0, none⟩) n cap'] 29 (0, 0)) ∧ RAt wx q' msH ∧ q' ≠ qs ∧ q' ≠ bx ∧ b15 ≠ bx ∧ PI w wx p qs bx n j ms q cap ∧ VAt 34 wx bv kn)
                case first =>
                  have H0 := Lib.hid (show wa.drew.heap[bx]? = some (.cells #[.int .i64 (j : Int), .slice (some ⟨q, 0, none⟩) n cap] 29 (0, 0)) ∧ VAt 34 wa.drew bv kn ∧ wa.drew.cell? ⟨g, o + i * 4 + 1, none⟩ = some (.int .i64 fr) ∧ wa.drew.cell? ⟨g, o + i * 4 + 3, none⟩ = some (.int .i64 tm) from ⟨P1.out.row, VN.out, (BX.out wa P1.out.bel).2.1, (BX.out wa P1.out.bel).2.2.2⟩)
                  refine wp_region_held_drew (S := fun w' => w'.heap[bx]? = some (.cells #[.int .i64 (j : Int), .slice (some ⟨q, 0, none⟩) n cap] 29 (0, 0)) ∧ VAt 34 w' bv kn ∧ w'.cell? ⟨g, o + i * 4 + 1, none⟩ = some (.int .i64 fr) ∧ w'.cell? ⟨g, o + i * 4 + 3, none⟩ = some (.int .i64 tm)) (by kernel_rfl) H0.out (fun hHeld => ?_)
                  have LA := Lib.hid (fun (W : World) (h : W.heap[bx]? = some (.cells #[.int .i64 (j : Int), .slice (some ⟨q, 0, none⟩) n cap] 29 (0, 0)) ∧ VAt 34 W bv kn ∧ W.cell? ⟨g, o + i * 4 + 1, none⟩ = some (.int .i64 fr) ∧ W.cell? ⟨g, o + i * 4 + 3, none⟩ = some (.int .i64 tm)) => load29 W bx _ _ h.1)
                  have LB := Lib.hid (fun (W : World) (h : W.heap[bx]? = some (.cells #[.int .i64 (j : Int), .slice (some ⟨q, 0, none⟩) n cap] 29 (0, 0)) ∧ VAt 34 W bv kn ∧ W.cell? ⟨g, o + i * 4 + 1, none⟩ = some (.int .i64 fr) ∧ W.cell? ⟨g, o + i * 4 + 3, none⟩ = some (.int .i64 tm)) => LN.out W bv h.2.1)
                  have LC := Lib.hid (fun (W : World) (h : W.heap[bx]? = some (.cells #[.int .i64 (j : Int), .slice (some ⟨q, 0, none⟩) n cap] 29 (0, 0)) ∧ VAt 34 W bv kn ∧ W.cell? ⟨g, o + i * 4 + 1, none⟩ = some (.int .i64 fr) ∧ W.cell? ⟨g, o + i * 4 + 3, none⟩ = some (.int .i64 tm)) => load3 W ⟨g, o + i * 4 + 1, none⟩ _ h.2.2.1)
                  have LD := Lib.hid (fun (W : World) (h : W.heap[bx]? = some (.cells #[.int .i64 (j : Int), .slice (some ⟨q, 0, none⟩) n cap] 29 (0, 0)) ∧ VAt 34 W bv kn ∧ W.cell? ⟨g, o + i * 4 + 1, none⟩ = some (.int .i64 fr) ∧ W.cell? ⟨g, o + i * 4 + 3, none⟩ = some (.int .i64 tm)) => load3 W ⟨g, o + i * 4 + 3, none⟩ _ h.2.2.2)
                  have IX := Lib.hid (fun W => index_acts W g o L.length cap0 i hl1 HL.out)
                  have PD := Lib.hid (show PI w wa.drew p qs bx n j ms q cap from P1.out.step (below_drewN wa 1))
                  have HLT := Lib.hid (show ∀ W, Below wa.drew.heap.size wa.drew W → W.heap[bx]? = some (.cells #[.int .i64 (j : Int), .slice (some ⟨q, 0, none⟩) n cap] 29 (0, 0)) ∧ VAt 34 W bv kn ∧ W.cell? ⟨g, o + i * 4 + 1, none⟩ = some (.int .i64 fr) ∧ W.cell? ⟨g, o + i * 4 + 3, none⟩ = some (.int .i64 tm) from fun W hb => ⟨(hb.block _ (lt_of_block H0.out.1)).trans H0.out.1, H0.out.2.1.step hb, (BX.out W (PD.out.bel.trans (hb.mono PD.out.bel.size))).2.1, (BX.out W (PD.out.bel.trans (hb.mono PD.out.bel.size))).2.2.2⟩)
                  refine take_at (i := 0) 95 (.agg #[.int .i64 (j : Int), .slice (some ⟨q, 0, none⟩) n cap]) rfl rfl (by kernel_rfl) (by kernel_rfl) (by kernel_rfl) (fun _ _ _ h => h) (yields_ld (.tmp 11) 29 (.pointer (some ⟨bx, 0, none⟩)) _ LA.out rfl rfl rfl) hHeld ?_
                  simp only [Act.put, List.setIfInBounds_toArray, List.set_cons_zero, List.set_cons_succ]
                  refine take_at (i := 6) 101 (.agg (va kn)) rfl rfl (by kernel_rfl) (by kernel_rfl) (by kernel_rfl) (fun _ _ _ h => h) (yields_ld (.tmp 14) 34 (.pointer (some ⟨bv, 0, none⟩)) _ LB.out rfl rfl rfl) hHeld ?_
                  simp only [Act.put, List.setIfInBounds_toArray, List.set_cons_zero, List.set_cons_succ]
                  refine take_at (i := 1) 96 ?_ rfl rfl (by kernel_rfl) (by kernel_rfl) (by kernel_rfl) (fun _ _ _ h => h) (.inl ⟨rfl, ?_⟩) hHeld ?_
                  rotate_left 1
                  · intro w hSw; go_simp; try with_reducible rfl
                  simp only [Act.put, List.setIfInBounds_toArray, List.set_cons_zero, List.set_cons_succ]
                  refine take_at (i := 2) 97 ?_ rfl rfl (by kernel_rfl) (by kernel_rfl) (by kernel_rfl) (fun _ _ _ h => h) (.inl ⟨rfl, ?_⟩) hHeld ?_
                  rotate_left 1
                  · intro w hSw; go_simp; try with_reducible rfl
                  simp only [Act.put, List.setIfInBounds_toArray, List.set_cons_zero, List.set_cons_succ]
                  refine take_at (i := 7) 102 ?_ rfl rfl (by kernel_rfl) (by kernel_rfl) (by kernel_rfl) (fun _ _ _ h => h) (.inl ⟨rfl, ?_⟩) hHeld ?_
                  rotate_left 1
                  · intro w hSw; go_simp; try with_reducible rfl
                  simp only [Act.put, List.setIfInBounds_toArray, List.set_cons_zero, List.set_cons_succ]
                  refine take_at (i := 8) 103 ?_ rfl rfl (by kernel_rfl) (by kernel_rfl) (by kernel_rfl) (fun _ _ _ h => h) (.inl ⟨rfl, ?_⟩) hHeld ?_
                  rotate_left 1
                  · intro w hSw; go_simp; try with_reducible rfl
                  simp only [Act.put, List.setIfInBounds_toArray, List.set_cons_zero, List.set_cons_succ]
                  refine take_at (i := 3) 98 (.pointer (some ⟨g, o + i * 4, none⟩)) rfl rfl (by kernel_rfl) (by kernel_rfl) (by kernel_rfl) (fun _ _ _ h => h) (yields_ix (.tmp 96) (.tmp 97) 22 (.slice (some ⟨g, o, none⟩) L.length cap0) (.int .i64 (i : Int)) _ IX.out rfl rfl rfl rfl) hHeld ?_
                  simp only [Act.put, List.setIfInBounds_toArray, List.set_cons_zero, List.set_cons_succ]
                  refine take_at (i := 4) 99 ?_ rfl rfl (by kernel_rfl) (by kernel_rfl) (by kernel_rfl) (fun _ _ _ h => h) (.inl ⟨rfl, ?_⟩) hHeld ?_
                  rotate_left 1
                  · intro w hSw; go_simp; try with_reducible rfl
                  simp only [Act.put, List.setIfInBounds_toArray, List.set_cons_zero, List.set_cons_succ]
                  refine take_at (i := 5) 100 (.int .i64 fr) rfl rfl (by kernel_rfl) (by kernel_rfl) (by kernel_rfl) (fun _ _ _ h => h) (yields_ld (.tmp 99) 3 (.pointer (some ⟨g, o + i * 4 + 1, none⟩)) _ LC.out rfl rfl rfl) hHeld ?_
                  simp only [Act.put, List.setIfInBounds_toArray, List.set_cons_zero, List.set_cons_succ]
                  refine take_at (i := 9) 104 (.pointer (some ⟨g, o + i * 4, none⟩)) rfl rfl (by kernel_rfl) (by kernel_rfl) (by kernel_rfl) (fun _ _ _ h => h) (yields_ix (.tmp 102) (.tmp 103) 22 (.slice (some ⟨g, o, none⟩) L.length cap0) (.int .i64 (i : Int)) _ IX.out rfl rfl rfl rfl) hHeld ?_
                  simp only [Act.put, List.setIfInBounds_toArray, List.set_cons_zero, List.set_cons_succ]
                  refine take_at (i := 10) 105 ?_ rfl rfl (by kernel_rfl) (by kernel_rfl) (by kernel_rfl) (fun _ _ _ h => h) (.inl ⟨rfl, ?_⟩) hHeld ?_
                  rotate_left 1
                  · intro w hSw; go_simp; try with_reducible rfl
                  simp only [Act.put, List.setIfInBounds_toArray, List.set_cons_zero, List.set_cons_succ]
                  refine take_at (i := 11) 106 (.int .i64 tm) rfl rfl (by kernel_rfl) (by kernel_rfl) (by kernel_rfl) (fun _ _ _ h => h) (yields_ld (.tmp 105) 3 (.pointer (some ⟨g, o + i * 4 + 3, none⟩)) _ LD.out rfl rfl rfl) hHeld ?_
                  simp only [Act.put, List.setIfInBounds_toArray, List.set_cons_zero, List.set_cons_succ]
                  refine wpAnyH_ready (rs := [12, 16]) (by kernel_rfl) (by simp) (br_call (i := 12) 107 13 #[.agg #[.int .i64 (j : Int), .slice (some ⟨q, 0, none⟩) n cap], .int .i64 fr, .agg (va kn), .int .i64 tm] rfl rfl rfl (by go_simp) ((RHE.out wa.drew PD.out.rat).mono ?_) (br_alloc (i := 16) 17 29 _ _ rfl rfl rfl rfl (alloc29 wa.drew) (HLT.out _ (vstep wa.drew _)) (fun hH => ?_) AllReadyH.nil))
                  · rintro e w5 ⟨q', cap', rfl, r5, b5, hq5⟩
                    refine ⟨_, rfl, HLT.out w5 b5, fun hH => ?_⟩
                    clear hHeld
                    have hHeld := hH
                    have hv := vstep w5 (.cells #[.int .i64 0, .slice none 0 0] 29)
                    have PZ := Lib.hid ((PD.out.step b5).step hv)
                    have RZ := Lib.hid (r5.step hv)
                    have VZ := Lib.hid (show VAt 34 (w5.alloc (.cells #[.int .i64 0, .slice none 0 0] 29)) bv kn from (H0.out.2.1.step b5).step hv)
                    have ZB := Lib.hid (heap_alloc_new w5 (.cells #[.int .i64 0, .slice none 0 0] 29))
                    have HSA := Lib.hid (HLT.out _ (b5.trans (hv.mono b5.size)))
                    have NZ := Lib.hid (show q' ≠ w5.heap.size ∧ q' ≠ qs ∧ q' ≠ bx ∧ w5.heap.size ≠ bx ∧ p ≠ w5.heap.size ∧ qs ≠ w5.heap.size ∧ q ≠ w5.heap.size ∧ bv ≠ w5.heap.size ∧ w.heap.size ≤ w5.heap.size from by
                      have s5 := b5.size
                      have l1 := r5.qlt
                      have l2 := PD.out.wat.plt
                      have l3 := PD.out.wat.qlt
                      have l4 := lt_of_block PD.out.row
                      have l5 := PD.out.rat.qlt
                      have l6 := lt_of_block H0.out.2.1
                      have l7 := PD.out.bel.size
                      refine ⟨by omega, ?_, ?_, by omega, by omega, by omega, by omega, by omega, by omega⟩
                      · rcases hq5 with e | e
                        · rw [e]; exact PD.out.qq
                        · omega
                      · rcases hq5 with e | e
                        · rw [e]; exact PD.out.qb
                        · omega)
                    obtain ⟨b15, hb15⟩ : ∃ b, w5.heap.size = b := ⟨_, rfl⟩
                    have AL := Lib.hid (alloc29 w5)
                    obtain ⟨w6, hw6⟩ : ∃ y, w5.alloc (.cells #[.int .i64 0, .slice none 0 0] 29) = y := ⟨_, rfl⟩
                    rw [hw6] at PZ RZ VZ ZB HSA AL
                    rw [hb15] at ZB NZ AL
                    clear hb15 hw6 hv r5 b5 hq5
                    simp only [Act.put, List.setIfInBounds_toArray, List.set_cons_zero, List.set_cons_succ]
                    refine take_at (i := 13) 94 ?_ rfl rfl (by kernel_rfl) (by kernel_rfl) (by kernel_rfl) (fun _ _ _ h => h) (.inl ⟨rfl, ?_⟩) hHeld ?_
                    rotate_left 1
                    · intro w hSw; go_simp; try with_reducible rfl
                    simp only [Act.put, List.setIfInBounds_toArray, List.set_cons_zero, List.set_cons_succ]
                    refine take_at (i := 14) 108 ?_ rfl rfl (by kernel_rfl) (by kernel_rfl) (by kernel_rfl) (fun _ _ _ h => h) (.inl ⟨rfl, ?_⟩) hHeld ?_
                    rotate_left 1
                    · intro w hSw; go_simp; try with_reducible rfl
                    simp only [Act.put, List.setIfInBounds_toArray, List.set_cons_zero, List.set_cons_succ]
                    refine take_at (i := 15) 109 ?_ rfl rfl (by kernel_rfl) (by kernel_rfl) (by kernel_rfl) (fun _ _ _ h => h) (.inl ⟨rfl, ?_⟩) hHeld ?_
                    rotate_left 1
                    · intro w hSw; go_simp; try with_reducible rfl
                    simp only [Act.put, List.setIfInBounds_toArray, List.set_cons_zero, List.set_cons_succ]
                    refine wpAnyH_ready (rs := [16]) (by kernel_rfl) (by simp) (br_alloc (i := 16) 17 29 _ w6 rfl rfl rfl rfl AL.out HSA.out (fun hH2 => ?_) AllReadyH.nil)
                    simp only [Act.put, List.setIfInBounds_toArray, List.set_cons_zero, List.set_cons_succ]
                    have S7 := Lib.hid (store29 w6 b15 (j : Int) (some ⟨q', 0, none⟩) n cap' _ _ ZB.out)
                    obtain ⟨w7, hw7⟩ : ∃ y, (w6.setCell ⟨b15, 0, none⟩ (.int .i64 (j : Int))).setCell ⟨b15, 1, none⟩ (.slice (some ⟨q', 0, none⟩) n cap') = y := ⟨_, rfl⟩
                    rw [hw7] at S7
                    have k7 : ∀ b, b ≠ b15 → w7.heap[b]? = w6.heap[b]? := fun b hb => by rw [← hw7]; exact (Below.heap_setCell _ _ _ _ hb).trans (Below.heap_setCell _ _ _ _ hb)
                    have z7 : w6.heap.size ≤ w7.heap.size := by rw [← hw7]; simp
                    have FZ := Lib.hid (show w7.heap[b15]? = some (.cells #[.int .i64 (j : Int), .slice (some ⟨q', 0, none⟩) n cap'] 29 (0, 0)) ∧ RAt w7 q' msH ∧ q' ≠ qs ∧ q' ≠ bx ∧ b15 ≠ bx ∧ PI w w7 p qs bx n j ms q cap ∧ VAt 34 w7 bv kn from
                      ⟨by rw [← hw7]; exact row_setC (row_setC ZB.out), RZ.out.blocks (k7 _ NZ.out.1) z7, NZ.out.2.1, NZ.out.2.2.1, NZ.out.2.2.2.1, ⟨PZ.out.wat.blocks (k7 _ NZ.out.2.2.2.2.1) (k7 _ NZ.out.2.2.2.2.2.1) z7, PZ.out.len, (k7 _ (fun e => NZ.out.2.2.2.1 e.symm)).trans PZ.out.row, PZ.out.rat.blocks (k7 _ NZ.out.2.2.2.2.2.2.1) z7, PZ.out.qq, PZ.out.qb, PZ.out.nn, by rw [← hw7]; exact (PZ.out.bel.setCell (p := ⟨b15, 0, none⟩) NZ.out.2.2.2.2.2.2.2.2 _).setCell (p := ⟨b15, 1, none⟩) NZ.out.2.2.2.2.2.2.2.2 _⟩, (k7 _ NZ.out.2.2.2.2.2.2.2.1).trans VZ.out⟩)
                    have hS7 := Lib.hid (show w7.heap[bx]? = some (.cells #[.int .i64 (j : Int), .slice (some ⟨q, 0, none⟩) n cap] 29 (0, 0)) ∧ VAt 34 w7 bv kn ∧ w7.cell? ⟨g, o + i * 4 + 1, none⟩ = some (.int .i64 fr) ∧ w7.cell? ⟨g, o + i * 4 + 3, none⟩ = some (.int .i64 tm) from ⟨FZ.out.2.2.2.2.2.1.row, FZ.out.2.2.2.2.2.2, (BX.out w7 FZ.out.2.2.2.2.2.1.bel).2.1, (BX.out w7 FZ.out.2.2.2.2.2.1.bel).2.2.2⟩)
                    clear hw7 k7 z7
                    refine wpAnyH_ready (rs := [17]) (by kernel_rfl) (by simp) (br_store 29 (.tmp 17) (.tmp 108) (.pointer (some ⟨b15, 0, none⟩)) (.agg #[.int .i64 (j : Int), .slice (some ⟨q', 0, none⟩) n cap']) w7 rfl rfl rfl rfl rfl rfl S7.out hS7.out (fun _ => ?_) AllReadyH.nil)
                    simp only [Act.put]
                    refine take_at (i := 18) 18 ?_ rfl rfl (by kernel_rfl) (by kernel_rfl) (by kernel_rfl) (fun _ _ _ h => h) (.inl ⟨rfl, ?_⟩) hS7.out ?_
                    rotate_left 1
                    · intro w hSw; go_simp; try with_reducible rfl
                    simp only [Act.put, List.setIfInBounds_toArray, List.set_cons_zero, List.set_cons_succ]
                    refine wpAnyH_done (by kernel_rfl) ?_ _
                    go_wp2_with fail
                    go_meet
                    exact ⟨b15, q', cap', rfl, rfl, FZ.out⟩
                  · have hv := vstep wa.drew (.cells #[.int .i64 0, .slice none 0 0] 29)
                    obtain ⟨b15, hb15⟩ : ∃ b, wa.drew.heap.size = b := ⟨_, rfl⟩
                    have ZA := Lib.hid (heap_alloc_new wa.drew (.cells #[.int .i64 0, .slice none 0 0] 29))
                    have PA := Lib.hid (PD.out.step hv)
                    have VA := Lib.hid (show VAt 34 (wa.drew.alloc (.cells #[.int .i64 0, .slice none 0 0] 29)) bv kn from H0.out.2.1.step hv)
                    have HB15 := Lib.hid (show b15 = wa.drew.heap.size from hb15.symm)
                    obtain ⟨w6, hw6⟩ : ∃ y, wa.drew.alloc (.cells #[.int .i64 0, .slice none 0 0] 29) = y := ⟨_, rfl⟩
                    have HV6 := Lib.hid (show Below wa.drew.heap.size wa.drew w6 from by rw [← hw6]; exact hv)
                    rw [hw6] at ZA PA VA ⊢
                    rw [hb15] at ZA ⊢
                    clear hb15 hw6 hv hHeld
                    have hHeld := hH
                    simp only [Act.put, List.setIfInBounds_toArray, List.set_cons_zero, List.set_cons_succ]
                    refine one_call (i := 12) 107 13 #[.agg #[.int .i64 (j : Int), .slice (some ⟨q, 0, none⟩) n cap], .int .i64 fr, .agg (va kn), .int .i64 tm] rfl rfl (by kernel_rfl) rfl (by go_simp) ?_
                    refine (RHE.out w6 PA.out.rat).mono ?_
                    rintro e w5 ⟨q', cap', rfl, r5, b5, hq5⟩
                    have PZ := Lib.hid (PA.out.step b5)
                    have RZ := Lib.hid r5
                    have VZ := Lib.hid (VA.out.step b5)
                    have ZB := Lib.hid ((b5.block _ (lt_of_block ZA.out)).trans ZA.out)
                    have NZ := Lib.hid (show q' ≠ b15 ∧ q' ≠ qs ∧ q' ≠ bx ∧ b15 ≠ bx ∧ p ≠ b15 ∧ qs ≠ b15 ∧ q ≠ b15 ∧ bv ≠ b15 ∧ w.heap.size ≤ b15 from by
                      have s5 := b5.size
                      have l0 := HB15.out
                      have l1 := lt_of_block ZA.out
                      have l2 := PD.out.wat.plt
                      have l3 := PD.out.wat.qlt
                      have l4 := lt_of_block PD.out.row
                      have l5 := PD.out.rat.qlt
                      have l6 := lt_of_block H0.out.2.1
                      have l7 := PD.out.bel.size
                      have l8 := PA.out.wat.qlt
                      have l9 := lt_of_block PA.out.row
                      refine ⟨?_, ?_, ?_, by omega, by omega, by omega, by omega, by omega, by omega⟩
                      · rcases hq5 with e | e
                        · rw [e]; omega
                        · omega
                      · rcases hq5 with e | e
                        · rw [e]; exact PD.out.qq
                        · omega
                      · rcases hq5 with e | e
                        · rw [e]; exact PD.out.qb
                        · omega)
                    refine ⟨_, rfl, HLT.out w5 (HV6.out.trans (b5.mono HV6.out.size)), fun hH => ?_⟩
                    clear hHeld r5 b5 hq5
                    have hHeld := hH
                    simp only [Act.put, List.setIfInBounds_toArray, List.set_cons_zero, List.set_cons_succ]
                    refine take_at (i := 13) 94 ?_ rfl rfl (by kernel_rfl) (by kernel_rfl) (by kernel_rfl) (fun _ _ _ h => h) (.inl ⟨rfl, ?_⟩) hHeld ?_
                    rotate_left 1
                    · intro w hSw; go_simp; try with_reducible rfl
                    simp only [Act.put, List.setIfInBounds_toArray, List.set_cons_zero, List.set_cons_succ]
                    refine take_at (i := 14) 108 ?_ rfl rfl (by kernel_rfl) (by kernel_rfl) (by kernel_rfl) (fun _ _ _ h => h) (.inl ⟨rfl, ?_⟩) hHeld ?_
                    rotate_left 1
                    · intro w hSw; go_simp; try with_reducible rfl
                    simp only [Act.put, List.setIfInBounds_toArray, List.set_cons_zero, List.set_cons_succ]
                    refine take_at (i := 15) 109 ?_ rfl rfl (by kernel_rfl) (by kernel_rfl) (by kernel_rfl) (fun _ _ _ h => h) (.inl ⟨rfl, ?_⟩) hHeld ?_
                    rotate_left 1
                    · intro w hSw; go_simp; try with_reducible rfl
                    simp only [Act.put, List.setIfInBounds_toArray, List.set_cons_zero, List.set_cons_succ]
                    have S7 := Lib.hid (store29 w5 b15 (j : Int) (some ⟨q', 0, none⟩) n cap' _ _ ZB.out)
                    obtain ⟨w7, hw7⟩ : ∃ y, (w5.setCell ⟨b15, 0, none⟩ (.int .i64 (j : Int))).setCell ⟨b15, 1, none⟩ (.slice (some ⟨q', 0, none⟩) n cap') = y := ⟨_, rfl⟩
                    rw [hw7] at S7
                    have k7 : ∀ b, b ≠ b15 → w7.heap[b]? = w5.heap[b]? := fun b hb => by rw [← hw7]; exact (Below.heap_setCell _ _ _ _ hb).trans (Below.heap_setCell _ _ _ _ hb)
                    have z7 : w5.heap.size ≤ w7.heap.size := by rw [← hw7]; simp
                    have FZ := Lib.hid (show w7.heap[b15]? = some (.cells #[.int .i64 (j : Int), .slice (some ⟨q', 0, none⟩) n cap'] 29 (0, 0)) ∧ RAt w7 q' msH ∧ q' ≠ qs ∧ q' ≠ bx ∧ b15 ≠ bx ∧ PI w w7 p qs bx n j ms q cap ∧ VAt 34 w7 bv kn from
                      ⟨by rw [← hw7]; exact row_setC (row_setC ZB.out), RZ.out.blocks (k7 _ NZ.out.1) z7, NZ.out.2.1, NZ.out.2.2.1, NZ.out.2.2.2.1, ⟨PZ.out.wat.blocks (k7 _ NZ.out.2.2.2.2.1) (k7 _ NZ.out.2.2.2.2.2.1) z7, PZ.out.len, (k7 _ (fun e => NZ.out.2.2.2.1 e.symm)).trans PZ.out.row, PZ.out.rat.blocks (k7 _ NZ.out.2.2.2.2.2.2.1) z7, PZ.out.qq, PZ.out.qb, PZ.out.nn, by rw [← hw7]; exact (PZ.out.bel.setCell (p := ⟨b15, 0, none⟩) NZ.out.2.2.2.2.2.2.2.2 _).setCell (p := ⟨b15, 1, none⟩) NZ.out.2.2.2.2.2.2.2.2 _⟩, (k7 _ NZ.out.2.2.2.2.2.2.2.1).trans VZ.out⟩)
                    have hS7 := Lib.hid (show w7.heap[bx]? = some (.cells #[.int .i64 (j : Int), .slice (some ⟨q, 0, none⟩) n cap] 29 (0, 0)) ∧ VAt 34 w7 bv kn ∧ w7.cell? ⟨g, o + i * 4 + 1, none⟩ = some (.int .i64 fr) ∧ w7.cell? ⟨g, o + i * 4 + 3, none⟩ = some (.int .i64 tm) from ⟨FZ.out.2.2.2.2.2.1.row, FZ.out.2.2.2.2.2.2, (BX.out w7 FZ.out.2.2.2.2.2.1.bel).2.1, (BX.out w7 FZ.out.2.2.2.2.2.1.bel).2.2.2⟩)
                    clear hw7 k7 z7
                    refine wpAnyH_ready (rs := [17]) (by kernel_rfl) (by simp) (br_store 29 (.tmp 17) (.tmp 108) (.pointer (some ⟨b15, 0, none⟩)) (.agg #[.int .i64 (j : Int), .slice (some ⟨q', 0, none⟩) n cap']) w7 rfl rfl rfl rfl rfl rfl S7.out hS7.out (fun _ => ?_) AllReadyH.nil)
                    simp only [Act.put]
                    refine take_at (i := 18) 18 ?_ rfl rfl (by kernel_rfl) (by kernel_rfl) (by kernel_rfl) (fun _ _ _ h => h) (.inl ⟨rfl, ?_⟩) hS7.out ?_
                    rotate_left 1
                    · intro w hSw; go_simp; try with_reducible rfl
                    simp only [Act.put, List.setIfInBounds_toArray, List.set_cons_zero, List.set_cons_succ]
                    refine wpAnyH_done (by kernel_rfl) ?_ _
                    go_wp2_with fail
                    go_meet
                    exact ⟨b15, q', cap', rfl, rfl, FZ.out⟩
                case rest =>
                  obtain ⟨b15, q', cap', rfl, rfl, h15, hr15, hqq, hqb, hbb, hpi, hvn⟩ := hcut
                  have c150 := cell_of_row _ b15 0 _ _ _ h15
                  have c151 := cell_of_row _ b15 1 _ _ _ h15
                  have cb0 := cell_of_row _ bx 0 _ _ _ hpi.row
                  have cb1 := cell_of_row _ bx 1 _ _ _ hpi.row
                  have fb0 := frozen_of_row _ bx 0 _ _ hpi.row
                  have fb1 := frozen_of_row _ bx 1 _ _ hpi.row
                  have HC := Lib.hid (And.intro hr15 (And.intro hqq (And.intro hqb (And.intro hpi hvn))))
                  clear h15 hr15 hqq hqb hbb hpi hvn RMI RHE
                  go_upto_region 22 with (fail)
                  obtain ⟨wd, hwd⟩ : ∃ y, (wc.setCell ⟨bx, 0, none⟩ (.int .i64 (j : Int))).setCell ⟨bx, 1, none⟩ (.slice (some ⟨q', 0, none⟩) n cap') = y := ⟨_, rfl⟩
                  have kd7 : ∀ b, b ≠ bx → wd.heap[b]? = wc.heap[b]? := fun b hb => by rw [← hwd]; exact (Below.heap_setCell _ _ _ _ hb).trans (Below.heap_setCell _ _ _ _ hb)
                  have zd : wc.heap.size ≤ wd.heap.size := by rw [← hwd]; simp
                  have WD := Lib.hid (show WAt wd p (j : Int) qs ms from HC.out.2.2.2.1.wat.blocks (kd7 _ HN.out.1) (kd7 _ HN.out.2.1) zd)
                  have RD := Lib.hid (show RAt wd q' msH from HC.out.1.blocks (kd7 _ HC.out.2.2.1) zd)
                  have RW := Lib.hid (show wd.heap[bx]? = some (.cells #[.int .i64 (j : Int), .slice (some ⟨q', 0, none⟩) n cap'] 29 (0, 0)) by rw [← hwd]; exact row_setC (row_setC HC.out.2.2.2.1.row))
                  have BD := Lib.hid (show Below w.heap.size w wd by rw [← hwd]; exact (HC.out.2.2.2.1.bel.setCell (p := ⟨bx, 0, none⟩) HN.out.2.2 _).setCell (p := ⟨bx, 1, none⟩) HN.out.2.2 _)
                  have VD := Lib.hid (show VAt 34 wd bv kn from (kd7 _ HBV.out.2.1).trans HC.out.2.2.2.2)
                  rw [hwd]
                  clear kd7 zd hwd c150 c151 cb0 cb1 fb0 fb1
                  have H0 := Lib.hid (show VAt 34 wd.drew bv kn ∧ wd.drew.cell? ⟨g, o + i * 4 + 1, none⟩ = some (.int .i64 fr) ∧ wd.drew.cell? ⟨g, o + i * 4 + 3, none⟩ = some (.int .i64 tm) from ⟨VD.out, (BX.out wd BD.out).2.1, (BX.out wd BD.out).2.2.2⟩)
                  refine wp_region_held_drew (S := fun w' => VAt 34 w' bv kn ∧ w'.cell? ⟨g, o + i * 4 + 1, none⟩ = some (.int .i64 fr) ∧ w'.cell? ⟨g, o + i * 4 + 3, none⟩ = some (.int .i64 tm)) (by kernel_rfl) H0.out (fun hHeld => ?_)
                  have LB := Lib.hid (fun (W : World) (h : VAt 34 W bv kn ∧ W.cell? ⟨g, o + i * 4 + 1, none⟩ = some (.int .i64 fr) ∧ W.cell? ⟨g, o + i * 4 + 3, none⟩ = some (.int .i64 tm)) => LN.out W bv h.1)
                  have LC := Lib.hid (fun (W : World) (h : VAt 34 W bv kn ∧ W.cell? ⟨g, o + i * 4 + 1, none⟩ = some (.int .i64 fr) ∧ W.cell? ⟨g, o + i * 4 + 3, none⟩ = some (.int .i64 tm)) => load3 W ⟨g, o + i * 4 + 1, none⟩ _ h.2.1)
                  have LD := Lib.hid (fun (W : World) (h : VAt 34 W bv kn ∧ W.cell? ⟨g, o + i * 4 + 1, none⟩ = some (.int .i64 fr) ∧ W.cell? ⟨g, o + i * 4 + 3, none⟩ = some (.int .i64 tm)) => load3 W ⟨g, o + i * 4 + 3, none⟩ _ h.2.2)
                  have IX := Lib.hid (fun W => index_acts W g o L.length cap0 i hl1 HL.out)
                  refine take_at (i := 0) 111 ?_ rfl rfl (by kernel_rfl) (by kernel_rfl) (by kernel_rfl) (fun _ _ _ h => h) (.inl ⟨rfl, ?_⟩) hHeld ?_
                  rotate_left 1
                  · intro w hSw; go_simp; try with_reducible rfl
                  simp only [Act.put, List.setIfInBounds_toArray, List.set_cons_zero, List.set_cons_succ]
                  refine take_at (i := 1) 112 ?_ rfl rfl (by kernel_rfl) (by kernel_rfl) (by kernel_rfl) (fun _ _ _ h => h) (.inl ⟨rfl, ?_⟩) hHeld ?_
                  rotate_left 1
                  · intro w hSw; go_simp; try with_reducible rfl
                  simp only [Act.put, List.setIfInBounds_toArray, List.set_cons_zero, List.set_cons_succ]
                  refine take_at (i := 2) 113 ?_ rfl rfl (by kernel_rfl) (by kernel_rfl) (by kernel_rfl) (fun _ _ _ h => h) (.inl ⟨rfl, ?_⟩) hHeld ?_
                  rotate_left 1
                  · intro w hSw; go_simp; try with_reducible rfl
                  simp only [Act.put, List.setIfInBounds_toArray, List.set_cons_zero, List.set_cons_succ]
                  refine take_at (i := 7) 118 ?_ rfl rfl (by kernel_rfl) (by kernel_rfl) (by kernel_rfl) (fun _ _ _ h => h) (.inl ⟨rfl, ?_⟩) hHeld ?_
                  rotate_left 1
                  · intro w hSw; go_simp; try with_reducible rfl
                  simp only [Act.put, List.setIfInBounds_toArray, List.set_cons_zero, List.set_cons_succ]
                  refine take_at (i := 8) 119 ?_ rfl rfl (by kernel_rfl) (by kernel_rfl) (by kernel_rfl) (fun _ _ _ h => h) (.inl ⟨rfl, ?_⟩) hHeld ?_
                  rotate_left 1
                  · intro w hSw; go_simp; try with_reducible rfl
                  simp only [Act.put, List.setIfInBounds_toArray, List.set_cons_zero, List.set_cons_succ]
                  refine take_at (i := 13) 124 ?_ rfl rfl (by kernel_rfl) (by kernel_rfl) (by kernel_rfl) (fun _ _ _ h => h) (.inl ⟨rfl, ?_⟩) hHeld ?_
                  rotate_left 1
                  · intro w hSw; go_simp; try with_reducible rfl
                  simp only [Act.put, List.setIfInBounds_toArray, List.set_cons_zero, List.set_cons_succ]
                  refine take_at (i := 6) 117 (.agg (va kn)) rfl rfl (by kernel_rfl) (by kernel_rfl) (by kernel_rfl) (fun _ _ _ h => h) (yields_ld (.tmp 14) 34 (.pointer (some ⟨bv, 0, none⟩)) _ LB.out rfl rfl rfl) hHeld ?_
                  simp only [Act.put, List.setIfInBounds_toArray, List.set_cons_zero, List.set_cons_succ]
                  refine take_at (i := 3) 114 (.pointer (some ⟨g, o + i * 4, none⟩)) rfl rfl (by kernel_rfl) (by kernel_rfl) (by kernel_rfl) (fun _ _ _ h => h) (yields_ix (.tmp 112) (.tmp 113) 22 (.slice (some ⟨g, o, none⟩) L.length cap0) (.int .i64 (i : Int)) _ IX.out rfl rfl rfl rfl) hHeld ?_
                  simp only [Act.put, List.setIfInBounds_toArray, List.set_cons_zero, List.set_cons_succ]
                  refine take_at (i := 4) 115 ?_ rfl rfl (by kernel_rfl) (by kernel_rfl) (by kernel_rfl) (fun _ _ _ h => h) (.inl ⟨rfl, ?_⟩) hHeld ?_
                  rotate_left 1
                  · intro w hSw; go_simp; try with_reducible rfl
                  simp only [Act.put, List.setIfInBounds_toArray, List.set_cons_zero, List.set_cons_succ]
                  refine take_at (i := 5) 116 (.int .i64 fr) rfl rfl (by kernel_rfl) (by kernel_rfl) (by kernel_rfl) (fun _ _ _ h => h) (yields_ld (.tmp 115) 3 (.pointer (some ⟨g, o + i * 4 + 1, none⟩)) _ LC.out rfl rfl rfl) hHeld ?_
                  simp only [Act.put, List.setIfInBounds_toArray, List.set_cons_zero, List.set_cons_succ]
                  refine take_at (i := 9) 120 (.pointer (some ⟨g, o + i * 4, none⟩)) rfl rfl (by kernel_rfl) (by kernel_rfl) (by kernel_rfl) (fun _ _ _ h => h) (yields_ix (.tmp 118) (.tmp 119) 22 (.slice (some ⟨g, o, none⟩) L.length cap0) (.int .i64 (i : Int)) _ IX.out rfl rfl rfl rfl) hHeld ?_
                  simp only [Act.put, List.setIfInBounds_toArray, List.set_cons_zero, List.set_cons_succ]
                  refine take_at (i := 10) 121 ?_ rfl rfl (by kernel_rfl) (by kernel_rfl) (by kernel_rfl) (fun _ _ _ h => h) (.inl ⟨rfl, ?_⟩) hHeld ?_
                  rotate_left 1
                  · intro w hSw; go_simp; try with_reducible rfl
                  simp only [Act.put, List.setIfInBounds_toArray, List.set_cons_zero, List.set_cons_succ]
                  refine take_at (i := 11) 122 (.int .i64 tm) rfl rfl (by kernel_rfl) (by kernel_rfl) (by kernel_rfl) (fun _ _ _ h => h) (yields_ld (.tmp 121) 3 (.pointer (some ⟨g, o + i * 4 + 3, none⟩)) _ LD.out rfl rfl rfl) hHeld ?_
                  simp only [Act.put, List.setIfInBounds_toArray, List.set_cons_zero, List.set_cons_succ]
                  refine one_call (i := 12) 123 14 #[.pointer (some ⟨p, 0, none⟩), .int .i64 fr, .agg (va kn), .int .i64 tm] rfl rfl (by kernel_rfl) rfl (by go_simp) ?_
                  refine (HE.out wd.drew (WD.out.step (below_drewN wd 1))).mono ?_
                  rintro e w8 ⟨rfl, h8, g8⟩
                  have B8 := Lib.hid (show Below w.heap.size w w8 from below_own (show Below w.heap.size w wd.drew from BD.out.trans ((below_drewN wd 1).mono BD.out.size)) HQS.out g8)
                  have P8 := Lib.hid (show PI w w8 p qs bx n j msH q' cap' from ⟨h8, by rw [NH.out.2, HC.out.2.2.2.1.len], (g8.block _ (lt_of_block RW.out) (fun e => HN.out.2.1 (by injection e with e; exact e.symm))).trans RW.out, by
                    have rd : RAt wd.drew q' msH := RD.out.blocks rfl (Nat.le_refl _)
                    exact rd.blocks (g8.block _ rd.qlt (fun e => HC.out.2.1 (by injection e))) g8.size, HC.out.2.1, HC.out.2.2.1, NH.out.1, B8.out⟩)
                  have V8 := Lib.hid (show VAt 34 w8 bv kn from (g8.block _ (lt_of_block VD.out) (fun e => HBV.out.1 (by injection e))).trans VD.out)
                  refine ⟨_, rfl, ⟨V8.out, (BX.out w8 B8.out).2.1, (BX.out w8 B8.out).2.2.2⟩, fun hH => ?_⟩
                  clear hHeld h8 g8
                  have hHeld := hH
                  simp only [Act.put, List.setIfInBounds_toArray, List.set_cons_zero, List.set_cons_succ]
                  refine take_at (i := 14) 125 (.bool false) rfl rfl (by kernel_rfl) (by kernel_rfl) (by kernel_rfl) (fun _ _ _ h => h) (.inl ⟨rfl, ?_⟩) hHeld ?_
                  · intro w hSw; cases bH <;> go_simp <;> (try with_reducible rfl)
                  simp only [Act.put, List.setIfInBounds_toArray, List.set_cons_zero, List.set_cons_succ]
                  refine wpAnyH_done (by kernel_rfl) ?_ _
                  go_wp2_with fail
                  go_meet
                  exact ⟨_, q', cap', P8.out⟩
              · by_cases hk3 : kd = 3
                · subst hk3
                  go_upto_region 20 with (fail)
                  go_cut [17, 18] from 45 to 150 (fun av cv wx => ∃ b15 q' cap', av = .pointer (some ⟨b15, 0, none⟩) ∧ cv = .bool bH ∧ wx.heap[b15]? = some (.cells #[.int .i64 (j : Int), .slice (some ⟨q', 0, none⟩) n cap'] 29 (0, 0)) ∧ RAt wx q' msH ∧ q' ≠ qs ∧ q' ≠ bx ∧ b15 ≠ bx ∧ PI w wx p qs bx n j ms q cap ∧ VAt 34 wx bv kn)
                  case first =>
                    have H0 := Lib.hid (show wa.drew.heap[bx]? = some (.cells #[.int .i64 (j : Int), .slice (some ⟨q, 0, none⟩) n cap] 29 (0, 0)) ∧ VAt 34 wa.drew bv kn ∧ wa.drew.cell? ⟨g, o + i * 4 + 1, none⟩ = some (.int .i64 fr) ∧ wa.drew.cell? ⟨g, o + i * 4 + 3, none⟩ = some (.int .i64 tm) from ⟨P1.out.row, VN.out, (BX.out wa P1.out.bel).2.1, (BX.out wa P1.out.bel).2.2.2⟩)
                    refine wp_region_held_drew (S := fun w' => w'.heap[bx]? = some (.cells #[.int .i64 (j : Int), .slice (some ⟨q, 0, none⟩) n cap] 29 (0, 0)) ∧ VAt 34 w' bv kn ∧ w'.cell? ⟨g, o + i * 4 + 1, none⟩ = some (.int .i64 fr) ∧ w'.cell? ⟨g, o + i * 4 + 3, none⟩ = some (.int .i64 tm)) (by kernel_rfl) H0.out (fun hHeld => ?_)
                    have LA := Lib.hid (fun (W : World) (h : W.heap[bx]? = some (.cells #[.int .i64 (j : Int), .slice (some ⟨q, 0, none⟩) n cap] 29 (0, 0)) ∧ VAt 34 W bv kn ∧ W.cell? ⟨g, o + i * 4 + 1, none⟩ = some (.int .i64 fr) ∧ W.cell? ⟨g, o + i * 4 + 3, none⟩ = some (.int .i64 tm)) => load29 W bx _ _ h.1)
                    have LB := Lib.hid (fun (W : World) (h : W.heap[bx]? = some (.cells #[.int .i64 (j : Int), .slice (some ⟨q, 0, none⟩) n cap] 29 (0, 0)) ∧ VAt 34 W bv kn ∧ W.cell? ⟨g, o + i * 4 + 1, none⟩ = some (.int .i64 fr) ∧ W.cell? ⟨g, o + i * 4 + 3, none⟩ = some (.int .i64 tm)) => LN.out W bv h.2.1)
                    have LC := Lib.hid (fun (W : World) (h : W.heap[bx]? = some (.cells #[.int .i64 (j : Int), .slice (some ⟨q, 0, none⟩) n cap] 29 (0, 0)) ∧ VAt 34 W bv kn ∧ W.cell? ⟨g, o + i * 4 + 1, none⟩ = some (.int .i64 fr) ∧ W.cell? ⟨g, o + i * 4 + 3, none⟩ = some (.int .i64 tm)) => load3 W ⟨g, o + i * 4 + 1, none⟩ _ h.2.2.1)
                    have LD := Lib.hid (fun (W : World) (h : W.heap[bx]? = some (.cells #[.int .i64 (j : Int), .slice (some ⟨q, 0, none⟩) n cap] 29 (0, 0)) ∧ VAt 34 W bv kn ∧ W.cell? ⟨g, o + i * 4 + 1, none⟩ = some (.int .i64 fr) ∧ W.cell? ⟨g, o + i * 4 + 3, none⟩ = some (.int .i64 tm)) => load3 W ⟨g, o + i * 4 + 3, none⟩ _ h.2.2.2)
                    have IX := Lib.hid (fun W => index_acts W g o L.length cap0 i hl1 HL.out)
                    have PD := Lib.hid (show PI w wa.drew p qs bx n j ms q cap from P1.out.step (below_drewN wa 1))
                    have HLT := Lib.hid (show ∀ W, Below wa.drew.heap.size wa.drew W → W.heap[bx]? = some (.cells #[.int .i64 (j : Int), .slice (some ⟨q, 0, none⟩) n cap] 29 (0, 0)) ∧ VAt 34 W bv kn ∧ W.cell? ⟨g, o + i * 4 + 1, none⟩ = some (.int .i64 fr) ∧ W.cell? ⟨g, o + i * 4 + 3, none⟩ = some (.int .i64 tm) from fun W hb => ⟨(hb.block _ (lt_of_block H0.out.1)).trans H0.out.1, H0.out.2.1.step hb, (BX.out W (PD.out.bel.trans (hb.mono PD.out.bel.size))).2.1, (BX.out W (PD.out.bel.trans (hb.mono PD.out.bel.size))).2.2.2⟩)
                    refine take_at (i := 0) 95 (.agg #[.int .i64 (j : Int), .slice (some ⟨q, 0, none⟩) n cap]) rfl rfl (by kernel_rfl) (by kernel_rfl) (by kernel_rfl) (fun _ _ _ h => h) (yields_ld (.tmp 11) 29 (.pointer (some ⟨bx, 0, none⟩)) _ LA.out rfl rfl rfl) hHeld ?_
                    simp only [Act.put, List.setIfInBounds_toArray, List.set_cons_zero, List.set_cons_succ]
                    refine take_at (i := 6) 101 (.agg (va kn)) rfl rfl (by kernel_rfl) (by kernel_rfl) (by kernel_rfl) (fun _ _ _ h => h) (yields_ld (.tmp 14) 34 (.pointer (some ⟨bv, 0, none⟩)) _ LB.out rfl rfl rfl) hHeld ?_
                    simp only [Act.put, List.setIfInBounds_toArray, List.set_cons_zero, List.set_cons_succ]
                    refine take_at (i := 1) 96 ?_ rfl rfl (by kernel_rfl) (by kernel_rfl) (by kernel_rfl) (fun _ _ _ h => h) (.inl ⟨rfl, ?_⟩) hHeld ?_
                    rotate_left 1
                    · intro w hSw; go_simp; try with_reducible rfl
                    simp only [Act.put, List.setIfInBounds_toArray, List.set_cons_zero, List.set_cons_succ]
                    refine take_at (i := 2) 97 ?_ rfl rfl (by kernel_rfl) (by kernel_rfl) (by kernel_rfl) (fun _ _ _ h => h) (.inl ⟨rfl, ?_⟩) hHeld ?_
                    rotate_left 1
                    · intro w hSw; go_simp; try with_reducible rfl
                    simp only [Act.put, List.setIfInBounds_toArray, List.set_cons_zero, List.set_cons_succ]
                    refine take_at (i := 7) 102 ?_ rfl rfl (by kernel_rfl) (by kernel_rfl) (by kernel_rfl) (fun _ _ _ h => h) (.inl ⟨rfl, ?_⟩) hHeld ?_
                    rotate_left 1
                    · intro w hSw; go_simp; try with_reducible rfl
                    simp only [Act.put, List.setIfInBounds_toArray, List.set_cons_zero, List.set_cons_succ]
                    refine take_at (i := 8) 103 ?_ rfl rfl (by kernel_rfl) (by kernel_rfl) (by kernel_rfl) (fun _ _ _ h => h) (.inl ⟨rfl, ?_⟩) hHeld ?_
                    rotate_left 1
                    · intro w hSw; go_simp; try with_reducible rfl
                    simp only [Act.put, List.setIfInBounds_toArray, List.set_cons_zero, List.set_cons_succ]
                    refine take_at (i := 3) 98 (.pointer (some ⟨g, o + i * 4, none⟩)) rfl rfl (by kernel_rfl) (by kernel_rfl) (by kernel_rfl) (fun _ _ _ h => h) (yields_ix (.tmp 96) (.tmp 97) 22 (.slice (some ⟨g, o, none⟩) L.length cap0) (.int .i64 (i : Int)) _ IX.out rfl rfl rfl rfl) hHeld ?_
                    simp only [Act.put, List.setIfInBounds_toArray, List.set_cons_zero, List.set_cons_succ]
                    refine take_at (i := 4) 99 ?_ rfl rfl (by kernel_rfl) (by kernel_rfl) (by kernel_rfl) (fun _ _ _ h => h) (.inl ⟨rfl, ?_⟩) hHeld ?_
                    rotate_left 1
                    · intro w hSw; go_simp; try with_reducible rfl
                    simp only [Act.put, List.setIfInBounds_toArray, List.set_cons_zero, List.set_cons_succ]
                    refine take_at (i := 5) 100 (.int .i64 fr) rfl rfl (by kernel_rfl) (by kernel_rfl) (by kernel_rfl) (fun _ _ _ h => h) (yields_ld (.tmp 99) 3 (.pointer (some ⟨g, o + i * 4 + 1, none⟩)) _ LC.out rfl rfl rfl) hHeld ?_
                    simp only [Act.put, List.setIfInBounds_toArray, List.set_cons_zero, List.set_cons_succ]
                    refine take_at (i := 9) 104 (.pointer (some ⟨g, o + i * 4, none⟩)) rfl rfl (by kernel_rfl) (by kernel_rfl) (by kernel_rfl) (fun _ _ _ h => h) (yields_ix (.tmp 102) (.tmp 103) 22 (.slice (some ⟨g, o, none⟩) L.length cap0) (.int .i64 (i : Int)) _ IX.out rfl rfl rfl rfl) hHeld ?_
                    simp only [Act.put, List.setIfInBounds_toArray, List.set_cons_zero, List.set_cons_succ]
                    refine take_at (i := 10) 105 ?_ rfl rfl (by kernel_rfl) (by kernel_rfl) (by kernel_rfl) (fun _ _ _ h => h) (.inl ⟨rfl, ?_⟩) hHeld ?_
                    rotate_left 1
                    · intro w hSw; go_simp; try with_reducible rfl
                    simp only [Act.put, List.setIfInBounds_toArray, List.set_cons_zero, List.set_cons_succ]
                    refine take_at (i := 11) 106 (.int .i64 tm) rfl rfl (by kernel_rfl) (by kernel_rfl) (by kernel_rfl) (fun _ _ _ h => h) (yields_ld (.tmp 105) 3 (.pointer (some ⟨g, o + i * 4 + 3, none⟩)) _ LD.out rfl rfl rfl) hHeld ?_
                    simp only [Act.put, List.setIfInBounds_toArray, List.set_cons_zero, List.set_cons_succ]
                    refine wpAnyH_ready (rs := [12, 16]) (by kernel_rfl) (by simp) (br_call (i := 12) 107 13 #[.agg #[.int .i64 (j : Int), .slice (some ⟨q, 0, none⟩) n cap], .int .i64 fr, .agg (va kn), .int .i64 tm] rfl rfl rfl (by go_simp) ((RHE.out wa.drew PD.out.rat).mono ?_) (br_alloc (i := 16) 17 29 _ _ rfl rfl rfl rfl (alloc29 wa.drew) (HLT.out _ (vstep wa.drew _)) (fun hH => ?_) AllReadyH.nil))
                    · rintro e w5 ⟨q', cap', rfl, r5, b5, hq5⟩
                      refine ⟨_, rfl, HLT.out w5 b5, fun hH => ?_⟩
                      clear hHeld
                      have hHeld := hH
                      have hv := vstep w5 (.cells #[.int .i64 0, .slice none 0 0] 29)
                      have PZ := Lib.hid ((PD.out.step b5).step hv)
                      have RZ := Lib.hid (r5.step hv)
                      have VZ := Lib.hid (show VAt 34 (w5.alloc (.cells #[.int .i64 0, .slice none 0 0] 29)) bv kn from (H0.out.2.1.step b5).step hv)
                      have ZB := Lib.hid (heap_alloc_new w5 (.cells #[.int .i64 0, .slice none 0 0] 29))
                      have HSA := Lib.hid (HLT.out _ (b5.trans (hv.mono b5.size)))
                      have NZ := Lib.hid (show q' ≠ w5.heap.size ∧ q' ≠ qs ∧ q' ≠ bx ∧ w5.heap.size ≠ bx ∧ p ≠ w5.heap.size ∧ qs ≠ w5.heap.size ∧ q ≠ w5.heap.size ∧ bv ≠ w5.heap.size ∧ w.heap.size ≤ w5.heap.size from by
                        have s5 := b5.size
                        have l1 := r5.qlt
                        have l2 := PD.out.wat.plt
                        have l3 := PD.out.wat.qlt
                        have l4 := lt_of_block PD.out.row
                        have l5 := PD.out.rat.qlt
                        have l6 := lt_of_block H0.out.2.1
                        have l7 := PD.out.bel.size
                        refine ⟨by omega, ?_, ?_, by omega, by omega, by omega, by omega, by omega, by omega⟩
                        · rcases hq5 with e | e
                          · rw [e]; exact PD.out.qq
                          · omega
                        · rcases hq5 with e | e
                          · rw [e]; exact PD.out.qb
                          · omega)
                      obtain ⟨b15, hb15⟩ : ∃ b, w5.heap.size = b := ⟨_, rfl⟩
                      have AL := Lib.hid (alloc29 w5)
                      obtain ⟨w6, hw6⟩ : ∃ y, w5.alloc (.cells #[.int .i64 0, .slice none 0 0] 29) = y := ⟨_, rfl⟩
                      rw [hw6] at PZ RZ VZ ZB HSA AL
                      rw [hb15] at ZB NZ AL
                      clear hb15 hw6 hv r5 b5 hq5
                      simp only [Act.put, List.setIfInBounds_toArray, List.set_cons_zero, List.set_cons_succ]
                      refine take_at (i := 13) 94 ?_ rfl rfl (by kernel_rfl) (by kernel_rfl) (by kernel_rfl) (fun _ _ _ h => h) (.inl ⟨rfl, ?_⟩) hHeld ?_
                      rotate_left 1
                      · intro w hSw; go_simp; try with_reducible rfl
                      simp only [Act.put, List.setIfInBounds_toArray, List.set_cons_zero, List.set_cons_succ]
                      refine take_at (i := 14) 108 ?_ rfl rfl (by kernel_rfl) (by kernel_rfl) (by kernel_rfl) (fun _ _ _ h => h) (.inl ⟨rfl, ?_⟩) hHeld ?_
                      rotate_left 1
                      · intro w hSw; go_simp; try with_reducible rfl
                      simp only [Act.put, List.setIfInBounds_toArray, List.set_cons_zero, List.set_cons_succ]
                      refine take_at (i := 15) 109 ?_ rfl rfl (by kernel_rfl) (by kernel_rfl) (by kernel_rfl) (fun _ _ _ h => h) (.inl ⟨rfl, ?_⟩) hHeld ?_
                      rotate_left 1
                      · intro w hSw; go_simp; try with_reducible rfl
                      simp only [Act.put, List.setIfInBounds_toArray, List.set_cons_zero, List.set_cons_succ]
                      refine wpAnyH_ready (rs := [16]) (by kernel_rfl) (by simp) (br_alloc (i := 16) 17 29 _ w6 rfl rfl rfl rfl AL.out HSA.out (fun hH2 => ?_) AllReadyH.nil)
                      simp only [Act.put, List.setIfInBounds_toArray, List.set_cons_zero, List.set_cons_succ]
                      have S7 := Lib.hid (store29 w6 b15 (j : Int) (some ⟨q', 0, none⟩) n cap' _ _ ZB.out)
                      obtain ⟨w7, hw7⟩ : ∃ y, (w6.setCell ⟨b15, 0, none⟩ (.int .i64 (j : Int))).setCell ⟨b15, 1, none⟩ (.slice (some ⟨q', 0, none⟩) n cap') = y := ⟨_, rfl⟩
                      rw [hw7] at S7
                      have k7 : ∀ b, b ≠ b15 → w7.heap[b]? = w6.heap[b]? := fun b hb => by rw [← hw7]; exact (Below.heap_setCell _ _ _ _ hb).trans (Below.heap_setCell _ _ _ _ hb)
                      have z7 : w6.heap.size ≤ w7.heap.size := by rw [← hw7]; simp
                      have FZ := Lib.hid (show w7.heap[b15]? = some (.cells #[.int .i64 (j : Int), .slice (some ⟨q', 0, none⟩) n cap'] 29 (0, 0)) ∧ RAt w7 q' msH ∧ q' ≠ qs ∧ q' ≠ bx ∧ b15 ≠ bx ∧ PI w w7 p qs bx n j ms q cap ∧ VAt 34 w7 bv kn from
                        ⟨by rw [← hw7]; exact row_setC (row_setC ZB.out), RZ.out.blocks (k7 _ NZ.out.1) z7, NZ.out.2.1, NZ.out.2.2.1, NZ.out.2.2.2.1, ⟨PZ.out.wat.blocks (k7 _ NZ.out.2.2.2.2.1) (k7 _ NZ.out.2.2.2.2.2.1) z7, PZ.out.len, (k7 _ (fun e => NZ.out.2.2.2.1 e.symm)).trans PZ.out.row, PZ.out.rat.blocks (k7 _ NZ.out.2.2.2.2.2.2.1) z7, PZ.out.qq, PZ.out.qb, PZ.out.nn, by rw [← hw7]; exact (PZ.out.bel.setCell (p := ⟨b15, 0, none⟩) NZ.out.2.2.2.2.2.2.2.2 _).setCell (p := ⟨b15, 1, none⟩) NZ.out.2.2.2.2.2.2.2.2 _⟩, (k7 _ NZ.out.2.2.2.2.2.2.2.1).trans VZ.out⟩)
                      have hS7 := Lib.hid (show w7.heap[bx]? = some (.cells #[.int .i64 (j : Int), .slice (some ⟨q, 0, none⟩) n cap] 29 (0, 0)) ∧ VAt 34 w7 bv kn ∧ w7.cell? ⟨g, o + i * 4 + 1, none⟩ = some (.int .i64 fr) ∧ w7.cell? ⟨g, o + i * 4 + 3, none⟩ = some (.int .i64 tm) from ⟨FZ.out.2.2.2.2.2.1.row, FZ.out.2.2.2.2.2.2, (BX.out w7 FZ.out.2.2.2.2.2.1.bel).2.1, (BX.out w7 FZ.out.2.2.2.2.2.1.bel).2.2.2⟩)
                      clear hw7 k7 z7
                      refine wpAnyH_ready (rs := [17]) (by kernel_rfl) (by simp) (br_store 29 (.tmp 17) (.tmp 108) (.pointer (some ⟨b15, 0, none⟩)) (.agg #[.int .i64 (j : Int), .slice (some ⟨q', 0, none⟩) n cap']) w7 rfl rfl rfl rfl rfl rfl S7.out hS7.out (fun _ => ?_) AllReadyH.nil)
                      simp only [Act.put]
                      refine take_at (i := 18) 18 ?_ rfl rfl (by kernel_rfl) (by kernel_rfl) (by kernel_rfl) (fun _ _ _ h => h) (.inl ⟨rfl, ?_⟩) hS7.out ?_
                      rotate_left 1
                      · intro w hSw; go_simp; try with_reducible rfl
                      simp only [Act.put, List.setIfInBounds_toArray, List.set_cons_zero, List.set_cons_succ]
                      refine wpAnyH_done (by kernel_rfl) ?_ _
                      go_wp2_with fail
                      go_meet
                      exact ⟨b15, q', cap', rfl, rfl, FZ.out⟩
                    · have hv := vstep wa.drew (.cells #[.int .i64 0, .slice none 0 0] 29)
                      obtain ⟨b15, hb15⟩ : ∃ b, wa.drew.heap.size = b := ⟨_, rfl⟩
                      have ZA := Lib.hid (heap_alloc_new wa.drew (.cells #[.int .i64 0, .slice none 0 0] 29))
                      have PA := Lib.hid (PD.out.step hv)
                      have VA := Lib.hid (show VAt 34 (wa.drew.alloc (.cells #[.int .i64 0, .slice none 0 0] 29)) bv kn from H0.out.2.1.step hv)
                      have HB15 := Lib.hid (show b15 = wa.drew.heap.size from hb15.symm)
                      obtain ⟨w6, hw6⟩ : ∃ y, wa.drew.alloc (.cells #[.int .i64 0, .slice none 0 0] 29) = y := ⟨_, rfl⟩
                      have HV6 := Lib.hid (show Below wa.drew.heap.size wa.drew w6 from by rw [← hw6]; exact hv)
                      rw [hw6] at ZA PA VA ⊢
                      rw [hb15] at ZA ⊢
                      clear hb15 hw6 hv hHeld
                      have hHeld := hH
                      simp only [Act.put, List.setIfInBounds_toArray, List.set_cons_zero, List.set_cons_succ]
                      refine one_call (i := 12) 107 13 #[.agg #[.int .i64 (j : Int), .slice (some ⟨q, 0, none⟩) n cap], .int .i64 fr, .agg (va kn), .int .i64 tm] rfl rfl (by kernel_rfl) rfl (by go_simp) ?_
                      refine (RHE.out w6 PA.out.rat).mono ?_
                      rintro e w5 ⟨q', cap', rfl, r5, b5, hq5⟩
                      have PZ := Lib.hid (PA.out.step b5)
                      have RZ := Lib.hid r5
                      have VZ := Lib.hid (VA.out.step b5)
                      have ZB := Lib.hid ((b5.block _ (lt_of_block ZA.out)).trans ZA.out)
                      have NZ := Lib.hid (show q' ≠ b15 ∧ q' ≠ qs ∧ q' ≠ bx ∧ b15 ≠ bx ∧ p ≠ b15 ∧ qs ≠ b15 ∧ q ≠ b15 ∧ bv ≠ b15 ∧ w.heap.size ≤ b15 from by
                        have s5 := b5.size
                        have l0 := HB15.out
                        have l1 := lt_of_block ZA.out
                        have l2 := PD.out.wat.plt
                        have l3 := PD.out.wat.qlt
                        have l4 := lt_of_block PD.out.row
                        have l5 := PD.out.rat.qlt
                        have l6 := lt_of_block H0.out.2.1
                        have l7 := PD.out.bel.size
                        have l8 := PA.out.wat.qlt
                        have l9 := lt_of_block PA.out.row
                        refine ⟨?_, ?_, ?_, by omega, by omega, by omega, by omega, by omega, by omega⟩
                        · rcases hq5 with e | e
                          · rw [e]; omega
                          · omega
                        · rcases hq5 with e | e
                          · rw [e]; exact PD.out.qq
                          · omega
                        · rcases hq5 with e | e
                          · rw [e]; exact PD.out.qb
                          · omega)
                      refine ⟨_, rfl, HLT.out w5 (HV6.out.trans (b5.mono HV6.out.size)), fun hH => ?_⟩
                      clear hHeld r5 b5 hq5
                      have hHeld := hH
                      simp only [Act.put, List.setIfInBounds_toArray, List.set_cons_zero, List.set_cons_succ]
                      refine take_at (i := 13) 94 ?_ rfl rfl (by kernel_rfl) (by kernel_rfl) (by kernel_rfl) (fun _ _ _ h => h) (.inl ⟨rfl, ?_⟩) hHeld ?_
                      rotate_left 1
                      · intro w hSw; go_simp; try with_reducible rfl
                      simp only [Act.put, List.setIfInBounds_toArray, List.set_cons_zero, List.set_cons_succ]
                      refine take_at (i := 14) 108 ?_ rfl rfl (by kernel_rfl) (by kernel_rfl) (by kernel_rfl) (fun _ _ _ h => h) (.inl ⟨rfl, ?_⟩) hHeld ?_
                      rotate_left 1
                      · intro w hSw; go_simp; try with_reducible rfl
                      simp only [Act.put, List.setIfInBounds_toArray, List.set_cons_zero, List.set_cons_succ]
                      refine take_at (i := 15) 109 ?_ rfl rfl (by kernel_rfl) (by kernel_rfl) (by kernel_rfl) (fun _ _ _ h => h) (.inl ⟨rfl, ?_⟩) hHeld ?_
                      rotate_left 1
                      · intro w hSw; go_simp; try with_reducible rfl
                      simp only [Act.put, List.setIfInBounds_toArray, List.set_cons_zero, List.set_cons_succ]
                      have S7 := Lib.hid (store29 w5 b15 (j : Int) (some ⟨q', 0, none⟩) n cap' _ _ ZB.out)
                      obtain ⟨w7, hw7⟩ : ∃ y, (w5.setCell ⟨b15, 0, none⟩ (.int .i64 (j : Int))).setCell ⟨b15, 1, none⟩ (.slice (some ⟨q', 0, none⟩) n cap') = y := ⟨_, rfl⟩
                      rw [hw7] at S7
                      have k7 : ∀ b, b ≠ b15 → w7.heap[b]? = w5.heap[b]? := fun b hb => by rw [← hw7]; exact (Below.heap_setCell _ _ _ _ hb).trans (Below.heap_setCell _ _ _ _ hb)
                      have z7 : w5.heap.size ≤ w7.heap.size := by rw [← hw7]; simp
                      have FZ := Lib.hid (show w7.heap[b15]? = some (.cells #[.int .i64 (j : Int), .slice (some ⟨q', 0, none⟩) n cap'] 29 (0, 0)) ∧ RAt w7 q' msH ∧ q' ≠ qs ∧ q' ≠ bx ∧ b15 ≠ bx ∧ PI w w7 p qs bx n j ms q cap ∧ VAt 34 w7 bv kn from
                        ⟨by rw [← hw7]; exact row_setC (row_setC ZB.out), RZ.out.blocks (k7 _ NZ.out.1) z7, NZ.out.2.1, NZ.out.2.2.1, NZ.out.2.2.2.1, ⟨PZ.out.wat.blocks (k7 _ NZ.out.2.2.2.2.1) (k7 _ NZ.out.2.2.2.2.2.1) z7, PZ.out.len, (k7 _ (fun e => NZ.out.2.2.2.1 e.symm)).trans PZ.out.row, PZ.out.rat.blocks (k7 _ NZ.out.2.2.2.2.2.2.1) z7, PZ.out.qq, PZ.out.qb, PZ.out.nn, by rw [← hw7]; exact (PZ.out.bel.setCell (p := ⟨b15, 0, none⟩) NZ.out.2.2.2.2.2.2.2.2 _).setCell (p := ⟨b15, 1, none⟩) NZ.out.2.2.2.2.2.2.2.2 _⟩, (k7 _ NZ.out.2.2.2.2.2.2.2.1).trans VZ.out⟩)
                      have hS7 := Lib.hid (show w7.heap[bx]? = some (.cells #[.int .i64 (j : Int), .slice (some ⟨q, 0, none⟩) n cap] 29 (0, 0)) ∧ VAt 34 w7 bv kn ∧ w7.cell? ⟨g, o + i * 4 + 1, none⟩ = some (.int .i64 fr) ∧ w7.cell? ⟨g, o + i * 4 + 3, none⟩ = some (.int .i64 tm) from ⟨FZ.out.2.2.2.2.2.1.row, FZ.out.2.2.2.2.2.2, (BX.out w7 FZ.out.2.2.2.2.2.1.bel).2.1, (BX.out w7 FZ.out.2.2.2.2.2.1.bel).2.2.2⟩)
                      clear hw7 k7 z7
                      refine wpAnyH_ready (rs := [17]) (by kernel_rfl) (by simp) (br_store 29 (.tmp 17) (.tmp 108) (.pointer (some ⟨b15, 0, none⟩)) (.agg #[.int .i64 (j : Int), .slice (some ⟨q', 0, none⟩) n cap']) w7 rfl rfl rfl rfl rfl rfl S7.out hS7.out (fun _ => ?_) AllReadyH.nil)
                      simp only [Act.put]
                      refine take_at (i := 18) 18 ?_ rfl rfl (by kernel_rfl) (by kernel_rfl) (by kernel_rfl) (fun _ _ _ h => h) (.inl ⟨rfl, ?_⟩) hS7.out ?_
                      rotate_left 1
                      · intro w hSw; go_simp; try with_reducible rfl
                      simp only [Act.put, List.setIfInBounds_toArray, List.set_cons_zero, List.set_cons_succ]
                      refine wpAnyH_done (by kernel_rfl) ?_ _
                      go_wp2_with fail
                      go_meet
                      exact ⟨b15, q', cap', rfl, rfl, FZ.out⟩
                  case rest =>
                    obtain ⟨b15, q', cap', rfl, rfl, h15, hr15, hqq, hqb, hbb, hpi, hvn⟩ := hcut
                    have c150 := cell_of_row _ b15 0 _ _ _ h15
                    have c151 := cell_of_row _ b15 1 _ _ _ h15
                    have cb0 := cell_of_row _ bx 0 _ _ _ hpi.row
                    have cb1 := cell_of_row _ bx 1 _ _ _ hpi.row
                    have fb0 := frozen_of_row _ bx 0 _ _ hpi.row
                    have fb1 := frozen_of_row _ bx 1 _ _ hpi.row
                    have HC := Lib.hid (And.intro hr15 (And.intro hqq (And.intro hqb (And.intro hpi hvn))))
                    clear h15 hr15 hqq hqb hbb hpi hvn RMI RHE
                    go_upto_region 22 with (fail)
                    obtain ⟨wd, hwd⟩ : ∃ y, (wc.setCell ⟨bx, 0, none⟩ (.int .i64 (j : Int))).setCell ⟨bx, 1, none⟩ (.slice (some ⟨q', 0, none⟩) n cap') = y := ⟨_, rfl⟩
                    have kd7 : ∀ b, b ≠ bx → wd.heap[b]? = wc.heap[b]? := fun b hb => by rw [← hwd]; exact (Below.heap_setCell _ _ _ _ hb).trans (Below.heap_setCell _ _ _ _ hb)
                    have zd : wc.heap.size ≤ wd.heap.size := by rw [← hwd]; simp
                    have WD := Lib.hid (show WAt wd p (j : Int) qs ms from HC.out.2.2.2.1.wat.blocks (kd7 _ HN.out.1) (kd7 _ HN.out.2.1) zd)
                    have RD := Lib.hid (show RAt wd q' msH from HC.out.1.blocks (kd7 _ HC.out.2.2.1) zd)
                    have RW := Lib.hid (show wd.heap[bx]? = some (.cells #[.int .i64 (j : Int), .slice (some ⟨q', 0, none⟩) n cap'] 29 (0, 0)) by rw [← hwd]; exact row_setC (row_setC HC.out.2.2.2.1.row))
                    have BD := Lib.hid (show Below w.heap.size w wd by rw [← hwd]; exact (HC.out.2.2.2.1.bel.setCell (p := ⟨bx, 0, none⟩) HN.out.2.2 _).setCell (p := ⟨bx, 1, none⟩) HN.out.2.2 _)
                    have VD := Lib.hid (show VAt 34 wd bv kn from (kd7 _ HBV.out.2.1).trans HC.out.2.2.2.2)
                    rw [hwd]
                    clear kd7 zd hwd c150 c151 cb0 cb1 fb0 fb1
                    have H0 := Lib.hid (show VAt 34 wd.drew bv kn ∧ wd.drew.cell? ⟨g, o + i * 4 + 1, none⟩ = some (.int .i64 fr) ∧ wd.drew.cell? ⟨g, o + i * 4 + 3, none⟩ = some (.int .i64 tm) from ⟨VD.out, (BX.out wd BD.out).2.1, (BX.out wd BD.out).2.2.2⟩)
                    refine wp_region_held_drew (S := fun w' => VAt 34 w' bv kn ∧ w'.cell? ⟨g, o + i * 4 + 1, none⟩ = some (.int .i64 fr) ∧ w'.cell? ⟨g, o + i * 4 + 3, none⟩ = some (.int .i64 tm)) (by kernel_rfl) H0.out (fun hHeld => ?_)
                    have LB := Lib.hid (fun (W : World) (h : VAt 34 W bv kn ∧ W.cell? ⟨g, o + i * 4 + 1, none⟩ = some (.int .i64 fr) ∧ W.cell? ⟨g, o + i * 4 + 3, none⟩ = some (.int .i64 tm)) => LN.out W bv h.1)
                    have LC := Lib.hid (fun (W : World) (h : VAt 34 W bv kn ∧ W.cell? ⟨g, o + i * 4 + 1, none⟩ = some (.int .i64 fr) ∧ W.cell? ⟨g, o + i * 4 + 3, none⟩ = some (.int .i64 tm)) => load3 W ⟨g, o + i * 4 + 1, none⟩ _ h.2.1)
                    have LD := Lib.hid (fun (W : World) (h : VAt 34 W bv kn ∧ W.cell? ⟨g, o + i * 4 + 1, none⟩ = some (.int .i64 fr) ∧ W.cell? ⟨g, o + i * 4 + 3, none⟩ = some (.int .i64 tm)) => load3 W ⟨g, o + i * 4 + 3, none⟩ _ h.2.2)
                    have IX := Lib.hid (fun W => index_acts W g o L.length cap0 i hl1 HL.out)
                    refine take_at (i := 0) 111 ?_ rfl rfl (by kernel_rfl) (by kernel_rfl) (by kernel_rfl) (fun _ _ _ h => h) (.inl ⟨rfl, ?_⟩) hHeld ?_
                    rotate_left 1
                    · intro w hSw; go_simp; try with_reducible rfl
                    simp only [Act.put, List.setIfInBounds_toArray, List.set_cons_zero, List.set_cons_succ]
                    refine take_at (i := 1) 112 ?_ rfl rfl (by kernel_rfl) (by kernel_rfl) (by kernel_rfl) (fun _ _ _ h => h) (.inl ⟨rfl, ?_⟩) hHeld ?_
                    rotate_left 1
                    · intro w hSw; go_simp; try with_reducible rfl
                    simp only [Act.put, List.setIfInBounds_toArray, List.set_cons_zero, List.set_cons_succ]
                    refine take_at (i := 2) 113 ?_ rfl rfl (by kernel_rfl) (by kernel_rfl) (by kernel_rfl) (fun _ _ _ h => h) (.inl ⟨rfl, ?_⟩) hHeld ?_
                    rotate_left 1
                    · intro w hSw; go_simp; try with_reducible rfl
                    simp only [Act.put, List.setIfInBounds_toArray, List.set_cons_zero, List.set_cons_succ]
                    refine take_at (i := 7) 118 ?_ rfl rfl (by kernel_rfl) (by kernel_rfl) (by kernel_rfl) (fun _ _ _ h => h) (.inl ⟨rfl, ?_⟩) hHeld ?_
                    rotate_left 1
                    · intro w hSw; go_simp; try with_reducible rfl
                    simp only [Act.put, List.setIfInBounds_toArray, List.set_cons_zero, List.set_cons_succ]
                    refine take_at (i := 8) 119 ?_ rfl rfl (by kernel_rfl) (by kernel_rfl) (by kernel_rfl) (fun _ _ _ h => h) (.inl ⟨rfl, ?_⟩) hHeld ?_
                    rotate_left 1
                    · intro w hSw; go_simp; try with_reducible rfl
                    simp only [Act.put, List.setIfInBounds_toArray, List.set_cons_zero, List.set_cons_succ]
                    refine take_at (i := 13) 124 ?_ rfl rfl (by kernel_rfl) (by kernel_rfl) (by kernel_rfl) (fun _ _ _ h => h) (.inl ⟨rfl, ?_⟩) hHeld ?_
                    rotate_left 1
                    · intro w hSw; go_simp; try with_reducible rfl
                    simp only [Act.put, List.setIfInBounds_toArray, List.set_cons_zero, List.set_cons_succ]
                    refine take_at (i := 6) 117 (.agg (va kn)) rfl rfl (by kernel_rfl) (by kernel_rfl) (by kernel_rfl) (fun _ _ _ h => h) (yields_ld (.tmp 14) 34 (.pointer (some ⟨bv, 0, none⟩)) _ LB.out rfl rfl rfl) hHeld ?_
                    simp only [Act.put, List.setIfInBounds_toArray, List.set_cons_zero, List.set_cons_succ]
                    refine take_at (i := 3) 114 (.pointer (some ⟨g, o + i * 4, none⟩)) rfl rfl (by kernel_rfl) (by kernel_rfl) (by kernel_rfl) (fun _ _ _ h => h) (yields_ix (.tmp 112) (.tmp 113) 22 (.slice (some ⟨g, o, none⟩) L.length cap0) (.int .i64 (i : Int)) _ IX.out rfl rfl rfl rfl) hHeld ?_
                    simp only [Act.put, List.setIfInBounds_toArray, List.set_cons_zero, List.set_cons_succ]
                    refine take_at (i := 4) 115 ?_ rfl rfl (by kernel_rfl) (by kernel_rfl) (by kernel_rfl) (fun _ _ _ h => h) (.inl ⟨rfl, ?_⟩) hHeld ?_
                    rotate_left 1
                    · intro w hSw; go_simp; try with_reducible rfl
                    simp only [Act.put, List.setIfInBounds_toArray, List.set_cons_zero, List.set_cons_succ]
                    refine take_at (i := 5) 116 (.int .i64 fr) rfl rfl (by kernel_rfl) (by kernel_rfl) (by kernel_rfl) (fun _ _ _ h => h) (yields_ld (.tmp 115) 3 (.pointer (some ⟨g, o + i * 4 + 1, none⟩)) _ LC.out rfl rfl rfl) hHeld ?_
                    simp only [Act.put, List.setIfInBounds_toArray, List.set_cons_zero, List.set_cons_succ]
                    refine take_at (i := 9) 120 (.pointer (some ⟨g, o + i * 4, none⟩)) rfl rfl (by kernel_rfl) (by kernel_rfl) (by kernel_rfl) (fun _ _ _ h => h) (yields_ix (.tmp 118) (.tmp 119) 22 (.slice (some ⟨g, o, none⟩) L.length cap0) (.int .i64 (i : Int)) _ IX.out rfl rfl rfl rfl) hHeld ?_
                    simp only [Act.put, List.setIfInBounds_toArray, List.set_cons_zero, List.set_cons_succ]
                    refine take_at (i := 10) 121 ?_ rfl rfl (by kernel_rfl) (by kernel_rfl) (by kernel_rfl) (fun _ _ _ h => h) (.inl ⟨rfl, ?_⟩) hHeld ?_
                    rotate_left 1
                    · intro w hSw; go_simp; try with_reducible rfl
                    simp only [Act.put, List.setIfInBounds_toArray, List.set_cons_zero, List.set_cons_succ]
                    refine take_at (i := 11) 122 (.int .i64 tm) rfl rfl (by kernel_rfl) (by kernel_rfl) (by kernel_rfl) (fun _ _ _ h => h) (yields_ld (.tmp 121) 3 (.pointer (some ⟨g, o + i * 4 + 3, none⟩)) _ LD.out rfl rfl rfl) hHeld ?_
                    simp only [Act.put, List.setIfInBounds_toArray, List.set_cons_zero, List.set_cons_succ]
                    refine one_call (i := 12) 123 14 #[.pointer (some ⟨p, 0, none⟩), .int .i64 fr, .agg (va kn), .int .i64 tm] rfl rfl (by kernel_rfl) rfl (by go_simp) ?_
                    refine (HE.out wd.drew (WD.out.step (below_drewN wd 1))).mono ?_
                    rintro e w8 ⟨rfl, h8, g8⟩
                    have B8 := Lib.hid (show Below w.heap.size w w8 from below_own (show Below w.heap.size w wd.drew from BD.out.trans ((below_drewN wd 1).mono BD.out.size)) HQS.out g8)
                    have P8 := Lib.hid (show PI w w8 p qs bx n j msH q' cap' from ⟨h8, by rw [NH.out.2, HC.out.2.2.2.1.len], (g8.block _ (lt_of_block RW.out) (fun e => HN.out.2.1 (by injection e with e; exact e.symm))).trans RW.out, by
                      have rd : RAt wd.drew q' msH := RD.out.blocks rfl (Nat.le_refl _)
                      exact rd.blocks (g8.block _ rd.qlt (fun e => HC.out.2.1 (by injection e))) g8.size, HC.out.2.1, HC.out.2.2.1, NH.out.1, B8.out⟩)
                    have V8 := Lib.hid (show VAt 34 w8 bv kn from (g8.block _ (lt_of_block VD.out) (fun e => HBV.out.1 (by injection e))).trans VD.out)
                    refine ⟨_, rfl, ⟨V8.out, (BX.out w8 B8.out).2.1, (BX.out w8 B8.out).2.2.2⟩, fun hH => ?_⟩
                    clear hHeld h8 g8
                    have hHeld := hH
                    simp only [Act.put, List.setIfInBounds_toArray, List.set_cons_zero, List.set_cons_succ]
                    refine take_at (i := 14) 125 (.bool false) rfl rfl (by kernel_rfl) (by kernel_rfl) (by kernel_rfl) (fun _ _ _ h => h) (.inl ⟨rfl, ?_⟩) hHeld ?_
                    · intro w hSw; cases bH <;> go_simp <;> (try with_reducible rfl)
                    simp only [Act.put, List.setIfInBounds_toArray, List.set_cons_zero, List.set_cons_succ]
                    refine wpAnyH_done (by kernel_rfl) ?_ _
                    go_wp2_with fail
                    go_meet
                    exact ⟨_, q', cap', P8.out⟩
                · go_wp2_with fail
                  go_meet
                  exact ⟨ms, q, cap, P1.out⟩
        case rest =>
          obtain ⟨ms', q', cap', hpi⟩ := hcut
          clear BX d0 MI HE RMI RHE NM NH VN P1 HBV LN LN33
          have P2 := Lib.hid hpi
          have h64 := hpi.wat.rd.m64
          have hpos : 0 < ms'.length := by rw [hpi.len]; have := HJ.out.1; omega
          have FL := Lib.hid (fun W (h : WAt W p (j : Int) qs ms') => floor_any W (.pointer (some ⟨p, 0, none⟩)) _ ms' (.inr ⟨p, _, rfl, h.rd⟩) h64)
          have ME := Lib.hid (fun W (h : WAt W p (j : Int) qs ms') => meetm_any W (.pointer (some ⟨p, 0, none⟩)) _ ms' (.inr ⟨p, _, rfl, h.rd⟩) h64)
          have CT := Lib.hid (fun W (h : WAt W p (j : Int) qs ms') => cut_any W (.pointer (some ⟨p, 0, none⟩)) _ ms' (.inr ⟨p, _, rfl, h.rd⟩) h64)
          have RFL := Lib.hid (fun W (h : RAt W q' ms') => rfloor_any W (j : Int) q' cap' ms' h hpos)
          have RME := Lib.hid (fun W (h : RAt W q' ms') => rmeetm_any W (j : Int) q' cap' ms' h hpos)
          have EM := Lib.hid (eqin_self (meetAll ms') (meetAll_len h64))
          have hf0 : 0 ≤ floorF ms' := le_floor hpos hpi.nn
          have hlen' := hpi.len
          rw [hlen'] at RFL RME
          generalize floorF ms' = f' at *
          generalize meetAll ms' = mt' at *
          unfold vw rv at *
          have HLE := Lib.hid hlen'
          clear h64 hpos hpi hlen'
          obtain ⟨we, hwe⟩ : ∃ y, wc = y := ⟨_, rfl⟩
          rw [hwe] at P2 ⊢
          clear hwe wc
          go_upto_region 25 with (fail)
          obtain ⟨b19, hb19⟩ : ∃ b, we.heap.size = b := ⟨_, rfl⟩
          have hv := vstep we (.cells #[.int .i64 0, .int .i64 0] 44)
          have P3 := Lib.hid (P2.out.step hv)
          have Z3 := Lib.hid (heap_alloc_new we (.cells #[.int .i64 0, .int .i64 0] 44))
          have HBN := Lib.hid (show p ≠ we.heap.size ∧ qs ≠ we.heap.size ∧ bx ≠ we.heap.size ∧ q' ≠ we.heap.size ∧ w.heap.size ≤ we.heap.size from
            ⟨Nat.ne_of_lt P2.out.wat.plt, Nat.ne_of_lt P2.out.wat.qlt, Nat.ne_of_lt (lt_of_block P2.out.row), Nat.ne_of_lt P2.out.rat.qlt, P2.out.bel.size⟩)
          obtain ⟨wf, hwf⟩ : ∃ y, we.alloc (.cells #[.int .i64 0, .int .i64 0] 44) = y := ⟨_, rfl⟩
          rw [hwf] at P3 Z3 ⊢
          rw [hb19] at Z3 HBN ⊢
          clear hv hwf hb19 P2
          have cb0 := cell_of_row _ bx 0 _ _ _ P3.out.row
          have cb1 := cell_of_row _ bx 1 _ _ _ P3.out.row
          go_wp2_with fail
          refine (RFL.out _ P3.out.rat).mono ?_
          rintro e wg ⟨rfl, bg⟩
          have P4 := Lib.hid (P3.out.step bg)
          have Z4 := Lib.hid ((bg.block _ (lt_of_block Z3.out)).trans Z3.out)
          clear bg cb0 cb1 P3 Z3
          go_upto_if 129 with (fail)
          go_cut [] from 45 to 150 (fun wx => wx.heap[b19]? = some (.cells #[.int .i64 (cutT f'), .int .i64 (cutR f')] 44 (0, 0)) ∧ PI w wx p qs bx n j ms' q' cap')
          case first =>
            clear AW HAT FL ME CT RME EM
            by_cases hf : 0 < f'
            · have HC := Lib.hid (cut_pos hf)
              have cb0 := cell_of_row _ bx 0 _ _ _ P4.out.row
              have cb1 := cell_of_row _ bx 1 _ _ _ P4.out.row
              go_wp2_with fail
              refine (RFL.out _ P4.out.rat).mono ?_
              rintro e wh ⟨rfl, bh⟩
              have P5 := Lib.hid (P4.out.step bh)
              have Z5 := (bh.block _ (lt_of_block Z4.out)).trans Z4.out
              have c0 := cell_of_row _ b19 0 _ _ _ Z5
              have c1 := cell_of_row _ b19 1 _ _ _ Z5
              have f0 := frozen_of_row _ b19 0 _ _ Z5
              have f1 := frozen_of_row _ b19 1 _ _ Z5
              have HF := Lib.hid (show ((wh.setCell ⟨b19, 0, none⟩ (.int .i64 f')).setCell ⟨b19, 1, none⟩ (.int .i64 63)).heap[b19]? = some (.cells #[.int .i64 (cutT f'), .int .i64 (cutR f')] 44 (0, 0)) ∧ PI w ((wh.setCell ⟨b19, 0, none⟩ (.int .i64 f')).setCell ⟨b19, 1, none⟩ (.int .i64 63)) p qs bx n j ms' q' cap' from by
                have k : ∀ b, b ≠ b19 → ((wh.setCell ⟨b19, 0, none⟩ (.int .i64 f')).setCell ⟨b19, 1, none⟩ (.int .i64 63)).heap[b]? = wh.heap[b]? := fun b hb => (Below.heap_setCell _ _ _ _ hb).trans (Below.heap_setCell _ _ _ _ hb)
                have z : wh.heap.size ≤ ((wh.setCell ⟨b19, 0, none⟩ (.int .i64 f')).setCell ⟨b19, 1, none⟩ (.int .i64 63)).heap.size := by simp
                exact ⟨by rw [HC.out.1, HC.out.2]; exact row_setC (row_setC Z5), ⟨P5.out.wat.blocks (k _ HBN.out.1) (k _ HBN.out.2.1) z, P5.out.len, (k _ HBN.out.2.2.1).trans P5.out.row, P5.out.rat.blocks (k _ HBN.out.2.2.2.1) z, P5.out.qq, P5.out.qb, P5.out.nn,
                  (P5.out.bel.setCell (p := ⟨b19, 0, none⟩) HBN.out.2.2.2.2 _).setCell (p := ⟨b19, 1, none⟩) HBN.out.2.2.2.2 _⟩⟩)
              clear bh Z5 cb0 cb1
              go_wp2_with fail
              go_meet
              exact HF.out
            · have HC := Lib.hid (cut_none hf hf0)
              have HF := Lib.hid (show wg.heap[b19]? = some (.cells #[.int .i64 (cutT f'), .int .i64 (cutR f')] 44 (0, 0)) by rw [HC.out.1, HC.out.2]; exact Z4.out)
              go_wp2_with fail
              go_meet
              exact ⟨HF.out, P4.out⟩
          case rest =>
            obtain ⟨hz, hpi⟩ := hcut
            obtain ⟨wi, hwi⟩ : ∃ y, wc = y := ⟨_, rfl⟩
            rw [hwi] at hz hpi ⊢
            clear hwi wc P4 Z4
            have P6 := Lib.hid hpi
            have Z6 := Lib.hid hz
            clear hz hpi
            generalize cutT f' = ct at *
            generalize cutR f' = cr at *
            have QR := Lib.hid (later_all (W := wi) (Q := fun w => (Instr.loadAt 29 (.pointer (some ⟨bx, 0, none⟩))).run Try.prog w = .ok (.agg #[.int .i64 (j : Int), .slice (some ⟨q', 0, none⟩) n cap']) w) (fun x => load29 x.w bx _ _ ((x.below.block _ (lt_of_block P6.out.row)).trans P6.out.row)))
            have QW := Lib.hid (later_all (W := wi) (Q := fun w => (Instr.loadAt 44 (.pointer (some ⟨b19, 0, none⟩))).run Try.prog w = .ok (.agg #[.int .i64 ct, .int .i64 cr]) w) (fun x => load44 x.w b19 _ _ ((x.below.block _ (lt_of_block Z6.out)).trans Z6.out)))
            have D1 := Lib.hid (fun x : Later wi => FL.out x.w (P6.out.wat.step x.below))
            have D2 := Lib.hid (fun x : Later wi => RFL.out x.w (P6.out.rat.step x.below))
            have D3 := Lib.hid (fun x : Later wi => ME.out x.w (P6.out.wat.step x.below))
            have D4 := Lib.hid (fun x : Later wi => RME.out x.w (P6.out.rat.step x.below))
            have D5 := Lib.hid (fun x : Later wi => CT.out x.w (P6.out.wat.step x.below))
            have em := EM.out
            have v1 : (f' == f') = true := by simp
            have v2 : (ct == ct) = true := by simp
            have v3 : (cr == cr) = true := by simp
            go_upto_region 27 with (fail)
            refine wp_region_later (by kernel_rfl) (by kernel_rfl) ?_
            repeat (first
              | (go_big_quiet_want; refine quiet_load (.tmp 11) 29 rfl (.pointer (some ⟨bx, 0, none⟩)) (.agg #[.int .i64 (j : Int), .slice (some ⟨q', 0, none⟩) n cap']) rfl QR.out ?_; (try simp only [Act.put, List.setIfInBounds_toArray, List.set_cons_zero, List.set_cons_succ]); go_big_quiet_on)
              | (go_big_quiet_want; refine quiet_load (.tmp 19) 44 rfl (.pointer (some ⟨b19, 0, none⟩)) (.agg #[.int .i64 ct, .int .i64 cr]) rfl QW.out ?_; (try simp only [Act.put, List.setIfInBounds_toArray, List.set_cons_zero, List.set_cons_succ]); go_big_quiet_on)
              | (go_big_quiet_step (first
                | (go_at_call 16; with_reducible exact later_call (D1.out _))
                | (go_at_call 15; with_reducible exact later_call (D2.out _))
                | (go_at_call 17; with_reducible exact later_call (D3.out _))
                | (go_at_call 18; with_reducible exact later_call (D4.out _))
                | (go_at_call 19; with_reducible exact later_call (D5.out _)))))
            refine wpQuiet_nil ?_
            intro _ hw'
            obtain ⟨x13, hw''⟩ := hw'
            subst hw''
            have PF := Lib.hid (P6.out.step x13.below)
            obtain ⟨wj, hwj⟩ : ∃ y, x13.w = y := ⟨_, rfl⟩
            rw [hwj] at PF ⊢
            clear hwj x13 QR QW D1 D2 D3 D4 D5 P6 Z6 em v1 v2 v3
            go_wp2_with fail
            go_roundw
            case rel => exact ⟨i + 1, ms', q', cap', by go_num, by omega, by omega, PF⟩
            case measure => simp [intOf]; omega
    · have PX := hI
      have BW := Lib.hid hI.out.bel
      have h64 := hI.out.wat.rd.m64
      have KN := Lib.hid (fun W (h : WAt W p (j : Int) qs ms) => knows_any W (.pointer (some ⟨p, 0, none⟩)) _ ms (.inr ⟨p, _, rfl, h.rd⟩) h64 u)
      have TM := Lib.hid (fun W (h : WAt W p (j : Int) qs ms) => time_any W (.pointer (some ⟨p, 0, none⟩)) _ ms (.inr ⟨p, _, rfl, h.rd⟩) h64 u)
      have hx : ¬ i < L.length ∨ (i < L.length ∧ ¬ i < 40) := by omega
      have hu : u < 0 ∨ (¬ u < 0 ∧ (n : Int) ≤ u) ∨ (¬ u < 0 ∧ ¬ (n : Int) ≤ u) := by omega
      have hnn := hI.out.len
      clear hI HAT hlt
      have hu2 : (¬ (0 ≤ u ∧ u < (n : Int))) ∨ (0 ≤ u ∧ u < (n : Int)) := by omega
      rcases hu2 with hu2 | hu2
      · have hm0 : memF ms u = mz := by
          unfold memF
          rw [show isM ms.length u = false from decide_eq_false (by rw [hnn]; exact hu2)]
          rfl
        rw [hm0] at KN TM
        rw [show mz.1 = zs from rfl] at KN
        rw [show mz.2 = 0 from rfl] at TM
        have BZ := Lib.hid build_zs
        have EZ := Lib.hid (eqin_self zs zs_len)
        unfold vw at *
        generalize zs = z at *
        have hu3 : u < 0 ∨ (¬ u < 0 ∧ (n : Int) ≤ u) := by omega
        clear h64 hm0 hnn hu2 hu
        rcases hx with hx | ⟨hx, hx2⟩
        all_goals
          rcases hu3 with hu3 | ⟨hu3, hu4⟩
          all_goals
            go_wp2_with fail
            refine (KN.out _ PX.out.wat).mono ?_
            rintro e w5 ⟨rfl, b5⟩
            have PX := Lib.hid (PX.out.step b5)
            have ez := EZ.out
            clear b5
            go_wp2_with (refine wpList_build_arr rfl 34 rfl _ (BZ.out _) ?_)
            refine (TM.out _ PX.out.wat).mono ?_
            rintro e w6 ⟨rfl, b6⟩
            have PX := Lib.hid (PX.out.step b6)
            clear b6
            go_wp2_with fail
            refine (AW.out _).mono ?_
            rintro e w7 ⟨rfl, b7⟩
            have PX := Lib.hid (PX.out.step b7)
            clear b7
            go_wp2
            go_returns
            exact ⟨rfl, PX.out.bel⟩
      · obtain ⟨k, rfl⟩ : ∃ k : Nat, u = (k : Int) := ⟨u.toNat, by omega⟩
        have hkn : k < n := by omega
        obtain ⟨m, hm⟩ : ∃ m, ms[k]? = some m := ⟨_, List.getElem?_eq_getElem (by rw [hnn]; exact hkn)⟩
        have hm0 : memF ms (k : Int) = m := by
          unfold memF
          rw [show isM ms.length (k : Int) = true from decide_eq_true (by rw [hnn]; omega), if_pos rfl, show ((k : Nat) : Int).toNat = k from by omega, List.getD_eq_getElem?_getD, hm]
          rfl
        rw [hm0] at KN TM
        have hml := h64 k m hm
        have EM := Lib.hid (eqin_self m.1 hml)
        have RM := Lib.hid (fun W (h : RAt W q ms) => (range_parts hml (h.row k m hm)))
        have HML := Lib.hid hml
        have k1 := fun x : Later wr => ((x.below.cell (p := ⟨bx, 1, none⟩) (lt_of_block PX.out.row)).trans (by rw [cell_of_row _ _ _ _ _ _ PX.out.row]; rfl) : x.w.cell? ⟨bx, 1, none⟩ = some (.slice (some ⟨q, 0, none⟩) n cap))
        have k2 := fun x : Later wr => (RM.out x.w (PX.out.rat.step x.below)).2
        have QM := Lib.hid (later_all (W := wr) (Q := fun w => (Instr.loadAt 33 (.pointer (some ⟨q, k * 65, none⟩))).run Try.prog w = .ok (.agg (va m.1)) w) (fun x => load_m53 HML.out (RM.out x.w (PX.out.rat.step x.below)).1))
        have D1 := Lib.hid (fun x : Later wr => KN.out x.w (PX.out.wat.step x.below))
        have D2 := Lib.hid (fun x : Later wr => TM.out x.w (PX.out.wat.step x.below))
        have D3 := Lib.hid (fun x : Later wr => AW.out x.w)
        have em := EM.out
        have hu0 : ¬ (k : Int) < 0 := by omega
        have hu1 : ¬ (n : Int) ≤ (k : Int) := by omega
        have hu5 : (0 : Int) ≤ (k : Int) := by omega
        have hu6 : (k : Int) < (n : Int) := by omega
        unfold vw at *
        generalize m.2 = tt at *
        generalize m.1 = xx at *
        have v1 : (tt == tt) = true := by simp
        clear h64 hm0 hnn hu2 hu hm hml RM KN TM EM HML
        rcases hx with hx | ⟨hx, hx2⟩
        all_goals
          go_upto_region 31 with (fail)
          refine wp_region_later (by kernel_rfl) (by kernel_rfl) ?_
          repeat (first
            | (go_big_quiet_want; refine quiet_load (.tmp 179) 33 rfl (.pointer (some ⟨q, k * 65, none⟩)) (.agg (va xx)) rfl QM.out ?_; (try simp only [Act.put, List.setIfInBounds_toArray, List.set_cons_zero, List.set_cons_succ]); go_big_quiet_on)
            | (go_big_quiet_step (first
              | (go_at_call 20; with_reducible exact later_call (D1.out _))
              | (go_at_call 21; with_reducible exact later_call (D2.out _))
              | (go_at_call 9; with_reducible exact later_call (D3.out _)))))
          refine wpQuiet_nil ?_
          intro _ hw'
          obtain ⟨x13, hw''⟩ := hw'
          subst hw''
          have PF := Lib.hid (PX.out.step x13.below)
          go_wp2
          go_returns
          exact ⟨rfl, PF.out.bel⟩
end Go.Proofs.Ytgemlkccdcbpdaa
