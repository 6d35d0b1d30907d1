/- HoldPlays returns true for every input. The row lists three tables of the library with what they hold; the card ties them to the program's text (the pruned copy that the seat's roots load). -/
import Derived.Test.YtgnnpfainoppeaaDoorHCard2
import Derived.Test.YtgnnpfainoppeaaDoorRALL
import Derived.Deep.CutRange
import Derived.ProofKit
import Derived.LaidMore
import Derived.OpenShut
import Derived.Stop.Joined
import Derived.SevenTiedAt
import Derived.Carry
import Derived.Lib.SmallJoins
import Derived.Deep.Slices
import Derived.Shelf.Vars
import Derived.Lay

set_option linter.unusedVariables false
set_option linter.unusedSimpArgs false
set_option maxRecDepth 100000
namespace Go.Proofs.YtgnnpfainoppeaaDoor
open Go.RowKit
open Ve (zs zs_len vw va RightP madeF LiesO)

theorem HK.le {w : World} {B B' b : Nat} {s : HS} (h : HK w B b s) (hB : B' ≤ B) : HK w B' b s := ⟨h.box, Nat.le_trans hB h.bd, h.len, fun i hi => Ve.own_less (h.rows i hi) hB, h.far⟩
theorem ix23 {g o n cap i : Nat} (h : i < n) (hn : n ≤ 9223372036854775807) (W : World) : (Instr.indexAt 23 (.slice (some ⟨g, o, none⟩) n cap) (.int .i64 (i : Int))).run Tryd.prog W = .ok (pvo g (o + i * 11)) W := by
  have h0 : (0 : Int) ≤ (i : Int) := by omega
  have h1 : (i : Int) < (n : Int) := by omega
  go_simp
theorem long_size' {l : List Ac} (h : longB l = false) {i : Nat} (hi : i < 40) {p : Ac} (hp : l[i]? = some p) : p.o.nm.size ≤ 300 := by
  have := List.any_eq_false.1 h p (List.mem_iff_getElem?.2 ⟨i, by rw [List.getElem?_take, if_pos hi, hp]⟩)
  simpa using this
theorem made_len (l : List (Nat × Int)) : (madeF l).length = 64 := by unfold madeF; rw [Ve.foldO_len, zs_len]
set_option maxHeartbeats 12800000 in
theorem plays_law (w : World) (bv v : Value) (bl : List (Nat × Int)) (l : List Ac) (rep seq : Int) (hbv : LiesO w bv bl) (h : ALies w v l) (ht : Ve.Tab w) :
    Calls Tryd.prog 3 #[bv, v, .int .i64 rep, .int .i64 seq] w fun e w' => e = .returned (.bool true) ∧ Below w.heap.size w w' := by
  have H := Lib.hid h
  have LG := Lib.hid (long_any w v l h)
  have AW := Lib.hid (fun W (hb : Below w.heap.size w W) => awake_any W (Ve.tab_later ht hb))
  have MD := Lib.hid (show Calls Tryd.prog 9 #[bv] w fun e w' => e = .returned (.agg (va (madeF bl))) ∧ Below w.heap.size w w' from Ve.Made_any w bv bl hbv)
  have hl : l.length ≤ 9223372036854775807 := by obtain ⟨_, _, _, h, _⟩ := h; exact h
  obtain ⟨ao, cap, rfl⟩ : ∃ ao cap, v = .slice ao l.length cap := by obtain ⟨ao, cap, e, _⟩ := h; exact ⟨ao, cap, e⟩
  have HM := made_len bl
  clear h ht hbv
  cases hb : longB l with
  | true =>
    rw [hb] at LG
    clear hb HM
    go_enter Tryd.func3, Tryd.ntmps3
    go_wp2_with fail
    refine LG.out.mono ?_
    rintro e w1 ⟨rfl, rfl⟩
    have A1 := Lib.hid (AW.out w (Below.refl _ _))
    go_wp2_with fail
    refine A1.out.mono ?_
    rintro e w2 ⟨rfl, hb⟩
    have X := Lib.hid hb
    clear hb
    go_wp2
    go_returns
    exact ⟨rfl, X.out⟩
  | false =>
    rw [hb] at LG
    have NM := Lib.hid hb
    clear hb
    obtain ⟨bs, hbs⟩ : ∃ bs, madeF bl = bs := ⟨_, rfl⟩
    rw [hbs] at MD HM
    clear hbs
    have HMH := Lib.hid HM
    go_enter Tryd.func3, Tryd.ntmps3
    go_wp2_with fail
    refine LG.out.mono ?_
    rintro e w1 ⟨rfl, rfl⟩
    go_wp2_with fail
    refine MD.out.mono ?_
    rintro e w2 ⟨rfl, hb2⟩
    -- the vector's box
    have A9 := Ve.alloc_va Ve.z24 w2
    have N9 := heap_alloc_new w2 (.cells (va zs) 27)
    have S9 := Ve.store_va Ve.v24 (w2.alloc (.cells (va zs) 27)) w2.heap.size (va zs) (by rw [Ve.va_size, zs_len]) bs HM N9
    have M9 := setRow_heap (w2.alloc (.cells (va zs) 27)) w2.heap.size (va zs) (va bs) 27 (0, 0) N9
    have B9 := Ve.below_setRow (vstep w2 (.cells (va zs) 27)) (g := w2.heap.size) (Nat.le_refl _) (va bs)
    obtain ⟨w3, hw3⟩ : ∃ z, (w2.alloc (.cells (va zs) 27)).setRow w2.heap.size (va bs) = z := ⟨_, rfl⟩
    rw [hw3] at S9 M9 B9
    obtain ⟨g9, hg9⟩ : ∃ z, w2.heap.size = z := ⟨_, rfl⟩
    have X3 := Lib.hid (hb2.trans (B9.mono hb2.size))
    have LV := Lib.hid (fun W (hb : Below w3.heap.size w3 W) => (show (Instr.loadAt 27 (.pointer (some ⟨g9, 0, none⟩))).run Tryd.prog W = .ok (.agg (va bs)) W from by
      rw [← hg9]
      exact Ve.load_va Ve.v24 W w2.heap.size bs HM ((hb.block _ (lt_of_block M9)).trans M9)))
    rw [hg9] at A9 S9
    have A9H := Lib.hid A9
    have S9H := Lib.hid S9
    have L3 := Lib.hid (LV.out w3 (Below.refl _ _))
    have B36 := Lib.hid (fun W => build36 W bs HM)
    obtain ⟨VB, hVB⟩ : ∃ VB, va bs = VB := ⟨_, rfl⟩
    have HVB := Lib.hid hVB
    rw [hVB] at S9H L3 LV B36 ⊢
    clear hb2 A9 N9 S9 M9 B9 hw3 hg9 HM MD LG
    by_cases hr : RightP bs
    · have NW := Lib.hid (show Calls Tryd.prog 10 #[.agg VB] w3 fun e w' => ∃ b, e = .returned (.tuple #[pv b, .int .i64 0]) ∧ HK w' w3.heap.size b (hs0 true bs) ∧ Below w3.heap.size w3 w' by rw [← HVB.out]; exact new_ok w3 bs HMH.out hr)
      have RR := Lib.hid (fun W => (show Calls Tryd.prog 11 #[.agg VB] W fun e w' => e = .returned (.bool true) ∧ Below W.heap.size W w' by rw [← HVB.out]; exact Ve.rright_any W bs HMH.out true ⟨fun _ => hr, fun _ => rfl⟩))
      have GD0 := Lib.hid (gd_nil HMH.out hr)
      clear hr hVB
      go_wp2_with (first | (refine Ve.wpList_alloc_arr rfl 27 rfl _ _ A9H.out ?_; simp only [Act.put, List.setIfInBounds_toArray, List.set_cons_zero, List.set_cons_succ]) | (refine Ve.wpList_store_arr rfl (.tmp 9) (.tmp 26) 27 rfl (pvo g9 0) (.agg VB) rfl rfl _ S9H.out ?_; simp only [Act.put, List.setIfInBounds_toArray, List.set_cons_zero, List.set_cons_succ]) | (refine wpList_ld rfl (.tmp 9) 27 rfl (pvo g9 0) (.agg VB) rfl L3.out ?_; simp only [Act.put, List.setIfInBounds_toArray, List.set_cons_zero, List.set_cons_succ]))
      refine NW.out.mono ?_
      rintro e w4 ⟨b, rfl, hk4, hb4⟩
      have HK4 := Lib.hid hk4
      have B4 := Lib.hid hb4
      have L4 := Lib.hid (LV.out w4 hb4)
      clear hk4 hb4 NW A9H S9H L3
      go_wp2_with (first | (refine wpList_ld rfl (.tmp 9) 27 rfl (pvo g9 0) (.agg VB) rfl L4.out ?_; simp only [Act.put, List.setIfInBounds_toArray, List.set_cons_zero, List.set_cons_succ]))
      refine (RR.out _).mono ?_
      rintro e w5 ⟨rfl, hb5⟩
      have B5 := B4.out.trans (hb5.mono B4.out.size)
      have L5 := Lib.hid (LV.out w5 B5)
      have A12 := Lib.hid (alloc36 w5)
      have N12 : RBx (w5.alloc (.cells (rva zs (.slice none 0 0)) 36)) w5.heap.size zs (.slice none 0 0) := heap_alloc_new w5 _
      have S12 := store36 (w5.alloc (.cells (rva zs (.slice none 0 0)) 36)) w5.heap.size zs bs (.slice none 0 0) (.slice none 0 0) zs_len HMH.out rfl N12
      have B12 := Ve.below_setRow (vstep w5 (.cells (rva zs (.slice none 0 0)) 36)) (g := w5.heap.size) (Nat.le_refl _) (rva bs (.slice none 0 0))
      have M12 := N12.row (cs := bs) (v := .slice none 0 0)
      obtain ⟨w6, hw6⟩ : ∃ z, (w5.alloc (.cells (rva zs (.slice none 0 0)) 36)).setRow w5.heap.size (rva bs (.slice none 0 0)) = z := ⟨_, rfl⟩
      rw [hw6] at S12 B12 M12
      have H6 := ((HK4.out.step hb5).step B12).le X3.out.size
      have B6 := B5.trans (B12.mono B5.size)
      have P0 := Lib.hid (show PM w w6 b w5.heap.size bs nilL bs nilL (.slice none 0 0) from ⟨X3.out.trans (B6.mono X3.out.size), by have := X3.out.size; have := B5.size; omega, ⟨hs0 true bs, H6, rfl, rfl, rfl, (fun q => by
        rcases q with q | ⟨i, _, e⟩
        · have := (HK4.out.step hb5).blt; omega
        · cases e), fun k e => by cases e⟩, M12, by rw [flat_nil]; exact World.ownsRow_nil _ _ _ _, fun e => by cases e⟩)
      obtain ⟨g, hg⟩ : ∃ z, w5.heap.size = z := ⟨_, rfl⟩
      rw [hg] at P0 A12 S12
      obtain ⟨RN, hRN⟩ : ∃ RN, rva bs (.slice none 0 0) = RN := ⟨_, rfl⟩
      rw [hRN] at S12 B36
      have S12H := Lib.hid S12
      clear hb5 B5 N12 S12 B12 M12 hw6 H6 B6 hg hRN HK4 B4 L4 RR LV
      go_wp2_with (first | (refine wpList_ld rfl (.tmp 9) 27 rfl (pvo g9 0) (.agg VB) rfl L5.out ?_; simp only [Act.put, List.setIfInBounds_toArray, List.set_cons_zero, List.set_cons_succ]) | (refine wpList_build_1 rfl 36 0 (.tmp 44) rfl (.agg VB) rfl (.agg RN) (B36.out _) ?_; simp only [Act.put, List.setIfInBounds_toArray, List.set_cons_zero, List.set_cons_succ]) | (refine Ve.wpList_alloc_arr rfl 36 rfl _ _ A12.out ?_; simp only [Act.put, List.setIfInBounds_toArray, List.set_cons_zero, List.set_cons_succ]) | (refine Ve.wpList_store_arr rfl (.tmp 12) (.tmp 45) 36 rfl (pvo g 0) (.agg RN) rfl rfl _ S12H.out ?_; simp only [Act.put, List.setIfInBounds_toArray, List.set_cons_zero, List.set_cons_succ]))
      clear L5 A12 S12H B36 X3
      go_loopw [13] (fun iv wr => ∃ i : Nat, iv = .int .i64 i ∧ i ≤ l.length ∧ i ≤ 40 ∧ Hid (∃ bh Lh v, PM w wr b g bh Lh bh Lh v ∧ Gd bh Lh i)) (fun iv _ => 40 - (intOf iv).toNat)
      case atStart => exact ⟨0, rfl, Nat.zero_le _, Nat.zero_le _, Lib.hid ⟨bs, nilL, _, P0.out, GD0.out⟩⟩
      case round =>
        obtain ⟨i, rfl, hi, hi40, hI⟩ := hrel
        obtain ⟨bh, Lh, v, hP, hG⟩ := hI.out
        have P := Lib.hid hP
        have G := Lib.hid hG
        clear hP hG hI
        by_cases hlt : i < l.length ∧ i < 40
        · obtain ⟨hl1, hl2⟩ := hlt
          obtain ⟨p, hp⟩ : ∃ p, l[i]? = some p := ⟨_, List.getElem?_eq_getElem hl1⟩
          obtain ⟨ga, ka, rfl, d0, _, _⟩ := H.out.at P.out.bel hp
          have hi0 : (0 : Int) ≤ (i : Int) := by omega
          have hi1 : (i : Int) < (l.length : Int) := by omega
          obtain ⟨kd, hkd⟩ : ∃ kd, p.kd = kd := ⟨_, rfl⟩
          rw [hkd] at d0
          have HP := Lib.hid hp
          have IX := Lib.hid (fun W => ix23 (g := ga) (o := ka) (cap := cap) hl1 hl W)
          have ACT := Lib.hid (fun W (hb : Below w.heap.size w W) => (show (∀ j u, (oc p.o)[j]? = some u → W.cell? ⟨ga, ka + i * 11 + 1 + j, none⟩ = some u) ∧ W.cell? ⟨ga, ka + i * 11 + 10, none⟩ = some p.v from by
            obtain ⟨g', k', e, _, hc', hv'⟩ := H.out.at hb hp
            injection e with e; injection e with e1 e2; subst e1 e2
            exact ⟨hc', hv'⟩))
          have SZ := Lib.hid (show p.o.nm.size ≤ 1000000 by have := long_size' NM.out hl2 hp; omega)
          clear hkd hp
          go_upto_if 63 with fail
          go_cut [63] from 64 to 67 (fun xv wx => xv = .bool (decide (0 ≤ kd ∧ kd ≤ 3)) ∧ wx = wr)
          case first =>
            by_cases k0 : kd = 0
            · subst k0
              go_wp2_with fail
              go_meet
              exact ⟨rfl, rfl⟩
            · by_cases k1 : kd = 1
              · subst k1
                go_wp2_with fail
                go_meet
                exact ⟨rfl, rfl⟩
              · by_cases k2 : kd = 2
                · subst k2
                  go_wp2_with fail
                  go_meet
                  exact ⟨rfl, rfl⟩
                · by_cases k3 : kd = 3
                  · subst k3
                    go_wp2_with fail
                    go_meet
                    exact ⟨rfl, rfl⟩
                  · have b0 := bneb_ kd 0 k0
                    have b1 := bneb_ kd 1 k1
                    have b2 := bneb_ kd 2 k2
                    have b3 := bneb_ kd 3 k3
                    have e : decide (0 ≤ kd ∧ kd ≤ 3) = false := decide_eq_false (by omega)
                    have E := Lib.hid e
                    clear k0 k1 k2 k3 e
                    go_wp2_with fail
                    go_meet
                    exact ⟨by rw [E.out], rfl⟩
          case rest =>
            obtain ⟨rfl, hw⟩ := hcut
            rw [hw]
            clear hw
            obtain ⟨A, hA⟩ : ∃ A, rva bh v = A := ⟨_, rfl⟩
            obtain ⟨OV, hOV⟩ : ∃ OV, oV p.o = OV := ⟨_, rfl⟩
            have HA := Lib.hid hA
            have HOV := Lib.hid hOV
            have VO := Lib.hid (own_olies P.out.row).one
            have HB64 := Lib.hid G.out.len
            have OL := Lib.hid (fun W (hb : Below wr.heap.size wr W) => own_olies (own_keep P.out.row hb))
            have TOP := Lib.hid (fun W (hb : Below wr.heap.size wr W) => P.out.bel.trans (hb.mono P.out.bel.size))
            have L12 := Lib.hid (fun W (hb : Below wr.heap.size wr W) => (show (Instr.loadAt 36 (.pointer (some ⟨g, 0, none⟩))).run Tryd.prog W = .ok (.agg A) W by rw [← HA.out]; exact (P.out.ref.step hb).ldR HB64.out))
            have LOV0 := Lib.hid (fun W (hb : Below w.heap.size w W) => (show (Instr.loadAt 40 (.pointer (some ⟨ga, ka + i * 11 + 1, none⟩))).run Tryd.prog W = .ok OV W by rw [← HOV.out]; exact ldO (ACT.out W hb).1))
            have LOV := Lib.hid (fun W (hb : Below wr.heap.size wr W) => LOV0.out W (TOP.out W hb))
            by_cases hk : 0 ≤ kd ∧ kd ≤ 3
            · rw [decide_eq_true hk]
              have RPC := Lib.hid (fun W (hb : Below wr.heap.size wr W) => (show Calls Tryd.prog 12 #[.agg A, OV] W fun e w' => ∃ v5, e = .returned (.tuple #[.agg (rva bh v5), .int .i64 (putI bh Lh p.o)]) ∧ ((v5 = v ∧ putL bh Lh p.o = Lh) ∨ w'.ownsRow W.heap.size 40 9 v5 (flat (putL bh Lh p.o)).length (cs9 (flat (putL bh Lh p.o)))) ∧ Below W.heap.size W w' by rw [← HA.out, ← HOV.out]; exact rput_any W bh Lh i G.out (by omega) v (OL.out W hb) p.o SZ.out))
              clear hA hOV hk
              go_wp2_with fail
              go_cut [14, 15] from 68 to 77 (fun s14 s15 wq => ∃ k14 v5, s14 = pvo k14 0 ∧ s15 = .int .i64 (putI bh Lh p.o) ∧ Hid (Aft18 wr wq bh Lh p.o v k14 v5))
              case first =>
                refine wp_region_held_drew (S := fun w' => Below wr.heap.size wr w') (by kernel_rfl) (Below.refl _ _).drew (fun hHeld => ?_)
                obtain ⟨wd, hwd⟩ : ∃ z, wr.drew = z := ⟨_, rfl⟩
                have BV := Lib.hid (show Below wr.heap.size wr wd by rw [← hwd]; exact (Below.refl _ _).drew)
                rw [hwd]
                clear hHeld hwd
                refine take_at (i := 0) 69 (.agg A) rfl rfl (by kernel_rfl) (by kernel_rfl) (by kernel_rfl) (fun _ _ _ h => h) (yields_ld (.tmp 12) 36 (pvo g 0) (.agg A) (fun W h => L12.out W h) rfl rfl rfl) BV.out ?_
                simp only [Act.put, List.setIfInBounds_toArray, List.set_cons_zero, List.set_cons_succ]
                refine take_at (i := 1) 70 ?_ rfl rfl (by kernel_rfl) (by kernel_rfl) (by kernel_rfl) (fun _ _ _ h => h) (.inl ⟨rfl, ?_⟩) BV.out ?_
                rotate_left 1
                · intro w hSw; go_simp; try with_reducible rfl
                simp only [Act.put, List.setIfInBounds_toArray, List.set_cons_zero, List.set_cons_succ]
                refine take_at (i := 2) 71 ?_ rfl rfl (by kernel_rfl) (by kernel_rfl) (by kernel_rfl) (fun _ _ _ h => h) (.inl ⟨rfl, ?_⟩) BV.out ?_
                rotate_left 1
                · intro w hSw; go_simp; try with_reducible rfl
                simp only [Act.put, List.setIfInBounds_toArray, List.set_cons_zero, List.set_cons_succ]
                refine take_at (i := 3) 72 (pvo ga (ka + i * 11)) rfl rfl (by kernel_rfl) (by kernel_rfl) (by kernel_rfl) (fun _ _ _ h => h) (yields_ixp (.tmp 70) (.tmp 71) 23 (.slice (some ⟨ga, ka, none⟩) l.length cap) (.int .i64 (i : Int)) _ (fun W => IX.out W) rfl rfl rfl rfl) BV.out ?_
                simp only [Act.put, List.setIfInBounds_toArray, List.set_cons_zero, List.set_cons_succ]
                refine take_at (i := 4) 73 ?_ rfl rfl (by kernel_rfl) (by kernel_rfl) (by kernel_rfl) (fun _ _ _ h => h) (.inl ⟨rfl, ?_⟩) BV.out ?_
                rotate_left 1
                · intro w hSw; go_simp; try with_reducible rfl
                simp only [Act.put, List.setIfInBounds_toArray, List.set_cons_zero, List.set_cons_succ]
                refine take_at (i := 5) 74 (OV) rfl rfl (by kernel_rfl) (by kernel_rfl) (by kernel_rfl) (fun _ _ _ h => h) (yields_ld (.tmp 73) 40 (pvo ga (ka + i * 11 + 1)) (OV) (fun W h => LOV.out W h) rfl rfl rfl) BV.out ?_
                simp only [Act.put, List.setIfInBounds_toArray, List.set_cons_zero, List.set_cons_succ]
                refine wpAnyH_ready (rs := [6, 10]) (by kernel_rfl) (by simp) (br_call (i := 6) 75 12 #[.agg A, OV] rfl rfl rfl (by go_simp) ((RPC.out _ BV.out).mono ?_) (br_alloc (i := 10) 14 36 (pvo wd.heap.size 0) (wd.alloc (.cells (rva zs (.slice none 0 0)) 36)) rfl rfl rfl rfl (alloc36 wd) (BV.out.trans ((vstep wd _).mono BV.out.size)) (fun _ => ?_) AllReadyH.nil))
                · rintro e w5 ⟨v5, rfl, hc5, hb5⟩
                  have BC := Lib.hid BV.out
                  have H5 := Lib.hid hc5
                  have B5 := Lib.hid hb5
                  have BV := Lib.hid (BV.out.trans (hb5.mono BV.out.size))
                  clear hb5 hc5
                  refine ⟨_, rfl, BV.out, fun _ => ?_⟩
                  simp only [Act.put, List.setIfInBounds_toArray, List.set_cons_zero, List.set_cons_succ]
                  refine take_at (i := 7) 68 ?_ rfl rfl (by kernel_rfl) (by kernel_rfl) (by kernel_rfl) (fun _ _ _ h => h) (.inl ⟨rfl, ?_⟩) BV.out ?_
                  rotate_left 1
                  · intro w hSw; go_simp; try with_reducible rfl
                  simp only [Act.put, List.setIfInBounds_toArray, List.set_cons_zero, List.set_cons_succ]
                  refine take_at (i := 8) 76 ?_ rfl rfl (by kernel_rfl) (by kernel_rfl) (by kernel_rfl) (fun _ _ _ h => h) (.inl ⟨rfl, ?_⟩) BV.out ?_
                  rotate_left 1
                  · intro w hSw; go_simp; try with_reducible rfl
                  simp only [Act.put, List.setIfInBounds_toArray, List.set_cons_zero, List.set_cons_succ]
                  refine take_at (i := 9) 77 ?_ rfl rfl (by kernel_rfl) (by kernel_rfl) (by kernel_rfl) (fun _ _ _ h => h) (.inl ⟨rfl, ?_⟩) BV.out ?_
                  rotate_left 1
                  · intro w hSw; go_simp; try with_reducible rfl
                  simp only [Act.put, List.setIfInBounds_toArray, List.set_cons_zero, List.set_cons_succ]
                  refine wpAnyH_ready (rs := [10]) (by kernel_rfl) (by simp) (br_alloc (i := 10) 14 36 (pvo w5.heap.size 0) (w5.alloc (.cells (rva zs (.slice none 0 0)) 36)) rfl rfl rfl rfl (alloc36 w5) (BV.out.trans ((vstep w5 _).mono BV.out.size)) (fun _ => ?_) AllReadyH.nil)
                  have N14 := Lib.hid (show RBx (w5.alloc (.cells (rva zs (.slice none 0 0)) 36)) w5.heap.size zs (.slice none 0 0) from heap_alloc_new w5 _)
                  have KW := Lib.hid (show wr.heap.size ≤ w5.heap.size from BV.out.size)
                  have VS := Lib.hid (vstep w5 (.cells (rva zs (.slice none 0 0)) 36))
                  have KG := Lib.hid (show w5.heap.size < (w5.alloc (.cells (rva zs (.slice none 0 0)) 36)).heap.size by simp)
                  obtain ⟨hs, ha⟩ := aft18 HB64.out BC.out (B5.out.trans (VS.out.mono B5.out.size)) KW.out N14.out VO.out (h5b VS.out H5.out)
                  have HS := Lib.hid hs
                  have AF := Lib.hid ha
                  clear hs ha
                  have BV := Lib.hid (BV.out.trans (VS.out.mono BV.out.size))
                  obtain ⟨wn, hwn⟩ : ∃ z, w5.alloc (.cells (rva zs (.slice none 0 0)) 36) = z := ⟨_, rfl⟩
                  obtain ⟨k14, hk14⟩ : ∃ z, w5.heap.size = z := ⟨_, rfl⟩
                  rw [hk14] at N14 KW KG HS AF ⊢
                  rw [hwn] at N14 VS BV KG HS AF ⊢
                  clear hwn hk14
                  simp only [Act.put, List.setIfInBounds_toArray, List.set_cons_zero, List.set_cons_succ]
                  refine wpAnyH_ready (rs := [11]) (by kernel_rfl) (by simp) (br_store (i := 11) 36 (.tmp 14) (.tmp 76) _ _ _ rfl rfl rfl rfl rfl rfl HS.out AF.out.2.1 (fun _ => ?_) AllReadyH.nil)
                  have BV := Lib.hid AF.out.2.1
                  simp only [Act.put, List.setIfInBounds_toArray, List.set_cons_zero, List.set_cons_succ]
                  refine take_at (i := 12) 15 ?_ rfl rfl (by kernel_rfl) (by kernel_rfl) (by kernel_rfl) (fun _ _ _ h => h) (.inl ⟨rfl, ?_⟩) BV.out ?_
                  rotate_left 1
                  · intro w hSw; go_simp; try with_reducible rfl
                  simp only [Act.put, List.setIfInBounds_toArray, List.set_cons_zero, List.set_cons_succ]
                  refine wpAnyH_done (by kernel_rfl) ?_ _
                  go_wp2_with fail
                  go_meet
                  exact ⟨_, _, rfl, rfl, AF⟩
                · have N14 := Lib.hid (show RBx (wd.alloc (.cells (rva zs (.slice none 0 0)) 36)) wd.heap.size zs (.slice none 0 0) from heap_alloc_new wd _)
                  have KW := Lib.hid (show wr.heap.size ≤ wd.heap.size from BV.out.size)
                  have VS := Lib.hid (vstep wd (.cells (rva zs (.slice none 0 0)) 36))
                  have KG := Lib.hid (show wd.heap.size < (wd.alloc (.cells (rva zs (.slice none 0 0)) 36)).heap.size by simp)
                  have BV := Lib.hid (BV.out.trans (VS.out.mono BV.out.size))
                  obtain ⟨wn, hwn⟩ : ∃ z, wd.alloc (.cells (rva zs (.slice none 0 0)) 36) = z := ⟨_, rfl⟩
                  obtain ⟨k14, hk14⟩ : ∃ z, wd.heap.size = z := ⟨_, rfl⟩
                  rw [hk14] at N14 KW KG ⊢
                  rw [hwn] at N14 VS BV KG ⊢
                  clear hwn hk14
                  simp only [Act.put, List.setIfInBounds_toArray, List.set_cons_zero, List.set_cons_succ]
                  refine wpAnyH_ready (rs := [6]) (by kernel_rfl) (by simp) (br_call (i := 6) 75 12 #[.agg A, OV] rfl rfl rfl (by go_simp) ((RPC.out _ BV.out).mono ?_) AllReadyH.nil)
                  rintro e w5 ⟨v5, rfl, hc5, hb5⟩
                  have KK := Lib.hid (show wr.heap.size ≤ k14 from KW.out)
                  obtain ⟨hs, ha⟩ := aft18 HB64.out BV.out hb5 KK.out (N14.out.step hb5) VO.out (h5a KG.out hc5)
                  have HS := Lib.hid hs
                  have AF := Lib.hid ha
                  clear hs ha
                  have BC := Lib.hid BV.out
                  have H5 := Lib.hid hc5
                  have B5 := Lib.hid hb5
                  have BV := Lib.hid (BV.out.trans (hb5.mono BV.out.size))
                  clear hb5 hc5
                  refine ⟨_, rfl, BV.out, fun _ => ?_⟩
                  simp only [Act.put, List.setIfInBounds_toArray, List.set_cons_zero, List.set_cons_succ]
                  refine take_at (i := 7) 68 ?_ rfl rfl (by kernel_rfl) (by kernel_rfl) (by kernel_rfl) (fun _ _ _ h => h) (.inl ⟨rfl, ?_⟩) BV.out ?_
                  rotate_left 1
                  · intro w hSw; go_simp; try with_reducible rfl
                  simp only [Act.put, List.setIfInBounds_toArray, List.set_cons_zero, List.set_cons_succ]
                  refine take_at (i := 8) 76 ?_ rfl rfl (by kernel_rfl) (by kernel_rfl) (by kernel_rfl) (fun _ _ _ h => h) (.inl ⟨rfl, ?_⟩) BV.out ?_
                  rotate_left 1
                  · intro w hSw; go_simp; try with_reducible rfl
                  simp only [Act.put, List.setIfInBounds_toArray, List.set_cons_zero, List.set_cons_succ]
                  refine take_at (i := 9) 77 ?_ rfl rfl (by kernel_rfl) (by kernel_rfl) (by kernel_rfl) (fun _ _ _ h => h) (.inl ⟨rfl, ?_⟩) BV.out ?_
                  rotate_left 1
                  · intro w hSw; go_simp; try with_reducible rfl
                  simp only [Act.put, List.setIfInBounds_toArray, List.set_cons_zero, List.set_cons_succ]
                  refine wpAnyH_ready (rs := [11]) (by kernel_rfl) (by simp) (br_store (i := 11) 36 (.tmp 14) (.tmp 76) _ _ _ rfl rfl rfl rfl rfl rfl HS.out AF.out.2.1 (fun _ => ?_) AllReadyH.nil)
                  have BV := Lib.hid AF.out.2.1
                  simp only [Act.put, List.setIfInBounds_toArray, List.set_cons_zero, List.set_cons_succ]
                  refine take_at (i := 12) 15 ?_ rfl rfl (by kernel_rfl) (by kernel_rfl) (by kernel_rfl) (fun _ _ _ h => h) (.inl ⟨rfl, ?_⟩) BV.out ?_
                  rotate_left 1
                  · intro w hSw; go_simp; try with_reducible rfl
                  simp only [Act.put, List.setIfInBounds_toArray, List.set_cons_zero, List.set_cons_succ]
                  refine wpAnyH_done (by kernel_rfl) ?_ _
                  go_wp2_with fail
                  go_meet
                  exact ⟨_, _, rfl, rfl, AF⟩
              case rest =>
                obtain ⟨k14, v5, rfl, rfl, hAF⟩ := hcut
                obtain ⟨l14, w8, s12, p8⟩ := P.out.go18 HB64.out hAF.out
                have G9 := Lib.hid (put_gd G.out p.o)
                obtain ⟨R5, hR5⟩ : ∃ R5, rva bh v5 = R5 := ⟨_, rfl⟩
                rw [hR5] at l14 s12
                have L14 := Lib.hid l14
                have S12 := Lib.hid s12
                have P8 := Lib.hid p8
                have LO8 := Lib.hid (LOV0.out w8 P8.out.bel)
                have PU := Lib.hid (P8.out.put G.out (by omega) p.o SZ.out)
                rw [HOV.out] at PU
                clear l14 s12 p8 hR5 hAF RPC LOV L12
                go_wp2_with (first | (refine wpList_ld rfl (.tmp 14) 36 rfl (pvo k14 0) (.agg R5) rfl L14.out ?_; simp only [Act.put, List.setIfInBounds_toArray, List.set_cons_zero, List.set_cons_succ]) | (refine Ve.wpList_store_arr rfl (.tmp 12) (.tmp 78) 36 rfl (pvo g 0) (.agg R5) rfl rfl _ S12.out ?_; simp only [Act.put, List.setIfInBounds_toArray, List.set_cons_zero, List.set_cons_succ]) | (refine wpList_ld rfl (.tmp 83) 40 rfl (pvo ga (ka + i * 11 + 1)) OV rfl LO8.out ?_; simp only [Act.put, List.setIfInBounds_toArray, List.set_cons_zero, List.set_cons_succ]))
                refine PU.out.mono ?_
                rintro e w9 ⟨rfl, hP9⟩
                have P9 := Lib.hid hP9
                clear hP9
                have J : Hid (∃ bj Lj vj, PM w w9 b g bj Lj bj Lj vj ∧ Gd bj Lj (i + 1)) := Lib.hid ⟨_, _, _, P9.out, G9.out⟩
                clear P8 G9 P9 L14 S12 LO8 PU
                obtain ⟨bj, Lj, vj, hP, hG⟩ := J.out
                have L27 := Lib.hid (hP.ref.ldR hG.len)
                have SM := Lib.hid (hP.same hG (by omega))
                have PJ := Lib.hid hP
                have GJ := Lib.hid hG
                obtain ⟨RJ, hRJ⟩ : ∃ RJ, rva bj vj = RJ := ⟨_, rfl⟩
                rw [hRJ] at L27 SM
                clear hP hG hRJ J
                go_wp2_with (first | (refine wpList_ld rfl (.tmp 12) 36 rfl (pvo g 0) (.agg RJ) rfl L27.out ?_; simp only [Act.put, List.setIfInBounds_toArray, List.set_cons_zero, List.set_cons_succ]))
                refine SM.out.mono ?_
                rintro e w10 ⟨rfl, hb10⟩
                have P10 := Lib.hid (PJ.out.step hb10)
                clear hb10
                go_wp2_with fail
                go_roundw
                case rel => exact ⟨i + 1, by go_num, by omega, by omega, Lib.hid ⟨bj, Lj, vj, P10.out, GJ.out⟩⟩
                case measure => simp [intOf]; omega
            · rw [decide_eq_false hk]
              by_cases k4 : kd = 4
              · subst k4
                have LS := Lib.hid (show LiesO w p.v p.vl by obtain ⟨_, _, _, _, _, _, hm⟩ := H.out; exact hm p (List.mem_iff_getElem?.2 ⟨i, HP.out⟩))
                obtain ⟨vt, hvt⟩ : ∃ vt, madeF p.vl = vt := ⟨_, rfl⟩
                have hvl : vt.length = 64 := by rw [← hvt]; exact made_len _
                obtain ⟨VT, hVT⟩ : ∃ VT, va vt = VT := ⟨_, rfl⟩
                have MDL := Lib.hid (fun W (hb : Below w.heap.size w W) => (show Calls Tryd.prog 9 #[p.v] W fun e w' => e = .returned (.agg VT) ∧ Below W.heap.size W w' by rw [← hVT, ← hvt]; exact Ve.Made_any W p.v p.vl (LiesO.step LS.out hb)))
                have MDW := Lib.hid (fun W (hb : Below wr.heap.size wr W) => MDL.out W (TOP.out W hb))
                have LPV0 := Lib.hid (fun W (hb : Below w.heap.size w W) => (show (Instr.loadAt 22 (.pointer (some ⟨ga, ka + i * 11 + 10, none⟩))).run Tryd.prog W = .ok p.v W from ldV22 (ACT.out W hb).2))
                have LPV := Lib.hid (fun W (hb : Below wr.heap.size wr W) => LPV0.out W (TOP.out W hb))
                have LST0 := Lib.hid (fun W (hb : Below w.heap.size w W) => (show (Instr.loadAt 38 (.pointer (some ⟨ga, ka + i * 11 + 1, none⟩))).run Tryd.prog W = .ok (.agg #[.int .i64 p.o.t, .int .i64 p.o.r]) W from ldS38 ((ACT.out W hb).1 0 _ rfl) ((ACT.out W hb).1 1 _ rfl)))
                have LST := Lib.hid (fun W (hb : Below wr.heap.size wr W) => LST0.out W (TOP.out W hb))
                obtain ⟨ft, hft⟩ : ∃ ft, p.o.t = ft := ⟨_, rfl⟩
                obtain ⟨fr, hfr⟩ : ∃ fr, p.o.r = fr := ⟨_, rfl⟩
                rw [hft, hfr] at LST LST0
                have RTC := Lib.hid (fun W (hb : Below wr.heap.size wr W) => rtrim_go G.out (by omega) W (OL.out W hb) vt hvl ft fr v)
                have HTC := Lib.hid (fun W v5 (h : PM w W b g bh Lh (trB vt ft fr Lh bh 64) (trL vt ft fr Lh) v5) => h.trim G.out (by omega) vt hvl ft fr)
                have GT := Lib.hid (G.out.trim vt ft fr)
                unfold vw at HTC
                rw [hVT] at HTC RTC
                rw [HA.out] at RTC
                obtain ⟨bt, hbt⟩ : ∃ bt, trB vt ft fr Lh bh 64 = bt := ⟨_, rfl⟩
                obtain ⟨Lt, hLt⟩ : ∃ Lt, trL vt ft fr Lh = Lt := ⟨_, rfl⟩
                obtain ⟨nt, hnt⟩ : ∃ nt, trN vt ft fr Lh 64 = nt := ⟨_, rfl⟩
                rw [hbt, hLt, hnt] at RTC HTC
                rw [hbt, hLt] at GT
                have HTB := Lib.hid GT.out.len
                clear hA hOV hk hvt hVT hvl hbt hLt hnt hft hfr LS LOV LOV0
                go_wp2_with fail
                go_cut [16, 17] from 90 to 106 (fun s16 s17 wq => ∃ k14 v5, s16 = pvo k14 0 ∧ s17 = .int .i64 nt ∧ Hid (Aft23 wr wq bt (flat Lt) k14 v5))
                case first =>
                  refine wp_region_held_drew (S := fun w' => Below wr.heap.size wr w') (by kernel_rfl) (Below.refl _ _).drew (fun hHeld => ?_)
                  obtain ⟨wd, hwd⟩ : ∃ z, wr.drew = z := ⟨_, rfl⟩
                  have BV := Lib.hid (show Below wr.heap.size wr wd by rw [← hwd]; exact (Below.refl _ _).drew)
                  rw [hwd]
                  clear hHeld hwd
                  refine take_at (i := 0) 91 (.agg A) rfl rfl (by kernel_rfl) (by kernel_rfl) (by kernel_rfl) (fun _ _ _ h => h) (yields_ld (.tmp 12) 36 (pvo g 0) (.agg A) (fun W h => L12.out W h) rfl rfl rfl) BV.out ?_
                  simp only [Act.put, List.setIfInBounds_toArray, List.set_cons_zero, List.set_cons_succ]
                  refine take_at (i := 1) 92 ?_ rfl rfl (by kernel_rfl) (by kernel_rfl) (by kernel_rfl) (fun _ _ _ h => h) (.inl ⟨rfl, ?_⟩) BV.out ?_
                  rotate_left 1
                  · intro w hSw; go_simp; try with_reducible rfl
                  simp only [Act.put, List.setIfInBounds_toArray, List.set_cons_zero, List.set_cons_succ]
                  refine take_at (i := 2) 93 ?_ rfl rfl (by kernel_rfl) (by kernel_rfl) (by kernel_rfl) (fun _ _ _ h => h) (.inl ⟨rfl, ?_⟩) BV.out ?_
                  rotate_left 1
                  · intro w hSw; go_simp; try with_reducible rfl
                  simp only [Act.put, List.setIfInBounds_toArray, List.set_cons_zero, List.set_cons_succ]
                  refine take_at (i := 3) 94 (pvo ga (ka + i * 11)) rfl rfl (by kernel_rfl) (by kernel_rfl) (by kernel_rfl) (fun _ _ _ h => h) (yields_ixp (.tmp 92) (.tmp 93) 23 (.slice (some ⟨ga, ka, none⟩) l.length cap) (.int .i64 (i : Int)) _ (fun W => IX.out W) rfl rfl rfl rfl) BV.out ?_
                  simp only [Act.put, List.setIfInBounds_toArray, List.set_cons_zero, List.set_cons_succ]
                  refine take_at (i := 4) 95 ?_ rfl rfl (by kernel_rfl) (by kernel_rfl) (by kernel_rfl) (fun _ _ _ h => h) (.inl ⟨rfl, ?_⟩) BV.out ?_
                  rotate_left 1
                  · intro w hSw; go_simp; try with_reducible rfl
                  simp only [Act.put, List.setIfInBounds_toArray, List.set_cons_zero, List.set_cons_succ]
                  refine take_at (i := 5) 96 (p.v) rfl rfl (by kernel_rfl) (by kernel_rfl) (by kernel_rfl) (fun _ _ _ h => h) (yields_ld (.tmp 95) 22 (pvo ga (ka + i * 11 + 10)) (p.v) (fun W h => LPV.out W h) rfl rfl rfl) BV.out ?_
                  simp only [Act.put, List.setIfInBounds_toArray, List.set_cons_zero, List.set_cons_succ]
                  refine take_at (i := 7) 98 ?_ rfl rfl (by kernel_rfl) (by kernel_rfl) (by kernel_rfl) (fun _ _ _ h => h) (.inl ⟨rfl, ?_⟩) BV.out ?_
                  rotate_left 1
                  · intro w hSw; go_simp; try with_reducible rfl
                  simp only [Act.put, List.setIfInBounds_toArray, List.set_cons_zero, List.set_cons_succ]
                  refine take_at (i := 8) 99 ?_ rfl rfl (by kernel_rfl) (by kernel_rfl) (by kernel_rfl) (fun _ _ _ h => h) (.inl ⟨rfl, ?_⟩) BV.out ?_
                  rotate_left 1
                  · intro w hSw; go_simp; try with_reducible rfl
                  simp only [Act.put, List.setIfInBounds_toArray, List.set_cons_zero, List.set_cons_succ]
                  refine take_at (i := 9) 100 (pvo ga (ka + i * 11)) rfl rfl (by kernel_rfl) (by kernel_rfl) (by kernel_rfl) (fun _ _ _ h => h) (yields_ixp (.tmp 98) (.tmp 99) 23 (.slice (some ⟨ga, ka, none⟩) l.length cap) (.int .i64 (i : Int)) _ (fun W => IX.out W) rfl rfl rfl rfl) BV.out ?_
                  simp only [Act.put, List.setIfInBounds_toArray, List.set_cons_zero, List.set_cons_succ]
                  refine take_at (i := 10) 101 ?_ rfl rfl (by kernel_rfl) (by kernel_rfl) (by kernel_rfl) (fun _ _ _ h => h) (.inl ⟨rfl, ?_⟩) BV.out ?_
                  rotate_left 1
                  · intro w hSw; go_simp; try with_reducible rfl
                  simp only [Act.put, List.setIfInBounds_toArray, List.set_cons_zero, List.set_cons_succ]
                  refine take_at (i := 11) 102 ?_ rfl rfl (by kernel_rfl) (by kernel_rfl) (by kernel_rfl) (fun _ _ _ h => h) (.inl ⟨rfl, ?_⟩) BV.out ?_
                  rotate_left 1
                  · intro w hSw; go_simp; try with_reducible rfl
                  simp only [Act.put, List.setIfInBounds_toArray, List.set_cons_zero, List.set_cons_succ]
                  refine take_at (i := 12) 103 (.agg #[.int .i64 ft, .int .i64 fr]) rfl rfl (by kernel_rfl) (by kernel_rfl) (by kernel_rfl) (fun _ _ _ h => h) (yields_ld (.tmp 102) 38 (pvo ga (ka + i * 11 + 1)) (.agg #[.int .i64 ft, .int .i64 fr]) (fun W h => LST.out W h) rfl rfl rfl) BV.out ?_
                  simp only [Act.put, List.setIfInBounds_toArray, List.set_cons_zero, List.set_cons_succ]
                  refine wpAnyH_ready (rs := [6, 17]) (by kernel_rfl) (by simp) (br_call (i := 6) 97 9 #[p.v] rfl rfl rfl (by go_simp) ((MDW.out _ BV.out).mono ?_) (br_alloc (i := 17) 16 36 (pvo wd.heap.size 0) (wd.alloc (.cells (rva zs (.slice none 0 0)) 36)) rfl rfl rfl rfl (alloc36 wd) (BV.out.trans ((vstep wd _).mono BV.out.size)) (fun _ => ?_) AllReadyH.nil))
                  · rintro e w4 ⟨rfl, hb4⟩
                    have BV := Lib.hid (BV.out.trans (hb4.mono BV.out.size))
                    clear hb4
                    refine ⟨_, rfl, BV.out, fun _ => ?_⟩
                    simp only [Act.put, List.setIfInBounds_toArray, List.set_cons_zero, List.set_cons_succ]
                    refine wpAnyH_ready (rs := [13, 17]) (by kernel_rfl) (by simp) (br_call (i := 13) 104 14 #[.agg A, .agg VT, .agg #[.int .i64 ft, .int .i64 fr]] rfl rfl rfl (by go_simp) ((RTC.out _ BV.out).mono ?_) (br_alloc (i := 17) 16 36 (pvo w4.heap.size 0) (w4.alloc (.cells (rva zs (.slice none 0 0)) 36)) rfl rfl rfl rfl (alloc36 w4) (BV.out.trans ((vstep w4 _).mono BV.out.size)) (fun _ => ?_) AllReadyH.nil))
                    · rintro e w5 ⟨v5, rfl, hc5, hb5⟩
                      have BC := Lib.hid BV.out
                      have H5 := Lib.hid hc5
                      have B5 := Lib.hid hb5
                      have BV := Lib.hid (BV.out.trans (hb5.mono BV.out.size))
                      clear hb5 hc5
                      refine ⟨_, rfl, BV.out, fun _ => ?_⟩
                      simp only [Act.put, List.setIfInBounds_toArray, List.set_cons_zero, List.set_cons_succ]
                      refine take_at (i := 14) 90 ?_ rfl rfl (by kernel_rfl) (by kernel_rfl) (by kernel_rfl) (fun _ _ _ h => h) (.inl ⟨rfl, ?_⟩) BV.out ?_
                      rotate_left 1
                      · intro w hSw; go_simp; try with_reducible rfl
                      simp only [Act.put, List.setIfInBounds_toArray, List.set_cons_zero, List.set_cons_succ]
                      refine take_at (i := 15) 105 ?_ rfl rfl (by kernel_rfl) (by kernel_rfl) (by kernel_rfl) (fun _ _ _ h => h) (.inl ⟨rfl, ?_⟩) BV.out ?_
                      rotate_left 1
                      · intro w hSw; go_simp; try with_reducible rfl
                      simp only [Act.put, List.setIfInBounds_toArray, List.set_cons_zero, List.set_cons_succ]
                      refine take_at (i := 16) 106 ?_ rfl rfl (by kernel_rfl) (by kernel_rfl) (by kernel_rfl) (fun _ _ _ h => h) (.inl ⟨rfl, ?_⟩) BV.out ?_
                      rotate_left 1
                      · intro w hSw; go_simp; try with_reducible rfl
                      simp only [Act.put, List.setIfInBounds_toArray, List.set_cons_zero, List.set_cons_succ]
                      refine wpAnyH_ready (rs := [17]) (by kernel_rfl) (by simp) (br_alloc (i := 17) 16 36 (pvo w5.heap.size 0) (w5.alloc (.cells (rva zs (.slice none 0 0)) 36)) rfl rfl rfl rfl (alloc36 w5) (BV.out.trans ((vstep w5 _).mono BV.out.size)) (fun _ => ?_) AllReadyH.nil)
                      have N14 := Lib.hid (show RBx (w5.alloc (.cells (rva zs (.slice none 0 0)) 36)) w5.heap.size zs (.slice none 0 0) from heap_alloc_new w5 _)
                      have KW := Lib.hid (show wr.heap.size ≤ w5.heap.size from BV.out.size)
                      have VS := Lib.hid (vstep w5 (.cells (rva zs (.slice none 0 0)) 36))
                      have KG := Lib.hid (show w5.heap.size < (w5.alloc (.cells (rva zs (.slice none 0 0)) 36)).heap.size by simp)
                      obtain ⟨hs, ha⟩ := aft23 HTB.out BC.out (B5.out.trans (VS.out.mono B5.out.size)) KW.out N14.out (h5b VS.out H5.out)
                      have HS := Lib.hid hs
                      have AF := Lib.hid ha
                      clear hs ha
                      have BV := Lib.hid (BV.out.trans (VS.out.mono BV.out.size))
                      obtain ⟨wn, hwn⟩ : ∃ z, w5.alloc (.cells (rva zs (.slice none 0 0)) 36) = z := ⟨_, rfl⟩
                      obtain ⟨k14, hk14⟩ : ∃ z, w5.heap.size = z := ⟨_, rfl⟩
                      rw [hk14] at N14 KW KG HS AF ⊢
                      rw [hwn] at N14 VS BV KG HS AF ⊢
                      clear hwn hk14
                      simp only [Act.put, List.setIfInBounds_toArray, List.set_cons_zero, List.set_cons_succ]
                      refine wpAnyH_ready (rs := [18]) (by kernel_rfl) (by simp) (br_store (i := 18) 36 (.tmp 16) (.tmp 105) _ _ _ rfl rfl rfl rfl rfl rfl HS.out AF.out.2.1 (fun _ => ?_) AllReadyH.nil)
                      have BV := Lib.hid AF.out.2.1
                      simp only [Act.put, List.setIfInBounds_toArray, List.set_cons_zero, List.set_cons_succ]
                      refine take_at (i := 19) 17 ?_ rfl rfl (by kernel_rfl) (by kernel_rfl) (by kernel_rfl) (fun _ _ _ h => h) (.inl ⟨rfl, ?_⟩) BV.out ?_
                      rotate_left 1
                      · intro w hSw; go_simp; try with_reducible rfl
                      simp only [Act.put, List.setIfInBounds_toArray, List.set_cons_zero, List.set_cons_succ]
                      refine wpAnyH_done (by kernel_rfl) ?_ _
                      go_wp2_with fail
                      go_meet
                      exact ⟨_, _, rfl, rfl, AF⟩
                    · have N14 := Lib.hid (show RBx (w4.alloc (.cells (rva zs (.slice none 0 0)) 36)) w4.heap.size zs (.slice none 0 0) from heap_alloc_new w4 _)
                      have KW := Lib.hid (show wr.heap.size ≤ w4.heap.size from BV.out.size)
                      have VS := Lib.hid (vstep w4 (.cells (rva zs (.slice none 0 0)) 36))
                      have KG := Lib.hid (show w4.heap.size < (w4.alloc (.cells (rva zs (.slice none 0 0)) 36)).heap.size by simp)
                      have BV := Lib.hid (BV.out.trans (VS.out.mono BV.out.size))
                      obtain ⟨wn, hwn⟩ : ∃ z, w4.alloc (.cells (rva zs (.slice none 0 0)) 36) = z := ⟨_, rfl⟩
                      obtain ⟨k14, hk14⟩ : ∃ z, w4.heap.size = z := ⟨_, rfl⟩
                      rw [hk14] at N14 KW KG ⊢
                      rw [hwn] at N14 VS BV KG ⊢
                      clear hwn hk14
                      simp only [Act.put, List.setIfInBounds_toArray, List.set_cons_zero, List.set_cons_succ]
                      refine wpAnyH_ready (rs := [13]) (by kernel_rfl) (by simp) (br_call (i := 13) 104 14 #[.agg A, .agg VT, .agg #[.int .i64 ft, .int .i64 fr]] rfl rfl rfl (by go_simp) ((RTC.out _ BV.out).mono ?_) AllReadyH.nil)
                      rintro e w5 ⟨v5, rfl, hc5, hb5⟩
                      have KK := Lib.hid (show wr.heap.size ≤ k14 from KW.out)
                      obtain ⟨hs, ha⟩ := aft23 HTB.out BV.out hb5 KK.out (N14.out.step hb5) (h5a KG.out hc5)
                      have HS := Lib.hid hs
                      have AF := Lib.hid ha
                      clear hs ha
                      have BC := Lib.hid BV.out
                      have H5 := Lib.hid hc5
                      have B5 := Lib.hid hb5
                      have BV := Lib.hid (BV.out.trans (hb5.mono BV.out.size))
                      clear hb5 hc5
                      refine ⟨_, rfl, BV.out, fun _ => ?_⟩
                      simp only [Act.put, List.setIfInBounds_toArray, List.set_cons_zero, List.set_cons_succ]
                      refine take_at (i := 14) 90 ?_ rfl rfl (by kernel_rfl) (by kernel_rfl) (by kernel_rfl) (fun _ _ _ h => h) (.inl ⟨rfl, ?_⟩) BV.out ?_
                      rotate_left 1
                      · intro w hSw; go_simp; try with_reducible rfl
                      simp only [Act.put, List.setIfInBounds_toArray, List.set_cons_zero, List.set_cons_succ]
                      refine take_at (i := 15) 105 ?_ rfl rfl (by kernel_rfl) (by kernel_rfl) (by kernel_rfl) (fun _ _ _ h => h) (.inl ⟨rfl, ?_⟩) BV.out ?_
                      rotate_left 1
                      · intro w hSw; go_simp; try with_reducible rfl
                      simp only [Act.put, List.setIfInBounds_toArray, List.set_cons_zero, List.set_cons_succ]
                      refine take_at (i := 16) 106 ?_ rfl rfl (by kernel_rfl) (by kernel_rfl) (by kernel_rfl) (fun _ _ _ h => h) (.inl ⟨rfl, ?_⟩) BV.out ?_
                      rotate_left 1
                      · intro w hSw; go_simp; try with_reducible rfl
                      simp only [Act.put, List.setIfInBounds_toArray, List.set_cons_zero, List.set_cons_succ]
                      refine wpAnyH_ready (rs := [18]) (by kernel_rfl) (by simp) (br_store (i := 18) 36 (.tmp 16) (.tmp 105) _ _ _ rfl rfl rfl rfl rfl rfl HS.out AF.out.2.1 (fun _ => ?_) AllReadyH.nil)
                      have BV := Lib.hid AF.out.2.1
                      simp only [Act.put, List.setIfInBounds_toArray, List.set_cons_zero, List.set_cons_succ]
                      refine take_at (i := 19) 17 ?_ rfl rfl (by kernel_rfl) (by kernel_rfl) (by kernel_rfl) (fun _ _ _ h => h) (.inl ⟨rfl, ?_⟩) BV.out ?_
                      rotate_left 1
                      · intro w hSw; go_simp; try with_reducible rfl
                      simp only [Act.put, List.setIfInBounds_toArray, List.set_cons_zero, List.set_cons_succ]
                      refine wpAnyH_done (by kernel_rfl) ?_ _
                      go_wp2_with fail
                      go_meet
                      exact ⟨_, _, rfl, rfl, AF⟩
                  · have N14 := Lib.hid (show RBx (wd.alloc (.cells (rva zs (.slice none 0 0)) 36)) wd.heap.size zs (.slice none 0 0) from heap_alloc_new wd _)
                    have KW := Lib.hid (show wr.heap.size ≤ wd.heap.size from BV.out.size)
                    have VS := Lib.hid (vstep wd (.cells (rva zs (.slice none 0 0)) 36))
                    have KG := Lib.hid (show wd.heap.size < (wd.alloc (.cells (rva zs (.slice none 0 0)) 36)).heap.size by simp)
                    have BV := Lib.hid (BV.out.trans (VS.out.mono BV.out.size))
                    obtain ⟨wn, hwn⟩ : ∃ z, wd.alloc (.cells (rva zs (.slice none 0 0)) 36) = z := ⟨_, rfl⟩
                    obtain ⟨k14, hk14⟩ : ∃ z, wd.heap.size = z := ⟨_, rfl⟩
                    rw [hk14] at N14 KW KG ⊢
                    rw [hwn] at N14 VS BV KG ⊢
                    clear hwn hk14
                    simp only [Act.put, List.setIfInBounds_toArray, List.set_cons_zero, List.set_cons_succ]
                    refine wpAnyH_ready (rs := [6]) (by kernel_rfl) (by simp) (br_call (i := 6) 97 9 #[p.v] rfl rfl rfl (by go_simp) ((MDW.out _ BV.out).mono ?_) AllReadyH.nil)
                    rintro e w4 ⟨rfl, hb4⟩
                    have BV := Lib.hid (BV.out.trans (hb4.mono BV.out.size))
                    have N14 := Lib.hid (N14.out.step hb4)
                    have KG := Lib.hid (Nat.lt_of_lt_of_le KG.out hb4.size)
                    clear hb4
                    refine ⟨_, rfl, BV.out, fun _ => ?_⟩
                    simp only [Act.put, List.setIfInBounds_toArray, List.set_cons_zero, List.set_cons_succ]
                    refine wpAnyH_ready (rs := [13]) (by kernel_rfl) (by simp) (br_call (i := 13) 104 14 #[.agg A, .agg VT, .agg #[.int .i64 ft, .int .i64 fr]] rfl rfl rfl (by go_simp) ((RTC.out _ BV.out).mono ?_) AllReadyH.nil)
                    rintro e w5 ⟨v5, rfl, hc5, hb5⟩
                    have KK := Lib.hid (show wr.heap.size ≤ k14 from KW.out)
                    obtain ⟨hs, ha⟩ := aft23 HTB.out BV.out hb5 KK.out (N14.out.step hb5) (h5a KG.out hc5)
                    have HS := Lib.hid hs
                    have AF := Lib.hid ha
                    clear hs ha
                    have BC := Lib.hid BV.out
                    have H5 := Lib.hid hc5
                    have B5 := Lib.hid hb5
                    have BV := Lib.hid (BV.out.trans (hb5.mono BV.out.size))
                    clear hb5 hc5
                    refine ⟨_, rfl, BV.out, fun _ => ?_⟩
                    simp only [Act.put, List.setIfInBounds_toArray, List.set_cons_zero, List.set_cons_succ]
                    refine take_at (i := 14) 90 ?_ rfl rfl (by kernel_rfl) (by kernel_rfl) (by kernel_rfl) (fun _ _ _ h => h) (.inl ⟨rfl, ?_⟩) BV.out ?_
                    rotate_left 1
                    · intro w hSw; go_simp; try with_reducible rfl
                    simp only [Act.put, List.setIfInBounds_toArray, List.set_cons_zero, List.set_cons_succ]
                    refine take_at (i := 15) 105 ?_ rfl rfl (by kernel_rfl) (by kernel_rfl) (by kernel_rfl) (fun _ _ _ h => h) (.inl ⟨rfl, ?_⟩) BV.out ?_
                    rotate_left 1
                    · intro w hSw; go_simp; try with_reducible rfl
                    simp only [Act.put, List.setIfInBounds_toArray, List.set_cons_zero, List.set_cons_succ]
                    refine take_at (i := 16) 106 ?_ rfl rfl (by kernel_rfl) (by kernel_rfl) (by kernel_rfl) (fun _ _ _ h => h) (.inl ⟨rfl, ?_⟩) BV.out ?_
                    rotate_left 1
                    · intro w hSw; go_simp; try with_reducible rfl
                    simp only [Act.put, List.setIfInBounds_toArray, List.set_cons_zero, List.set_cons_succ]
                    refine wpAnyH_ready (rs := [18]) (by kernel_rfl) (by simp) (br_store (i := 18) 36 (.tmp 16) (.tmp 105) _ _ _ rfl rfl rfl rfl rfl rfl HS.out AF.out.2.1 (fun _ => ?_) AllReadyH.nil)
                    have BV := Lib.hid AF.out.2.1
                    simp only [Act.put, List.setIfInBounds_toArray, List.set_cons_zero, List.set_cons_succ]
                    refine take_at (i := 19) 17 ?_ rfl rfl (by kernel_rfl) (by kernel_rfl) (by kernel_rfl) (fun _ _ _ h => h) (.inl ⟨rfl, ?_⟩) BV.out ?_
                    rotate_left 1
                    · intro w hSw; go_simp; try with_reducible rfl
                    simp only [Act.put, List.setIfInBounds_toArray, List.set_cons_zero, List.set_cons_succ]
                    refine wpAnyH_done (by kernel_rfl) ?_ _
                    go_wp2_with fail
                    go_meet
                    exact ⟨_, _, rfl, rfl, AF⟩
                case rest =>
                  obtain ⟨k14, v5, rfl, rfl, hAF⟩ := hcut
                  obtain ⟨l14, w8, s12, p8⟩ := P.out.go23 HB64.out HTB.out hAF.out
                  obtain ⟨R5, hR5⟩ : ∃ R5, rva bt v5 = R5 := ⟨_, rfl⟩
                  rw [hR5] at l14 s12
                  have L14 := Lib.hid l14
                  have S12 := Lib.hid s12
                  have PX := Lib.hid p8
                  clear l14 s12 p8 hR5 hAF RTC L12
                  go_wp2_with (first | (refine wpList_ld rfl (.tmp 16) 36 rfl (pvo k14 0) (.agg R5) rfl L14.out ?_; simp only [Act.put, List.setIfInBounds_toArray, List.set_cons_zero, List.set_cons_succ]) | (refine Ve.wpList_store_arr rfl (.tmp 12) (.tmp 107) 36 rfl (pvo g 0) (.agg R5) rfl rfl _ S12.out ?_; simp only [Act.put, List.setIfInBounds_toArray, List.set_cons_zero, List.set_cons_succ]))
                  refine wp_region_held_drew (S := fun w' => Below w.heap.size w w') (by kernel_rfl) PX.out.bel.drew (fun hHeld => ?_)
                  have PX := Lib.hid (PX.out.step (Below.refl _ _).drew)
                  have BV := Lib.hid PX.out.bel
                  clear hHeld
                  refine take_at (i := 0) 108 ?_ rfl rfl (by kernel_rfl) (by kernel_rfl) (by kernel_rfl) (fun _ _ _ h => h) (.inl ⟨rfl, ?_⟩) BV.out ?_
                  rotate_left 1
                  · intro w hSw; go_simp; try with_reducible rfl
                  simp only [Act.put, List.setIfInBounds_toArray, List.set_cons_zero, List.set_cons_succ]
                  refine take_at (i := 1) 109 ?_ rfl rfl (by kernel_rfl) (by kernel_rfl) (by kernel_rfl) (fun _ _ _ h => h) (.inl ⟨rfl, ?_⟩) BV.out ?_
                  rotate_left 1
                  · intro w hSw; go_simp; try with_reducible rfl
                  simp only [Act.put, List.setIfInBounds_toArray, List.set_cons_zero, List.set_cons_succ]
                  refine take_at (i := 2) 110 ?_ rfl rfl (by kernel_rfl) (by kernel_rfl) (by kernel_rfl) (fun _ _ _ h => h) (.inl ⟨rfl, ?_⟩) BV.out ?_
                  rotate_left 1
                  · intro w hSw; go_simp; try with_reducible rfl
                  simp only [Act.put, List.setIfInBounds_toArray, List.set_cons_zero, List.set_cons_succ]
                  refine take_at (i := 3) 111 (pvo ga (ka + i * 11)) rfl rfl (by kernel_rfl) (by kernel_rfl) (by kernel_rfl) (fun _ _ _ h => h) (yields_ixp (.tmp 109) (.tmp 110) 23 (.slice (some ⟨ga, ka, none⟩) l.length cap) (.int .i64 (i : Int)) _ (fun W => IX.out W) rfl rfl rfl rfl) BV.out ?_
                  simp only [Act.put, List.setIfInBounds_toArray, List.set_cons_zero, List.set_cons_succ]
                  refine take_at (i := 4) 112 ?_ rfl rfl (by kernel_rfl) (by kernel_rfl) (by kernel_rfl) (fun _ _ _ h => h) (.inl ⟨rfl, ?_⟩) BV.out ?_
                  rotate_left 1
                  · intro w hSw; go_simp; try with_reducible rfl
                  simp only [Act.put, List.setIfInBounds_toArray, List.set_cons_zero, List.set_cons_succ]
                  refine take_at (i := 5) 113 (p.v) rfl rfl (by kernel_rfl) (by kernel_rfl) (by kernel_rfl) (fun _ _ _ h => h) (yields_ld (.tmp 112) 22 (pvo ga (ka + i * 11 + 10)) (p.v) (fun W h => LPV0.out W h) rfl rfl rfl) BV.out ?_
                  simp only [Act.put, List.setIfInBounds_toArray, List.set_cons_zero, List.set_cons_succ]
                  refine take_at (i := 7) 115 ?_ rfl rfl (by kernel_rfl) (by kernel_rfl) (by kernel_rfl) (fun _ _ _ h => h) (.inl ⟨rfl, ?_⟩) BV.out ?_
                  rotate_left 1
                  · intro w hSw; go_simp; try with_reducible rfl
                  simp only [Act.put, List.setIfInBounds_toArray, List.set_cons_zero, List.set_cons_succ]
                  refine take_at (i := 8) 116 ?_ rfl rfl (by kernel_rfl) (by kernel_rfl) (by kernel_rfl) (fun _ _ _ h => h) (.inl ⟨rfl, ?_⟩) BV.out ?_
                  rotate_left 1
                  · intro w hSw; go_simp; try with_reducible rfl
                  simp only [Act.put, List.setIfInBounds_toArray, List.set_cons_zero, List.set_cons_succ]
                  refine take_at (i := 9) 117 (pvo ga (ka + i * 11)) rfl rfl (by kernel_rfl) (by kernel_rfl) (by kernel_rfl) (fun _ _ _ h => h) (yields_ixp (.tmp 115) (.tmp 116) 23 (.slice (some ⟨ga, ka, none⟩) l.length cap) (.int .i64 (i : Int)) _ (fun W => IX.out W) rfl rfl rfl rfl) BV.out ?_
                  simp only [Act.put, List.setIfInBounds_toArray, List.set_cons_zero, List.set_cons_succ]
                  refine take_at (i := 10) 118 ?_ rfl rfl (by kernel_rfl) (by kernel_rfl) (by kernel_rfl) (fun _ _ _ h => h) (.inl ⟨rfl, ?_⟩) BV.out ?_
                  rotate_left 1
                  · intro w hSw; go_simp; try with_reducible rfl
                  simp only [Act.put, List.setIfInBounds_toArray, List.set_cons_zero, List.set_cons_succ]
                  refine take_at (i := 11) 119 ?_ rfl rfl (by kernel_rfl) (by kernel_rfl) (by kernel_rfl) (fun _ _ _ h => h) (.inl ⟨rfl, ?_⟩) BV.out ?_
                  rotate_left 1
                  · intro w hSw; go_simp; try with_reducible rfl
                  simp only [Act.put, List.setIfInBounds_toArray, List.set_cons_zero, List.set_cons_succ]
                  refine take_at (i := 12) 120 (.agg #[.int .i64 ft, .int .i64 fr]) rfl rfl (by kernel_rfl) (by kernel_rfl) (by kernel_rfl) (fun _ _ _ h => h) (yields_ld (.tmp 119) 38 (pvo ga (ka + i * 11 + 1)) (.agg #[.int .i64 ft, .int .i64 fr]) (fun W h => LST0.out W h) rfl rfl rfl) BV.out ?_
                  simp only [Act.put, List.setIfInBounds_toArray, List.set_cons_zero, List.set_cons_succ]
                  refine take_at (i := 14) 122 ?_ rfl rfl (by kernel_rfl) (by kernel_rfl) (by kernel_rfl) (fun _ _ _ h => h) (.inl ⟨rfl, ?_⟩) BV.out ?_
                  rotate_left 1
                  · intro w hSw; go_simp; try with_reducible rfl
                  simp only [Act.put, List.setIfInBounds_toArray, List.set_cons_zero, List.set_cons_succ]
                  refine wpAnyH_ready (rs := [6]) (by kernel_rfl) (by simp) (br_call (i := 6) 114 9 #[p.v] rfl rfl rfl (by go_simp) ((MDL.out _ BV.out).mono ?_) AllReadyH.nil)
                  rintro e w8 ⟨rfl, hb8⟩
                  have PX := Lib.hid (PX.out.step hb8)
                  have BV := Lib.hid PX.out.bel
                  clear hb8
                  refine ⟨_, rfl, BV.out, fun _ => ?_⟩
                  simp only [Act.put, List.setIfInBounds_toArray, List.set_cons_zero, List.set_cons_succ]
                  refine wpAnyH_ready (rs := [13]) (by kernel_rfl) (by simp) (br_call (i := 13) 121 15 #[pv b, .agg VT, .agg #[.int .i64 ft, .int .i64 fr]] rfl rfl rfl (by go_simp) ((HTC.out _ _ PX.out).mono ?_) AllReadyH.nil)
                  rintro e w9 ⟨rfl, Lt, hLt, h9⟩
                  have LT := Lib.hid hLt
                  have P9 := Lib.hid h9
                  have BV := Lib.hid P9.out.bel
                  clear h9 hLt
                  refine ⟨_, rfl, BV.out, fun _ => ?_⟩
                  simp only [Act.put, List.setIfInBounds_toArray, List.set_cons_zero, List.set_cons_succ]
                  refine take_at (i := 15) 123 ?_ rfl rfl (by kernel_rfl) (by kernel_rfl) (by kernel_rfl) (fun _ _ _ h => h) (.inl ⟨rfl, ?_⟩) BV.out ?_
                  rotate_left 1
                  · intro w hSw; go_simp; try with_reducible rfl
                  simp only [Act.put, List.setIfInBounds_toArray, List.set_cons_zero, List.set_cons_succ]
                  refine wpAnyH_done (by kernel_rfl) ?_ _
                  have J : Hid (∃ bj Lj vj, PM w w9 b g bj Lj bj Lj vj ∧ Gd bj Lj (i + 1)) := Lib.hid ⟨_, _, _, P9.out.congr LT.out, (GT.out.congr LT.out).mono (Nat.le_succ _)⟩
                  clear P9 LT GT PX L14 S12
                  obtain ⟨bj, Lj, vj, hP, hG⟩ := J.out
                  have L27 := Lib.hid (hP.ref.ldR hG.len)
                  have SM := Lib.hid (hP.same hG (by omega))
                  have PJ := Lib.hid hP
                  have GJ := Lib.hid hG
                  obtain ⟨RJ, hRJ⟩ : ∃ RJ, rva bj vj = RJ := ⟨_, rfl⟩
                  rw [hRJ] at L27 SM
                  clear hP hG hRJ J
                  go_wp2_with (first | (refine wpList_ld rfl (.tmp 12) 36 rfl (pvo g 0) (.agg RJ) rfl L27.out ?_; simp only [Act.put, List.setIfInBounds_toArray, List.set_cons_zero, List.set_cons_succ]))
                  refine SM.out.mono ?_
                  rintro e w10 ⟨rfl, hb10⟩
                  have P10 := Lib.hid (PJ.out.step hb10)
                  clear hb10
                  go_wp2_with fail
                  go_roundw
                  case rel => exact ⟨i + 1, by go_num, by omega, by omega, Lib.hid ⟨bj, Lj, vj, P10.out, GJ.out⟩⟩
                  case measure => simp [intOf]; omega
              · have b4 := bneb_ kd 4 k4
                clear hk k4
                have J : Hid (∃ bj Lj vj, PM w wr b g bj Lj bj Lj vj ∧ Gd bj Lj (i + 1)) := Lib.hid ⟨_, _, _, P.out, G.out.mono (Nat.le_succ _)⟩
                clear L12 LOV LOV0 hA hOV
                obtain ⟨bj, Lj, vj, hP, hG⟩ := J.out
                have L27 := Lib.hid (hP.ref.ldR hG.len)
                have SM := Lib.hid (hP.same hG (by omega))
                have PJ := Lib.hid hP
                have GJ := Lib.hid hG
                obtain ⟨RJ, hRJ⟩ : ∃ RJ, rva bj vj = RJ := ⟨_, rfl⟩
                rw [hRJ] at L27 SM
                clear hP hG hRJ J
                go_wp2_with (first | (refine wpList_ld rfl (.tmp 12) 36 rfl (pvo g 0) (.agg RJ) rfl L27.out ?_; simp only [Act.put, List.setIfInBounds_toArray, List.set_cons_zero, List.set_cons_succ]))
                refine SM.out.mono ?_
                rintro e w10 ⟨rfl, hb10⟩
                have P10 := Lib.hid (PJ.out.step hb10)
                clear hb10
                go_wp2_with fail
                go_roundw
                case rel => exact ⟨i + 1, by go_num, by omega, by omega, Lib.hid ⟨bj, Lj, vj, P10.out, GJ.out⟩⟩
                case measure => simp [intOf]; omega
        · have hd : (¬ (i : Int) < (l.length : Int)) ∨ ((i : Int) < (l.length : Int) ∧ ¬ (i : Int) < 40) := by
            by_cases h : i < l.length
            · exact .inr ⟨by omega, by omega⟩
            · exact .inl (by omega)
          obtain ⟨ob, hOB⟩ : ∃ ob, firstO (partF Lh rep seq seq) = ob := ⟨_, rfl⟩
          obtain ⟨fb, hFB⟩ : ∃ fb, (!(partF Lh rep seq seq).isEmpty) = fb := ⟨_, rfl⟩
          have GO : getO Lh rep seq = .tuple #[oV ob, .bool fb] := by unfold getO; rw [hOB, hFB]
          have GT := Lib.hid (show Calls Tryd.prog 17 #[pv b, .int .i64 rep, .int .i64 seq] wr fun e w' => e = .returned (.tuple #[oV ob, .bool fb]) ∧ Below wr.heap.size wr w' by rw [← GO]; exact P.out.get G.out (by omega) rep seq)
          obtain ⟨A, hA⟩ : ∃ A, rva bh v = A := ⟨_, rfl⟩
          have RT := Lib.hid (fun W (hb : Below wr.heap.size wr W) => (show Calls Tryd.prog 18 #[.agg A, .int .i64 rep, .int .i64 seq] W fun e w' => e = .returned (.tuple #[oV ob, .bool fb]) ∧ Below W.heap.size W w' by
            have := rget_any W bh G.out.len v (flat Lh) (own_olies (own_keep P.out.row hb)) rep seq
            rw [rgetO_part, GO, hA] at this
            exact this))
          have L12 := Lib.hid (fun W (hb : Below wr.heap.size wr W) => (show (Instr.loadAt 36 (.pointer (some ⟨g, 0, none⟩))).run Tryd.prog W = .ok (.agg A) W by rw [← hA]; exact (P.out.ref.step hb).ldR G.out.len))
          have TOP := Lib.hid (fun W (hb : Below wr.heap.size wr W) => P.out.bel.trans (hb.mono P.out.bel.size))
          have BX := Lib.hid (fun (W : World) => box40 W ob)
          have LB := Lib.hid (fun (W : World) (k : Nat) (h : W.heap[k]? = some (.cells (oCells ob) 40 (0, 0))) => ldBox h)
          obtain ⟨OB, hOV⟩ : ∃ OB, oV ob = OB := ⟨_, rfl⟩
          have HOV := Lib.hid hOV
          rw [hOV] at GT RT BX LB
          clear hOV hOB hFB GO hA hlt
          rcases hd with hd | ⟨hd, hd2⟩
          all_goals
            go_wp2_with fail
            refine GT.out.mono ?_
            rintro e w4 ⟨rfl, hb4⟩
            obtain ⟨a4, w5, s4, b4, r4⟩ := BX.out w4
            have B5 := Lib.hid (hb4.trans (b4.mono hb4.size))
            obtain ⟨g4, hg4⟩ : ∃ z, w4.heap.size = z := ⟨_, rfl⟩
            rw [hg4] at a4 s4 r4
            have A4 := Lib.hid a4
            have S4 := Lib.hid s4
            have R4 := Lib.hid r4
            have L5 := Lib.hid (L12.out w5 B5.out)
            have R5 := Lib.hid (RT.out w5 B5.out)
            clear a4 s4 r4 b4 hb4 hg4
            go_wp2_with (first | (refine Ve.wpList_alloc_arr rfl 40 rfl _ _ A4.out ?_; simp only [Act.put, List.setIfInBounds_toArray, List.set_cons_zero, List.set_cons_succ]) | (refine Ve.wpList_store_arr rfl (.tmp 18) (.tmp 133) 40 rfl (pvo g4 0) OB rfl rfl _ S4.out ?_; simp only [Act.put, List.setIfInBounds_toArray, List.set_cons_zero, List.set_cons_succ]) | (refine wpList_ld rfl (.tmp 12) 36 rfl (pvo g 0) (.agg A) rfl L5.out ?_; simp only [Act.put, List.setIfInBounds_toArray, List.set_cons_zero, List.set_cons_succ]))
            refine R5.out.mono ?_
            rintro e w6 ⟨rfl, hb6⟩
            obtain ⟨a6, w7, s6, b6, r6⟩ := BX.out w6
            have hb7 := hb6.trans (b6.mono hb6.size)
            have L18 := Lib.hid (LB.out w7 g4 ((hb7.block g4 (lt_of_block R4.out)).trans R4.out))
            have B7 := Lib.hid (TOP.out w7 (B5.out.trans (hb7.mono B5.out.size)))
            obtain ⟨g6, hg6⟩ : ∃ z, w6.heap.size = z := ⟨_, rfl⟩
            rw [hg6] at a6 s6 r6
            have A6 := Lib.hid a6
            have S6 := Lib.hid s6
            have L20 := Lib.hid (LB.out w7 g6 r6)
            have AA := Lib.hid (AW.out w7 B7.out)
            clear a6 s6 r6 b6 hb6 hb7 hg6 A4 S4 L5 R5
            go_wp2_with (first | (refine Ve.wpList_alloc_arr rfl 40 rfl _ _ A6.out ?_; simp only [Act.put, List.setIfInBounds_toArray, List.set_cons_zero, List.set_cons_succ]) | (refine Ve.wpList_store_arr rfl (.tmp 20) (.tmp 140) 40 rfl (pvo g6 0) OB rfl rfl _ S6.out ?_; simp only [Act.put, List.setIfInBounds_toArray, List.set_cons_zero, List.set_cons_succ]) | (refine wpList_ld rfl (.tmp 18) 40 rfl (pvo g4 0) OB rfl L18.out ?_; simp only [Act.put, List.setIfInBounds_toArray, List.set_cons_zero, List.set_cons_succ]) | (refine wpList_ld rfl (.tmp 20) 40 rfl (pvo g6 0) OB rfl L20.out ?_; simp only [Act.put, List.setIfInBounds_toArray, List.set_cons_zero, List.set_cons_succ]) | (refine wpList_eq40 rfl (.tmp 142) (.tmp 143) rfl ob (Eq.trans (b := OB) rfl HOV.out.symm) (Eq.trans (b := OB) rfl HOV.out.symm) ?_; simp only [Act.put, List.setIfInBounds_toArray, List.set_cons_zero, List.set_cons_succ]))
            refine AA.out.mono ?_
            rintro e w8 ⟨rfl, hb8⟩
            have X8 := Lib.hid (B7.out.trans (hb8.mono B7.out.size))
            clear hb8
            go_wp2
            go_returns
            exact ⟨rfl, X8.out⟩
    · have NW := Lib.hid (show Calls Tryd.prog 10 #[.agg VB] w3 fun e w' => e = .returned (.tuple #[.pointer none, .int .i64 2]) ∧ Below w3.heap.size w3 w' by rw [← HVB.out]; exact new_bad w3 bs HMH.out hr)
      have RR := Lib.hid (fun W => (show Calls Tryd.prog 11 #[.agg VB] W fun e w' => e = .returned (.bool false) ∧ Below W.heap.size W w' by rw [← HVB.out]; exact Ve.rright_any W bs HMH.out false ⟨fun h => (by cases h), fun h => absurd h hr⟩))
      clear hr hVB B36
      go_wp2_with (first | (refine Ve.wpList_alloc_arr rfl 27 rfl _ _ A9H.out ?_; simp only [Act.put, List.setIfInBounds_toArray, List.set_cons_zero, List.set_cons_succ]) | (refine Ve.wpList_store_arr rfl (.tmp 9) (.tmp 26) 27 rfl (pvo g9 0) (.agg VB) rfl rfl _ S9H.out ?_; simp only [Act.put, List.setIfInBounds_toArray, List.set_cons_zero, List.set_cons_succ]) | (refine wpList_ld rfl (.tmp 9) 27 rfl (pvo g9 0) (.agg VB) rfl L3.out ?_; simp only [Act.put, List.setIfInBounds_toArray, List.set_cons_zero, List.set_cons_succ]))
      refine NW.out.mono ?_
      rintro e w4 ⟨rfl, hb4⟩
      have B4 := Lib.hid hb4
      have L4 := Lib.hid (LV.out w4 hb4)
      clear hb4 NW A9H S9H L3
      go_wp2_with (first | (refine wpList_ld rfl (.tmp 9) 27 rfl (pvo g9 0) (.agg VB) rfl L4.out ?_; simp only [Act.put, List.setIfInBounds_toArray, List.set_cons_zero, List.set_cons_succ]))
      refine (RR.out _).mono ?_
      rintro e w5 ⟨rfl, hb5⟩
      have B5 := Lib.hid (X3.out.trans ((B4.out.trans (hb5.mono B4.out.size)).mono X3.out.size))
      have AA := Lib.hid (AW.out w5 B5.out)
      clear hb5 B4 L4 RR LV
      go_wp2_with fail
      refine AA.out.mono ?_
      rintro e w6 ⟨rfl, hb6⟩
      have B6 := Lib.hid (B5.out.trans (hb6.mono B5.out.size))
      clear hb6
      go_wp2
      go_returns
      exact ⟨rfl, B6.out⟩
end Go.Proofs.YtgnnpfainoppeaaDoor

set_option linter.unusedVariables false
namespace Go.Proofs.YtgnnpfainoppeaaDoor
open Go.ChangeShapes Go.WideShapes Go.ChangeAt Go.RowKit Go.Joins Go.Deep

open Ve (LiesO)
set_option maxRecDepth 100000 in
theorem view_ones {H : Type} {enc : TypeId × Value → H} {W : World} {v : Value} {d : DataW H} {ps : List MemPlace} {b0 : Nat} {r : Reach} (hv : Value.okWide Tryd.prog W r b0 22 v) (h : DataW.Trod enc Tryd.prog W 0 (fun _ => true) true 22 v d ps) :
    ∃ l, LiesO W v l := by
  obtain ⟨ao, cap, l, h1, h2, h3, h4, h5, h6⟩ := view_slice u22 cel76 (Nat.succ_pos _) (fun (p : Nat × Int) => p.1 < 256) encP (fun h => open_pair h) hv h
  refine ⟨l, ao, cap, h1, by unfold maxLen at h3; omega, fun e => (h4 e).1, fun b hb hne => ?_⟩
  obtain ⟨g, k, rfl, hg, hc⟩ := h5 b hb hne
  exact ⟨g, k, rfl, hg, fun j p hj => ⟨h6 p (List.mem_of_getElem? hj), hc j p hj 0 _ rfl, hc j p hj 1 _ rfl⟩⟩
end Go.Proofs.YtgnnpfainoppeaaDoor

set_option linter.unusedVariables false
namespace Go.Proofs.YtgnnpfainoppeaaDoor
open Go.ChangeShapes Go.WideShapes Go.ChangeAt Go.RowKit Go.Joins Go.Deep

set_option maxRecDepth 100000 in
theorem holdPlays_lifted (os : Os) (started : os.Started) (H : Type) (enc : TypeId × Value → H) :
    ReturnsInHanded {} Tryd.checked os 3 .any (fun w args => (Rows.holdPlaysSpec.pre enc Tryd.prog Tryd.f3 [] false w args ∧ laidMetH Tryd.prog laid3 w) ∧ sizedMet enc Tryd.prog Tryd.f3 (OpenSpec.ofChange Rows.holdPlaysSpec) false w args)
      (Rows.holdPlaysSpec.post enc Tryd.prog Tryd.f3 false true false false) := by
  refine handed_both (C := Tryd.checked) (X := fun w _ => laidMetH Tryd.prog laid3 w) (fun _ _ _ hh h => h.of_heap hh) Tryd.own started (by kernel_rfl) Tryd.func3
    (ChangeSpec.witness_shaped (enc := enc) (C := Tryd.checked) (os := os) (X := fun w _ => laidMetH Tryd.prog laid3 w) false (World.laidAll Tryd.prog os laid3) #[.slice none 0 0, .slice none 0 0, .int .i64 0, .int .i64 0] 8 (World.laidAll_os _ _ _)
      (World.shaped_of_ZipB (by kernel_rfl) (by kernel_rfl)) (by kernel_rfl) (by kernel_rfl) (by kernel_rfl)
      (by rw [MakeChecks.laidMetH_plain _ _ _ (by kernel_rfl)]; exact laidMet_laidAll _ (by kernel_rfl) (by kernel_rfl))) ?_
  intro W base args ds gs before hval0 hW hL hsh
  have hval : ∀ (j : Nat) t v, Tryd.f3.params[j]? = some t → args[j]? = some v → Value.okWide Tryd.prog W .any base t v := hval0
  have hW' := hW
  obtain ⟨p, q, hA0, hV, rfl, hfz, hnd⟩ := hW
  have hA : DataW.TrodAll enc Tryd.prog W 0 (fun _ => true) true Tryd.f3.params.toList args.toList ds p := hA0
  rw [Tryd.params3] at hA hval
  obtain ⟨v0, v1, v2, v3, d0, d1, d2, d3, p0, p1, p2, p3, rfl, rfl, rfl, h0, h1, h2, h3⟩ := trodAll_four hA
  obtain ⟨rfl, rfl⟩ := trodVars_none hV
  obtain ⟨l0, hl0⟩ := view_ones (hval 0 22 v0 rfl rfl) h0
  obtain ⟨l1, hl1, hf1⟩ := view_acts (hval 1 23 v1 rfl rfl) h1
  obtain ⟨n2, rfl, hn2⟩ := view_int (hval 2 3 v2 rfl rfl) h2
  obtain ⟨n3, rfl, hn3⟩ := view_int (hval 3 3 v3 rfl rfl) h3
  clear hA0 hval0
  simp only [List.append_nil] at hW'
  have hlt : ∀ x ∈ p0 ++ p1 ++ p2 ++ p3, x.block < W.heap.size := fun x hx => by simpa using hW'.lt x (by simpa using hx)
  refine (plays_law W v0 v1 l0 l1 n2 n3 hl0 hl1 (tab_of_laid hL)).mono fun e W' ⟨he, hb⟩ => ?_
  subst he
  have k0 := Below.trod Tryd.laidOut (by kernel_rfl) (of_decide_eq_true (by kernel_rfl)) h0 hb (fun x hx => hlt x (by simp [hx]))
  have k1 := Below.trod Tryd.laidOut (by kernel_rfl) (of_decide_eq_true (by kernel_rfl)) h1 hb (fun x hx => hlt x (by simp [hx]))
  have k2 := Below.trod Tryd.laidOut (by kernel_rfl) (of_decide_eq_true (by kernel_rfl)) h2 hb (fun x hx => hlt x (by simp [hx]))
  have k3 := Below.trod Tryd.laidOut (by kernel_rfl) (of_decide_eq_true (by kernel_rfl)) h3 hb (fun x hx => hlt x (by simp [hx]))
  exact ⟨_, rfl, post_read hW' hb (trodAll_mk4 k0 k1 k2 k3) rfl (trodAll_mk1 (shut_bool Tryd.underlying4 _))⟩

theorem holdPlays_row : Rows.HoldPlaysSaid :=
  OpenClaim.holds_of_wide 3 Tryd.f3 rfl rfl rfl rfl rfl rfl rfl ⟨rfl, rfl, rfl, rfl, rfl⟩ rfl rfl rfl rfl rfl (by kernel_rfl) Tryd.func3 (by kernel_rfl)
    (of_decide_eq_true (by kernel_rfl)) (by unfold Func.isWrapper; first | (rw [if_pos (by decide +kernel)]; kernel_rfl) | (rw [if_neg (by decide +kernel)]; exact ⟨rfl, rfl⟩))
    (fun os started H enc _ => holdPlays_lifted os started H enc)

theorem holdPlays_card : Rows.HoldPlaysCardSaid :=
  Claim7.holds_tied_plain_at .later [] [.data, .data, .data] true (true, "b46c8f1afb1c50d53dba86f314b5fef6f8db32404739d597ed3bd7c9bd1cac3d") false
    holdPlays_row (fun _ h => by cases h) (by kernel_rfl) (fun _ h => by cases h) holdPlays_row_tie rfl ⟨rfl, rfl⟩ (by kernel_rfl) rfl
    (fun f fn hf hfn => by
      obtain rfl : f = 3 := Option.some.inj ((show Tryd.prog.funcNamed "banyan/banyanlaw27.HoldPlays" = some 3 by kernel_rfl).symm.trans hf) |>.symm
      obtain rfl : fn = Tryd.f3 := (Option.some.inj (Tryd.func3.symm.trans hfn)).symm
      exact ⟨by kernel_rfl, fun j t ht => by
        rw [Tryd.params3] at ht
        have hm : t ∈ [22, 23, 3, 3] := by simpa using Array.mem_of_getElem? ht
        have hall : ([22, 23, 3, 3].all fun u => !Tryd.prog.wantsStandIn u) = true := by kernel_rfl
        exact (show Tryd.prog.wantsStandIn t = false by simpa using List.all_eq_true.1 hall t hm)⟩)
    (by kernel_rfl)
end Go.Proofs.YtgnnpfainoppeaaDoor
