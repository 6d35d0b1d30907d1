/- The reference's disk: Do, append. Made by genrz10.py. -/
import Derived.Test.YtoddofcmdbifpaaSC
set_option linter.unusedVariables false
set_option linter.unusedSimpArgs false
set_option maxRecDepth 100000
namespace Go.Proofs.Ytoddofcmdbifpaa
open Go.RowKit Go.WideMaps Go.Maps

theorem bs33b (W : World) (p : Int) : (Instr.buildSlice 33 1 #[(0, .int .u8 p)]).run Try.prog W = .ok (.slice (some ⟨W.heap.size, 0, none⟩) 1 1) (W.alloc (.cells #[.int .u8 p] 5)) := by go_simp
theorem ldU5b {W : World} {g o : Nat} {x : Int} (h : W.cell? ⟨g, o, none⟩ = some (.int .u8 x)) : (Instr.loadAt 5 (.pointer (some ⟨g, o, none⟩))).run Try.prog W = .ok (.int .u8 x) W := by go_simp
theorem ix33b {W : World} {g o n c i : Nat} (hi : i < n) (hn : n ≤ 1000000) : (Instr.indexAt 33 (.slice (some ⟨g, o, none⟩) n c) (.int .i64 (i : Int))).run Try.prog W = .ok (.pointer (some ⟨g, o + i, none⟩)) W := by go_simp
/-- How much of the power is left behind k steps. -/
def lsK (lasts : Int) (k : Nat) : Int := if lasts < 0 then lasts else lasts - k
theorem lsK_zero (lasts : Int) : lsK lasts 0 = lasts := by unfold lsK; split <;> simp
theorem rst_go {lasts : Int} {k : Nat} (h : lasts < 0 ∨ (k : Int) < lasts) : rst (lsK lasts k) false = (lsK lasts (k + 1), false, true) := by
  unfold rst lsK
  rcases h with h | h
  · simp [h]
  · have h0 : ¬ lasts < 0 := by omega
    simp only [h0, if_false]
    rw [if_neg (by omega), if_neg (by omega)]
    simp
    omega
theorem rst_no {lasts : Int} {k : Nat} (h : lasts = (k : Int)) : rst (lsK lasts k) false = (0, true, false) := by
  unfold rst lsK
  have h0 : ¬ lasts < 0 := by omega
  simp only [h0, if_false]
  rw [if_neg (by omega), if_pos (by omega)]
  simp [h]
theorem lsK_le {lasts : Int} (h : lasts ≤ 9223372036854775807) (k : Nat) : lsK lasts k ≤ 9223372036854775807 := by unfold lsK; split <;> omega
/-- How many bytes come. -/
def apN (lasts : Int) (n : Nat) : Nat := if lasts < 0 then n else min lasts.toNat n
def apE (lasts : Int) (n : Nat) : Int := if 0 ≤ lasts ∧ lasts < (n : Int) then 12 else 0
def apL (lasts : Int) (n : Nat) : Int := if lasts < 0 then lasts else lasts - (min lasts.toNat n : Nat)
def apD (lasts : Int) (n : Nat) : Bool := decide (0 ≤ lasts ∧ lasts < (n : Int))
theorem DI.setd {w W : World} {v : Value} {room lasts : Int} {dn : Bool} {b : Nat} {f : Fl} (h : DI w W v room lasts dn b f) (v' : Value) (l' : Int) (d' : Bool) : DI w (sets4 W w.heap.size v' (.int .i64 room) (.int .i64 l') (.bool d')) v' room l' d' b f := by
  have hf := far_set4 W w.heap.size v' (.int .i64 room) (.int .i64 l') (.bool d')
  have hlo := h.lo
  exact ⟨⟨sets4_row h.d.g6, h.d.g12.far hf (fun q => by omega), h.d.bel.trans (hf.below h.d.bel.size (fun k q => by omega))⟩, h.lo, h.g.far hf (fun q => by omega), hf.row h.row (fun j q r => by have := (h.row.lt j q).1; omega)⟩
set_option maxHeartbeats 25600000 in
theorem do_append (w : World) (v : Value) (l : List Fl) (room lasts : Int) (h : RD w v l) (hl : l.length < 80000) (nm nt : ByteArray) (bv : Value) (n : Int) (i : Nat) (x : Fl) (hat : atF l nm = (i : Int)) (hx : l[i]? = some x) (hbl : ∀ x ∈ l, x.b.length ≤ 100000000) (bs : List Int) (hbv : LiesK encB 1 w bv bs) (hbl2 : bs.length ≤ 1000) (hu : usedF l ≤ 100000000) (hro : 0 ≤ room ∧ room ≤ 16777216) (hful : ¬ (room - (usedF l : Int) < (bs.length : Int))) (hla : lasts ≤ 9223372036854775807) :
    Calls Try.prog 29 #[rdv v room lasts false, .int .i64 1, .string nm, bv, .int .i64 n, .string nt] w fun e w' => ∃ (u : Value) (a5 : Option Addr) (c5 : Nat), e = .returned (.tuple #[rdv u room (apL lasts bs.length) (apD lasts bs.length), .int .i64 (apE lasts bs.length)]) ∧ RN w w' l u (ins ⟨nm, a5, c5, x.b ++ bs.take (apN lasts bs.length), x.s⟩ (dropF l nm)) ∧ Below w.heap.size w w' := by
  have LB := Lib.hid hbv
  obtain ⟨ba, bc, rfl⟩ := hbv.shape
  have hbm := hbv.len
  clear hbv
  obtain ⟨ao, cap, rfl⟩ := h.1.shape
  have H := Lib.hid h
  have S0 := D0.start w (.slice ao l.length cap) room lasts false
  obtain ⟨W0, hW0⟩ : ∃ y, (w.alloc (.cells #[.slice ao l.length cap, .int .i64 room, .int .i64 lasts, .bool false] 29)).alloc (.cells #[.slice none 0 0, .int .i64 0, .int .i64 0, .bool false] 29) = y := ⟨_, rfl⟩
  rw [hW0] at S0
  have HW := Lib.hid hW0
  have K0 := Lib.hid S0
  have AT := Lib.hid (rat_any W0 (.slice ao l.length cap) l room lasts false (h.step S0.bel) nm (by omega))
  rw [hat] at AT
  have hlm := h.1.len
  clear h S0 hW0
  go_enter Try.func29, Try.ntmps29
  go_upto_region 1 with (fail)
  rw [HW.out]
  obtain ⟨c0, c1, c2, c3⟩ := K0.out.g6.cells
  go_wp2_with fail
  refine AT.out.mono ?_
  rintro e w1 ⟨rfl, hb⟩
  have K1 := Lib.hid (K0.out.step hb)
  clear hb c0 c1 c2 c3 AT
  have hxm := List.mem_of_getElem? hx
  have XB := Lib.hid (hbl x hxm)
  have XL := Lib.hid (lies_cap (H.out.2 x hxm))
  have LX := Lib.hid (H.out.2 x hxm)
  have hlt : i < l.length := (List.getElem?_eq_some_iff.1 hx).1
  obtain ⟨g, o, x2, hao, hx2, hg, a0, a1, a2⟩ := rec_at (H.out.1.keep K1.out.bel (Nat.le_refl _)) hlt
  rw [hx] at hx2
  injection hx2 with hx2
  subst hx2
  subst hao
  have hgw : g < w.heap.size := by
    obtain ⟨g', o', x', e, _, hg', _⟩ := rec_at H.out.1 hlt
    injection e with e
    injection e with e
    omega
  clear hx hxm hbl a0
  obtain ⟨c0, c1, c2, c3⟩ := K1.out.g6.cells
  clear c1 c2 c3
  have D5 := Lib.hid (DI.new K1.out nm x.s)
  have BD := Lib.hid (And.intro (hgw) (show w1.cell? ⟨g, o + i * 3 + 1, none⟩ = some (.slice x.a x.b.length x.c) from a1))
  go_upto_region 14 with (fail)
  obtain ⟨W4, hW4⟩ : ∃ y, w1.alloc (.cells #[.string nm, .slice none 0 0, .int .i64 x.s] 66) = y := ⟨_, rfl⟩
  have V4 := vstep w1 (.cells #[.string nm, .slice none 0 0, .int .i64 x.s] 66)
  rw [hW4] at D5 V4 ⊢
  obtain ⟨b, hb17⟩ : ∃ z, w1.heap.size = z := ⟨_, rfl⟩
  rw [hb17] at D5 ⊢
  have B4 := Lib.hid (V4.cell (p := ⟨g, o + i * 3 + 1, none⟩) (by show g < w1.heap.size; have := K1.out.bel.size; omega))
  have C4 := Lib.hid (B4.out.trans a1)
  clear hb17 V4 hW4 B4 BD a1 a2 c0
  have KD := D5.out.step (show Below W4.heap.size W4 W4.drew from (Below.refl _ _).drew)
  have LD : LiesK encB 1 W4.drew (.slice x.a x.b.length x.c) x.b := LX.out.step (D5.out.d.bel.trans ((show Below W4.heap.size W4 W4.drew from (Below.refl _ _).drew).mono D5.out.d.bel.size))
  obtain ⟨a5, c5, w3, W5, q1, q2, q3, q4, q5⟩ := cat_file KD LD (by have := XB.out; simp; omega)
  have SP : ∀ {W'} (P : Nat → Prop), Far P W4.drew W' → (∀ k, P k → b ≤ k) → (W'.cell? ⟨w.heap.size, 0, none⟩ = some (.slice (some ⟨g, o, none⟩) l.length cap) ∧ W'.cell? ⟨g, o + i * 3 + 1, none⟩ = some (.slice x.a x.b.length x.c)) := fun P hf hp =>
    ⟨hf.cell (p := ⟨w.heap.size, 0, none⟩) KD.d.g6.cells.1 (fun q => by have := hp _ q; have := D5.out.lo; dsimp only at *; omega), hf.cell (p := ⟨g, o + i * 3 + 1, none⟩) C4.out (fun q => by have := hp _ q; have := D5.out.lo; dsimp only at *; omega)⟩
  have S0 := Lib.hid (SP (fun _ => False) (Far.refl _ _) (fun k q => q.elim))
  have S3 := Lib.hid (SP _ q4 (fun k q => Nat.le_of_lt q))
  have S5 := Lib.hid (SP _ q5 (fun k q => q))
  have LV0 := Lib.hid (ldV33 (W := W4.drew) KD.g.cells.2.1)
  have HAP := Lib.hid q1
  have HST := Lib.hid q2
  have I5 := Lib.hid (show DI w W5 (.slice (some ⟨g, o, none⟩) l.length cap) room lasts false b ⟨nm, a5, c5, x.b, x.s⟩ from q3)
  have F5 := Lib.hid q5
  have IX := Lib.hid (fun W => ix27 (W := W) (g := g) (o := o) (c := cap) hlt (by omega))
  clear q1 q2 q3 q4 q5 SP KD LD
  rw [List.nil_append] at HAP HST
  refine wp_region_held_drew (S := fun W => W.cell? ⟨w.heap.size, 0, none⟩ = some (.slice (some ⟨g, o, none⟩) l.length cap) ∧ W.cell? ⟨g, o + i * 3 + 1, none⟩ = some (.slice x.a x.b.length x.c)) (by kernel_rfl) S0.out (fun _ => ?_)
  refine take_at (i := 0) 57 ?_ rfl rfl (by kernel_rfl) (by kernel_rfl) (by kernel_rfl) (fun _ _ _ h => h) (.inl ⟨rfl, ?_⟩) S0.out ?_
  rotate_left 1
  · intro w hSw; go_simp; try with_reducible rfl
  simp only [Act.put, List.setIfInBounds_toArray, List.set_cons_zero, List.set_cons_succ]
  refine take_at (i := 2) 59 ?_ rfl rfl (by kernel_rfl) (by kernel_rfl) (by kernel_rfl) (fun _ _ _ h => h) (.inl ⟨rfl, ?_⟩) S0.out ?_
  rotate_left 1
  · intro w hSw; go_simp; try with_reducible rfl
  simp only [Act.put, List.setIfInBounds_toArray, List.set_cons_zero, List.set_cons_succ]
  refine take_at (i := 3) 60 (.slice (some ⟨g, o, none⟩) l.length cap) rfl rfl (by kernel_rfl) (by kernel_rfl) (by kernel_rfl) (fun _ _ _ h => h) (yields_ld (.tmp 59) 27 (.pointer (some ⟨w.heap.size, 0, none⟩)) _ (fun W hS => ldV27 hS.1) rfl rfl rfl) S0.out ?_
  simp only [Act.put, List.setIfInBounds_toArray, List.set_cons_zero, List.set_cons_succ]
  refine take_at (i := 4) 61 ?_ rfl rfl (by kernel_rfl) (by kernel_rfl) (by kernel_rfl) (fun _ _ _ h => h) (.inl ⟨rfl, ?_⟩) S0.out ?_
  rotate_left 1
  · intro w hSw; go_simp; try with_reducible rfl
  simp only [Act.put, List.setIfInBounds_toArray, List.set_cons_zero, List.set_cons_succ]
  refine take_at (i := 5) 62 (.pointer (some ⟨g, o + i * 3, none⟩)) rfl rfl (by kernel_rfl) (by kernel_rfl) (by kernel_rfl) (fun _ _ _ h => h) (yields_ix (.tmp 60) (.tmp 61) 27 (.slice (some ⟨g, o, none⟩) l.length cap) (.int .i64 (i : Int)) _ (fun W => IX.out W) rfl rfl rfl rfl) S0.out ?_
  simp only [Act.put, List.setIfInBounds_toArray, List.set_cons_zero, List.set_cons_succ]
  refine take_at (i := 6) 63 ?_ rfl rfl (by kernel_rfl) (by kernel_rfl) (by kernel_rfl) (fun _ _ _ h => h) (.inl ⟨rfl, ?_⟩) S0.out ?_
  rotate_left 1
  · intro w hSw; go_simp; try with_reducible rfl
  simp only [Act.put, List.setIfInBounds_toArray, List.set_cons_zero, List.set_cons_succ]
  refine take_at (i := 7) 64 (.slice x.a x.b.length x.c) rfl rfl (by kernel_rfl) (by kernel_rfl) (by kernel_rfl) (fun _ _ _ h => h) (yields_ld (.tmp 63) 33 (.pointer (some ⟨g, o + i * 3 + 1, none⟩)) _ (fun W hS => ldV33 hS.2) rfl rfl rfl) S0.out ?_
  simp only [Act.put, List.setIfInBounds_toArray, List.set_cons_zero, List.set_cons_succ]
  refine wpAnyH_ready (rs := [1]) (by kernel_rfl) (by simp) (br_load (i := 1) 58 (.tmp 57) 33 (.pointer (some ⟨b, 1, none⟩)) (.slice none 0 0) rfl rfl rfl rfl rfl LV0.out S0.out (fun _ => ?_) AllReadyH.nil)
  simp only [Act.put, List.setIfInBounds_toArray, List.set_cons_zero, List.set_cons_succ]
  refine one_append (i := 8) 65 (.tmp 58) (.tmp 64) 33 33 rfl rfl (by kernel_rfl) rfl rfl (.slice none 0 0) (.slice x.a x.b.length x.c) (.slice a5 x.b.length c5) w3 rfl rfl (HAP.out _) S3.out (fun _ => ?_)
  simp only [Act.put, List.setIfInBounds_toArray, List.set_cons_zero, List.set_cons_succ]
  refine take_at (i := 9) 66 ?_ rfl rfl (by kernel_rfl) (by kernel_rfl) (by kernel_rfl) (fun _ _ _ h => h) (.inl ⟨rfl, ?_⟩) S3.out ?_
  rotate_left 1
  · intro w hSw; go_simp; try with_reducible rfl
  simp only [Act.put, List.setIfInBounds_toArray, List.set_cons_zero, List.set_cons_succ]
  refine wpAnyH_ready (rs := [10]) (by kernel_rfl) (by simp) (br_store (i := 10) 33 (.tmp 66) (.tmp 65) (.pointer (some ⟨b, 1, none⟩)) (.slice a5 x.b.length c5) W5 rfl rfl rfl rfl rfl rfl HST.out S5.out (fun _ => ?_) AllReadyH.nil)
  simp only [Act.put, List.setIfInBounds_toArray, List.set_cons_zero, List.set_cons_succ]
  refine wpAnyH_done (by kernel_rfl) ?_ _
  clear S0 S3 S5 LV0 HAP HST IX F5 C4 D5 K1
  clear K0 HW
  obtain ⟨us, hus⟩ : ∃ us, usedF l = us := ⟨_, rfl⟩
  have UU := Lib.hid (fun z : Later W5 => later_call (rused_any z.w (.slice (some ⟨g, o, none⟩) l.length cap) l room lasts false (H.out.step ((I5.out.step z.below).d.bel)) (by omega) hu))
  rw [hus] at UU hful hu
  have XU := Lib.hid (show x.b.length ≤ 100000000 from XB.out)
  clear hus
  have CC : ∀ z : Later W5, z.w.cell? ⟨w.heap.size, 1, none⟩ = some (.int .i64 room) := fun z => (I5.out.step z.below).d.g6.cells.2.1
  have D_0 : ∀ z : Later W5, z.w.cell? ⟨w.heap.size, 0, none⟩ = some (.slice (some ⟨g, o, none⟩) l.length cap) := fun z => (I5.out.step z.below).d.g6.cells.1
  have D_2 : ∀ z : Later W5, z.w.cell? ⟨w.heap.size, 2, none⟩ = some (.int .i64 lasts) := fun z => (I5.out.step z.below).d.g6.cells.2.2.1
  have D_3 : ∀ z : Later W5, z.w.cell? ⟨w.heap.size, 3, none⟩ = some (.bool false) := fun z => (I5.out.step z.below).d.g6.cells.2.2.2
  go_upto_region 16 with (fail)
  refine wp_region_later (by kernel_rfl) (by kernel_rfl) ?_
  repeat (go_big_quiet_step (first | (go_at_call 30; with_reducible exact UU.out _)))
  refine wpQuiet_nil ?_
  rintro _ ⟨z, rfl⟩
  have I6 := Lib.hid (I5.out.step z.below)
  clear CC D_0 D_2 D_3 UU
  generalize z.w = W6 at *
  have HF := Lib.hid hful
  have J6 := Lib.hid (show DI w W6 (.slice (some ⟨g, o, none⟩) l.length cap) room (lsK lasts 0) false b ⟨nm, a5, c5, x.b ++ bs.take 0, x.s⟩ from by rw [lsK_zero, List.take_zero, List.append_nil]; exact I6.out)
  clear I5 I6 XB XL
  obtain ⟨bl, hbl⟩ : ∃ bl, bs.length = bl := ⟨_, rfl⟩
  have HBL := Lib.hid hbl
  have HBL2 := Lib.hid hbl2
  rw [hbl] at hful hbm hbl2
  simp only [hbl]
  clear hbl
  go_wp2_with fail
  go_loopw [18] (fun sv wr => ∃ (k : Nat) (ak : Option Addr) (ck : Nat), sv = .int .i64 k ∧ k ≤ bl ∧ Hid (DI w wr (.slice (some ⟨g, o, none⟩) l.length cap) room (lsK lasts k) false b ⟨nm, ak, ck, x.b ++ bs.take k, x.s⟩ ∧ (lasts < 0 ∨ (k : Int) ≤ lasts))) (fun sv _ => bl - (intOf sv).toNat)
  case atStart => exact ⟨0, a5, c5, rfl, Nat.zero_le _, Lib.hid ⟨J6.out, by omega⟩⟩
  case round =>
    obtain ⟨k, ak, ck, rfl, hk, hK⟩ := hrel
    have K := Lib.hid hK.out.1
    have KL := Lib.hid hK.out.2
    clear hK J6
    by_cases hlt2 : k < bl
    · have ST := Lib.hid (rstep_any wr (some ⟨g, o, none⟩) l.length cap room (lsK lasts k) false (lsK_le hla k))
      by_cases hgo : lasts < 0 ∨ (k : Int) < lasts
      · rw [rst_go hgo] at ST
        have GO := Lib.hid (show lasts < 0 ∨ ((k + 1 : Nat) : Int) ≤ lasts from by omega)
        clear hgo
        obtain ⟨lk, hlk⟩ : ∃ lk, lsK lasts k = lk := ⟨_, rfl⟩
        rw [hlk] at ST K
        clear hlk
        obtain ⟨lk2, hlk2⟩ : ∃ lk2, lsK lasts (k + 1) = lk2 := ⟨_, rfl⟩
        rw [hlk2] at ST
        have HL2 := Lib.hid hlk2
        clear hlk2
        obtain ⟨c0, c1, c2, c3⟩ := K.out.d.g6.cells
        obtain ⟨h0, h1, h2, h3⟩ := K.out.d.g6.free
        go_wp2_with fail
        refine ST.out.mono ?_
        rintro e w6 ⟨rfl, hb⟩
        have I6 := Lib.hid (K.out.step hb)
        clear hb c0 c1 c2 c3 h0 h1 h2 h3 ST
        have VB := vstep w6 (.cells #[.slice (some ⟨g, o, none⟩) l.length cap, .int .i64 room, .int .i64 lk2, .bool false] 29)
        have I7 := Lib.hid (I6.out.step VB)
        have BX := Lib.hid (RB.new w6 (.slice (some ⟨g, o, none⟩) l.length cap) room lk2 false)
        go_upto_region 22 with (fail)
        obtain ⟨W7, hW7⟩ : ∃ y, w6.alloc (.cells #[.slice (some ⟨g, o, none⟩) l.length cap, .int .i64 room, .int .i64 lk2, .bool false] 29) = y := ⟨_, rfl⟩
        rw [hW7] at I7 BX VB ⊢
        obtain ⟨bx, hbx⟩ : ∃ z, w6.heap.size = z := ⟨_, rfl⟩
        rw [hbx] at BX ⊢
        clear hW7 hbx VB I6
        obtain ⟨c0, c1, c2, c3⟩ := BX.out.cells
        obtain ⟨h0, h1, h2, h3⟩ := I7.out.d.g6.free
        obtain ⟨k0, k1, k2, k3⟩ := I7.out.d.g6.cells
        go_upto_region 23 with (fail)
        clear c0 c1 c2 c3 h0 h1 h2 h3 k0 k1 k2 k3
        have I8 := Lib.hid (I7.out.setd (.slice (some ⟨g, o, none⟩) l.length cap) lk2 false)
        obtain ⟨W8, hW8⟩ : ∃ z, sets4 W7 w.heap.size (.slice (some ⟨g, o, none⟩) l.length cap) (.int .i64 room) (.int .i64 lk2) (.bool false) = z := ⟨_, rfl⟩
        rw [hW8] at I8
        unfold sets4 at hW8
        rw [hW8]
        clear hW8 I7 BX
        obtain ⟨gb, ob, p, rfl, hp, hgb, hcb⟩ := (LB.out.step I8.out.d.bel).at' (i := k) (by rw [HBL.out]; exact hlt2)
        have hgbw : gb < w.heap.size := by
          obtain ⟨g', o', p', e, _, hg', _⟩ := LB.out.at' (i := k) (by rw [HBL.out]; exact hlt2)
          injection e with e
          injection e with e
          omega
        have p0 : W8.cell? ⟨gb, ob + k, none⟩ = some (.int .u8 p) := by simpa using hcb 0 (.int .u8 p) rfl
        have TK := Lib.hid (show x.b ++ bs.take (k + 1) = (x.b ++ bs.take k) ++ [p] from by rw [List.take_add_one, hp, List.append_assoc]; rfl)
        have LTB := Lib.hid (show (x.b ++ bs.take k).length + 1 ≤ 200000000 from by rw [List.length_append, List.length_take]; have := XU.out; omega)
        obtain ⟨tb, htb⟩ : ∃ tb, x.b ++ bs.take k = tb := ⟨_, rfl⟩
        rw [htb] at I8 TK LTB
        clear htb hp hcb K
        have KD := I8.out.step (show Below W8.heap.size W8 W8.drew from (Below.refl _ _).drew)
        have V1 := vstep W8.drew (.cells #[.int .u8 p] 5)
        have KE := KD.step V1
        obtain ⟨a', c', w3, W9, q1, q2, q3, q4, q5⟩ := cat_file KE (xs := [p]) (one_liesK (enc := encB) encB_len (heap_alloc_new W8.drew _)) (by have := LTB.out; simpa using this)
        have SP : ∀ {W'} (P : Nat → Prop), Far P W8.drew W' → (∀ k, P k → b ≤ k) → (W'.cell? ⟨gb, ob + k, none⟩ = some (.int .u8 p)) := fun P hf hp => hf.cell (p := ⟨gb, ob + k, none⟩) p0 (fun q => by have := hp _ q; have := I8.out.lo; dsimp only at *; omega)
        have S0 := Lib.hid (SP (fun _ => False) (Far.refl _ _) (fun k q => q.elim))
        have S1 := Lib.hid (SP (fun _ => False) (Far.of_below V1) (fun k q => q.elim))
        have S3 := Lib.hid (SP _ ((Far.of_below (P := fun k => b < k) V1).trans q4 (fun k _ q => q)) (fun k q => Nat.le_of_lt q))
        have S5 := Lib.hid (SP _ ((Far.of_below (P := fun k => b ≤ k) V1).trans q5 (fun k _ q => q)) (fun k q => q))
        have LV0 := Lib.hid (ldV33 (W := W8.drew) KD.g.cells.2.1)
        have LV1 := Lib.hid (ldV33 KE.g.cells.2.1)
        have BS := Lib.hid (bs33b W8.drew p)
        have HAP := Lib.hid q1
        have HST := Lib.hid q2
        have FIN := Lib.hid (show DI w W9 (.slice (some ⟨g, o, none⟩) l.length cap) room (lsK lasts (k + 1)) false b ⟨nm, a', c', x.b ++ bs.take (k + 1), x.s⟩ from by rw [TK.out, HL2.out]; exact q3)
        have IX := Lib.hid (fun W => ix33b (W := W) (g := gb) (o := ob) (c := bc) hlt2 (by omega))
        obtain ⟨W1, hW1⟩ : ∃ z, W8.drew.alloc (.cells #[.int .u8 p] 5) = z := ⟨_, rfl⟩
        rw [hW1] at S1 LV1 BS HAP
        obtain ⟨tl, htl⟩ : ∃ tl, (tb ++ [p]).length = tl := ⟨_, rfl⟩
        simp only [htl] at HAP HST
        simp only at LV0 LV1 HAP
        clear q1 q2 q3 q4 q5 V1 SP KD KE hW1 htl p0
        go_upto_region 25 with (fail)
        refine wp_region_held_drew (S := fun W => W.cell? ⟨gb, ob + k, none⟩ = some (.int .u8 p)) (by kernel_rfl) S0.out (fun _ => ?_)
        refine take_at (i := 0) 95 ?_ rfl rfl (by kernel_rfl) (by kernel_rfl) (by kernel_rfl) (fun _ _ _ h => h) (.inl ⟨rfl, ?_⟩) S0.out ?_
        rotate_left 1
        · intro w hSw; go_simp; try with_reducible rfl
        simp only [Act.put, List.setIfInBounds_toArray, List.set_cons_zero, List.set_cons_succ]
        refine take_at (i := 2) 97 ?_ rfl rfl (by kernel_rfl) (by kernel_rfl) (by kernel_rfl) (fun _ _ _ h => h) (.inl ⟨rfl, ?_⟩) S0.out ?_
        rotate_left 1
        · intro w hSw; go_simp; try with_reducible rfl
        simp only [Act.put, List.setIfInBounds_toArray, List.set_cons_zero, List.set_cons_succ]
        refine take_at (i := 3) 98 ?_ rfl rfl (by kernel_rfl) (by kernel_rfl) (by kernel_rfl) (fun _ _ _ h => h) (.inl ⟨rfl, ?_⟩) S0.out ?_
        rotate_left 1
        · intro w hSw; go_simp; try with_reducible rfl
        simp only [Act.put, List.setIfInBounds_toArray, List.set_cons_zero, List.set_cons_succ]
        refine take_at (i := 4) 99 (.pointer (some ⟨gb, ob + k, none⟩)) rfl rfl (by kernel_rfl) (by kernel_rfl) (by kernel_rfl) (fun _ _ _ h => h) (yields_ix (.tmp 97) (.tmp 98) 33 (.slice (some ⟨gb, ob, none⟩) bl bc) (.int .i64 (k : Int)) _ (fun W => IX.out W) rfl rfl rfl rfl) S0.out ?_
        simp only [Act.put, List.setIfInBounds_toArray, List.set_cons_zero, List.set_cons_succ]
        refine take_at (i := 5) 100 (.int .u8 p) rfl rfl (by kernel_rfl) (by kernel_rfl) (by kernel_rfl) (fun _ _ _ h => h) (yields_ld (.tmp 99) 5 (.pointer (some ⟨gb, ob + k, none⟩)) _ (fun W hS => ldU5b hS) rfl rfl rfl) S0.out ?_
        simp only [Act.put, List.setIfInBounds_toArray, List.set_cons_zero, List.set_cons_succ]
        refine wpAnyH_ready (rs := [1, 6]) (by kernel_rfl) (by simp) (br_load (i := 1) 96 (.tmp 95) 33 (.pointer (some ⟨b, 1, none⟩)) (.slice ak tb.length ck) rfl rfl rfl rfl rfl LV0.out S0.out (fun _ => ?_) (br_bslice (i := 6) 101 33 1 _ #[(0, .int .u8 p)] _ W1 rfl rfl rfl rfl rfl BS.out S1.out (fun _ => ?_) AllReadyH.nil))
        · simp only [Act.put, List.setIfInBounds_toArray, List.set_cons_zero, List.set_cons_succ]
          refine wpAnyH_ready (rs := [6]) (by kernel_rfl) (by simp) (br_bslice (i := 6) 101 33 1 _ #[(0, .int .u8 p)] _ W1 rfl rfl rfl rfl rfl BS.out S1.out (fun _ => ?_) AllReadyH.nil)
          simp only [Act.put, List.setIfInBounds_toArray, List.set_cons_zero, List.set_cons_succ]
          refine one_append (i := 7) 102 (.tmp 96) (.tmp 101) 33 33 rfl rfl (by kernel_rfl) rfl rfl (.slice ak tb.length ck) (.slice (some ⟨W8.drew.heap.size, 0, none⟩) 1 1) (.slice a' tl c') w3 rfl rfl (HAP.out _) S3.out (fun _ => ?_)
          simp only [Act.put, List.setIfInBounds_toArray, List.set_cons_zero, List.set_cons_succ]
          refine take_at (i := 8) 103 ?_ rfl rfl (by kernel_rfl) (by kernel_rfl) (by kernel_rfl) (fun _ _ _ h => h) (.inl ⟨rfl, ?_⟩) S3.out ?_
          rotate_left 1
          · intro w hSw; go_simp; try with_reducible rfl
          simp only [Act.put, List.setIfInBounds_toArray, List.set_cons_zero, List.set_cons_succ]
          refine wpAnyH_ready (rs := [9]) (by kernel_rfl) (by simp) (br_store (i := 9) 33 (.tmp 103) (.tmp 102) (.pointer (some ⟨b, 1, none⟩)) (.slice a' tl c') W9 rfl rfl rfl rfl rfl rfl HST.out S5.out (fun _ => ?_) AllReadyH.nil)
          simp only [Act.put, List.setIfInBounds_toArray, List.set_cons_zero, List.set_cons_succ]
          refine wpAnyH_done (by kernel_rfl) ?_ _
          go_wp2
          go_roundw
          case rel => exact ⟨k + 1, _, _, by go_num, by omega, Lib.hid ⟨FIN.out, GO.out⟩⟩
          case measure => simp [intOf]; omega
        · simp only [Act.put, List.setIfInBounds_toArray, List.set_cons_zero, List.set_cons_succ]
          refine wpAnyH_ready (rs := [1]) (by kernel_rfl) (by simp) (br_load (i := 1) 96 (.tmp 95) 33 (.pointer (some ⟨b, 1, none⟩)) (.slice ak tb.length ck) rfl rfl rfl rfl rfl LV1.out S1.out (fun _ => ?_) AllReadyH.nil)
          simp only [Act.put, List.setIfInBounds_toArray, List.set_cons_zero, List.set_cons_succ]
          refine one_append (i := 7) 102 (.tmp 96) (.tmp 101) 33 33 rfl rfl (by kernel_rfl) rfl rfl (.slice ak tb.length ck) (.slice (some ⟨W8.drew.heap.size, 0, none⟩) 1 1) (.slice a' tl c') w3 rfl rfl (HAP.out _) S3.out (fun _ => ?_)
          simp only [Act.put, List.setIfInBounds_toArray, List.set_cons_zero, List.set_cons_succ]
          refine take_at (i := 8) 103 ?_ rfl rfl (by kernel_rfl) (by kernel_rfl) (by kernel_rfl) (fun _ _ _ h => h) (.inl ⟨rfl, ?_⟩) S3.out ?_
          rotate_left 1
          · intro w hSw; go_simp; try with_reducible rfl
          simp only [Act.put, List.setIfInBounds_toArray, List.set_cons_zero, List.set_cons_succ]
          refine wpAnyH_ready (rs := [9]) (by kernel_rfl) (by simp) (br_store (i := 9) 33 (.tmp 103) (.tmp 102) (.pointer (some ⟨b, 1, none⟩)) (.slice a' tl c') W9 rfl rfl rfl rfl rfl rfl HST.out S5.out (fun _ => ?_) AllReadyH.nil)
          simp only [Act.put, List.setIfInBounds_toArray, List.set_cons_zero, List.set_cons_succ]
          refine wpAnyH_done (by kernel_rfl) ?_ _
          go_wp2
          go_roundw
          case rel => exact ⟨k + 1, _, _, by go_num, by omega, Lib.hid ⟨FIN.out, GO.out⟩⟩
          case measure => simp [intOf]; omega
      · have heq : lasts = (k : Int) := by have := KL.out; omega
        rw [rst_no heq] at ST
        clear hgo
        obtain ⟨lk, hlk⟩ : ∃ lk, lsK lasts k = lk := ⟨_, rfl⟩
        rw [hlk] at ST K
        clear hlk
        obtain ⟨c0, c1, c2, c3⟩ := K.out.d.g6.cells
        obtain ⟨h0, h1, h2, h3⟩ := K.out.d.g6.free
        go_wp2_with fail
        refine ST.out.mono ?_
        rintro e w6 ⟨rfl, hb⟩
        have I6 := Lib.hid (K.out.step hb)
        clear hb c0 c1 c2 c3 h0 h1 h2 h3 ST
        have VB := vstep w6 (.cells #[.slice (some ⟨g, o, none⟩) l.length cap, .int .i64 room, .int .i64 0, .bool true] 29)
        have I7 := Lib.hid (I6.out.step VB)
        have BX := Lib.hid (RB.new w6 (.slice (some ⟨g, o, none⟩) l.length cap) room 0 true)
        go_upto_region 22 with (fail)
        obtain ⟨W7, hW7⟩ : ∃ y, w6.alloc (.cells #[.slice (some ⟨g, o, none⟩) l.length cap, .int .i64 room, .int .i64 0, .bool true] 29) = y := ⟨_, rfl⟩
        rw [hW7] at I7 BX VB ⊢
        obtain ⟨bx, hbx⟩ : ∃ z, w6.heap.size = z := ⟨_, rfl⟩
        rw [hbx] at BX ⊢
        clear hW7 hbx VB I6
        obtain ⟨c0, c1, c2, c3⟩ := BX.out.cells
        obtain ⟨h0, h1, h2, h3⟩ := I7.out.d.g6.free
        obtain ⟨k0, k1, k2, k3⟩ := I7.out.d.g6.cells
        go_upto_region 23 with (fail)
        clear c0 c1 c2 c3 h0 h1 h2 h3 k0 k1 k2 k3
        have I8 := Lib.hid (I7.out.setd (.slice (some ⟨g, o, none⟩) l.length cap) 0 true)
        obtain ⟨W8, hW8⟩ : ∃ z, sets4 W7 w.heap.size (.slice (some ⟨g, o, none⟩) l.length cap) (.int .i64 room) (.int .i64 0) (.bool true) = z := ⟨_, rfl⟩
        rw [hW8] at I8
        unfold sets4 at hW8
        rw [hW8]
        clear hW8 I7 BX
        obtain ⟨tb, htb⟩ : ∃ tb, x.b ++ bs.take k = tb := ⟨_, rfl⟩
        rw [htb] at I8
        have HTB := Lib.hid htb
        clear htb
        have EE := Lib.hid (show apE lasts bs.length = 12 ∧ apL lasts bs.length = 0 ∧ apD lasts bs.length = true ∧ apN lasts bs.length = k from by
          rw [HBL.out]; unfold apE apL apD apN
          have h0 : ¬ lasts < 0 := by omega
          simp only [h0, if_false]
          refine ⟨by rw [if_pos (by omega)], by omega, (by first | (simp; done) | (simp; omega)), by omega⟩)
        clear heq
        obtain ⟨c0, c1, c2, c3⟩ := I8.out.d.g6.cells
        obtain ⟨r0, r1, r2⟩ := I8.out.g.cells
        have WI := Lib.hid (with_any W8 (.slice (some ⟨g, o, none⟩) l.length cap) l room 0 true (H.out.step I8.out.d.bel) ⟨nm, ak, ck, tb, x.s⟩ (by omega))
        go_wp2_with fail
        refine WI.out.mono ?_
        rintro e w9 ⟨u9, rfl, ho, hb⟩
        have K9 := Lib.hid (I8.out.step hb)
        have HO := Lib.hid ho
        have HB := Lib.hid (show w.heap.size + 2 ≤ W8.heap.size from by have := I8.out.lo; have := I8.out.blt; omega)
        obtain ⟨ua, uc, rfl⟩ := own_shapeK ho
        clear ho hb WI c0 c1 c2 c3 r0 r1 r2
        obtain ⟨ml, hml⟩ : ∃ ml, ins (⟨nm, ak, ck, tb, x.s⟩ : Fl) (dropF l (⟨nm, ak, ck, tb, x.s⟩ : Fl).n) = ml := ⟨_, rfl⟩
        simp only [hml] at HO ⊢
        have HML := Lib.hid hml
        clear hml
        obtain ⟨e0, e1, e2, e3⟩ := K9.out.d.g12.cells
        obtain ⟨f0, f1, f2, f3⟩ := K9.out.d.g12.free
        go_wp2
        clear e0 e1 e2 e3 f0 f1 f2 f3
        have LF := K9.out.dj.fin (.slice ua ml.length uc) (.int .i64 room) (.int .i64 0) (.bool true)
        obtain ⟨w5, hW5⟩ : ∃ w5, sets4 w9 (w.heap.size + 1) (.slice ua ml.length uc) (.int .i64 room) (.int .i64 0) (.bool true) = w5 := ⟨_, rfl⟩
        have hb5 := sets4_row (x' := .slice ua ml.length uc) (y' := room) (z' := 0) (v' := true) K9.out.d.g12
        have hw5 := sets4_below (x := .slice ua ml.length uc) (y := .int .i64 room) (z := .int .i64 0) (v := .bool true) K9.out.d.bel (show w.heap.size ≤ w.heap.size + 1 by omega)
        have ho1 := own_set4 (b := w.heap.size + 1) (x := .slice ua ml.length uc) (y := .int .i64 room) (z := .int .i64 0) (t := .bool true) HO.out (by have := HB.out; omega)
        rw [hW5] at hb5 hw5 ho1
        rw [hW5] at LF
        unfold sets4 at hW5
        rw [hW5]
        clear hW5
        obtain ⟨d0, d1, d2, d3⟩ := RB.cells (show RB w5 (w.heap.size + 1) (.slice ua ml.length uc) room 0 true from hb5)
        refine bodyPost_ret (by simp [results, Try.results29, go_sem, d0, d1, d2, d3]; try rfl) rfl ?_
        refine ⟨_, by first | rfl | (rw [EE.out.1, EE.out.2.1, EE.out.2.2.1]), ⟨ak, ck, ?_⟩, hw5⟩
        rw [← HML.out] at ho1 ⊢
        rw [EE.out.2.2.2, HTB.out]
        exact rn_ins H.out hw5 nm ho1 (by have := HB.out; omega) LF (fun hne j q => by have := K9.out.dj.own hne j q; have := K9.out.lo; omega)
    · have hge : ¬ ((k : Int) < (bl : Int)) := by omega
      have hke : k = bl := by omega
      obtain ⟨tb, htb⟩ : ∃ tb, x.b ++ bs.take k = tb := ⟨_, rfl⟩
      rw [htb] at K
      have HTB := Lib.hid htb
      clear htb
      have EE := Lib.hid (show apE lasts bs.length = 0 ∧ apL lasts bs.length = lsK lasts k ∧ apD lasts bs.length = false ∧ apN lasts bs.length = k from by
        rw [HBL.out]; unfold apE apL apD apN lsK
        have := KL.out
        by_cases h0 : lasts < 0
        · simp only [h0, if_true]
          refine ⟨by rw [if_neg (by omega)], trivial, (by first | (simp; done) | (simp; omega)), by omega⟩
        · simp only [h0, if_false]
          refine ⟨by rw [if_neg (by omega)], by omega, (by first | (simp; done) | (simp; omega)), by omega⟩)
      obtain ⟨lk, hlk⟩ : ∃ lk, lsK lasts k = lk := ⟨_, rfl⟩
      rw [hlk] at K EE
      clear hlk hke
      obtain ⟨c0, c1, c2, c3⟩ := K.out.d.g6.cells
      obtain ⟨r0, r1, r2⟩ := K.out.g.cells
      have WI := Lib.hid (with_any wr (.slice (some ⟨g, o, none⟩) l.length cap) l room lk false (H.out.step K.out.d.bel) ⟨nm, ak, ck, tb, x.s⟩ (by omega))
      go_wp2_with fail
      refine WI.out.mono ?_
      rintro e w9 ⟨u9, rfl, ho, hb⟩
      have K9 := Lib.hid (K.out.step hb)
      have HO := Lib.hid ho
      have HB := Lib.hid (show w.heap.size + 2 ≤ wr.heap.size from by have := K.out.lo; have := K.out.blt; omega)
      obtain ⟨ua, uc, rfl⟩ := own_shapeK ho
      clear ho hb WI c0 c1 c2 c3 r0 r1 r2
      obtain ⟨ml, hml⟩ : ∃ ml, ins (⟨nm, ak, ck, tb, x.s⟩ : Fl) (dropF l (⟨nm, ak, ck, tb, x.s⟩ : Fl).n) = ml := ⟨_, rfl⟩
      simp only [hml] at HO ⊢
      have HML := Lib.hid hml
      clear hml
      obtain ⟨e0, e1, e2, e3⟩ := K9.out.d.g12.cells
      obtain ⟨f0, f1, f2, f3⟩ := K9.out.d.g12.free
      go_wp2
      clear e0 e1 e2 e3 f0 f1 f2 f3
      have LF := K9.out.dj.fin (.slice ua ml.length uc) (.int .i64 room) (.int .i64 lk) (.bool false)
      obtain ⟨w5, hW5⟩ : ∃ w5, sets4 w9 (w.heap.size + 1) (.slice ua ml.length uc) (.int .i64 room) (.int .i64 lk) (.bool false) = w5 := ⟨_, rfl⟩
      have hb5 := sets4_row (x' := .slice ua ml.length uc) (y' := room) (z' := lk) (v' := false) K9.out.d.g12
      have hw5 := sets4_below (x := .slice ua ml.length uc) (y := .int .i64 room) (z := .int .i64 lk) (v := .bool false) K9.out.d.bel (show w.heap.size ≤ w.heap.size + 1 by omega)
      have ho1 := own_set4 (b := w.heap.size + 1) (x := .slice ua ml.length uc) (y := .int .i64 room) (z := .int .i64 lk) (t := .bool false) HO.out (by have := HB.out; omega)
      rw [hW5] at hb5 hw5 ho1
      rw [hW5] at LF
      unfold sets4 at hW5
      rw [hW5]
      clear hW5
      obtain ⟨d0, d1, d2, d3⟩ := RB.cells (show RB w5 (w.heap.size + 1) (.slice ua ml.length uc) room lk false from hb5)
      refine bodyPost_ret (by simp [results, Try.results29, go_sem, d0, d1, d2, d3]; try rfl) rfl ?_
      refine ⟨_, by first | rfl | (rw [EE.out.1, EE.out.2.1, EE.out.2.2.1]), ⟨ak, ck, ?_⟩, hw5⟩
      rw [← HML.out] at ho1 ⊢
      rw [EE.out.2.2.2, HTB.out]
      exact rn_ins H.out hw5 nm ho1 (by have := HB.out; omega) LF (fun hne j q => by have := K9.out.dj.own hne j q; have := K9.out.lo; omega)
end Go.Proofs.Ytoddofcmdbifpaa
