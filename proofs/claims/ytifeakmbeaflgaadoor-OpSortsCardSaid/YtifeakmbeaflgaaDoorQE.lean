/- slices.SortStableFunc's family at ops: stable, up to 79 elements. Made by genqb7.py. -/
import Derived.Test.YtifeakmbeaflgaaDoorQD
set_option linter.unusedVariables false
set_option linter.unusedSimpArgs false
set_option maxRecDepth 1000000
namespace Go.Proofs.YtifeakmbeaflgaaDoor
open Go.Shelf Go.RowKit Go.Lib Go.Sort

variable {P : Program} {α : Type} [Inhabited α]
def BK (lt : α → α → Bool) (d : Array α) (s n : Nat) : Prop := ∀ x y, x < y → y < n → x / s = y / s → lt d[y]! d[x]! = false
theorem sms_cls {lt : α → α → Bool} {d r : Array α} {a b n : Nat} (h : SMS lt d r a b) (hab : a ≤ b) (hb : b ≤ n) (z : α) : cls lt r 0 n z = cls lt d 0 n z := by
  rw [cls_split r (a := 0) (c := a) (Nat.zero_le _) (by omega), cls_split r (a := a) (c := b) hab hb, cls_split d (a := 0) (c := a) (Nat.zero_le _) (by omega), cls_split d (a := a) (c := b) hab hb, h.2.2 z,
    cls_same (fun x _ x2 => h.1.2 x (.inl x2)) z, cls_same (fun x x1 _ => h.1.2 x (.inr x1)) z]
/-- What every step keeps. -/
structure KP (lt : α → α → Bool) (d dk : Array α) : Prop where
  sz : dk.size = d.size
  cl : ∀ z, cls lt dk 0 d.size z = cls lt d 0 d.size z
theorem KP.refl (lt : α → α → Bool) (d : Array α) : KP lt d d := ⟨rfl, fun z => rfl⟩
theorem KP.step {lt : α → α → Bool} {d dk r : Array α} {a b : Nat} (h : KP lt d dk) (hs : SMS lt dk r a b) (hab : a ≤ b) (hb : b ≤ d.size) : KP lt d r := ⟨hs.1.1.trans h.sz, fun z => (sms_cls hs hab hb z).trans (h.cl z)⟩
set_option maxHeartbeats 800000 in
theorem insert_none (L : LS P) (v fv : Value) (w : World) : Calls P 88 #[v, .int .i64 0, .int .i64 0, fv] w fun e w' => e = .returned (.tuple #[]) ∧ w = w' := by
  have mixed := L.mixed; have t0 := L.t0; have a0 := L.a0; have z0 := L.z0; have v0 := L.v0; have t3 := L.t3; have a3 := L.a3; have z3 := L.z3; have v3 := L.v3; have t4 := L.t4; have a4 := L.a4; have z4 := L.z4; have v4 := L.v4; have t27 := L.t27; have a27 := L.a27; have z27 := L.z27; have v27 := L.v27; have t33 := L.t33; have a33 := L.a33; have z33 := L.z33; have v33 := L.v33; have t97 := L.t97; have a97 := L.a97; have z97 := L.z97; have v97 := L.v97
  go_enter L.f88, Tryd.ntmps88
  go_wp2
  refine wp_loop_rounds 1 ?_
  rw [rounds_succ]
  go_wp2
  go_end0
  exact ⟨rfl, rfl⟩
set_option maxHeartbeats 800000 in
theorem stable_none (L : LS P) (v fv : Value) (w : World) : Calls P 84 #[v, .int .i64 0, fv] w fun e w' => e = .returned (.tuple #[]) ∧ w = w' := by
  have IN := Lib.hid (fun W => insert_none L v fv W)
  have mixed := L.mixed; have t0 := L.t0; have a0 := L.a0; have z0 := L.z0; have v0 := L.v0; have t3 := L.t3; have a3 := L.a3; have z3 := L.z3; have v3 := L.v3; have t4 := L.t4; have a4 := L.a4; have z4 := L.z4; have v4 := L.v4; have t27 := L.t27; have a27 := L.a27; have z27 := L.z27; have v27 := L.v27; have t33 := L.t33; have a33 := L.a33; have z33 := L.z33; have v33 := L.v33; have t97 := L.t97; have a97 := L.a97; have z97 := L.z97; have v97 := L.v97
  have e88 : ∀ args w, (callFunc 88 args).run P w = .ok (.enter 88 args) w := enters_of L.f88 (by kernel_rfl) rfl
  go_enter L.f84, Tryd.ntmps84
  go_wp2
  refine wp_loop_rounds 1 ?_
  rw [rounds_succ]
  go_wp2_with fail
  refine (IN.out _).mono ?_
  rintro e w1 ⟨rfl, rfl⟩
  go_wp2
  refine wp_loop_rounds 1 ?_
  rw [rounds_succ]
  go_wp2
  go_end0
  exact ⟨rfl, rfl⟩
set_option maxHeartbeats 12800000 in
theorem stable_any (L : LS P) (k : Nat) (aE : ∀ w, (isAgg 25).run P w = .ok true w) (zE : ∀ w, (Go.sizeOf 25).run P w = .ok k w) (enc : α → List Value) (g : Nat) (blk off cap : Nat) (d0 : Array α) (w0 : World) (R : RowK enc k w0 blk off d0) (cf : α → α → Int) (eg : ∀ args w, (callFunc g args).run P w = .ok (.enter g args) w) (hcmp : CmpLays P g #[] enc k cf blk off d0.size w0) (hl : LtOk (ltOf cf)) (d : Array α) (w : World) (hs : d0.size = d.size) (S : SWK enc k w0 blk off d w) (hn : d.size ≤ 79) :
    Calls P 84 #[.slice (some ⟨blk, off, none⟩) d.size cap, .int .i64 d.size, .func (.func g) #[] #[]] w fun e w' => e = .returned (.tuple #[]) ∧ ∃ r : Array α, KP (ltOf cf) d r ∧ SrtS (ltOf cf) r 0 d.size ∧ SWK enc k w0 blk off r w' := by
  have INS := Lib.hid (fun (dk : Array α) (wr : World) (hd : dk.size = d.size) (S : SWK enc k w0 blk off dk wr) (a b : Nat) (hab : a ≤ b) (hb : b ≤ d.size) => by
    have := insert_any L k aE zE enc g blk off cap d0 w0 R cf eg hcmp hl dk wr (hs.trans hd.symm) S a b hab (by omega) (by omega)
    rw [hd] at this
    exact this)
  have MRG := Lib.hid (fun (dk : Array α) (wr : World) (hd : dk.size = d.size) (S : SWK enc k w0 blk off dk wr) (a m b : Nat) (h1 : a < m) (h2 : m < b) (hb : b ≤ d.size) (hX : SrtS (ltOf cf) dk a m) (hY : SrtS (ltOf cf) dk m b) => by
    have := symMerge_any L k aE zE enc g blk off cap d0 w0 R cf eg hcmp hl (by omega) (b - a + 1) dk wr (hs.trans hd.symm) S a m b (by omega) h1 h2 (by omega) hX hY
    rw [hd] at this
    exact this)
  have mixed := L.mixed; have t0 := L.t0; have a0 := L.a0; have z0 := L.z0; have v0 := L.v0; have t3 := L.t3; have a3 := L.a3; have z3 := L.z3; have v3 := L.v3; have t4 := L.t4; have a4 := L.a4; have z4 := L.z4; have v4 := L.v4; have t27 := L.t27; have a27 := L.a27; have z27 := L.z27; have v27 := L.v27; have t33 := L.t33; have a33 := L.a33; have z33 := L.z33; have v33 := L.v33; have t97 := L.t97; have a97 := L.a97; have z97 := L.z97; have v97 := L.v97
  have e88 : ∀ args w, (callFunc 88 args).run P w = .ok (.enter 88 args) w := enters_of L.f88 (by kernel_rfl) rfl
  have e89 : ∀ args w, (callFunc 89 args).run P w = .ok (.enter 89 args) w := enters_of L.f89 (by kernel_rfl) rfl
  have S0 : Aside (SWK enc k w0 blk off d w) := S
  have D0 : Aside (KP (ltOf cf) d d) := KP.refl _ d
  clear hcmp hl S
  obtain ⟨n, hnn⟩ : ∃ n, d.size = n := ⟨_, rfl⟩
  have HN : Aside (d.size = n) := hnn
  rw [hnn] at hn INS MRG ⊢
  clear hnn
  go_enter L.f84, Tryd.ntmps84
  go_wp2
  go_loopg [7, 8] (n + 1) (fun kx s7 s8 wr => ∃ (i : Nat) (dk : Array α), s7 = .int .i64 ((20 * i : Nat) : Int) ∧ s8 = .int .i64 ((20 * i + 20 : Nat) : Int) ∧ 20 * i ≤ n ∧ n + 1 - 20 * i ≤ kx ∧ Aside (SWK enc k w0 blk off dk wr) ∧ Hid (KP (ltOf cf) d dk ∧ BK (ltOf cf) dk 20 (20 * i)))
  case atStart => exact ⟨0, d, by first | rfl | go_num, by first | rfl | go_num, by omega, by omega, S0, (show _ ∧ _ from ⟨D0.out, fun x y xy yn => by omega⟩)⟩
  case round =>
    clear S0
    obtain ⟨i, dk, rfl, rfl, hin, hkx, S1, HI⟩ := hrel
    obtain ⟨a, ha⟩ : ∃ a, 20 * i = a := ⟨_, rfl⟩
    have HA : Aside (20 * i = a) := ha
    rw [ha] at hin hkx HI ⊢
    have eb : ((a + 20 : Nat) : Int) = (a : Int) + 20 := by omega
    clear ha
    have hszk : dk.size = n := HI.out.1.sz.trans HN.out
    by_cases hlt : a + 20 ≤ n
    · have hltz : (a : Int) + 20 ≤ (n : Int) := by omega
      have hx := INS.out dk wr hszk S1.out a (a + 20) (by omega) hlt
      rw [eb] at hx
      have HX := Lib.hid hx
      clear hx S1 eb
      go_wp2_with fail
      refine HX.out.mono ?_
      rintro e w1 ⟨rfl, r, hr, hS⟩
      go_wp2
      go_roundg (n + 1 - 20 * (i + 1))
      case measure => have := HA.out; omega
      case rel =>
        have e1 := HA.out
        refine ⟨i + 1, r, by rw [show 20 * (i + 1) = a + 20 by omega]; go_num, by rw [show 20 * (i + 1) + 20 = a + 40 by omega]; go_num, by omega, Nat.le_refl _, hS, (show _ ∧ _ from ⟨HI.out.1.step hr (by omega) (by rw [HN.out]; omega), fun x y xy yn q => ?_⟩)⟩
        by_cases hy : y < a
        · rw [hr.1.2 x (by omega), hr.1.2 y (by omega)]; exact HI.out.2 x y xy (by omega) q
        · exact hr.2.1 x y (by omega) xy (by omega)
    · have hltz : ¬ (a : Int) + 20 ≤ (n : Int) := by omega
      have hx := INS.out dk wr hszk S1.out a n hin (Nat.le_refl _)
      have HX := Lib.hid hx
      clear hx S1
      go_wp2_with fail
      refine HX.out.mono ?_
      rintro e w1 ⟨rfl, r, hr, hS⟩
      have S2 : Aside (SWK enc k w0 blk off r w1) := hS
      have K2 : Aside (KP (ltOf cf) d r) := HI.out.1.step hr hin (by rw [HN.out]; exact Nat.le_refl _)
      have B2 : Aside (BK (ltOf cf) r 20 n) := show BK (ltOf cf) r 20 n from fun x y xy yn q => by
        have e1 := HA.out
        by_cases hy : y < a
        · rw [hr.1.2 x (by omega), hr.1.2 y (by omega)]; exact HI.out.2 x y xy (by omega) q
        · exact hr.2.1 x y (by omega) xy (by omega)
      clear hr hS HX HI hltz hszk eb
      go_wp2_with fail
      go_loopg [6] 3 (fun kx s6 wr => ∃ (dk : Array α), Aside (SWK enc k w0 blk off dk wr) ∧ Aside (KP (ltOf cf) d dk) ∧ ((s6 = .int .i64 20 ∧ kx = 3 ∧ Hid (BK (ltOf cf) dk 20 n)) ∨ (s6 = .int .i64 40 ∧ kx = 2 ∧ Hid (BK (ltOf cf) dk 40 n)) ∨ (s6 = .int .i64 80 ∧ kx = 1 ∧ Hid (SrtS (ltOf cf) dk 0 n))))
      case atStart => exact ⟨r, S2, K2, Or.inl ⟨rfl, rfl, B2⟩⟩
      case round =>
        clear S2 K2 B2 r
        obtain ⟨dk, S1, K1, ⟨rfl, rfl, HB⟩ | ⟨rfl, rfl, HB⟩ | ⟨rfl, rfl, HB⟩⟩ := hrel
        · by_cases h20 : 20 < n
          · have h20z : (20 : Int) < (n : Int) := by omega
            go_wp2_with fail
            go_loopg [7, 8] (n + 1) (fun kx s7 s8 wr => ∃ (i : Nat) (dj : Array α), s7 = .int .i64 ((40 * i : Nat) : Int) ∧ s8 = .int .i64 ((40 * i + 40 : Nat) : Int) ∧ 40 * i ≤ n ∧ n + 1 - 40 * i ≤ kx ∧ Aside (SWK enc k w0 blk off dj wr) ∧ Aside (KP (ltOf cf) d dj) ∧ Hid (BK (ltOf cf) dj 40 (40 * i) ∧ ∀ x y, 40 * i ≤ x → x < y → y < n → x / 20 = y / 20 → ltOf cf dj[y]! dj[x]! = false))
            case atStart => exact ⟨0, dk, by first | rfl | go_num, by first | rfl | go_num, by omega, by omega, S1, K1, (show _ ∧ _ from ⟨fun x y xy yn => by omega, fun x y _ xy yn q => HB.out x y xy yn q⟩)⟩
            case round =>
              clear S1 K1 HB dk
              obtain ⟨i, dk, rfl, rfl, hin, hkx, S1, K1, HI⟩ := hrel
              obtain ⟨a, ha⟩ : ∃ a, 40 * i = a := ⟨_, rfl⟩
              have HA : Aside (40 * i = a) := ha
              rw [ha] at hin hkx HI ⊢
              have eb : ((a + 40 : Nat) : Int) = (a : Int) + 40 := by omega
              have em : ((a + 20 : Nat) : Int) = (a : Int) + 20 := by omega
              clear ha
              have hszk : dk.size = n := K1.out.sz.trans HN.out
              by_cases hlt : a + 40 ≤ n
              · have hltz : (a : Int) + 40 ≤ (n : Int) := by omega
                have hx := MRG.out dk wr (hszk) S1.out a (a + 20) (a + 40) (by omega) (by omega) hlt (fun x y x1 xy y2 => HI.out.2 x y x1 xy (by omega) (by have := HA.out; omega)) (fun x y x1 xy y2 => HI.out.2 x y (by omega) xy (by omega) (by have := HA.out; omega))
                rw [eb, em] at hx
                have HX := Lib.hid hx
                clear hx S1 eb em
                go_wp2_with fail
                refine HX.out.mono ?_
                rintro e w1 ⟨rfl, r, hr, hS⟩
                go_wp2
                go_roundg (n + 1 - 40 * (i + 1))
                case measure => have := HA.out; omega
                case rel =>
                  have e1 := HA.out
                  refine ⟨i + 1, r, by rw [show 40 * (i + 1) = a + 40 by omega]; go_num, by rw [show 40 * (i + 1) + 40 = a + 80 by omega]; go_num, by omega, Nat.le_refl _, hS, K1.out.step hr (by omega) (by rw [HN.out]; omega), (show _ ∧ _ from ⟨fun x y xy yn q => ?_, fun x y x1 xy yn q => ?_⟩)⟩
                  · by_cases hy : y < a
                    · rw [hr.1.2 x (by omega), hr.1.2 y (by omega)]; exact HI.out.1 x y xy (by omega) q
                    · exact hr.2.1 x y (by omega) xy (by omega)
                  · rw [hr.1.2 x (by omega), hr.1.2 y (by omega)]; exact HI.out.2 x y (by omega) xy yn q
              · have hltz : ¬ (a : Int) + 40 ≤ (n : Int) := by omega
                by_cases hm : a + 20 < n
                · have hmz : (a : Int) + 20 < (n : Int) := by omega
                  have hx := MRG.out dk wr (hszk) S1.out a (a + 20) n (by omega) hm (Nat.le_refl _) (fun x y x1 xy y2 => HI.out.2 x y x1 xy (by omega) (by have := HA.out; omega)) (fun x y x1 xy y2 => HI.out.2 x y (by omega) xy (by omega) (by have := HA.out; omega))
                  rw [em] at hx
                  have HX := Lib.hid hx
                  clear hx S1 eb em
                  go_wp2_with fail
                  refine HX.out.mono ?_
                  rintro e w1 ⟨rfl, r, hr, hS⟩
                  go_wp2
                  go_roundg 2
                  case measure => omega
                  case rel =>
                    refine ⟨r, hS, K1.out.step hr hin (by rw [HN.out]; exact Nat.le_refl _), Or.inr (Or.inl ⟨by first | rfl | go_num, rfl, (show BK _ _ _ _ from fun x y xy yn q => ?_)⟩)⟩
                    have e1 := HA.out
                    by_cases hy : y < a
                    · rw [hr.1.2 x (by omega), hr.1.2 y (by omega)]; exact HI.out.1 x y xy (by omega) q
                    · exact hr.2.1 x y (by omega) xy (by omega)
                · have hmz : ¬ (a : Int) + 20 < (n : Int) := by omega
                  clear eb em
                  go_wp2
                  go_roundg 2
                  case measure => omega
                  case rel =>
                    refine ⟨dk, S1, K1, Or.inr (Or.inl ⟨by first | rfl | go_num, rfl, (show BK _ _ _ _ from fun x y xy yn q => ?_)⟩)⟩
                    have e1 := HA.out
                    by_cases hy : y < a
                    · exact HI.out.1 x y xy (by omega) q
                    · exact HI.out.2 x y (by omega) xy yn (by omega)
          · have h20z : ¬ (20 : Int) < (n : Int) := by omega
            go_wp2
            go_end0
            exact ⟨rfl, dk, K1.out, fun x y _ xy yn => HB.out x y xy yn (by omega), S1.out⟩
        · by_cases h40 : 40 < n
          · have h40z : (40 : Int) < (n : Int) := by omega
            have h80z : ¬ (80 : Int) ≤ (n : Int) := by omega
            have hszk : dk.size = n := K1.out.sz.trans HN.out
            have hx := MRG.out dk wr (hszk) S1.out 0 40 n (by omega) h40 (Nat.le_refl _) (fun x y x1 xy y2 => HB.out x y xy (by omega) (by omega)) (fun x y x1 xy y2 => HB.out x y xy (by omega) (by omega))
            have HX := Lib.hid hx
            clear hx S1
            go_wp2_with fail
            refine wp_loop_rounds 1 ?_
            rw [rounds_succ]
            go_wp2_with fail
            refine HX.out.mono ?_
            rintro e w1 ⟨rfl, r, hr, hS⟩
            go_wp2
            go_roundg 1
            case measure => omega
            case rel => exact ⟨r, hS, K1.out.step hr (by omega) (by rw [HN.out]; exact Nat.le_refl _), Or.inr (Or.inr ⟨by first | rfl | go_num, rfl, hr.2.1⟩)⟩
          · have h40z : ¬ (40 : Int) < (n : Int) := by omega
            go_wp2
            go_end0
            exact ⟨rfl, dk, K1.out, fun x y _ xy yn => HB.out x y xy yn (by omega), S1.out⟩
        · have h80z : ¬ (80 : Int) < (n : Int) := by omega
          go_wp2
          go_end0
          exact ⟨rfl, dk, K1.out, HB.out, S1.out⟩
end Go.Proofs.YtifeakmbeaflgaaDoor
