/- slices.SortStableFunc's family at ops: symMerge. Made by genqb7.py. -/
import Derived.Test.YtifeakmbeaflgaaDoorQC
import Derived.Handy
import Derived.Deep.Cut
set_option linter.unusedVariables false
set_option linter.unusedSimpArgs false
set_option maxRecDepth 1000000
namespace Go.Proofs.YtifeakmbeaflgaaDoor
open Go.Shelf Go.RowKit Go.Lib Go.Sort

variable {P : Program} {α : Type} [Inhabited α]
theorem pieceL {lt : α → α → Bool} {d r1 : Array α} {a j m en : Nat} (q : (j < m ∧ m < en → ROTS d r1 j m en) ∧ (¬ (j < m ∧ m < en) → r1 = d)) (h2 : j ≤ m) (hX : SrtS lt d a m) : SrtS lt r1 a j := by
  refine (hX.sub (Nat.le_refl _) h2).same (fun x x1 x2 => ?_)
  by_cases hr : j < m ∧ m < en
  · exact (q.1 hr).1.2 x (.inl x2)
  · rw [q.2 hr]
theorem pieceM {lt : α → α → Bool} {d r1 : Array α} {j m en mid b : Nat} (q : (j < m ∧ m < en → ROTS d r1 j m en) ∧ (¬ (j < m ∧ m < en) → r1 = d)) (hse : j + en = mid + m) (h2 : j ≤ m) (h3 : m ≤ en) (h4 : en ≤ b) (hY : SrtS lt d m b) : SrtS lt r1 j mid := fun x y x1 xy y2 => by
  by_cases hr : j < m ∧ m < en
  · obtain ⟨_, p1, _⟩ := q.1 hr
    rw [p1 x x1 (by omega), p1 y (by omega) (by omega)]
    exact hY _ _ (by omega) (by omega) (by omega)
  · rw [q.2 hr]
    exact hY _ _ (by omega) (by omega) (by omega)
theorem pieceU {lt : α → α → Bool} {d r1 r2 : Array α} {a j m en mid : Nat} (q : (j < m ∧ m < en → ROTS d r1 j m en) ∧ (¬ (j < m ∧ m < en) → r1 = d)) (q2 : (a < j ∧ j < mid → SMS lt r1 r2 a mid) ∧ (¬ (a < j ∧ j < mid) → r2 = r1)) (hse : j + en = mid + m) (h2 : j ≤ m) (h3 : m ≤ en) (h0 : a ≤ j) (hX : SrtS lt d a m) : SrtS lt r2 mid en := by
  have e : ∀ x, mid ≤ x → r2[x]! = r1[x]! := fun x hx => by
    by_cases hl : a < j ∧ j < mid
    · exact (q2.1 hl).1.2 x (.inr hx)
    · rw [q2.2 hl]
  refine SrtS.same (d := r1) (fun x y x1 xy y2 => ?_) (fun x x1 _ => e x x1)
  by_cases hr : j < m ∧ m < en
  · obtain ⟨_, _, p2⟩ := q.1 hr
    rw [p2 x (by omega) (by omega), p2 y (by omega) y2]
    exact hX _ _ (by omega) (by omega) (by omega)
  · rw [q.2 hr]
    exact hX _ _ (by omega) (by omega) (by omega)
theorem pieceV {lt : α → α → Bool} {d r1 r2 : Array α} {a j m en mid b : Nat} (q : (j < m ∧ m < en → ROTS d r1 j m en) ∧ (¬ (j < m ∧ m < en) → r1 = d)) (q2 : (a < j ∧ j < mid → SMS lt r1 r2 a mid) ∧ (¬ (a < j ∧ j < mid) → r2 = r1)) (h3 : m ≤ en) (h4 : mid ≤ en) (hY : SrtS lt d m b) : SrtS lt r2 en b := by
  refine (hY.sub h3 (Nat.le_refl _)).same (fun x x1 x2 => ?_)
  have e : r2[x]! = r1[x]! := by
    by_cases hl : a < j ∧ j < mid
    · exact (q2.1 hl).1.2 x (.inr (by omega))
    · rw [q2.2 hl]
  rw [e]
  by_cases hr : j < m ∧ m < en
  · exact (q.1 hr).1.2 x (.inr x1)
  · rw [q.2 hr]
set_option maxHeartbeats 25600000 in
theorem symMerge_step (L : LS P) (k : Nat) (aE : ∀ w, (isAgg 25).run P w = .ok true w) (zE : ∀ w, (Go.sizeOf 25).run P w = .ok k w) (enc : α → List Value) (g : Nat) (blk off cap : Nat) (d0 : Array α) (w0 : World) (R : RowK enc k w0 blk off d0) (cf : α → α → Int) (eg : ∀ args w, (callFunc g args).run P w = .ok (.enter g args) w) (hcmp : CmpLays P g #[] enc k cf blk off d0.size w0) (hl : LtOk (ltOf cf)) (N : Nat)
    (IH : ∀ (d : Array α) (w : World) (hs : d0.size = d.size) (S : SWK enc k w0 blk off d w) (a m b : Nat) (hN : b - a < N) (h1 : a < m) (h2 : m < b) (hb : b ≤ d.size) (hX : SrtS (ltOf cf) d a m) (hY : SrtS (ltOf cf) d m b),
      Calls P 89 #[.slice (some ⟨blk, off, none⟩) d.size cap, .int .i64 a, .int .i64 m, .int .i64 b, .func (.func g) #[] #[]] w fun e w' => e = .returned (.tuple #[]) ∧ ∃ r : Array α, SMS (ltOf cf) d r a b ∧ SWK enc k w0 blk off r w')
    (d : Array α) (w : World) (hs : d0.size = d.size) (S : SWK enc k w0 blk off d w) (a m b : Nat) (hN : b - a = N) (h1 : a < m) (h2 : m < b) (hb : b ≤ d.size) (hX : SrtS (ltOf cf) d a m) (hY : SrtS (ltOf cf) d m b) (hsz : d.size < 4611686018427387904) :
    Calls P 89 #[.slice (some ⟨blk, off, none⟩) d.size cap, .int .i64 a, .int .i64 m, .int .i64 b, .func (.func g) #[] #[]] w fun e w' => e = .returned (.tuple #[]) ∧ ∃ r : Array α, SMS (ltOf cf) d r a b ∧ SWK enc k w0 blk off r w' := by
  have RT := Lib.hid (fun (dk : Array α) (wr : World) (hd : dk.size = d.size) (S : SWK enc k w0 blk off dk wr) (a m b : Nat) (h1 : a < m) (h2 : m < b) (hb : b ≤ d.size) => by
    have := rotate_any L k aE zE enc g blk off cap d0 w0 R dk wr (hs.trans hd.symm) S a m b h1 h2 (by omega) (by omega)
    rw [hd] at this
    exact this)
  have IH := Lib.hid (fun (dk : Array α) (wr : World) (hd : dk.size = d.size) (S : SWK enc k w0 blk off dk wr) (a m b : Nat) (hN : b - a < N) (h1 : a < m) (h2 : m < b) (hb : b ≤ d.size) (hX : SrtS (ltOf cf) dk a m) (hY : SrtS (ltOf cf) dk m b) => by
    have := IH dk wr (hs.trans hd.symm) S a m b hN h1 h2 (by omega) hX hY
    rw [hd] at this
    exact this)
  have mixed := L.mixed; have t0 := L.t0; have a0 := L.a0; have z0 := L.z0; have v0 := L.v0; have t3 := L.t3; have a3 := L.a3; have z3 := L.z3; have v3 := L.v3; have t4 := L.t4; have a4 := L.a4; have z4 := L.z4; have v4 := L.v4; have t27 := L.t27; have a27 := L.a27; have z27 := L.z27; have v27 := L.v27; have t33 := L.t33; have a33 := L.a33; have z33 := L.z33; have v33 := L.v33; have t97 := L.t97; have a97 := L.a97; have z97 := L.z97; have v97 := L.v97
  have e92 : ∀ args w, (callFunc 92 args).run P w = .ok (.enter 92 args) w := enters_of L.f92 (by kernel_rfl) rfl
  have e89 : ∀ args w, (callFunc 89 args).run P w = .ok (.enter 89 args) w := enters_of L.f89 (by kernel_rfl) rfl
  have HC : Aside _ := hcmp
  have HLT : Aside _ := hl
  have HX : Aside _ := hX
  have HY : Aside _ := hY
  have S0 : Aside (SWK enc k w0 blk off d w) := S
  clear hcmp hl S hX hY
  go_enter L.f89, Tryd.ntmps89
  by_cases hma : m = a + 1
  · have em : (m : Int) - (a : Int) = 1 := by omega
    have HMA := Lib.hid hma
    clear hma
    go_wp2_with fail
    go_loopg [10, 11] (b - m) (fun kx s10 s11 wr => ∃ (i j : Nat), s10 = .int .i64 i ∧ s11 = .int .i64 j ∧ m ≤ i ∧ i ≤ j ∧ j ≤ b ∧ j - i ≤ kx ∧ Aside (SWK enc k w0 blk off d wr) ∧ Hid ((∀ x, m ≤ x → x < i → ltOf cf d[x]! d[a]! = true) ∧ (∀ x, j ≤ x → x < b → ltOf cf d[x]! d[a]! = false)))
    case atStart => exact ⟨m, b, rfl, rfl, Nat.le_refl _, by omega, Nat.le_refl _, Nat.le_refl _, S0, (show _ ∧ _ from ⟨fun x h1 h2 => by omega, fun x h1 h2 => by omega⟩)⟩
    case round =>
      clear S0
      obtain ⟨i, j, rfl, rfl, hmi, hij, hjb, hkx, S1, HI⟩ := hrel
      by_cases hlt : i < j
      · have hltz : (i : Int) < (j : Int) := by omega
        have hhz : ((i : Int) + (j : Int)) / 2 = (((i + j) / 2 : Nat) : Int) := by omega
        obtain ⟨h, hh⟩ : ∃ h, (i + j) / 2 = h := ⟨_, rfl⟩
        rw [hh] at hhz
        have hh1 : i ≤ h ∧ h < j := by omega
        clear hh
        cases hlv : ltOf cf d[h]! d[a]! with
        | true =>
          have eac : ((h : Int)).toNat = h := by omega
          have pac : (0 : Int) ≤ (h : Int) := by omega
          have bac : (h : Int) < (d.size : Int) := by omega
          have rac : IntKind.i64.wrap ((h : Int)) = (h : Int) := by rw [IntKind.wrap_i64]; omega
          have ecc : ((a : Int)).toNat = a := by omega
          have pcc : (0 : Int) ≤ (a : Int) := by omega
          have bcc : (a : Int) < (d.size : Int) := by omega
          have rcc : IntKind.i64.wrap ((a : Int)) = (a : Int) := by rw [IntKind.wrap_i64]; omega
          obtain ⟨xc, hxc⟩ : ∃ x, x = d[h]! := ⟨_, rfl⟩
          obtain ⟨yc, hyc⟩ : ∃ x, x = d[a]! := ⟨_, rfl⟩
          have lac := S1.out.ld R (by omega) P (h) (by omega)
          have lbc := S1.out.ld R (by omega) P (a) (by omega)
          rw [← hxc] at lac
          rw [← hyc] at lbc
          have hcc := S1.out.cmp HC.out (by omega) xc yc
          have hvc : cf xc yc < 0 := by rw [hxc, hyc]; exact of_decide_eq_true (hlv)
          have hdc : decide (cf xc yc < 0) = true := decide_eq_true hvc
          clear hxc hyc
          go_wp2_with fail
          go_quiet_grown (first | (go_at_fn g; refine Calls.grown_of (hcc _ _)))
          have S2 : Aside (SWK enc k w0 blk off d (grow (wr.drewN nq) osq)) := S1.out.grown nq osq
          clear lac lbc hcc S1
          generalize grow (wr.drewN nq) osq = w2 at S2 ⊢
          clear nq osq
          go_wp2
          go_roundg (j - (h + 1))
          case measure => omega
          case rel => exact ⟨h + 1, j, by go_num, rfl, by omega, by omega, hjb, Nat.le_refl _, S2, (show _ ∧ _ from ⟨fun x x1 x2 => up_lt HLT.out (SrtS.le HLT.out HY.out x1 (show x ≤ h by omega) (by omega)) hlv, HI.out.2⟩)⟩
        | false =>
          have eac : ((h : Int)).toNat = h := by omega
          have pac : (0 : Int) ≤ (h : Int) := by omega
          have bac : (h : Int) < (d.size : Int) := by omega
          have rac : IntKind.i64.wrap ((h : Int)) = (h : Int) := by rw [IntKind.wrap_i64]; omega
          have ecc : ((a : Int)).toNat = a := by omega
          have pcc : (0 : Int) ≤ (a : Int) := by omega
          have bcc : (a : Int) < (d.size : Int) := by omega
          have rcc : IntKind.i64.wrap ((a : Int)) = (a : Int) := by rw [IntKind.wrap_i64]; omega
          obtain ⟨xc, hxc⟩ : ∃ x, x = d[h]! := ⟨_, rfl⟩
          obtain ⟨yc, hyc⟩ : ∃ x, x = d[a]! := ⟨_, rfl⟩
          have lac := S1.out.ld R (by omega) P (h) (by omega)
          have lbc := S1.out.ld R (by omega) P (a) (by omega)
          rw [← hxc] at lac
          rw [← hyc] at lbc
          have hcc := S1.out.cmp HC.out (by omega) xc yc
          have hvc : ¬ cf xc yc < 0 := by rw [hxc, hyc]; exact of_decide_eq_false (hlv)
          have hdc : decide (cf xc yc < 0) = false := decide_eq_false hvc
          clear hxc hyc
          go_wp2_with fail
          go_quiet_grown (first | (go_at_fn g; refine Calls.grown_of (hcc _ _)))
          have S2 : Aside (SWK enc k w0 blk off d (grow (wr.drewN nq) osq)) := S1.out.grown nq osq
          clear lac lbc hcc S1
          generalize grow (wr.drewN nq) osq = w2 at S2 ⊢
          clear nq osq
          go_wp2
          go_roundg (h - i)
          case measure => omega
          case rel => exact ⟨i, h, rfl, rfl, hmi, by omega, by omega, Nat.le_refl _, S2, (show _ ∧ _ from ⟨HI.out.1, fun x x1 x2 => HLT.out.nt _ _ _ (SrtS.le HLT.out HY.out (show m ≤ h by omega) x1 x2) hlv⟩)⟩
      · have hltz : ¬ (i : Int) < (j : Int) := by omega
        have e : j = i := by omega
        subst e
        go_wp2_with fail
        go_loopg [13] (j - 1 - a) (fun kx s13 wr2 => ∃ (q : Nat) (dk : Array α), s13 = .int .i64 q ∧ a ≤ q ∧ q ≤ j - 1 ∧ j - 1 - q ≤ kx ∧ dk.size = d.size ∧ Aside (SWK enc k w0 blk off dk wr2) ∧ Hid (MVR (ltOf cf) d dk a b q))
        case atStart => exact ⟨a, d, rfl, Nat.le_refl _, by omega, Nat.le_refl _, rfl, S1, MVR.start d a b⟩
        case round =>
          clear S1
          obtain ⟨q, dk, rfl, haq, hqi, hkx2, hsk, S1, HM⟩ := hrel
          by_cases hq : q < j - 1
          · have hqz : (q : Int) < (j : Int) - 1 := by omega
            go_wp2_with fail
            have eas : ((q : Int)).toNat = q := by omega
            have pas : (0 : Int) ≤ (q : Int) := by omega
            have bas : (q : Int) < (d.size : Int) := by omega
            have ras : IntKind.i64.wrap ((q : Int)) = (q : Int) := by rw [IntKind.wrap_i64]; omega
            have ecs : ((q : Int) + 1).toNat = q + 1 := by omega
            have pcs : (0 : Int) ≤ (q : Int) + 1 := by omega
            have bcs : (q : Int) + 1 < (d.size : Int) := by omega
            have rcs : IntKind.i64.wrap ((q : Int) + 1) = (q : Int) + 1 := by rw [IntKind.wrap_i64]; omega
            have S3 : Aside (SWK enc k w0 blk off (swp dk (q) (q + 1)) ((wr.drew.setCells blk (off + (q) * k) (enc dk[q + 1]!)).setCells blk (off + (q + 1) * k) (enc dk[q]!))) := S1.out.swapped R (q) (q + 1) (by omega) (by omega)
            have las := S1.out.ld1 R (by omega) P (q) (by omega)
            have lbs := S1.out.ld1 R (by omega) P (q + 1) (by omega)
            have sas := S1.out.st1 R (by omega) P (q) (by omega) dk[q + 1]!
            have sbs := S1.out.st2 R (by omega) P (q) (q + 1) (by omega) (by omega) dk[q + 1]! dk[q]!
            have nas : (enc dk[q]!).length = k := R.hk _
            have nbs : (enc dk[q + 1]!).length = k := R.hk _
            generalize enc dk[q]! = cIs at S3 las sbs nas
            generalize enc dk[q + 1]! = cJs at S3 lbs sas sbs nbs
            clear S1
            go_wp2_with fail
            go_big_region_o
            clear las lbs sas sbs
            generalize (wr.drew.setCells blk (off + (q) * k) cJs).setCells blk (off + (q + 1) * k) cIs = w3 at S3 ⊢
            go_wp2
            go_roundg (j - 1 - (q + 1))
            case measure => omega
            case rel => exact ⟨q + 1, swp dk q (q + 1), by go_num, by omega, by omega, Nat.le_refl _, by rw [size_swp]; exact hsk, S3, (show MVR (ltOf cf) d _ a b (q + 1) from HM.out.next HLT.out (nsw_swp dk (by omega)) haq (by omega) (HI.out.1 (q + 1) (by omega) (by omega)))⟩
          · have hqz : ¬ (q : Int) < (j : Int) - 1 := by omega
            have e2 : q = j - 1 := by omega
            subst e2
            go_wp2
            go_returns
            exact ⟨rfl, dk, HM.out.fin HLT.out HMA.out (by omega) hjb HY.out HI.out.1 HI.out.2, S1.out⟩
  · by_cases hmb : b = m + 1
    · have em : ((m : Int) - (a : Int) == 1) = false := by simp; omega
      have em2 : (b : Int) - (m : Int) = 1 := by omega
      have HMB := Lib.hid hmb
      clear hmb
      go_wp2_with fail
      go_loopg [14, 15] (m - a) (fun kx s14 s15 wr => ∃ (i j : Nat), s14 = .int .i64 i ∧ s15 = .int .i64 j ∧ a ≤ i ∧ i ≤ j ∧ j ≤ m ∧ j - i ≤ kx ∧ Aside (SWK enc k w0 blk off d wr) ∧ Hid ((∀ x, a ≤ x → x < i → ltOf cf d[m]! d[x]! = false) ∧ (∀ x, j ≤ x → x < m → ltOf cf d[m]! d[x]! = true)))
      case atStart => exact ⟨a, m, rfl, rfl, Nat.le_refl _, by omega, Nat.le_refl _, Nat.le_refl _, S0, (show _ ∧ _ from ⟨fun x h1 h2 => by omega, fun x h1 h2 => by omega⟩)⟩
      case round =>
        clear S0
        obtain ⟨i, j, rfl, rfl, hmi, hij, hjb, hkx, S1, HI⟩ := hrel
        by_cases hlt : i < j
        · have hltz : (i : Int) < (j : Int) := by omega
          have hhz : ((i : Int) + (j : Int)) / 2 = (((i + j) / 2 : Nat) : Int) := by omega
          obtain ⟨h, hh⟩ : ∃ h, (i + j) / 2 = h := ⟨_, rfl⟩
          rw [hh] at hhz
          have hh1 : i ≤ h ∧ h < j := by omega
          clear hh
          cases hlv : ltOf cf d[m]! d[h]! with
          | true =>
            have eac : ((m : Int)).toNat = m := by omega
            have pac : (0 : Int) ≤ (m : Int) := by omega
            have bac : (m : Int) < (d.size : Int) := by omega
            have rac : IntKind.i64.wrap ((m : Int)) = (m : Int) := by rw [IntKind.wrap_i64]; omega
            have ecc : ((h : Int)).toNat = h := by omega
            have pcc : (0 : Int) ≤ (h : Int) := by omega
            have bcc : (h : Int) < (d.size : Int) := by omega
            have rcc : IntKind.i64.wrap ((h : Int)) = (h : Int) := by rw [IntKind.wrap_i64]; omega
            obtain ⟨xc, hxc⟩ : ∃ x, x = d[m]! := ⟨_, rfl⟩
            obtain ⟨yc, hyc⟩ : ∃ x, x = d[h]! := ⟨_, rfl⟩
            have lac := S1.out.ld R (by omega) P (m) (by omega)
            have lbc := S1.out.ld R (by omega) P (h) (by omega)
            rw [← hxc] at lac
            rw [← hyc] at lbc
            have hcc := S1.out.cmp HC.out (by omega) xc yc
            have hvc : cf xc yc < 0 := by rw [hxc, hyc]; exact of_decide_eq_true (hlv)
            have hdc : decide (cf xc yc < 0) = true := decide_eq_true hvc
            clear hxc hyc
            go_wp2_with fail
            go_quiet_grown (first | (go_at_fn g; refine Calls.grown_of (hcc _ _)))
            have S2 : Aside (SWK enc k w0 blk off d (grow (wr.drewN nq) osq)) := S1.out.grown nq osq
            clear lac lbc hcc S1
            generalize grow (wr.drewN nq) osq = w2 at S2 ⊢
            clear nq osq
            go_wp2
            go_roundg (h - i)
            case measure => omega
            case rel => exact ⟨i, h, rfl, rfl, hmi, by omega, by omega, Nat.le_refl _, S2, (show _ ∧ _ from ⟨HI.out.1, fun x x1 x2 => up_lt' HLT.out hlv (SrtS.le HLT.out HX.out (show a ≤ h by omega) x1 x2)⟩)⟩
          | false =>
            have eac : ((m : Int)).toNat = m := by omega
            have pac : (0 : Int) ≤ (m : Int) := by omega
            have bac : (m : Int) < (d.size : Int) := by omega
            have rac : IntKind.i64.wrap ((m : Int)) = (m : Int) := by rw [IntKind.wrap_i64]; omega
            have ecc : ((h : Int)).toNat = h := by omega
            have pcc : (0 : Int) ≤ (h : Int) := by omega
            have bcc : (h : Int) < (d.size : Int) := by omega
            have rcc : IntKind.i64.wrap ((h : Int)) = (h : Int) := by rw [IntKind.wrap_i64]; omega
            obtain ⟨xc, hxc⟩ : ∃ x, x = d[m]! := ⟨_, rfl⟩
            obtain ⟨yc, hyc⟩ : ∃ x, x = d[h]! := ⟨_, rfl⟩
            have lac := S1.out.ld R (by omega) P (m) (by omega)
            have lbc := S1.out.ld R (by omega) P (h) (by omega)
            rw [← hxc] at lac
            rw [← hyc] at lbc
            have hcc := S1.out.cmp HC.out (by omega) xc yc
            have hvc : ¬ cf xc yc < 0 := by rw [hxc, hyc]; exact of_decide_eq_false (hlv)
            have hdc : decide (cf xc yc < 0) = false := decide_eq_false hvc
            clear hxc hyc
            go_wp2_with fail
            go_quiet_grown (first | (go_at_fn g; refine Calls.grown_of (hcc _ _)))
            have S2 : Aside (SWK enc k w0 blk off d (grow (wr.drewN nq) osq)) := S1.out.grown nq osq
            clear lac lbc hcc S1
            generalize grow (wr.drewN nq) osq = w2 at S2 ⊢
            clear nq osq
            go_wp2
            go_roundg (j - (h + 1))
            case measure => omega
            case rel => exact ⟨h + 1, j, by go_num, rfl, by omega, by omega, hjb, Nat.le_refl _, S2, (show _ ∧ _ from ⟨fun x x1 x2 => HLT.out.nt _ _ _ hlv (SrtS.le HLT.out HX.out x1 (show x ≤ h by omega) (by omega)), HI.out.2⟩)⟩
        · have hltz : ¬ (i : Int) < (j : Int) := by omega
          have e : j = i := by omega
          subst e
          go_wp2_with fail
          go_loopg [17] (m - j) (fun kx s17 wr2 => ∃ (q : Nat) (dk : Array α), s17 = .int .i64 q ∧ j ≤ q ∧ q ≤ m ∧ q - j ≤ kx ∧ dk.size = d.size ∧ Aside (SWK enc k w0 blk off dk wr2) ∧ Hid (MVL (ltOf cf) d dk a m q))
          case atStart => exact ⟨m, d, rfl, by omega, Nat.le_refl _, Nat.le_refl _, rfl, S1, MVL.start d a m⟩
          case round =>
            clear S1
            obtain ⟨q, dk, rfl, haq, hqi, hkx2, hsk, S1, HM⟩ := hrel
            by_cases hq : j < q
            · obtain ⟨qp, rfl⟩ : ∃ qp, q = qp + 1 := ⟨q - 1, by omega⟩
              have hqz : (j : Int) < (qp : Int) + 1 := by omega
              go_wp2_with fail
              have eas : ((qp : Int) + 1).toNat = qp + 1 := by omega
              have pas : (0 : Int) ≤ (qp : Int) + 1 := by omega
              have bas : (qp : Int) + 1 < (d.size : Int) := by omega
              have ras : IntKind.i64.wrap ((qp : Int) + 1) = (qp : Int) + 1 := by rw [IntKind.wrap_i64]; omega
              have ecs : ((qp : Int)).toNat = qp := by omega
              have pcs : (0 : Int) ≤ (qp : Int) := by omega
              have bcs : (qp : Int) < (d.size : Int) := by omega
              have rcs : IntKind.i64.wrap ((qp : Int)) = (qp : Int) := by rw [IntKind.wrap_i64]; omega
              have S3 : Aside (SWK enc k w0 blk off (swp dk (qp + 1) (qp)) ((wr.drew.setCells blk (off + (qp + 1) * k) (enc dk[qp]!)).setCells blk (off + (qp) * k) (enc dk[qp + 1]!))) := S1.out.swapped R (qp + 1) (qp) (by omega) (by omega)
              have las := S1.out.ld1 R (by omega) P (qp + 1) (by omega)
              have lbs := S1.out.ld1 R (by omega) P (qp) (by omega)
              have sas := S1.out.st1 R (by omega) P (qp + 1) (by omega) dk[qp]!
              have sbs := S1.out.st2 R (by omega) P (qp + 1) (qp) (by omega) (by omega) dk[qp]! dk[qp + 1]!
              have nas : (enc dk[qp + 1]!).length = k := R.hk _
              have nbs : (enc dk[qp]!).length = k := R.hk _
              generalize enc dk[qp + 1]! = cIs at S3 las sbs nas
              generalize enc dk[qp]! = cJs at S3 lbs sas sbs nbs
              clear S1
              go_wp2_with fail
              go_big_region_o
              clear las lbs sas sbs
              generalize (wr.drew.setCells blk (off + (qp + 1) * k) cJs).setCells blk (off + (qp) * k) cIs = w3 at S3 ⊢
              go_wp2
              go_roundg (qp - j)
              case measure => omega
              case rel => exact ⟨qp, swp dk (qp + 1) qp, by first | rfl | go_num | (congr 1; omega), by omega, by omega, Nat.le_refl _, by rw [size_swp]; exact hsk, S3, (show MVL (ltOf cf) d _ a m qp from HM.out.next HLT.out (nsw_swp' dk (by omega)) (by omega) (by omega) (HI.out.2 qp (by omega) (by omega)))⟩
            · have hqz : ¬ (j : Int) < (q : Int) := by omega
              have e2 : q = j := by omega
              subst e2
              go_wp2
              go_returns
              exact ⟨rfl, dk, by rw [HMB.out]; exact HM.out.fin HLT.out hmi (by omega) HX.out HI.out.1 HI.out.2, S1.out⟩
    · have em : ((m : Int) - (a : Int) == 1) = false := by simp; omega
      have em2 : ((b : Int) - (m : Int) == 1) = false := by simp; omega
      have hmz : ((a : Int) + (b : Int)) / 2 = (((a + b) / 2 : Nat) : Int) := by omega
      obtain ⟨mid, hmid⟩ : ∃ mid, (a + b) / 2 = mid := ⟨_, rfl⟩
      rw [hmid] at hmz
      have hnz : (mid : Int) + (m : Int) = ((mid + m : Nat) : Int) := by omega
      obtain ⟨nn, hnn⟩ : ∃ nn, mid + m = nn := ⟨_, rfl⟩
      rw [hnn] at hnz
      have hpz : (nn : Int) - 1 = ((nn - 1 : Nat) : Int) := by omega
      obtain ⟨pp, hpp⟩ : ∃ pp, nn - 1 = pp := ⟨_, rfl⟩
      rw [hpp] at hpz
      have hA : a < m ∧ m < b := ⟨h1, h2⟩
      by_cases hmm : mid < m
      · have hmm2 : (mid : Int) < (m : Int) := by omega
        have hsz0 : (nn : Int) - (b : Int) = ((nn - b : Nat) : Int) := by omega
        obtain ⟨s0, hs0⟩ : ∃ s0, nn - b = s0 := ⟨_, rfl⟩
        rw [hs0] at hsz0
        have HF : a ≤ s0 ∧ s0 ≤ mid ∧ mid ≤ m ∧ nn ≤ s0 + b ∧ (s0 = a ∨ s0 + b = nn) := by omega
        clear hs0
        go_upto_region 33 with (fail)
        clear hsz0 hmm2
        go_wp2_with fail
        go_loopg [20, 21] (mid - s0) (fun kx s20 s21 wr => ∃ (st r : Nat), s20 = .int .i64 st ∧ s21 = .int .i64 r ∧ s0 ≤ st ∧ st ≤ r ∧ r ≤ mid ∧ r - st ≤ kx ∧ Aside (SWK enc k w0 blk off d wr) ∧ Hid ((∀ c, s0 ≤ c → c < st → ltOf cf d[pp - c]! d[c]! = false) ∧ (∀ c, r ≤ c → c < mid → ltOf cf d[pp - c]! d[c]! = true)))
        case atStart => exact ⟨s0, mid, rfl, rfl, Nat.le_refl _, by omega, Nat.le_refl _, Nat.le_refl _, S0, (show _ ∧ _ from ⟨fun x h1 h2 => by omega, fun x h1 h2 => by omega⟩)⟩
        case round =>
          clear S0
          obtain ⟨i, j, rfl, rfl, hmi, hij, hjb, hkx, S1, HI⟩ := hrel
          by_cases hlt : i < j
          · have hltz : (i : Int) < (j : Int) := by omega
            have hhz : ((i : Int) + (j : Int)) / 2 = (((i + j) / 2 : Nat) : Int) := by omega
            obtain ⟨h, hh⟩ : ∃ h, (i + j) / 2 = h := ⟨_, rfl⟩
            rw [hh] at hhz
            have hh1 : i ≤ h ∧ h < j := by omega
            clear hh
            have epc : (pp : Int) - (h : Int) = ((pp - h : Nat) : Int) := by omega
            obtain ⟨u, hu⟩ : ∃ u, pp - h = u := ⟨_, rfl⟩
            rw [hu] at epc
            have HU := Lib.hid hu
            have hub : m ≤ u ∧ u < b := by omega
            clear hu
            cases hlv : ltOf cf d[u]! d[h]! with
            | true =>
              have eac : ((u : Int)).toNat = u := by omega
              have pac : (0 : Int) ≤ (u : Int) := by omega
              have bac : (u : Int) < (d.size : Int) := by omega
              have rac : IntKind.i64.wrap ((u : Int)) = (u : Int) := by rw [IntKind.wrap_i64]; omega
              have ecc : ((h : Int)).toNat = h := by omega
              have pcc : (0 : Int) ≤ (h : Int) := by omega
              have bcc : (h : Int) < (d.size : Int) := by omega
              have rcc : IntKind.i64.wrap ((h : Int)) = (h : Int) := by rw [IntKind.wrap_i64]; omega
              obtain ⟨xc, hxc⟩ : ∃ x, x = d[u]! := ⟨_, rfl⟩
              obtain ⟨yc, hyc⟩ : ∃ x, x = d[h]! := ⟨_, rfl⟩
              have lac := S1.out.ld R (by omega) P (u) (by omega)
              have lbc := S1.out.ld R (by omega) P (h) (by omega)
              rw [← hxc] at lac
              rw [← hyc] at lbc
              have hcc := S1.out.cmp HC.out (by omega) xc yc
              have hvc : cf xc yc < 0 := by rw [hxc, hyc]; exact of_decide_eq_true (hlv)
              have hdc : decide (cf xc yc < 0) = true := decide_eq_true hvc
              clear hxc hyc
              go_wp2_with fail
              go_quiet_grown (first | (go_at_fn g; refine Calls.grown_of (hcc _ _)))
              have S2 : Aside (SWK enc k w0 blk off d (grow (wr.drewN nq) osq)) := S1.out.grown nq osq
              clear lac lbc hcc S1
              generalize grow (wr.drewN nq) osq = w2 at S2 ⊢
              clear nq osq
              go_wp2
              go_roundg (h - i)
              case measure => omega
              case rel => exact ⟨i, h, rfl, rfl, hmi, by omega, by omega, Nat.le_refl _, S2, (show _ ∧ _ from ⟨HI.out.1, fun c c1 c2 => by
                have hue := HU.out
                exact up_lt' HLT.out (up_lt HLT.out (SrtS.le HLT.out HY.out (show m ≤ pp - c by omega) (show pp - c ≤ u by omega) hub.2) hlv) (SrtS.le HLT.out HX.out (show a ≤ h by omega) c1 (by omega))⟩)⟩
            | false =>
              have eac : ((u : Int)).toNat = u := by omega
              have pac : (0 : Int) ≤ (u : Int) := by omega
              have bac : (u : Int) < (d.size : Int) := by omega
              have rac : IntKind.i64.wrap ((u : Int)) = (u : Int) := by rw [IntKind.wrap_i64]; omega
              have ecc : ((h : Int)).toNat = h := by omega
              have pcc : (0 : Int) ≤ (h : Int) := by omega
              have bcc : (h : Int) < (d.size : Int) := by omega
              have rcc : IntKind.i64.wrap ((h : Int)) = (h : Int) := by rw [IntKind.wrap_i64]; omega
              obtain ⟨xc, hxc⟩ : ∃ x, x = d[u]! := ⟨_, rfl⟩
              obtain ⟨yc, hyc⟩ : ∃ x, x = d[h]! := ⟨_, rfl⟩
              have lac := S1.out.ld R (by omega) P (u) (by omega)
              have lbc := S1.out.ld R (by omega) P (h) (by omega)
              rw [← hxc] at lac
              rw [← hyc] at lbc
              have hcc := S1.out.cmp HC.out (by omega) xc yc
              have hvc : ¬ cf xc yc < 0 := by rw [hxc, hyc]; exact of_decide_eq_false (hlv)
              have hdc : decide (cf xc yc < 0) = false := decide_eq_false hvc
              clear hxc hyc
              go_wp2_with fail
              go_quiet_grown (first | (go_at_fn g; refine Calls.grown_of (hcc _ _)))
              have S2 : Aside (SWK enc k w0 blk off d (grow (wr.drewN nq) osq)) := S1.out.grown nq osq
              clear lac lbc hcc S1
              generalize grow (wr.drewN nq) osq = w2 at S2 ⊢
              clear nq osq
              go_wp2
              go_roundg (j - (h + 1))
              case measure => omega
              case rel => exact ⟨h + 1, j, by go_num, rfl, by omega, by omega, hjb, Nat.le_refl _, S2, (show _ ∧ _ from ⟨fun c c1 c2 => by
                have hue := HU.out
                exact HLT.out.nt _ _ _ (HLT.out.nt _ _ _ (SrtS.le HLT.out HY.out hub.1 (show u ≤ pp - c by omega) (by omega)) hlv) (SrtS.le HLT.out HX.out (show a ≤ c by omega) (show c ≤ h by omega) (by omega)), HI.out.2⟩)⟩
          · have hltz : ¬ (i : Int) < (j : Int) := by omega
            have e : j = i := by omega
            subst e
            obtain ⟨en, hen⟩ : ∃ en, nn - j = en := ⟨_, rfl⟩
            have ene : (nn : Int) - (j : Int) = (en : Int) := by omega
            have hse : j + en = mid + m := by omega
            have hb1 : a ≤ j ∧ j ≤ m ∧ m ≤ en ∧ en ≤ b ∧ j ≤ mid ∧ mid ≤ en := by omega
            have f1 : a < j → en < b → ltOf cf d[en]! d[j - 1]! = false := fun q1 q2 => by
              have := HI.out.1 (j - 1) (by omega) (by omega)
              rw [show pp - (j - 1) = en by omega] at this
              exact this
            have f2 : j < m → m < en → ltOf cf d[en - 1]! d[j]! = true := fun q1 q2 => by
              have := HI.out.2 j (Nat.le_refl _) (by omega)
              rw [show pp - j = en - 1 by omega] at this
              exact this
            have MS := Lib.hid (fun (r1 r2 r3 : Array α) => merge_step (r1 := r1) (r2 := r2) (r3 := r3) HLT.out hA.1 hA.2 HX.out HY.out hse hb1.1 hb1.2.1 hb1.2.2.1 hb1.2.2.2.1 hb1.2.2.2.2.1 hb1.2.2.2.2.2 f1 f2)
            clear hen f1 f2 HI
            -- the pieces are sorted where they go
            have PL : ∀ r1 : Array α, ((j < m ∧ m < en → ROTS d r1 j m en) ∧ (¬ (j < m ∧ m < en) → r1 = d)) → SrtS (ltOf cf) r1 a j := fun r1 q => pieceL q hb1.2.1 HX.out
            have PM : ∀ r1 : Array α, ((j < m ∧ m < en → ROTS d r1 j m en) ∧ (¬ (j < m ∧ m < en) → r1 = d)) → SrtS (ltOf cf) r1 j mid := fun r1 q => pieceM q hse hb1.2.1 hb1.2.2.1 hb1.2.2.2.1 HY.out
            have PU : ∀ r1 r2 : Array α, ((j < m ∧ m < en → ROTS d r1 j m en) ∧ (¬ (j < m ∧ m < en) → r1 = d)) → ((a < j ∧ j < mid → SMS (ltOf cf) r1 r2 a mid) ∧ (¬ (a < j ∧ j < mid) → r2 = r1)) → SrtS (ltOf cf) r2 mid en := fun r1 r2 q q2 => pieceU q q2 hse hb1.2.1 hb1.2.2.1 hb1.1 HX.out
            have PV : ∀ r1 r2 : Array α, ((j < m ∧ m < en → ROTS d r1 j m en) ∧ (¬ (j < m ∧ m < en) → r1 = d)) → ((a < j ∧ j < mid → SMS (ltOf cf) r1 r2 a mid) ∧ (¬ (a < j ∧ j < mid) → r2 = r1)) → SrtS (ltOf cf) r2 en b := fun r1 r2 q q2 => pieceV q q2 hb1.2.2.1 hb1.2.2.2.2.2 HY.out
            by_cases hrot : j < m ∧ m < en
            · have hq1 : (j : Int) < (m : Int) := by omega
              have hq2 : (m : Int) < (en : Int) := by omega
              have hx := RT.out d wr rfl S1.out j m en hrot.1 hrot.2 (by omega)
              have HX1 := Lib.hid hx
              clear hx S1
              go_wp2_with fail
              refine HX1.out.mono ?_
              rintro e w1 ⟨rfl, r1, hr1, hS1⟩
              have H1 := Lib.hid (show (j < m ∧ m < en → ROTS d r1 j m en) ∧ (¬ (j < m ∧ m < en) → r1 = d) from ⟨fun _ => hr1, fun q => absurd hrot q⟩)
              have T1 : Aside (SWK enc k w0 blk off r1 w1) := hS1
              have z1 : r1.size = d.size := hr1.1.1
              clear hr1 hS1 HX1
              by_cases hlo : a < j ∧ j < mid
              · first
                | (exfalso; omega)
                | (have hq3 : (a : Int) < (j : Int) := by omega
                   have hq4 : (j : Int) < (mid : Int) := by omega
                   have hx := IH.out r1 w1 (z1) T1.out a j mid (by omega) hlo.1 hlo.2 (by omega) (PL r1 H1.out) (PM r1 H1.out)
                   have HX2 := Lib.hid hx
                   clear hx T1
                   go_wp2_with fail
                   refine HX2.out.mono ?_
                   rintro e w2 ⟨rfl, r2, hr2, hS2⟩
                   have H2 := Lib.hid (show (a < j ∧ j < mid → SMS (ltOf cf) r1 r2 a mid) ∧ (¬ (a < j ∧ j < mid) → r2 = r1) from ⟨fun _ => hr2, fun q => absurd hlo q⟩)
                   have T2 : Aside (SWK enc k w0 blk off r2 w2) := hS2
                   have z2 : r2.size = d.size := hr2.1.1.trans (z1)
                   clear hr2 hS2 HX2
                   by_cases hup : mid < en ∧ en < b
                   · first
                     | (exfalso; omega)
                     | (have hq5 : (mid : Int) < (en : Int) := by omega
                        have hq6 : (en : Int) < (b : Int) := by omega
                        have hx := IH.out r2 w2 (z2) T2.out mid en b (by omega) hup.1 hup.2 (by omega) (PU r1 r2 H1.out H2.out) (PV r1 r2 H1.out H2.out)
                        have HX3 := Lib.hid hx
                        clear hx T2
                        go_wp2_with fail
                        refine HX3.out.mono ?_
                        rintro e w3 ⟨rfl, r3, hr3, hS3⟩
                        go_wp2
                        go_end0
                        exact ⟨rfl, r3, MS.out r1 r2 r3 H1.out H2.out ⟨fun _ => hr3, fun q => absurd hup q⟩, hS3⟩)
                   · go_wp2
                     all_goals first | (exfalso; omega) | (go_end0; exact ⟨rfl, r2, MS.out r1 r2 r2 H1.out H2.out ⟨fun q => absurd q hup, fun _ => rfl⟩, T2.out⟩))
              · have T2 : Aside (SWK enc k w0 blk off r1 w1) := T1
                clear T1
                by_cases hup : mid < en ∧ en < b
                · first
                  | (exfalso; omega)
                  | (have hq5 : (mid : Int) < (en : Int) := by omega
                     have hq6 : (en : Int) < (b : Int) := by omega
                     have hx := IH.out r1 w1 (z1) T2.out mid en b (by omega) hup.1 hup.2 (by omega) (PU r1 r1 H1.out ⟨fun q => absurd q hlo, fun _ => rfl⟩) (PV r1 r1 H1.out ⟨fun q => absurd q hlo, fun _ => rfl⟩)
                     have HX3 := Lib.hid hx
                     clear hx T2
                     go_wp2_with fail
                     refine HX3.out.mono ?_
                     rintro e w3 ⟨rfl, r3, hr3, hS3⟩
                     go_wp2
                     go_end0
                     exact ⟨rfl, r3, MS.out r1 r1 r3 H1.out ⟨fun q => absurd q hlo, fun _ => rfl⟩ ⟨fun _ => hr3, fun q => absurd hup q⟩, hS3⟩)
                · go_wp2
                  all_goals first | (exfalso; omega) | (go_end0; exact ⟨rfl, r1, MS.out r1 r1 r1 H1.out ⟨fun q => absurd q hlo, fun _ => rfl⟩ ⟨fun q => absurd q hup, fun _ => rfl⟩, T2.out⟩)
            · have T1 : Aside (SWK enc k w0 blk off d wr) := S1
              clear S1
              by_cases hlo : a < j ∧ j < mid
              · first
                | (exfalso; omega)
                | (have hq3 : (a : Int) < (j : Int) := by omega
                   have hq4 : (j : Int) < (mid : Int) := by omega
                   have hx := IH.out d wr (rfl) T1.out a j mid (by omega) hlo.1 hlo.2 (by omega) (PL d ⟨fun q => absurd q hrot, fun _ => rfl⟩) (PM d ⟨fun q => absurd q hrot, fun _ => rfl⟩)
                   have HX2 := Lib.hid hx
                   clear hx T1
                   go_wp2_with fail
                   refine HX2.out.mono ?_
                   rintro e w2 ⟨rfl, r2, hr2, hS2⟩
                   have H2 := Lib.hid (show (a < j ∧ j < mid → SMS (ltOf cf) d r2 a mid) ∧ (¬ (a < j ∧ j < mid) → r2 = d) from ⟨fun _ => hr2, fun q => absurd hlo q⟩)
                   have T2 : Aside (SWK enc k w0 blk off r2 w2) := hS2
                   have z2 : r2.size = d.size := hr2.1.1.trans (rfl)
                   clear hr2 hS2 HX2
                   by_cases hup : mid < en ∧ en < b
                   · first
                     | (exfalso; omega)
                     | (have hq5 : (mid : Int) < (en : Int) := by omega
                        have hq6 : (en : Int) < (b : Int) := by omega
                        have hx := IH.out r2 w2 (z2) T2.out mid en b (by omega) hup.1 hup.2 (by omega) (PU d r2 ⟨fun q => absurd q hrot, fun _ => rfl⟩ H2.out) (PV d r2 ⟨fun q => absurd q hrot, fun _ => rfl⟩ H2.out)
                        have HX3 := Lib.hid hx
                        clear hx T2
                        go_wp2_with fail
                        refine HX3.out.mono ?_
                        rintro e w3 ⟨rfl, r3, hr3, hS3⟩
                        go_wp2
                        go_end0
                        exact ⟨rfl, r3, MS.out d r2 r3 ⟨fun q => absurd q hrot, fun _ => rfl⟩ H2.out ⟨fun _ => hr3, fun q => absurd hup q⟩, hS3⟩)
                   · go_wp2
                     all_goals first | (exfalso; omega) | (go_end0; exact ⟨rfl, r2, MS.out d r2 r2 ⟨fun q => absurd q hrot, fun _ => rfl⟩ H2.out ⟨fun q => absurd q hup, fun _ => rfl⟩, T2.out⟩))
              · have T2 : Aside (SWK enc k w0 blk off d wr) := T1
                clear T1
                by_cases hup : mid < en ∧ en < b
                · first
                  | (exfalso; omega)
                  | (have hq5 : (mid : Int) < (en : Int) := by omega
                     have hq6 : (en : Int) < (b : Int) := by omega
                     have hx := IH.out d wr (rfl) T2.out mid en b (by omega) hup.1 hup.2 (by omega) (PU d d ⟨fun q => absurd q hrot, fun _ => rfl⟩ ⟨fun q => absurd q hlo, fun _ => rfl⟩) (PV d d ⟨fun q => absurd q hrot, fun _ => rfl⟩ ⟨fun q => absurd q hlo, fun _ => rfl⟩)
                     have HX3 := Lib.hid hx
                     clear hx T2
                     go_wp2_with fail
                     refine HX3.out.mono ?_
                     rintro e w3 ⟨rfl, r3, hr3, hS3⟩
                     go_wp2
                     go_end0
                     exact ⟨rfl, r3, MS.out d d r3 ⟨fun q => absurd q hrot, fun _ => rfl⟩ ⟨fun q => absurd q hlo, fun _ => rfl⟩ ⟨fun _ => hr3, fun q => absurd hup q⟩, hS3⟩)
                · go_wp2
                  all_goals first | (exfalso; omega) | (go_end0; exact ⟨rfl, d, MS.out d d d ⟨fun q => absurd q hrot, fun _ => rfl⟩ ⟨fun q => absurd q hlo, fun _ => rfl⟩ ⟨fun q => absurd q hup, fun _ => rfl⟩, T2.out⟩)
      · have hmm2 : ¬ (mid : Int) < (m : Int) := by omega
        have HF : m ≤ mid ∧ nn ≤ a + b := by omega
        go_upto_region 33 with (fail)
        clear hmm2
        go_wp2_with fail
        go_loopg [20, 21] (m - a) (fun kx s20 s21 wr => ∃ (st r : Nat), s20 = .int .i64 st ∧ s21 = .int .i64 r ∧ a ≤ st ∧ st ≤ r ∧ r ≤ m ∧ r - st ≤ kx ∧ Aside (SWK enc k w0 blk off d wr) ∧ Hid ((∀ c, a ≤ c → c < st → ltOf cf d[pp - c]! d[c]! = false) ∧ (∀ c, r ≤ c → c < m → ltOf cf d[pp - c]! d[c]! = true)))
        case atStart => exact ⟨a, m, rfl, rfl, Nat.le_refl _, by omega, Nat.le_refl _, Nat.le_refl _, S0, (show _ ∧ _ from ⟨fun x h1 h2 => by omega, fun x h1 h2 => by omega⟩)⟩
        case round =>
          clear S0
          obtain ⟨i, j, rfl, rfl, hmi, hij, hjb, hkx, S1, HI⟩ := hrel
          by_cases hlt : i < j
          · have hltz : (i : Int) < (j : Int) := by omega
            have hhz : ((i : Int) + (j : Int)) / 2 = (((i + j) / 2 : Nat) : Int) := by omega
            obtain ⟨h, hh⟩ : ∃ h, (i + j) / 2 = h := ⟨_, rfl⟩
            rw [hh] at hhz
            have hh1 : i ≤ h ∧ h < j := by omega
            clear hh
            have epc : (pp : Int) - (h : Int) = ((pp - h : Nat) : Int) := by omega
            obtain ⟨u, hu⟩ : ∃ u, pp - h = u := ⟨_, rfl⟩
            rw [hu] at epc
            have HU := Lib.hid hu
            have hub : m ≤ u ∧ u < b := by omega
            clear hu
            cases hlv : ltOf cf d[u]! d[h]! with
            | true =>
              have eac : ((u : Int)).toNat = u := by omega
              have pac : (0 : Int) ≤ (u : Int) := by omega
              have bac : (u : Int) < (d.size : Int) := by omega
              have rac : IntKind.i64.wrap ((u : Int)) = (u : Int) := by rw [IntKind.wrap_i64]; omega
              have ecc : ((h : Int)).toNat = h := by omega
              have pcc : (0 : Int) ≤ (h : Int) := by omega
              have bcc : (h : Int) < (d.size : Int) := by omega
              have rcc : IntKind.i64.wrap ((h : Int)) = (h : Int) := by rw [IntKind.wrap_i64]; omega
              obtain ⟨xc, hxc⟩ : ∃ x, x = d[u]! := ⟨_, rfl⟩
              obtain ⟨yc, hyc⟩ : ∃ x, x = d[h]! := ⟨_, rfl⟩
              have lac := S1.out.ld R (by omega) P (u) (by omega)
              have lbc := S1.out.ld R (by omega) P (h) (by omega)
              rw [← hxc] at lac
              rw [← hyc] at lbc
              have hcc := S1.out.cmp HC.out (by omega) xc yc
              have hvc : cf xc yc < 0 := by rw [hxc, hyc]; exact of_decide_eq_true (hlv)
              have hdc : decide (cf xc yc < 0) = true := decide_eq_true hvc
              clear hxc hyc
              go_wp2_with fail
              go_quiet_grown (first | (go_at_fn g; refine Calls.grown_of (hcc _ _)))
              have S2 : Aside (SWK enc k w0 blk off d (grow (wr.drewN nq) osq)) := S1.out.grown nq osq
              clear lac lbc hcc S1
              generalize grow (wr.drewN nq) osq = w2 at S2 ⊢
              clear nq osq
              go_wp2
              go_roundg (h - i)
              case measure => omega
              case rel => exact ⟨i, h, rfl, rfl, hmi, by omega, by omega, Nat.le_refl _, S2, (show _ ∧ _ from ⟨HI.out.1, fun c c1 c2 => by
                have hue := HU.out
                exact up_lt' HLT.out (up_lt HLT.out (SrtS.le HLT.out HY.out (show m ≤ pp - c by omega) (show pp - c ≤ u by omega) hub.2) hlv) (SrtS.le HLT.out HX.out (show a ≤ h by omega) c1 (by omega))⟩)⟩
            | false =>
              have eac : ((u : Int)).toNat = u := by omega
              have pac : (0 : Int) ≤ (u : Int) := by omega
              have bac : (u : Int) < (d.size : Int) := by omega
              have rac : IntKind.i64.wrap ((u : Int)) = (u : Int) := by rw [IntKind.wrap_i64]; omega
              have ecc : ((h : Int)).toNat = h := by omega
              have pcc : (0 : Int) ≤ (h : Int) := by omega
              have bcc : (h : Int) < (d.size : Int) := by omega
              have rcc : IntKind.i64.wrap ((h : Int)) = (h : Int) := by rw [IntKind.wrap_i64]; omega
              obtain ⟨xc, hxc⟩ : ∃ x, x = d[u]! := ⟨_, rfl⟩
              obtain ⟨yc, hyc⟩ : ∃ x, x = d[h]! := ⟨_, rfl⟩
              have lac := S1.out.ld R (by omega) P (u) (by omega)
              have lbc := S1.out.ld R (by omega) P (h) (by omega)
              rw [← hxc] at lac
              rw [← hyc] at lbc
              have hcc := S1.out.cmp HC.out (by omega) xc yc
              have hvc : ¬ cf xc yc < 0 := by rw [hxc, hyc]; exact of_decide_eq_false (hlv)
              have hdc : decide (cf xc yc < 0) = false := decide_eq_false hvc
              clear hxc hyc
              go_wp2_with fail
              go_quiet_grown (first | (go_at_fn g; refine Calls.grown_of (hcc _ _)))
              have S2 : Aside (SWK enc k w0 blk off d (grow (wr.drewN nq) osq)) := S1.out.grown nq osq
              clear lac lbc hcc S1
              generalize grow (wr.drewN nq) osq = w2 at S2 ⊢
              clear nq osq
              go_wp2
              go_roundg (j - (h + 1))
              case measure => omega
              case rel => exact ⟨h + 1, j, by go_num, rfl, by omega, by omega, hjb, Nat.le_refl _, S2, (show _ ∧ _ from ⟨fun c c1 c2 => by
                have hue := HU.out
                exact HLT.out.nt _ _ _ (HLT.out.nt _ _ _ (SrtS.le HLT.out HY.out hub.1 (show u ≤ pp - c by omega) (by omega)) hlv) (SrtS.le HLT.out HX.out (show a ≤ c by omega) (show c ≤ h by omega) (by omega)), HI.out.2⟩)⟩
          · have hltz : ¬ (i : Int) < (j : Int) := by omega
            have e : j = i := by omega
            subst e
            obtain ⟨en, hen⟩ : ∃ en, nn - j = en := ⟨_, rfl⟩
            have ene : (nn : Int) - (j : Int) = (en : Int) := by omega
            have hse : j + en = mid + m := by omega
            have hb1 : a ≤ j ∧ j ≤ m ∧ m ≤ en ∧ en ≤ b ∧ j ≤ mid ∧ mid ≤ en := by omega
            have f1 : a < j → en < b → ltOf cf d[en]! d[j - 1]! = false := fun q1 q2 => by
              have := HI.out.1 (j - 1) (by omega) (by omega)
              rw [show pp - (j - 1) = en by omega] at this
              exact this
            have f2 : j < m → m < en → ltOf cf d[en - 1]! d[j]! = true := fun q1 q2 => by
              have := HI.out.2 j (Nat.le_refl _) (by omega)
              rw [show pp - j = en - 1 by omega] at this
              exact this
            have MS := Lib.hid (fun (r1 r2 r3 : Array α) => merge_step (r1 := r1) (r2 := r2) (r3 := r3) HLT.out hA.1 hA.2 HX.out HY.out hse hb1.1 hb1.2.1 hb1.2.2.1 hb1.2.2.2.1 hb1.2.2.2.2.1 hb1.2.2.2.2.2 f1 f2)
            clear hen f1 f2 HI
            -- the pieces are sorted where they go
            have PL : ∀ r1 : Array α, ((j < m ∧ m < en → ROTS d r1 j m en) ∧ (¬ (j < m ∧ m < en) → r1 = d)) → SrtS (ltOf cf) r1 a j := fun r1 q => pieceL q hb1.2.1 HX.out
            have PM : ∀ r1 : Array α, ((j < m ∧ m < en → ROTS d r1 j m en) ∧ (¬ (j < m ∧ m < en) → r1 = d)) → SrtS (ltOf cf) r1 j mid := fun r1 q => pieceM q hse hb1.2.1 hb1.2.2.1 hb1.2.2.2.1 HY.out
            have PU : ∀ r1 r2 : Array α, ((j < m ∧ m < en → ROTS d r1 j m en) ∧ (¬ (j < m ∧ m < en) → r1 = d)) → ((a < j ∧ j < mid → SMS (ltOf cf) r1 r2 a mid) ∧ (¬ (a < j ∧ j < mid) → r2 = r1)) → SrtS (ltOf cf) r2 mid en := fun r1 r2 q q2 => pieceU q q2 hse hb1.2.1 hb1.2.2.1 hb1.1 HX.out
            have PV : ∀ r1 r2 : Array α, ((j < m ∧ m < en → ROTS d r1 j m en) ∧ (¬ (j < m ∧ m < en) → r1 = d)) → ((a < j ∧ j < mid → SMS (ltOf cf) r1 r2 a mid) ∧ (¬ (a < j ∧ j < mid) → r2 = r1)) → SrtS (ltOf cf) r2 en b := fun r1 r2 q q2 => pieceV q q2 hb1.2.2.1 hb1.2.2.2.2.2 HY.out
            by_cases hrot : j < m ∧ m < en
            · have hq1 : (j : Int) < (m : Int) := by omega
              have hq2 : (m : Int) < (en : Int) := by omega
              have hx := RT.out d wr rfl S1.out j m en hrot.1 hrot.2 (by omega)
              have HX1 := Lib.hid hx
              clear hx S1
              go_wp2_with fail
              refine HX1.out.mono ?_
              rintro e w1 ⟨rfl, r1, hr1, hS1⟩
              have H1 := Lib.hid (show (j < m ∧ m < en → ROTS d r1 j m en) ∧ (¬ (j < m ∧ m < en) → r1 = d) from ⟨fun _ => hr1, fun q => absurd hrot q⟩)
              have T1 : Aside (SWK enc k w0 blk off r1 w1) := hS1
              have z1 : r1.size = d.size := hr1.1.1
              clear hr1 hS1 HX1
              by_cases hlo : a < j ∧ j < mid
              · first
                | (exfalso; omega)
                | (have hq3 : (a : Int) < (j : Int) := by omega
                   have hq4 : (j : Int) < (mid : Int) := by omega
                   have hx := IH.out r1 w1 (z1) T1.out a j mid (by omega) hlo.1 hlo.2 (by omega) (PL r1 H1.out) (PM r1 H1.out)
                   have HX2 := Lib.hid hx
                   clear hx T1
                   go_wp2_with fail
                   refine HX2.out.mono ?_
                   rintro e w2 ⟨rfl, r2, hr2, hS2⟩
                   have H2 := Lib.hid (show (a < j ∧ j < mid → SMS (ltOf cf) r1 r2 a mid) ∧ (¬ (a < j ∧ j < mid) → r2 = r1) from ⟨fun _ => hr2, fun q => absurd hlo q⟩)
                   have T2 : Aside (SWK enc k w0 blk off r2 w2) := hS2
                   have z2 : r2.size = d.size := hr2.1.1.trans (z1)
                   clear hr2 hS2 HX2
                   by_cases hup : mid < en ∧ en < b
                   · first
                     | (exfalso; omega)
                     | (have hq5 : (mid : Int) < (en : Int) := by omega
                        have hq6 : (en : Int) < (b : Int) := by omega
                        have hx := IH.out r2 w2 (z2) T2.out mid en b (by omega) hup.1 hup.2 (by omega) (PU r1 r2 H1.out H2.out) (PV r1 r2 H1.out H2.out)
                        have HX3 := Lib.hid hx
                        clear hx T2
                        go_wp2_with fail
                        refine HX3.out.mono ?_
                        rintro e w3 ⟨rfl, r3, hr3, hS3⟩
                        go_wp2
                        go_end0
                        exact ⟨rfl, r3, MS.out r1 r2 r3 H1.out H2.out ⟨fun _ => hr3, fun q => absurd hup q⟩, hS3⟩)
                   · go_wp2
                     all_goals first | (exfalso; omega) | (go_end0; exact ⟨rfl, r2, MS.out r1 r2 r2 H1.out H2.out ⟨fun q => absurd q hup, fun _ => rfl⟩, T2.out⟩))
              · have T2 : Aside (SWK enc k w0 blk off r1 w1) := T1
                clear T1
                by_cases hup : mid < en ∧ en < b
                · first
                  | (exfalso; omega)
                  | (have hq5 : (mid : Int) < (en : Int) := by omega
                     have hq6 : (en : Int) < (b : Int) := by omega
                     have hx := IH.out r1 w1 (z1) T2.out mid en b (by omega) hup.1 hup.2 (by omega) (PU r1 r1 H1.out ⟨fun q => absurd q hlo, fun _ => rfl⟩) (PV r1 r1 H1.out ⟨fun q => absurd q hlo, fun _ => rfl⟩)
                     have HX3 := Lib.hid hx
                     clear hx T2
                     go_wp2_with fail
                     refine HX3.out.mono ?_
                     rintro e w3 ⟨rfl, r3, hr3, hS3⟩
                     go_wp2
                     go_end0
                     exact ⟨rfl, r3, MS.out r1 r1 r3 H1.out ⟨fun q => absurd q hlo, fun _ => rfl⟩ ⟨fun _ => hr3, fun q => absurd hup q⟩, hS3⟩)
                · go_wp2
                  all_goals first | (exfalso; omega) | (go_end0; exact ⟨rfl, r1, MS.out r1 r1 r1 H1.out ⟨fun q => absurd q hlo, fun _ => rfl⟩ ⟨fun q => absurd q hup, fun _ => rfl⟩, T2.out⟩)
            · have T1 : Aside (SWK enc k w0 blk off d wr) := S1
              clear S1
              by_cases hlo : a < j ∧ j < mid
              · first
                | (exfalso; omega)
                | (have hq3 : (a : Int) < (j : Int) := by omega
                   have hq4 : (j : Int) < (mid : Int) := by omega
                   have hx := IH.out d wr (rfl) T1.out a j mid (by omega) hlo.1 hlo.2 (by omega) (PL d ⟨fun q => absurd q hrot, fun _ => rfl⟩) (PM d ⟨fun q => absurd q hrot, fun _ => rfl⟩)
                   have HX2 := Lib.hid hx
                   clear hx T1
                   go_wp2_with fail
                   refine HX2.out.mono ?_
                   rintro e w2 ⟨rfl, r2, hr2, hS2⟩
                   have H2 := Lib.hid (show (a < j ∧ j < mid → SMS (ltOf cf) d r2 a mid) ∧ (¬ (a < j ∧ j < mid) → r2 = d) from ⟨fun _ => hr2, fun q => absurd hlo q⟩)
                   have T2 : Aside (SWK enc k w0 blk off r2 w2) := hS2
                   have z2 : r2.size = d.size := hr2.1.1.trans (rfl)
                   clear hr2 hS2 HX2
                   by_cases hup : mid < en ∧ en < b
                   · first
                     | (exfalso; omega)
                     | (have hq5 : (mid : Int) < (en : Int) := by omega
                        have hq6 : (en : Int) < (b : Int) := by omega
                        have hx := IH.out r2 w2 (z2) T2.out mid en b (by omega) hup.1 hup.2 (by omega) (PU d r2 ⟨fun q => absurd q hrot, fun _ => rfl⟩ H2.out) (PV d r2 ⟨fun q => absurd q hrot, fun _ => rfl⟩ H2.out)
                        have HX3 := Lib.hid hx
                        clear hx T2
                        go_wp2_with fail
                        refine HX3.out.mono ?_
                        rintro e w3 ⟨rfl, r3, hr3, hS3⟩
                        go_wp2
                        go_end0
                        exact ⟨rfl, r3, MS.out d r2 r3 ⟨fun q => absurd q hrot, fun _ => rfl⟩ H2.out ⟨fun _ => hr3, fun q => absurd hup q⟩, hS3⟩)
                   · go_wp2
                     all_goals first | (exfalso; omega) | (go_end0; exact ⟨rfl, r2, MS.out d r2 r2 ⟨fun q => absurd q hrot, fun _ => rfl⟩ H2.out ⟨fun q => absurd q hup, fun _ => rfl⟩, T2.out⟩))
              · have T2 : Aside (SWK enc k w0 blk off d wr) := T1
                clear T1
                by_cases hup : mid < en ∧ en < b
                · first
                  | (exfalso; omega)
                  | (have hq5 : (mid : Int) < (en : Int) := by omega
                     have hq6 : (en : Int) < (b : Int) := by omega
                     have hx := IH.out d wr (rfl) T2.out mid en b (by omega) hup.1 hup.2 (by omega) (PU d d ⟨fun q => absurd q hrot, fun _ => rfl⟩ ⟨fun q => absurd q hlo, fun _ => rfl⟩) (PV d d ⟨fun q => absurd q hrot, fun _ => rfl⟩ ⟨fun q => absurd q hlo, fun _ => rfl⟩)
                     have HX3 := Lib.hid hx
                     clear hx T2
                     go_wp2_with fail
                     refine HX3.out.mono ?_
                     rintro e w3 ⟨rfl, r3, hr3, hS3⟩
                     go_wp2
                     go_end0
                     exact ⟨rfl, r3, MS.out d d r3 ⟨fun q => absurd q hrot, fun _ => rfl⟩ ⟨fun q => absurd q hlo, fun _ => rfl⟩ ⟨fun _ => hr3, fun q => absurd hup q⟩, hS3⟩)
                · go_wp2
                  all_goals first | (exfalso; omega) | (go_end0; exact ⟨rfl, d, MS.out d d d ⟨fun q => absurd q hrot, fun _ => rfl⟩ ⟨fun q => absurd q hlo, fun _ => rfl⟩ ⟨fun q => absurd q hup, fun _ => rfl⟩, T2.out⟩)
theorem symMerge_any (L : LS P) (k : Nat) (aE : ∀ w, (isAgg 25).run P w = .ok true w) (zE : ∀ w, (Go.sizeOf 25).run P w = .ok k w) (enc : α → List Value) (g : Nat) (blk off cap : Nat) (d0 : Array α) (w0 : World) (R : RowK enc k w0 blk off d0) (cf : α → α → Int) (eg : ∀ args w, (callFunc g args).run P w = .ok (.enter g args) w) (hcmp : CmpLays P g #[] enc k cf blk off d0.size w0) (hl : LtOk (ltOf cf)) (hsz : d0.size < 4611686018427387904) : ∀ (N : Nat) (d : Array α) (w : World) (hs : d0.size = d.size) (S : SWK enc k w0 blk off d w) (a m b : Nat) (hN : b - a < N) (h1 : a < m) (h2 : m < b) (hb : b ≤ d.size) (hX : SrtS (ltOf cf) d a m) (hY : SrtS (ltOf cf) d m b),
    Calls P 89 #[.slice (some ⟨blk, off, none⟩) d.size cap, .int .i64 a, .int .i64 m, .int .i64 b, .func (.func g) #[] #[]] w fun e w' => e = .returned (.tuple #[]) ∧ ∃ r : Array α, SMS (ltOf cf) d r a b ∧ SWK enc k w0 blk off r w'
  | 0, _, _, _, _, _, _, _, hN, _, _, _, _, _ => absurd hN (Nat.not_lt_zero _)
  | N + 1, d, w, hs, S, a, m, b, hN, h1, h2, hb, hX, hY =>
    symMerge_step L k aE zE enc g blk off cap d0 w0 R cf eg hcmp hl (b - a) (fun d w hs S a' m' b' hN' h1 h2 hb hX hY => symMerge_any L k aE zE enc g blk off cap d0 w0 R cf eg hcmp hl hsz N d w hs S a' m' b' (by omega) h1 h2 hb hX hY) d w hs S a m b rfl h1 h2 hb hX hY (by omega)
end Go.Proofs.YtifeakmbeaflgaaDoor
