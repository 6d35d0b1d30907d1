/- slices.SortStableFunc's family at ops, over any program with these bodies: swapRange, rotate. Made by genqb7.py. -/
import Derived.Test.YtifeakmbeaflgaaDoorProg
import Derived.Test.YtifeakmbeaflgaaDoorQA
import Derived.Shelf.SlSortCmp.KitK
import Derived.Sort.WalkB2
import Derived.Sort.WalkB12
import Derived.Deep.LoopGhost
import Derived.Sort.Lot0
import Derived.Lib.Hide
set_option linter.unusedVariables false
set_option linter.unusedSimpArgs false
set_option maxRecDepth 1000000
namespace Go.Proofs.YtifeakmbeaflgaaDoor
open Go.Shelf Go.RowKit Go.Lib Go.Sort

structure LS (P : Program) : Prop where
  mixed : P.follows .mixedOrders = true
  f84 : P.funcs[84]? = some Tryd.f84
  f88 : P.funcs[88]? = some Tryd.f88
  f89 : P.funcs[89]? = some Tryd.f89
  f92 : P.funcs[92]? = some Tryd.f92
  f97 : P.funcs[97]? = some Tryd.f97
  t0 : P.underlying 0 = some (TypeDesc.tuple #[])
  a0 : ∀ w, (isAgg 0).run P w = .ok false w
  z0 : ∀ w, (Go.sizeOf 0).run P w = .ok 1 w
  v0 : ∀ w, (zeroValue 0).run P w = .ok (Value.tuple #[]) w
  t3 : P.underlying 3 = some (TypeDesc.int IntKind.i64)
  a3 : ∀ w, (isAgg 3).run P w = .ok false w
  z3 : ∀ w, (Go.sizeOf 3).run P w = .ok 1 w
  v3 : ∀ w, (zeroValue 3).run P w = .ok (Value.int IntKind.i64 0) w
  t4 : P.underlying 4 = some (TypeDesc.bool)
  a4 : ∀ w, (isAgg 4).run P w = .ok false w
  z4 : ∀ w, (Go.sizeOf 4).run P w = .ok 1 w
  v4 : ∀ w, (zeroValue 4).run P w = .ok (Value.bool false) w
  t27 : P.underlying 27 = some (TypeDesc.slice 25)
  a27 : ∀ w, (isAgg 27).run P w = .ok false w
  z27 : ∀ w, (Go.sizeOf 27).run P w = .ok 1 w
  v27 : ∀ w, (zeroValue 27).run P w = .ok (Value.slice none 0 0) w
  t33 : P.underlying 33 = some (TypeDesc.func #[25, 25] #[3] false)
  a33 : ∀ w, (isAgg 33).run P w = .ok false w
  z33 : ∀ w, (Go.sizeOf 33).run P w = .ok 1 w
  v33 : ∀ w, (zeroValue 33).run P w = .ok (Value.nilFunc) w
  t97 : P.underlying 97 = some (TypeDesc.int IntKind.u64)
  a97 : ∀ w, (isAgg 97).run P w = .ok false w
  z97 : ∀ w, (Go.sizeOf 97).run P w = .ok 1 w
  v97 : ∀ w, (zeroValue 97).run P w = .ok (Value.int IntKind.u64 0) w
variable {P : Program} {α : Type} [Inhabited α]
theorem swp_left' (d : Array α) {i j : Nat} (hi : i < d.size) (hij : i ≠ j) : (swp d i j)[i]! = d[j]! := swp_left d i j hi hij
theorem nsw_swp (d : Array α) {i : Nat} (hi : i + 1 < d.size) : nsw d (swp d i (i + 1)) i := ⟨size_swp d _ _, swp_left d _ _ (by omega) (by omega), swp_right d _ _ hi, fun x h1 h2 => swp_other d _ _ _ h1 h2⟩
theorem nsw_swp' (d : Array α) {i : Nat} (hi : i + 1 < d.size) : nsw d (swp d (i + 1) i) i := ⟨size_swp d _ _, swp_right d _ _ (by omega), swp_left d _ _ hi (by omega), fun x h1 h2 => swp_other d _ _ _ h2 h1⟩
set_option maxHeartbeats 4000000 in
theorem swapRange_any (L : LS P) (k : Nat) (aE : ∀ w, (isAgg 25).run P w = .ok true w) (zE : ∀ w, (Go.sizeOf 25).run P w = .ok k w) (enc : α → List Value) (g : Nat) (blk off cap : Nat) (d0 : Array α) (w0 : World) (R : RowK enc k w0 blk off d0) (d : Array α) (w : World) (hs : d0.size = d.size) (S : SWK enc k w0 blk off d w) (a b n : Nat) (hab : a + n ≤ b) (hb : b + n ≤ d.size) (hsz : d.size < 4611686018427387904) :
    Calls P 97 #[.slice (some ⟨blk, off, none⟩) d.size cap, .int .i64 a, .int .i64 b, .int .i64 n, .func (.func g) #[] #[]] w fun e w' => e = .returned (.tuple #[]) ∧ ∃ r : Array α, SRS d r a b n ∧ SWK enc k w0 blk off r w' := by
  have mixed := L.mixed; have t0 := L.t0; have a0 := L.a0; have z0 := L.z0; have v0 := L.v0; have t3 := L.t3; have a3 := L.a3; have z3 := L.z3; have v3 := L.v3; have t4 := L.t4; have a4 := L.a4; have z4 := L.z4; have v4 := L.v4; have t27 := L.t27; have a27 := L.a27; have z27 := L.z27; have v27 := L.v27; have t33 := L.t33; have a33 := L.a33; have z33 := L.z33; have v33 := L.v33; have t97 := L.t97; have a97 := L.a97; have z97 := L.z97; have v97 := L.v97
  have S0 : Aside (SWK enc k w0 blk off d w) := S
  clear S
  go_enter L.f97, Tryd.ntmps97
  go_wp2
  go_loopg [10] n (fun kx s10 wr => ∃ (i : Nat) (dk : Array α), s10 = .int .i64 i ∧ i ≤ n ∧ n - i ≤ kx ∧ dk.size = d.size ∧ Aside (SWK enc k w0 blk off dk wr) ∧ Hid (SRS d dk a b i))
  case atStart => exact ⟨0, d, rfl, Nat.zero_le _, by omega, rfl, S0, show SRS d d a b 0 from ⟨rfl, fun x h1 h2 => by omega, fun x h1 h2 => by omega, fun x _ _ => rfl⟩⟩
  case round =>
    clear S0
    obtain ⟨i, dk, rfl, hin, hkx, hds, S1, HQ⟩ := hrel
    by_cases hlt : i < n
    · have hltz : (i : Int) < (n : Int) := by omega
      go_wp2_with fail
      have eas : ((a : Int) + (i : Int)).toNat = a + i := by omega
      have pas : (0 : Int) ≤ (a : Int) + (i : Int) := by omega
      have bas : (a : Int) + (i : Int) < (d.size : Int) := by omega
      have ras : IntKind.i64.wrap ((a : Int) + (i : Int)) = (a : Int) + (i : Int) := by rw [IntKind.wrap_i64]; omega
      have ecs : ((b : Int) + (i : Int)).toNat = b + i := by omega
      have pcs : (0 : Int) ≤ (b : Int) + (i : Int) := by omega
      have bcs : (b : Int) + (i : Int) < (d.size : Int) := by omega
      have rcs : IntKind.i64.wrap ((b : Int) + (i : Int)) = (b : Int) + (i : Int) := by rw [IntKind.wrap_i64]; omega
      have S2 : Aside (SWK enc k w0 blk off (swp dk (a + i) (b + i)) ((wr.drew.setCells blk (off + (a + i) * k) (enc dk[b + i]!)).setCells blk (off + (b + i) * k) (enc dk[a + i]!))) := S1.out.swapped R (a + i) (b + i) (by omega) (by omega)
      have las := S1.out.ld1 R (by omega) P (a + i) (by omega)
      have lbs := S1.out.ld1 R (by omega) P (b + i) (by omega)
      have sas := S1.out.st1 R (by omega) P (a + i) (by omega) dk[b + i]!
      have sbs := S1.out.st2 R (by omega) P (a + i) (b + i) (by omega) (by omega) dk[b + i]! dk[a + i]!
      have nas : (enc dk[a + i]!).length = k := R.hk _
      have nbs : (enc dk[b + i]!).length = k := R.hk _
      generalize enc dk[a + i]! = cIs at S2 las sbs nas
      generalize enc dk[b + i]! = cJs at S2 lbs sas sbs nbs
      clear S1
      go_wp2_with fail
      go_big_region_o
      clear las lbs sas sbs
      generalize (wr.drew.setCells blk (off + (a + i) * k) cJs).setCells blk (off + (b + i) * k) cIs = w2 at S2 ⊢
      go_wp2
      go_roundg (n - (i + 1))
      case measure => omega
      case rel =>
        refine ⟨i + 1, swp dk (a + i) (b + i), by simp, by omega, Nat.le_refl _, by rw [size_swp]; exact hds, S2, show SRS d _ a b (i + 1) from ?_⟩
        obtain ⟨q0, q1, q2, q3⟩ := HQ.out
        refine ⟨by rw [size_swp]; exact hds, fun x x1 x2 => ?_, fun x x1 x2 => ?_, fun x x1 x2 => ?_⟩
        · by_cases e : x = a + i
          · subst e
            rw [swp_left _ _ _ (by omega) (by omega), q3 (b + i) (by omega) (by omega)]; congr 1; omega
          · rw [swp_other _ _ _ _ e (by omega), q1 x x1 (by omega)]
        · by_cases e : x = b + i
          · subst e
            rw [swp_right _ _ _ (by omega), q3 (a + i) (by omega) (by omega)]; congr 1; omega
          · rw [swp_other _ _ _ _ (by omega) e, q2 x x1 (by omega)]
        · rw [swp_other _ _ _ _ (by omega) (by omega), q3 x (by omega) (by omega)]
    · have hltz : ¬ (i : Int) < (n : Int) := by omega
      have e : i = n := by omega
      subst e
      go_wp2
      go_end0
      exact ⟨rfl, dk, HQ.out, S1.out⟩
set_option maxHeartbeats 4000000 in
theorem rotate_any (L : LS P) (k : Nat) (aE : ∀ w, (isAgg 25).run P w = .ok true w) (zE : ∀ w, (Go.sizeOf 25).run P w = .ok k w) (enc : α → List Value) (g : Nat) (blk off cap : Nat) (d0 : Array α) (w0 : World) (R : RowK enc k w0 blk off d0) (d : Array α) (w : World) (hs : d0.size = d.size) (S : SWK enc k w0 blk off d w) (a m b : Nat) (h1 : a < m) (h2 : m < b) (hb : b ≤ d.size) (hsz : d.size < 4611686018427387904) :
    Calls P 92 #[.slice (some ⟨blk, off, none⟩) d.size cap, .int .i64 a, .int .i64 m, .int .i64 b, .func (.func g) #[] #[]] w fun e w' => e = .returned (.tuple #[]) ∧ ∃ r : Array α, ROTS d r a m b ∧ SWK enc k w0 blk off r w' := by
  have mixed := L.mixed; have t0 := L.t0; have a0 := L.a0; have z0 := L.z0; have v0 := L.v0; have t3 := L.t3; have a3 := L.a3; have z3 := L.z3; have v3 := L.v3; have t4 := L.t4; have a4 := L.a4; have z4 := L.z4; have v4 := L.v4; have t27 := L.t27; have a27 := L.a27; have z27 := L.z27; have v27 := L.v27; have t33 := L.t33; have a33 := L.a33; have z33 := L.z33; have v33 := L.v33; have t97 := L.t97; have a97 := L.a97; have z97 := L.z97; have v97 := L.v97
  have e97 : ∀ args w, (callFunc 97 args).run P w = .ok (.enter 97 args) w := enters_of L.f97 (by kernel_rfl) rfl
  have SR := Lib.hid (fun (dk : Array α) (wr : World) (hd : dk.size = d.size) (S : SWK enc k w0 blk off dk wr) (a b n : Nat) (hab : a + n ≤ b) (hb : b + n ≤ d.size) => by
    have := swapRange_any L k aE zE enc g blk off cap d0 w0 R dk wr (hs.trans hd.symm) S a b n hab (by omega) (by omega)
    rw [hd] at this
    exact this)
  have S0 : Aside (SWK enc k w0 blk off d w) := S
  clear S
  have eI : (m : Int) - (a : Int) = ((m - a : Nat) : Int) := by omega
  have eJ : (b : Int) - (m : Int) = ((b - m : Nat) : Int) := by omega
  obtain ⟨I, hI⟩ : ∃ I, m - a = I := ⟨_, rfl⟩
  obtain ⟨J, hJ⟩ : ∃ J, b - m = J := ⟨_, rfl⟩
  rw [hI] at eI
  rw [hJ] at eJ
  have HI := Lib.hid hI
  have HJ := Lib.hid hJ
  have HB := Lib.hid (And.intro h1 (And.intro h2 hb))
  have hIb : I < 4611686018427387904 := by omega
  have hJb0 : J < 4611686018427387904 := by omega
  clear hI hJ h1 h2 hb
  go_enter L.f92, Tryd.ntmps92
  go_wp2_with fail
  go_loopg [10, 11] (I + J) (fun kx s10 s11 wr => ∃ (i j : Nat) (dk : Array α), s10 = .int .i64 i ∧ s11 = .int .i64 j ∧ 0 < i ∧ 0 < j ∧ i ≤ I ∧ j ≤ J ∧ i + j ≤ kx ∧ dk.size = d.size ∧ Aside (SWK enc k w0 blk off dk wr) ∧ Hid (∀ r, ROTS dk r (m - i) m (m + j) → ROTS d r a m b))
  case atStart => exact ⟨I, J, d, by first | rfl | rw [eI] | (congr 1; rw [wrap64_of_bounds] <;> omega), by first | rfl | rw [eJ] | (congr 1; rw [wrap64_of_bounds] <;> omega), by have := HI.out; have := HB.out.1; omega, by have := HJ.out; have := HB.out.2.1; omega, Nat.le_refl _, Nat.le_refl _, Nat.le_refl _, rfl, S0, (show ∀ r, ROTS d r (m - I) m (m + J) → ROTS d r a m b from fun r h => by
    have := HI.out; have := HJ.out; have := HB.out
    rw [show m - I = a by omega, show m + J = b by omega] at h; exact h)⟩
  case round =>
    clear S0
    obtain ⟨i, j, dk, rfl, rfl, hi0, hj0, hiI, hjJ, hkx, hds, S1, HQ⟩ := hrel
    have hIa := HI.out
    have hJb := HJ.out
    have hBB := HB.out
    have emi : (m : Int) - (i : Int) = ((m - i : Nat) : Int) := by omega
    by_cases he : i = j
    · subst he
      have hx := SR.out dk wr hds S1.out (m - i) m i (by omega) (by omega)
      have HX := Lib.hid hx
      clear hx S1
      go_wp2_with fail
      refine HX.out.mono ?_
      rintro e w1 ⟨rfl, r, hr, hS⟩
      go_wp2
      go_end0
      exact ⟨rfl, r, HQ.out r (rot_last (by omega) (by omega) (by omega) (by rw [show m - (m - i) = i by omega]; exact hr)), hS⟩
    · have hne : ((i : Int) != (j : Int)) = true := by simp; omega
      have hne2 : ((i : Int) == (j : Int)) = false := by simp; omega
      by_cases hgt : j < i
      · have hgtz : (j : Int) < (i : Int) := by omega
        have hx := SR.out dk wr hds S1.out (m - i) m j (by omega) (by omega)
        have HX := Lib.hid hx
        have ed : (i : Int) - (j : Int) = ((i - j : Nat) : Int) := by omega
        clear hx S1
        go_wp2_with fail
        refine HX.out.mono ?_
        rintro e w1 ⟨rfl, r1, hr, hS⟩
        go_wp2
        go_roundg (i - j + j)
        case measure => omega
        case rel => exact ⟨i - j, j, r1, by rw [← ed], rfl, by omega, hj0, by omega, hjJ, Nat.le_refl _, hr.1.trans hds, hS, (show ∀ r, ROTS r1 r (m - (i - j)) m (m + j) → ROTS d r a m b from fun r h => HQ.out r (rot_step_gt (d' := r1) (by omega) (by omega) (by omega) (by rw [show m + j - m = j by omega]; exact hr) (by rw [show m - i + (m + j - m) = m - (i - j) by omega]; exact h)))⟩
      · have hgtz : ¬ (j : Int) < (i : Int) := by omega
        have emj : (m : Int) + (j : Int) - (i : Int) = ((m + j - i : Nat) : Int) := by omega
        have ed : (j : Int) - (i : Int) = ((j - i : Nat) : Int) := by omega
        have hx := SR.out dk wr hds S1.out (m - i) (m + j - i) i (by omega) (by omega)
        have HX := Lib.hid hx
        clear hx S1
        go_wp2_with fail
        refine HX.out.mono ?_
        rintro e w1 ⟨rfl, r1, hr, hS⟩
        go_wp2
        go_roundg (i + (j - i))
        case measure => omega
        case rel => exact ⟨i, j - i, r1, rfl, by rw [← ed], hi0, by omega, hiI, by omega, Nat.le_refl _, hr.1.trans hds, hS, (show ∀ r, ROTS r1 r (m - i) m (m + (j - i)) → ROTS d r a m b from fun r h => HQ.out r (rot_step_lt (d' := r1) (by omega) (by omega) (by omega) (by rw [show m - (m - i) = i by omega]; exact hr) (by rw [show m + j - (m - (m - i)) = m + (j - i) by omega]; exact h)))⟩
end Go.Proofs.YtifeakmbeaflgaaDoor
