/- slices.SortStableFunc's family at ops: the insertion sort. Made by genqb7.py. -/
import Derived.Test.YtifeakmbeaflgaaDoorQB
set_option linter.unusedVariables false
set_option linter.unusedSimpArgs false
set_option maxRecDepth 1000000
namespace Go.Proofs.YtifeakmbeaflgaaDoor
open Go.Shelf Go.RowKit Go.Lib Go.Sort

variable {P : Program} {α : Type} [Inhabited α]
set_option maxHeartbeats 4000000 in
theorem insert_any (L : LS P) (k : Nat) (aE : ∀ w, (isAgg 25).run P w = .ok true w) (zE : ∀ w, (Go.sizeOf 25).run P w = .ok k w) (enc : α → List Value) (g : Nat) (blk off cap : Nat) (d0 : Array α) (w0 : World) (R : RowK enc k w0 blk off d0) (cf : α → α → Int) (eg : ∀ args w, (callFunc g args).run P w = .ok (.enter g args) w) (hcmp : CmpLays P g #[] enc k cf blk off d0.size w0) (hl : LtOk (ltOf cf)) (d : Array α) (w : World) (hs : d0.size = d.size) (S : SWK enc k w0 blk off d w) (a b : Nat) (hab : a ≤ b) (hb : b ≤ d.size) (hsz : d.size < 4611686018427387904) :
    Calls P 88 #[.slice (some ⟨blk, off, none⟩) d.size cap, .int .i64 a, .int .i64 b, .func (.func g) #[] #[]] w fun e w' => e = .returned (.tuple #[]) ∧ ∃ r : Array α, SMS (ltOf cf) d r a b ∧ SWK enc k w0 blk off r w' := by
  have mixed := L.mixed; have t0 := L.t0; have a0 := L.a0; have z0 := L.z0; have v0 := L.v0; have t3 := L.t3; have a3 := L.a3; have z3 := L.z3; have v3 := L.v3; have t4 := L.t4; have a4 := L.a4; have z4 := L.z4; have v4 := L.v4; have t27 := L.t27; have a27 := L.a27; have z27 := L.z27; have v27 := L.v27; have t33 := L.t33; have a33 := L.a33; have z33 := L.z33; have v33 := L.v33; have t97 := L.t97; have a97 := L.a97; have z97 := L.z97; have v97 := L.v97
  have HC : Aside _ := hcmp
  have HLT : Aside _ := hl
  have S0 : Aside (SWK enc k w0 blk off d w) := S
  clear hcmp hl S
  go_enter L.f88, Tryd.ntmps88
  go_wp2
  go_loopg [8] (b - a) (fun g1 vi wr => ∃ (i : Nat) (dk : Array α), vi = .int .i64 i ∧ a < i ∧ i ≤ b + 1 ∧ (i ≤ b ∨ a = b) ∧ b + 1 - i ≤ g1 + 1 ∧ dk.size = d.size ∧ Aside (SWK enc k w0 blk off dk wr) ∧ Hid (OutS d dk a b ∧ (∀ z, cls (ltOf cf) dk a b z = cls (ltOf cf) d a b z) ∧ SrtS (ltOf cf) dk a i))
  case atStart => exact ⟨a + 1, d, by go_num, by omega, by omega, by omega, by omega, rfl, S0, (show OutS d d a b ∧ _ ∧ _ from ⟨OutS.refl _ _ _, fun z => rfl, fun x y x1 xy y2 => by omega⟩)⟩
  case round =>
    clear S0
    obtain ⟨i, dk, rfl, hai, hib, hib2, hg1, hsk, S1, HO⟩ := hrel
    by_cases hlt : i < b
    · have hltz : (i : Int) < (b : Int) := by omega
      go_wp2
      go_loopg [9] i (fun g2 vj wr2 => ∃ (j : Nat) (dj : Array α), vj = .int .i64 j ∧ a ≤ j ∧ j ≤ i ∧ j ≤ g2 ∧ dj.size = d.size ∧ Aside (SWK enc k w0 blk off dj wr2) ∧ Hid (INS (ltOf cf) d dj a b i j))
      case atStart => exact ⟨i, dk, rfl, by omega, Nat.le_refl _, Nat.le_refl _, hsk, S1, (show INS (ltOf cf) d dk a b i i from INS.start HO.out.1 HO.out.2.1 HO.out.2.2)⟩
      case round =>
        clear S1
        obtain ⟨j, dj, rfl, haj, hji, hg2, hsj, S1, HI⟩ := hrel
        by_cases hja : a < j
        · have hjaz : (a : Int) < (j : Int) := by omega
          obtain ⟨jp, rfl⟩ : ∃ jp, j = jp + 1 := ⟨j - 1, by omega⟩
          have hjaz' : (a : Int) < (jp : Int) + 1 := by omega
          cases hlv : ltOf cf dj[jp + 1]! dj[jp]! with
          | true =>
            have eac : ((jp : Int) + 1).toNat = jp + 1 := by omega
            have pac : (0 : Int) ≤ (jp : Int) + 1 := by omega
            have bac : (jp : Int) + 1 < (d.size : Int) := by omega
            have rac : IntKind.i64.wrap ((jp : Int) + 1) = (jp : Int) + 1 := by rw [IntKind.wrap_i64]; omega
            have ecc : ((jp : Int)).toNat = jp := by omega
            have pcc : (0 : Int) ≤ (jp : Int) := by omega
            have bcc : (jp : Int) < (d.size : Int) := by omega
            have rcc : IntKind.i64.wrap ((jp : Int)) = (jp : Int) := by rw [IntKind.wrap_i64]; omega
            obtain ⟨xc, hxc⟩ : ∃ x, x = dj[jp + 1]! := ⟨_, rfl⟩
            obtain ⟨yc, hyc⟩ : ∃ x, x = dj[jp]! := ⟨_, rfl⟩
            have lac := S1.out.ld R (by omega) P (jp + 1) (by omega)
            have lbc := S1.out.ld R (by omega) P (jp) (by omega)
            rw [← hxc] at lac
            rw [← hyc] at lbc
            have hcc := S1.out.cmp HC.out (by omega) xc yc
            have hvc : cf xc yc < 0 := by rw [hxc, hyc]; exact of_decide_eq_true (hlv)
            have hdc : decide (cf xc yc < 0) = true := decide_eq_true hvc
            clear hxc hyc
            go_wp2_with fail
            go_quiet_grown (first | (go_at_fn g; refine Calls.grown_of (hcc _ _)))
            have S2 : Aside (SWK enc k w0 blk off dj (grow (wr.drewN nq) osq)) := S1.out.grown nq osq
            clear lac lbc hcc S1
            generalize grow (wr.drewN nq) osq = w2 at S2 ⊢
            clear nq osq
            go_wp2_with fail
            have eas : ((jp : Int) + 1).toNat = jp + 1 := by omega
            have pas : (0 : Int) ≤ (jp : Int) + 1 := by omega
            have bas : (jp : Int) + 1 < (d.size : Int) := by omega
            have ras : IntKind.i64.wrap ((jp : Int) + 1) = (jp : Int) + 1 := by rw [IntKind.wrap_i64]; omega
            have ecs : ((jp : Int)).toNat = jp := by omega
            have pcs : (0 : Int) ≤ (jp : Int) := by omega
            have bcs : (jp : Int) < (d.size : Int) := by omega
            have rcs : IntKind.i64.wrap ((jp : Int)) = (jp : Int) := by rw [IntKind.wrap_i64]; omega
            have S3 : Aside (SWK enc k w0 blk off (swp dj (jp + 1) (jp)) ((w2.drew.setCells blk (off + (jp + 1) * k) (enc dj[jp]!)).setCells blk (off + (jp) * k) (enc dj[jp + 1]!))) := S2.out.swapped R (jp + 1) (jp) (by omega) (by omega)
            have las := S2.out.ld1 R (by omega) P (jp + 1) (by omega)
            have lbs := S2.out.ld1 R (by omega) P (jp) (by omega)
            have sas := S2.out.st1 R (by omega) P (jp + 1) (by omega) dj[jp]!
            have sbs := S2.out.st2 R (by omega) P (jp + 1) (jp) (by omega) (by omega) dj[jp]! dj[jp + 1]!
            have nas : (enc dj[jp + 1]!).length = k := R.hk _
            have nbs : (enc dj[jp]!).length = k := R.hk _
            generalize enc dj[jp + 1]! = cIs at S3 las sbs nas
            generalize enc dj[jp]! = cJs at S3 lbs sas sbs nbs
            clear S2
            go_wp2_with fail
            go_big_region_o
            clear las lbs sas sbs
            generalize (w2.drew.setCells blk (off + (jp + 1) * k) cJs).setCells blk (off + (jp) * k) cIs = w3 at S3 ⊢
            go_wp2
            go_roundg jp
            case measure => omega
            case rel => exact ⟨jp, swp dj (jp + 1) jp, by first | rfl | go_num | (congr 1; omega), by omega, by omega, Nat.le_refl _, by rw [size_swp]; exact hsj, S3, (show INS (ltOf cf) d _ a b i jp from INS.next HLT.out HI.out (nsw_swp' dj (by omega)) (by omega) (by omega) hlt hlv)⟩
          | false =>
            have hst := INS.stop HLT.out HI.out hji (Or.inr hlv) haj
            have HST : Aside _ := hst
            clear hst
            have eac : ((jp : Int) + 1).toNat = jp + 1 := by omega
            have pac : (0 : Int) ≤ (jp : Int) + 1 := by omega
            have bac : (jp : Int) + 1 < (d.size : Int) := by omega
            have rac : IntKind.i64.wrap ((jp : Int) + 1) = (jp : Int) + 1 := by rw [IntKind.wrap_i64]; omega
            have ecc : ((jp : Int)).toNat = jp := by omega
            have pcc : (0 : Int) ≤ (jp : Int) := by omega
            have bcc : (jp : Int) < (d.size : Int) := by omega
            have rcc : IntKind.i64.wrap ((jp : Int)) = (jp : Int) := by rw [IntKind.wrap_i64]; omega
            obtain ⟨xc, hxc⟩ : ∃ x, x = dj[jp + 1]! := ⟨_, rfl⟩
            obtain ⟨yc, hyc⟩ : ∃ x, x = dj[jp]! := ⟨_, rfl⟩
            have lac := S1.out.ld R (by omega) P (jp + 1) (by omega)
            have lbc := S1.out.ld R (by omega) P (jp) (by omega)
            rw [← hxc] at lac
            rw [← hyc] at lbc
            have hcc := S1.out.cmp HC.out (by omega) xc yc
            have hvc : ¬ cf xc yc < 0 := by rw [hxc, hyc]; exact of_decide_eq_false (hlv)
            have hdc : decide (cf xc yc < 0) = false := decide_eq_false hvc
            clear hxc hyc
            go_wp2_with fail
            go_quiet_grown (first | (go_at_fn g; refine Calls.grown_of (hcc _ _)))
            have S2 : Aside (SWK enc k w0 blk off dj (grow (wr.drewN nq) osq)) := S1.out.grown nq osq
            clear lac lbc hcc S1
            generalize grow (wr.drewN nq) osq = w2 at S2 ⊢
            clear nq osq
            go_wp2
            go_roundg (b - (i + 1))
            case measure => omega
            case rel => exact ⟨i + 1, dj, by go_num, by omega, by omega, by omega, by omega, hsj, S2, (show OutS d dj a b ∧ _ ∧ _ from ⟨HI.out.out, HI.out.cl, HST.out⟩)⟩
        · have hjaz : decide ((j : Int) > (a : Int)) = false := decide_eq_false (by omega)
          have hjaz' : ¬ (a : Int) < (j : Int) := by omega
          have hst := INS.stop HLT.out HI.out hji (Or.inl (by omega)) haj
          have HST : Aside _ := hst
          have S2 : Aside (SWK enc k w0 blk off dj wr.drew) := S1.out.drew
          clear hst S1
          go_wp2_with fail
          go_big_region_o
          all_goals go_wp2
          go_roundg (b - (i + 1))
          case measure => omega
          case rel => exact ⟨i + 1, dj, by go_num, by omega, by omega, by omega, by omega, hsj, S2, (show OutS d dj a b ∧ _ ∧ _ from ⟨HI.out.out, HI.out.cl, HST.out⟩)⟩
    · have hltz : ¬ (i : Int) < (b : Int) := by omega
      go_wp2
      go_end0
      exact ⟨rfl, dk, ⟨HO.out.1, HO.out.2.2.sub (Nat.le_refl _) (by omega), HO.out.2.1⟩, S1.out⟩
end Go.Proofs.YtifeakmbeaflgaaDoor
