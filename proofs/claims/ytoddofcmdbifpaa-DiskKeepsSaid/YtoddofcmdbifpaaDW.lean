/- The second law, walked. Made by gendw10.py. -/
import Derived.Test.YtoddofcmdbifpaaDV
set_option linter.unusedVariables false
set_option linter.unusedSimpArgs false
set_option maxRecDepth 100000
namespace Go.Proofs.Ytoddofcmdbifpaa
open Go.RowKit Go.WideMaps Go.Maps

theorem take_app (p q : List Int) (n k : Nat) (h : k ≤ p.length + n) : (p ++ q.take n).take k = (p ++ q).take k := by
  rw [List.take_append, List.take_append, List.take_take]
  congr 2
  omega
theorem bneb_ (a b : Int) (h : a ≠ b) : (a == b) = false := by simpa using h
theorem keeps_create {w : World} {B d : Nat} (h : DK w B d ⟨none, 16777216, [], false, 0, false⟩) (hB : B ≤ w.heap.size) : Calls Try.prog 11 #[pv d, .string nmA] w fun e w' => e = .returned (.int .i64 0) ∧ ∃ m, Out B d ⟨none, 16777216, [], false, 0, false⟩ ⟨m, 16777216, [zf nmA], false, 0, false⟩ w w' := by
  refine (create_any w B d _ h hB nmA nmA_le (by simp)).mono ?_
  rintro e w' ⟨rfl, m', ho⟩
  exact ⟨rfl, m', ho⟩
set_option maxHeartbeats 25600000 in
theorem keeps_law (w : World) (v0 : Value) (l : List Ac) (hl : LiesK enc6 6 w v0 l) (hx : ∀ x ∈ l, AcOk w x) : Calls Try.prog 4 #[v0] w fun e w' => e = .returned (.bool true) ∧ Below w.heap.size w w' := by
  have NW := Lib.hid (new_any w 16777216 ⟨by omega, by omega⟩)
  have LL := Lib.hid hl
  have HX := Lib.hid hx
  have AW := Lib.hid (fun (W : World) (hb : Below w.heap.size w W) => (awake_any W).mono (fun e w' hh => (show e = .returned (.bool true) ∧ Below w.heap.size w w' from ⟨hh.1, hb.trans (hh.2.mono hb.size)⟩)))
  obtain ⟨la, lc, rfl⟩ := hl.shape
  have hlm := hl.len
  obtain ⟨i0, hi, hz0, hz1, hz2⟩ := info_parts info5
  clear hl hx
  go_enter Try.func4, Try.ntmps4
  go_wp2_with fail
  refine NW.out.mono ?_
  rintro e w1 ⟨rfl, hdk, hb⟩
  obtain ⟨d, hd⟩ : ∃ d, w.heap.size = d := ⟨_, rfl⟩
  have D1 := Lib.hid (show DK w1 w.heap.size d ⟨none, 16777216, [], false, 0, false⟩ from by rw [← hd]; exact hdk)
  have B1 := Lib.hid hb
  have CR := Lib.hid (keeps_create D1.out B1.out.size)
  rw [hd]
  clear hdk hb hd NW
  go_wp2_with fail
  refine CR.out.mono ?_
  rintro e w2 ⟨rfl, m, ho⟩
  have K0 := Lib.hid (show HI w w2 d ⟨m, 16777216, [zf nmA], false, 0, false⟩ (zf nmA) (.slice none 0 0) (zf nmA).b 0 from ⟨ho.dk, rfl, rfl, Int.le_refl _, rfl, World.ownsRow_nil _ _ _ _, (fun j e => by cases e), B1.out.trans (ho.bel D1.out B1.out.size)⟩)
  clear ho CR D1 B1
  go_wp2_with fail
  go_loopw [5, 6, 7] (fun u5 u6 u7 wr => ∃ (i : Nat) (s : DS) (x : Fl) (sr : Int), u6 = .int .i64 sr ∧ u7 = .int .i64 i ∧ i ≤ l.length ∧ Hid (HI w wr d s x u5 x.b sr ∧ x.b.length ≤ i * 100 ∧ i ≤ 60)) (fun _ _ u7 _ => l.length - (intOf u7).toNat)
  case atStart => exact ⟨0, _, zf nmA, 0, rfl, rfl, Nat.zero_le _, Lib.hid ⟨K0.out, Nat.le_refl _, Nat.zero_le _⟩⟩
  case round =>
    obtain ⟨i, s, x, sr, rfl, rfl, hil, hK⟩ := hrel
    have K := Lib.hid hK.out.1
    have XL := Lib.hid hK.out.2
    obtain ⟨va, vc, rfl⟩ := own_shapeK K.out.own
    clear hK K0
    by_cases h1 : i < l.length
    · by_cases h2 : i < 60
      · obtain ⟨g, o, a, rfl, ha, hg, a0, a1, a2, a3, a4, a5⟩ := act_at (LL.out.keep K.out.bel (Nat.le_refl _)) h1
        have AO := Lib.hid (HX.out a (List.mem_of_getElem? ha))
        have G2 := Lib.hid (show AB (wr.alloc (.cells #[.int .i64 a.k, .int .u8 a.na, .int .u8 a.t2, .int .i64 a.n, .slice a.ba a.b.length a.bc, .slice a.ka a.kp.length a.kc] 36)) wr.heap.size a from heap_alloc_new wr _)
        have K2 := Lib.hid (K.out.step (vstep wr (.cells #[.int .i64 a.k, .int .u8 a.na, .int .u8 a.t2, .int .i64 a.n, .slice a.ba a.b.length a.bc, .slice a.ka a.kp.length a.kc] 36)))
        have NB := Lib.hid (show ¬ Has d s wr.heap.size from fun q => by have := (K.out.dk.base _ q).2; omega)
        have VB := Lib.hid (show (Value.slice va x.b.length vc).ownBlock ≠ some wr.heap.size from fun e => by have := (K.out.own.lt _ e).2; omega)
        go_upto_region 10 with (fail)
        obtain ⟨W2, hW2⟩ : ∃ z, wr.alloc (.cells #[.int .i64 a.k, .int .u8 a.na, .int .u8 a.t2, .int .i64 a.n, .slice a.ba a.b.length a.bc, .slice a.ka a.kp.length a.kc] 36) = z := ⟨_, rfl⟩
        rw [hW2] at G2 K2 ⊢
        obtain ⟨bx, hbx⟩ : ∃ bx, wr.heap.size = bx := ⟨_, rfl⟩
        rw [hbx] at G2 NB VB ⊢
        clear hW2 hbx a0 a1 a2 a3 a4 a5 hg ha K
        obtain ⟨c0, c3, c4, c5⟩ := G2.out.cells
        by_cases hB : (100 : Int) < (a.b.length : Int)
        · have A2 := Lib.hid (AW.out W2 K2.out.bel)
          go_wp2_with fail
          refine A2.out.mono ?_
          rintro e w9 ⟨rfl, hb9⟩
          have B9 := Lib.hid hb9
          clear hb9
          go_wp2
          go_returns
          exact ⟨rfl, B9.out⟩
        · obtain ⟨kk, hkk⟩ : ∃ kk, a.k = kk := ⟨_, rfl⟩
          rw [hkk] at c0
          clear hkk
          have hbl : a.b.length ≤ 100 := by omega
          have NX := Lib.hid (And.intro h1 h2)
          by_cases q1 : kk = 1
          · subst q1
            have DN := Lib.hid (down_any W2 _ d s K2.out.dk)
            cases hdn : s.dn with
            | true =>
              rw [hdn] at DN
              go_wp2_with fail
              refine DN.out.mono ?_
              rintro e w9 ⟨rfl, rfl⟩
              go_wp2
              go_roundw
              case rel => exact ⟨i + 1, s, x, sr, rfl, by go_num, by have := NX.out.1; omega, Lib.hid ⟨K2.out, by have := XL.out.1; omega, by have := NX.out.2; omega⟩⟩
              case measure => have := NX.out.1; simp [intOf]; omega
            | false =>
              rw [hdn] at DN
              have AP := Lib.hid (append_one K2.out.dk K2.out.bel.size K2.out.l K2.out.n hdn (.slice a.ba a.b.length a.bc) a.b (K2.out.ok AO.out).1 (K2.out.foe AO.out.1) (by omega) (by rw [K2.out.room]; have := XL.out.1; have := XL.out.2; omega))
              go_wp2_with fail
              refine DN.out.mono ?_
              rintro e w9 ⟨rfl, rfl⟩
              go_wp2_with fail
              refine AP.out.mono ?_
              rintro e w3 ⟨s2, x2, ho, hl2, hn2, hs2, hr2, hcase⟩
              have K3 := Lib.hid (K2.out.out ho hl2 hn2 (by rw [hs2]; exact K2.out.sl) hr2)
              have G3 := Lib.hid (G2.out.far ho.far NB.out)
              have SR := Lib.hid ((K3.out.ok AO.out).1.src Try.u33 encB_len (by omega) encB_one)
              have HQ := Lib.hid (show x.b.length + a.b.length ≤ maxLen ∧ (x.b.length + a.b.length) * 1 ≤ 140737488355328 ∧ w.heap.size ≤ w3.heap.size from ⟨by have := XL.out.1; have := XL.out.2; unfold maxLen; omega, by have := XL.out.1; have := XL.out.2; omega, K3.out.bel.size⟩)
              clear c0 c3 c4 c5 ho hl2 hn2 hs2 hr2 AP DN
              obtain ⟨c0, c3, c4, c5⟩ := G3.out.cells
              clear c0 c3
              have HC := Lib.hid hcase
              clear hcase
              rcases HC.out with ⟨rfl, hdn2, n, hn, hb2⟩ | ⟨rfl, hb2⟩
              · have HB2 := Lib.hid hb2
                clear hb2 HC
                go_upto_region 20 with (at_builtin; refine wpList_append_src_own rfl (.tmp 61) (.tmp 63) 33 33 rfl w.heap.size 5 i0 (.int .u8 0) 1 1 Try.u33 hi hz0 hz1 hz2 rfl (by decide) (.slice va x.b.length vc) x.b.length (x.b.flatMap encB) rfl K3.out.own (.slice a.ba a.b.length a.bc) a.b.length (a.b.flatMap encB) rfl SR.out HQ.out.1 HQ.out.2.1 HQ.out.2.2 ?_; intro v6 w6 hown hgr hsp; have P6 := Lib.hid (And.intro hown (And.intro hgr hsp)); clear hown hgr hsp)
                have K6 := Lib.hid (K3.out.push (bs := a.b) (by rw [List.length_append, List.flatMap_append]; exact P6.out.1) P6.out.2.1 P6.out.2.2)
                have G6 := Lib.hid (show AB w6 bx a from (P6.out.2.1.block bx (lt_of_block G3.out) (fun e => VB.out e.symm)).trans G3.out)
                clear c4 c5 P6 SR HQ K3 G3
                obtain ⟨c0, c3, c4, c5⟩ := G6.out.cells
                clear c0 c3 c4
                have DN2 := Lib.hid hdn2
                have LB2 := Lib.hid (show x2.b.length ≤ x.b.length + n ∧ n ≤ a.b.length from ⟨by rw [HB2.out, List.length_append, List.length_take]; omega, hn⟩)
                have LB := Lib.hid (show x2.b.length ≤ x.b.length + a.b.length ∧ x.b.length + a.b.length ≤ 6100 from ⟨by have := LB2.out; omega, by have := XL.out.1; have := XL.out.2; omega⟩)
                clear hdn2 hn
                have BO := Lib.hid (boot_one K6.out.dk K6.out.l K6.out.n (.slice a.ka a.kp.length a.kc) a.kp (K6.out.ok AO.out).2.1 (K6.out.foe AO.out.2.1))
                go_wp2_with fail
                refine BO.out.mono ?_
                rintro e w7 ⟨rfl, s3, x3, ho3, hd3, hl3, hn3, hb3, hle3, hs3, hr3, hq3⟩
                have K7 := Lib.hid (K6.out.out ho3 hl3 hn3 (Int.le_trans K6.out.sl hs3) hr3)
                have LE3 := Lib.hid hle3
                have HB3 := Lib.hid hb3
                have HQ3 := Lib.hid hq3
                have SU3 := Lib.hid (K7.out.dk.sure x3 (by rw [K7.out.l]; exact List.mem_cons_self ..))
                have RD := Lib.hid (read_one K7.out.dk K7.out.bel.size K7.out.l K7.out.n hd3 (by have := LE3.out; have := LB.out; omega))
                clear ho3 hd3 hl3 hn3 hb3 hle3 hs3 hr3 hq3 BO
                go_wp2_with fail
                refine RD.out.mono ?_
                rintro e w8 ⟨v8, rfl, ho8, hb8⟩
                obtain ⟨va8, vc8, rfl⟩ := own_shapeK ho8
                have OB8 := Lib.hid (And.intro ho8 hb8)
                have ST := Lib.hid (start_true w8 (.slice va8 x3.b.length vc8) _ x3.b (x.b ++ a.b) (own_liesK encB_len ho8) (own_liesK encB_len (K7.out.step hb8).own) sr (by
                  rw [HB3.out]; conv => lhs; rw [HB2.out]
                  conv => rhs; rw [← HB3.out]
                  exact take_app _ _ _ _ (by have := LE3.out; have := LB2.out; omega)) (by have := LE3.out; simp only [List.length_append] at *; have := LB2.out; omega) (by have := SU3.out.2; have := K7.out.sl; omega) (by have := LB.out; rw [List.length_append]; omega))
                clear ho8 hb8 RD
                go_wp2_with fail
                refine ST.out.mono ?_
                rintro e w9 ⟨rfl, hb9⟩
                have B99 := Lib.hid hb9
                clear hb9 ST
                have KF := Lib.hid ((K7.out.fresh OB8.out.2 OB8.out.1 (x3.b.length : Int) (by rw [HQ3.out DN2.out]; exact Int.le_refl _)).step B99.out)
                have LF := Lib.hid (show x3.b.length ≤ (i + 1) * 100 ∧ i + 1 ≤ 60 from ⟨by have := LE3.out; have := LB2.out; have := XL.out.1; omega, by have := NX.out.2; omega⟩)
                have SU := Lib.hid (sure_one KF.out.dk KF.out.l KF.out.n)
                have hns : ¬ (x3.s < (x3.b.length : Int)) := by have := KF.out.sl; omega
                go_wp2_with fail
                refine SU.out.mono ?_
                rintro e w99 ⟨rfl, rfl⟩
                go_wp2
                go_roundw
                case rel => exact ⟨i + 1, s3, x3, (x3.b.length : Int), rfl, by go_num, by have := NX.out.1; omega, Lib.hid ⟨KF.out, LF.out⟩⟩
                case measure => have := NX.out.1; simp [intOf]; omega
              · have HB2 := Lib.hid hb2
                clear hb2 HC
                go_upto_region 20 with (at_builtin; refine wpList_append_src_own rfl (.tmp 61) (.tmp 63) 33 33 rfl w.heap.size 5 i0 (.int .u8 0) 1 1 Try.u33 hi hz0 hz1 hz2 rfl (by decide) (.slice va x.b.length vc) x.b.length (x.b.flatMap encB) rfl K3.out.own (.slice a.ba a.b.length a.bc) a.b.length (a.b.flatMap encB) rfl SR.out HQ.out.1 HQ.out.2.1 HQ.out.2.2 ?_; intro v6 w6 hown hgr hsp; have P6 := Lib.hid (And.intro hown (And.intro hgr hsp)); clear hown hgr hsp)
                have K6 := Lib.hid (K3.out.push (bs := a.b) (by rw [List.length_append, List.flatMap_append]; exact P6.out.1) P6.out.2.1 P6.out.2.2)
                have G6 := Lib.hid (show AB w6 bx a from (P6.out.2.1.block bx (lt_of_block G3.out) (fun e => VB.out e.symm)).trans G3.out)
                clear c4 c5 P6 SR HQ K3 G3
                obtain ⟨c0, c3, c4, c5⟩ := G6.out.cells
                clear c0 c3 c4
                have KF := Lib.hid (show HI w w6 d s2 x2 v6 x2.b sr from by rw [HB2.out]; exact K6.out)
                have LF := Lib.hid (show x2.b.length ≤ (i + 1) * 100 ∧ i + 1 ≤ 60 from ⟨by rw [HB2.out, List.length_append]; have := XL.out.1; omega, by have := NX.out.2; omega⟩)
                have SU := Lib.hid (sure_one KF.out.dk KF.out.l KF.out.n)
                have hns : ¬ (x2.s < sr) := by have := KF.out.sl; omega
                go_wp2_with fail
                refine SU.out.mono ?_
                rintro e w99 ⟨rfl, rfl⟩
                go_wp2
                go_roundw
                case rel => exact ⟨i + 1, s2, x2, sr, rfl, by go_num, by have := NX.out.1; omega, Lib.hid ⟨KF.out, LF.out⟩⟩
                case measure => have := NX.out.1; simp [intOf]; omega
          · have r1 := bneb_ _ _ q1
            by_cases q2 : kk = 2
            · subst q2
              have DN := Lib.hid (down_any W2 _ d s K2.out.dk)
              cases hdn : s.dn with
              | true =>
                rw [hdn] at DN
                go_wp2_with fail
                refine DN.out.mono ?_
                rintro e w9 ⟨rfl, rfl⟩
                go_wp2
                go_roundw
                case rel => exact ⟨i + 1, s, x, sr, rfl, by go_num, by have := NX.out.1; omega, Lib.hid ⟨K2.out, by have := XL.out.1; omega, by have := NX.out.2; omega⟩⟩
                case measure => have := NX.out.1; simp [intOf]; omega
              | false =>
                rw [hdn] at DN
                have AP := Lib.hid (append_one K2.out.dk K2.out.bel.size K2.out.l K2.out.n hdn (.slice a.ba a.b.length a.bc) a.b (K2.out.ok AO.out).1 (K2.out.foe AO.out.1) (by omega) (by rw [K2.out.room]; have := XL.out.1; have := XL.out.2; omega))
                go_wp2_with fail
                refine DN.out.mono ?_
                rintro e w9 ⟨rfl, rfl⟩
                go_wp2_with fail
                refine AP.out.mono ?_
                rintro e w3 ⟨s2, x2, ho, hl2, hn2, hs2, hr2, hcase⟩
                have K3 := Lib.hid (K2.out.out ho hl2 hn2 (by rw [hs2]; exact K2.out.sl) hr2)
                have G3 := Lib.hid (G2.out.far ho.far NB.out)
                have SR := Lib.hid ((K3.out.ok AO.out).1.src Try.u33 encB_len (by omega) encB_one)
                have HQ := Lib.hid (show x.b.length + a.b.length ≤ maxLen ∧ (x.b.length + a.b.length) * 1 ≤ 140737488355328 ∧ w.heap.size ≤ w3.heap.size from ⟨by have := XL.out.1; have := XL.out.2; unfold maxLen; omega, by have := XL.out.1; have := XL.out.2; omega, K3.out.bel.size⟩)
                clear c0 c3 c4 c5 ho hl2 hn2 hs2 hr2 AP DN
                obtain ⟨c0, c3, c4, c5⟩ := G3.out.cells
                clear c0 c3
                have HC := Lib.hid hcase
                clear hcase
                rcases HC.out with ⟨rfl, hdn2, n, hn, hb2⟩ | ⟨rfl, hb2⟩
                · have HB2 := Lib.hid hb2
                  clear hb2 HC
                  go_upto_region 20 with (at_builtin; refine wpList_append_src_own rfl (.tmp 61) (.tmp 63) 33 33 rfl w.heap.size 5 i0 (.int .u8 0) 1 1 Try.u33 hi hz0 hz1 hz2 rfl (by decide) (.slice va x.b.length vc) x.b.length (x.b.flatMap encB) rfl K3.out.own (.slice a.ba a.b.length a.bc) a.b.length (a.b.flatMap encB) rfl SR.out HQ.out.1 HQ.out.2.1 HQ.out.2.2 ?_; intro v6 w6 hown hgr hsp; have P6 := Lib.hid (And.intro hown (And.intro hgr hsp)); clear hown hgr hsp)
                  have K6 := Lib.hid (K3.out.push (bs := a.b) (by rw [List.length_append, List.flatMap_append]; exact P6.out.1) P6.out.2.1 P6.out.2.2)
                  have G6 := Lib.hid (show AB w6 bx a from (P6.out.2.1.block bx (lt_of_block G3.out) (fun e => VB.out e.symm)).trans G3.out)
                  clear c4 c5 P6 SR HQ K3 G3
                  obtain ⟨c0, c3, c4, c5⟩ := G6.out.cells
                  clear c0 c3 c4
                  have DN2 := Lib.hid hdn2
                  have LB2 := Lib.hid (show x2.b.length ≤ x.b.length + n ∧ n ≤ a.b.length from ⟨by rw [HB2.out, List.length_append, List.length_take]; omega, hn⟩)
                  have LB := Lib.hid (show x2.b.length ≤ x.b.length + a.b.length ∧ x.b.length + a.b.length ≤ 6100 from ⟨by have := LB2.out; omega, by have := XL.out.1; have := XL.out.2; omega⟩)
                  clear hdn2 hn
                  have BO := Lib.hid (boot_one K6.out.dk K6.out.l K6.out.n (.slice a.ka a.kp.length a.kc) a.kp (K6.out.ok AO.out).2.1 (K6.out.foe AO.out.2.1))
                  go_wp2_with fail
                  refine BO.out.mono ?_
                  rintro e w7 ⟨rfl, s3, x3, ho3, hd3, hl3, hn3, hb3, hle3, hs3, hr3, hq3⟩
                  have K7 := Lib.hid (K6.out.out ho3 hl3 hn3 (Int.le_trans K6.out.sl hs3) hr3)
                  have LE3 := Lib.hid hle3
                  have HB3 := Lib.hid hb3
                  have HQ3 := Lib.hid hq3
                  have SU3 := Lib.hid (K7.out.dk.sure x3 (by rw [K7.out.l]; exact List.mem_cons_self ..))
                  have RD := Lib.hid (read_one K7.out.dk K7.out.bel.size K7.out.l K7.out.n hd3 (by have := LE3.out; have := LB.out; omega))
                  clear ho3 hd3 hl3 hn3 hb3 hle3 hs3 hr3 hq3 BO
                  go_wp2_with fail
                  refine RD.out.mono ?_
                  rintro e w8 ⟨v8, rfl, ho8, hb8⟩
                  obtain ⟨va8, vc8, rfl⟩ := own_shapeK ho8
                  have OB8 := Lib.hid (And.intro ho8 hb8)
                  have ST := Lib.hid (start_true w8 (.slice va8 x3.b.length vc8) _ x3.b (x.b ++ a.b) (own_liesK encB_len ho8) (own_liesK encB_len (K7.out.step hb8).own) sr (by
                    rw [HB3.out]; conv => lhs; rw [HB2.out]
                    conv => rhs; rw [← HB3.out]
                    exact take_app _ _ _ _ (by have := LE3.out; have := LB2.out; omega)) (by have := LE3.out; simp only [List.length_append] at *; have := LB2.out; omega) (by have := SU3.out.2; have := K7.out.sl; omega) (by have := LB.out; rw [List.length_append]; omega))
                  clear ho8 hb8 RD
                  go_wp2_with fail
                  refine ST.out.mono ?_
                  rintro e w9 ⟨rfl, hb9⟩
                  have B99 := Lib.hid hb9
                  clear hb9 ST
                  have KF := Lib.hid ((K7.out.fresh OB8.out.2 OB8.out.1 (x3.b.length : Int) (by rw [HQ3.out DN2.out]; exact Int.le_refl _)).step B99.out)
                  have LF := Lib.hid (show x3.b.length ≤ (i + 1) * 100 ∧ i + 1 ≤ 60 from ⟨by have := LE3.out; have := LB2.out; have := XL.out.1; omega, by have := NX.out.2; omega⟩)
                  have SU := Lib.hid (sure_one KF.out.dk KF.out.l KF.out.n)
                  have hns : ¬ (x3.s < (x3.b.length : Int)) := by have := KF.out.sl; omega
                  go_wp2_with fail
                  refine SU.out.mono ?_
                  rintro e w99 ⟨rfl, rfl⟩
                  go_wp2
                  go_roundw
                  case rel => exact ⟨i + 1, s3, x3, (x3.b.length : Int), rfl, by go_num, by have := NX.out.1; omega, Lib.hid ⟨KF.out, LF.out⟩⟩
                  case measure => have := NX.out.1; simp [intOf]; omega
                · have HB2 := Lib.hid hb2
                  clear hb2 HC
                  go_upto_region 20 with (at_builtin; refine wpList_append_src_own rfl (.tmp 61) (.tmp 63) 33 33 rfl w.heap.size 5 i0 (.int .u8 0) 1 1 Try.u33 hi hz0 hz1 hz2 rfl (by decide) (.slice va x.b.length vc) x.b.length (x.b.flatMap encB) rfl K3.out.own (.slice a.ba a.b.length a.bc) a.b.length (a.b.flatMap encB) rfl SR.out HQ.out.1 HQ.out.2.1 HQ.out.2.2 ?_; intro v6 w6 hown hgr hsp; have P6 := Lib.hid (And.intro hown (And.intro hgr hsp)); clear hown hgr hsp)
                  have K6 := Lib.hid (K3.out.push (bs := a.b) (by rw [List.length_append, List.flatMap_append]; exact P6.out.1) P6.out.2.1 P6.out.2.2)
                  have G6 := Lib.hid (show AB w6 bx a from (P6.out.2.1.block bx (lt_of_block G3.out) (fun e => VB.out e.symm)).trans G3.out)
                  clear c4 c5 P6 SR HQ K3 G3
                  obtain ⟨c0, c3, c4, c5⟩ := G6.out.cells
                  clear c0 c3 c4
                  have KF := Lib.hid (show HI w w6 d s2 x2 v6 x2.b sr from by rw [HB2.out]; exact K6.out)
                  have LF := Lib.hid (show x2.b.length ≤ (i + 1) * 100 ∧ i + 1 ≤ 60 from ⟨by rw [HB2.out, List.length_append]; have := XL.out.1; omega, by have := NX.out.2; omega⟩)
                  have SU := Lib.hid (sure_one KF.out.dk KF.out.l KF.out.n)
                  have hns : ¬ (x2.s < sr) := by have := KF.out.sl; omega
                  go_wp2_with fail
                  refine SU.out.mono ?_
                  rintro e w99 ⟨rfl, rfl⟩
                  go_wp2
                  go_roundw
                  case rel => exact ⟨i + 1, s2, x2, sr, rfl, by go_num, by have := NX.out.1; omega, Lib.hid ⟨KF.out, LF.out⟩⟩
                  case measure => have := NX.out.1; simp [intOf]; omega
            · have r2 := bneb_ _ _ q2
              by_cases q3 : kk = 3
              · subst q3
                have SY := Lib.hid (sync_one K2.out.dk K2.out.l K2.out.n)
                go_wp2_with fail
                refine SY.out.mono ?_
                rintro e w3 ⟨s2, x2, ho, hl2, hn2, hb2, hr2, hcase⟩
                rcases hcase with ⟨rfl, hs2⟩ | ⟨rfl, hs2⟩
                · have K3 := Lib.hid (K2.out.out ho hl2 hn2 (by rw [hs2]; exact K2.out.sl) hr2)
                  have KF := Lib.hid (show HI w w3 d s2 x2 (.slice va x.b.length vc) x2.b sr from by rw [hb2]; exact K3.out)
                  have LF := Lib.hid (show x2.b.length ≤ (i + 1) * 100 ∧ i + 1 ≤ 60 from ⟨by rw [hb2]; have := XL.out.1; omega, by have := NX.out.2; omega⟩)
                  clear ho hl2 hn2 hb2 hr2 hs2 SY
                  have SU := Lib.hid (sure_one KF.out.dk KF.out.l KF.out.n)
                  have hns : ¬ (x2.s < sr) := by have := KF.out.sl; omega
                  go_wp2_with fail
                  refine SU.out.mono ?_
                  rintro e w99 ⟨rfl, rfl⟩
                  go_wp2
                  go_roundw
                  case rel => exact ⟨i + 1, s2, x2, sr, rfl, by go_num, by have := NX.out.1; omega, Lib.hid ⟨KF.out, LF.out⟩⟩
                  case measure => have := NX.out.1; simp [intOf]; omega
                · have SX := Lib.hid (K2.out.dk.sure x (by rw [K2.out.l]; exact List.mem_cons_self ..))
                  have K3 := Lib.hid (K2.out.out ho hl2 hn2 (by rw [hs2]; exact Int.le_trans K2.out.sl SX.out.2) hr2)
                  have KF := Lib.hid (show HI w w3 d s2 x2 (.slice va x.b.length vc) x2.b (x.b.length : Int) from by rw [hb2]; exact ⟨K3.out.dk, K3.out.l, K3.out.n, by rw [hs2]; exact Int.le_refl _, K3.out.room, K3.out.own, K3.out.ap, K3.out.bel⟩)
                  have LF := Lib.hid (show x2.b.length ≤ (i + 1) * 100 ∧ i + 1 ≤ 60 from ⟨by rw [hb2]; have := XL.out.1; omega, by have := NX.out.2; omega⟩)
                  clear ho hl2 hn2 hb2 hr2 hs2 SY
                  have SU := Lib.hid (sure_one KF.out.dk KF.out.l KF.out.n)
                  have hns : ¬ (x2.s < (x.b.length : Int)) := by have := KF.out.sl; omega
                  go_wp2_with fail
                  refine SU.out.mono ?_
                  rintro e w99 ⟨rfl, rfl⟩
                  go_wp2
                  go_roundw
                  case rel => exact ⟨i + 1, s2, x2, (x.b.length : Int), rfl, by go_num, by have := NX.out.1; omega, Lib.hid ⟨KF.out, LF.out⟩⟩
                  case measure => have := NX.out.1; simp [intOf]; omega
              · have r3 := bneb_ _ _ q3
                by_cases q7 : kk = 7
                · subst q7
                  have AR := Lib.hid (arm_one K2.out.dk a.n AO.out.2.2)
                  go_wp2_with fail
                  refine AR.out.mono ?_
                  rintro e w3 ⟨rfl, s2, ho, hl2, hr2⟩
                  have KF := Lib.hid (K2.out.out ho (hl2.trans K2.out.l) K2.out.n K2.out.sl hr2)
                  have LF := Lib.hid (show x.b.length ≤ (i + 1) * 100 ∧ i + 1 ≤ 60 from ⟨by have := XL.out.1; omega, by have := NX.out.2; omega⟩)
                  clear ho hl2 hr2 AR c0 c3 c4 c5
                  have SU := Lib.hid (sure_one KF.out.dk KF.out.l KF.out.n)
                  have hns : ¬ (x.s < sr) := by have := KF.out.sl; omega
                  go_wp2_with fail
                  refine SU.out.mono ?_
                  rintro e w99 ⟨rfl, rfl⟩
                  go_wp2
                  go_roundw
                  case rel => exact ⟨i + 1, s2, x, sr, rfl, by go_num, by have := NX.out.1; omega, Lib.hid ⟨KF.out, LF.out⟩⟩
                  case measure => have := NX.out.1; simp [intOf]; omega
                · have r7 := bneb_ _ _ q7
                  by_cases q8 : kk = 8
                  · subst q8
                    have LB := Lib.hid (show x.b.length ≤ 6000 from by have := XL.out.1; have := XL.out.2; omega)
                    have BO := Lib.hid (boot_one K2.out.dk K2.out.l K2.out.n (.slice a.ka a.kp.length a.kc) a.kp (K2.out.ok AO.out).2.1 (K2.out.foe AO.out.2.1))
                    go_wp2_with fail
                    refine BO.out.mono ?_
                    rintro e w7 ⟨rfl, s3, x3, ho3, hd3, hl3, hn3, hb3, hle3, hs3, hr3, hq3⟩
                    have K7 := Lib.hid (K2.out.out ho3 hl3 hn3 (Int.le_trans K2.out.sl hs3) hr3)
                    have LE3 := Lib.hid hle3
                    have HB3 := Lib.hid hb3
                    have HQ3 := Lib.hid hq3
                    have SU3 := Lib.hid (K7.out.dk.sure x3 (by rw [K7.out.l]; exact List.mem_cons_self ..))
                    have RD := Lib.hid (read_one K7.out.dk K7.out.bel.size K7.out.l K7.out.n hd3 (by have := LE3.out; have := LB.out; omega))
                    clear ho3 hd3 hl3 hn3 hb3 hle3 hs3 hr3 hq3 BO
                    go_wp2_with fail
                    refine RD.out.mono ?_
                    rintro e w8 ⟨v8, rfl, ho8, hb8⟩
                    obtain ⟨va8, vc8, rfl⟩ := own_shapeK ho8
                    have OB8 := Lib.hid (And.intro ho8 hb8)
                    have ST := Lib.hid (start_true w8 (.slice va8 x3.b.length vc8) _ x3.b (x.b) (own_liesK encB_len ho8) (own_liesK encB_len (K7.out.step hb8).own) sr (by
                      exact HB3.out) (by have := LE3.out; skip; omega) (by have := SU3.out.2; have := K7.out.sl; omega) (by have := LB.out; skip; omega))
                    clear ho8 hb8 RD
                    go_wp2_with fail
                    refine ST.out.mono ?_
                    rintro e w9 ⟨rfl, hb9⟩
                    have B99 := Lib.hid hb9
                    clear hb9 ST
                    have KF := Lib.hid ((K7.out.fresh OB8.out.2 OB8.out.1 sr K7.out.sl).step B99.out)
                    have LF := Lib.hid (show x3.b.length ≤ (i + 1) * 100 ∧ i + 1 ≤ 60 from ⟨by have := LE3.out; have := XL.out.1; omega, by have := NX.out.2; omega⟩)
                    clear c0 c3 c4 c5
                    have SU := Lib.hid (sure_one KF.out.dk KF.out.l KF.out.n)
                    have hns : ¬ (x3.s < sr) := by have := KF.out.sl; omega
                    go_wp2_with fail
                    refine SU.out.mono ?_
                    rintro e w99 ⟨rfl, rfl⟩
                    go_wp2
                    go_roundw
                    case rel => exact ⟨i + 1, s3, x3, sr, rfl, by go_num, by have := NX.out.1; omega, Lib.hid ⟨KF.out, LF.out⟩⟩
                    case measure => have := NX.out.1; simp [intOf]; omega
                  · have r8 := bneb_ _ _ q8
                    have KF := Lib.hid K2.out
                    have LF := Lib.hid (show x.b.length ≤ (i + 1) * 100 ∧ i + 1 ≤ 60 from ⟨by have := XL.out.1; omega, by have := NX.out.2; omega⟩)
                    have SU := Lib.hid (sure_one KF.out.dk KF.out.l KF.out.n)
                    have hns : ¬ (x.s < sr) := by have := KF.out.sl; omega
                    go_wp2_with fail
                    refine SU.out.mono ?_
                    rintro e w99 ⟨rfl, rfl⟩
                    go_wp2
                    go_roundw
                    case rel => exact ⟨i + 1, s, x, sr, rfl, by go_num, by have := NX.out.1; omega, Lib.hid ⟨KF.out, LF.out⟩⟩
                    case measure => have := NX.out.1; simp [intOf]; omega
      · have h2' : ¬ ((i : Int) < 60) := by omega
        have A2 := Lib.hid (AW.out wr K.out.bel)
        go_wp2_with fail
        refine A2.out.mono ?_
        rintro e w9 ⟨rfl, hb9⟩
        have B9 := Lib.hid hb9
        clear hb9
        go_wp2
        go_returns
        exact ⟨rfl, B9.out⟩
    · have h1' : ¬ ((i : Int) < (l.length : Int)) := by omega
      have A2 := Lib.hid (AW.out wr K.out.bel)
      go_wp2_with fail
      refine A2.out.mono ?_
      rintro e w9 ⟨rfl, hb9⟩
      have B9 := Lib.hid hb9
      clear hb9
      go_wp2
      go_returns
      exact ⟨rfl, B9.out⟩
end Go.Proofs.Ytoddofcmdbifpaa
