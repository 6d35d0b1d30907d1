/- TreePlays, walked. Made by genqw14.py. -/
import Derived.Test.YtkmeceoilighiaaRZ
set_option linter.unusedVariables false
set_option linter.unusedSimpArgs false
set_option maxRecDepth 100000
namespace Go.Proofs.Ytkmeceoilighiaa
open Go.RowKit Go.Shelf
open Tb (Rw setF dropF getF aboveF Rise TabI TM LiesK LiesR nodesF encS ltS kidsF)

theorem P2.new {w w0 w2 : World} {p q mb : Nat} {a b : Int} (hb0 : Below w.heap.size w w0) (hs : w0.heap.size = w.heap.size + 1) (hn : w0.heap[w.heap.size]? = some (.cells #[.int .i64 a, .int .i64 b] 24 (0, 0))) (ht : TreeI w2 w0.heap.size p q mb [] 0 0 [] none 0) (hb : Below w0.heap.size w0 w2) :
    P2 w (w2.alloc (.cells #[.slice none 0 0, .int .i64 0, .int .i64 0, .slice none 0 0] 32)) w2.heap.size p q mb a b [] 0 0 [] none 0 [] 0 0 [] none 0 0 none 0 := by
  have B2 := pl_vstep w2 (.cells #[.slice none 0 0, .int .i64 0, .int .i64 0, .slice none 0 0] 32)
  have hbb := hb0.trans (hb.mono hb0.size)
  rw [hs] at ht
  exact ⟨hbb.trans (B2.mono hbb.size), (B2.block _ (by have := hb.size; omega)).trans ((hb.block _ (pl_lt hn)).trans hn), heap_alloc_new w2 _, by have := hb.size; omega, ht.step B2, LiesK.nil _, OLies.nil _, (fun k e => by cases e), (fun k e => by cases e)⟩
theorem slice_len {W : World} {a : Option Addr} {n c : Nat} {l : List O} (h : OLies W (.slice a n c) l) : n = l.length := by
  obtain ⟨_, _, hsh⟩ := h.shape
  injection hsh
theorem yields_ext {ops : Array Oper} {S : World → Prop} {op : Oper} {a : Act} (x : Operand) (ix : Nat) (v r : Value) (hS : ∀ w, (Instr.extract v ix).run Try.prog w = .ok r w) (hw : Region.wanted op (yielded ops a.tmps) = true) (ho : op.op = .extract x ix) (hx : a.eval x = v) : YieldsIf Try.prog ops S op r a :=
  .inl ⟨hw, fun w hw' => by
    unfold execOp
    simp only [ho, hx, hS w, Sem.run_bind, Sem.run_pure, Result.andThen_ok]⟩
theorem ex3_0 (a b c : Value) (w : World) : (Instr.extract (.tuple #[a, b, c]) 0).run Try.prog w = .ok a w := rfl
theorem ex3_1 (a b c : Value) (w : World) : (Instr.extract (.tuple #[a, b, c]) 1).run Try.prog w = .ok b w := rfl
theorem ex3_2 (a b c : Value) (w : World) : (Instr.extract (.tuple #[a, b, c]) 2).run Try.prog w = .ok c w := rfl
theorem ex2_0 (a b : Value) (w : World) : (Instr.extract (.tuple #[a, b]) 0).run Try.prog w = .ok a w := rfl
theorem ex2_1 (a b : Value) (w : World) : (Instr.extract (.tuple #[a, b]) 1).run Try.prog w = .ok b w := rfl
/-- Behind the reference's call: its answer, boxed. -/
structure AFT (V W : World) (kb k6 p q mb : Nat) (la : Option Addr) (ba : Option Addr) (bn bc : Nat) (gt gr : Int) (ra : Option Addr) (rc : Nat) (T2 : List Rw) (L2 : List O) : Prop where
  bel : Below V.heap.size V W
  n2 : W.heap[kb]? = some (.cells #[.slice ba bn bc, .int .i64 gt, .int .i64 gr, .slice ra L2.length rc] 32 (0, 0))
  hb : LiesR W (.slice ba bn bc) T2
  so : OLies W (.slice ra L2.length rc) L2
  a1 : Away W (.slice ba bn bc) k6 p q mb la
  a2 : Away W (.slice ra L2.length rc) k6 p q mb la
set_option maxHeartbeats 102400000 in
theorem plays_law (w : World) (v : Value) (l : List (Int × O)) (h : LiesK encA 10 w v l) (hok : ∀ x ∈ l, OkO x.2) (hsz : ∀ x ∈ l, x.2.nm.size ≤ 9223372036854775807) (a b : Int) :
    Calls Try.prog 3 #[v, .agg #[.int .i64 a, .int .i64 b]] w fun e w' => e = .returned (.bool true) ∧ Below w.heap.size w w' := by
  have hb := pl_vstep w (.cells #[.int .i64 a, .int .i64 b] 24)
  have hn := heap_alloc_new w (.cells #[.int .i64 a, .int .i64 b] 24)
  have hs : (w.alloc (.cells #[.int .i64 a, .int .i64 b] 24)).heap.size = w.heap.size + 1 := by simp
  obtain ⟨w0, hw0⟩ : ∃ z, w.alloc (.cells #[.int .i64 a, .int .i64 b] 24) = z := ⟨_, rfl⟩
  rw [hw0] at hb hn hs
  have HW := Lib.hid hw0
  have H := Lib.hid h
  have B0 := Lib.hid (And.intro hb (And.intro hs hn))
  have LG := Lib.hid (long_any w0 _ l (h.step hb))
  have HOK := Lib.hid (fun x hx => And.intro (hok x hx) (hsz x hx))
  have AW := Lib.hid (fun W => awake_any W)
  have NW := Lib.hid (fun W => new_of W)
  obtain ⟨ao, cap, rfl⟩ := h.shape
  clear hw0 hb hn hs h hok hsz
  go_enter Try.func3, Try.ntmps3
  go_upto_region 1 with (fail)
  rw [HW.out]
  go_wp2_with fail
  refine LG.out.mono ?_
  rintro e w1 ⟨rfl, rfl⟩
  obtain ⟨lg, hlg⟩ : ∃ z, longF l = z := ⟨_, rfl⟩
  rw [hlg]
  clear hlg LG
  cases lg with
  | true =>
    go_wp2_with fail
    refine (AW.out w1).mono ?_
    rintro e w5 ⟨rfl, hb⟩
    have FB := Lib.hid (B0.out.1.trans (hb.mono B0.out.1.size))
    clear hb
    go_wp2
    go_returns
    exact ⟨rfl, FB.out⟩
  | false =>
    go_wp2_with fail
    refine (NW.out w1).mono ?_
    rintro e w2 ⟨p, q, mb, rfl, ht, hb⟩
    have J0 := Lib.hid (P2.new B0.out.1 B0.out.2.1 B0.out.2.2 ht hb)
    clear ht hb NW
    go_upto_region 5 with (fail)
    obtain ⟨wS, hwS⟩ : ∃ z, w2.alloc (.cells #[.slice none 0 0, .int .i64 0, .int .i64 0, .slice none 0 0] 32) = z := ⟨_, rfl⟩
    obtain ⟨k6, hk6⟩ : ∃ z, w2.heap.size = z := ⟨_, rfl⟩
    rw [hwS, hk6] at J0
    rw [hwS]
    try rw [hk6]
    clear hwS hk6
    go_wp2_with fail
    go_loopw [7] (fun iv wr => ∃ i : Nat, iv = .int .i64 i ∧ i ≤ 40 ∧ Hid (∃ T ft fr L la lc ba bn bc ra rc, P2 w wr k6 p q mb a b T ft fr L la lc T ft fr L ba bn bc ra rc ∧ PF T L i)) (fun iv _ => 40 - (intOf iv).toNat)
    case atStart => exact ⟨0, rfl, by omega, Lib.hid ⟨_, _, _, _, _, _, _, _, _, _, _, J0.out, PF.nil⟩⟩
    case round =>
      clear J0
      obtain ⟨i, rfl, hi, K⟩ := hrel
      obtain ⟨T0, ft, fr, L, la, lc, ba, bn, bc, ra, rc, pk, pf⟩ := K.out
      have PK := Lib.hid pk
      have FK := Lib.hid pf
      clear pk pf K
      by_cases hlt : i < l.length
      · have hi0 : (0 : Int) ≤ (i : Int) := by omega
        have hi1 : (i : Int) < (l.length : Int) := by omega
        have hd : decide ((i : Int) < (l.length : Int)) = true := decide_eq_true hi1
        by_cases h40 : i < 40
        · have hi2 : (i : Int) < 40 := by omega
          have hd2 : decide ((i : Int) < 40) = true := decide_eq_true hi2
          have HL1 := Lib.hid (show i + 1 ≤ 40 from h40)
          have HW9 := Lib.hid (wrap_nat h40 (by omega))
          have HMS := Lib.hid (meas_nat h40)
          obtain ⟨g, k, x, e7, hx, hg, hc⟩ := H.out.at' hlt
          subst e7
          obtain ⟨kd, o⟩ := x
          obtain ⟨hox, hzx⟩ := HOK.out _ (List.mem_of_getElem? hx)
          have OKX := Lib.hid (And.intro hox hzx)
          have cs : ∀ W, Below w.heap.size w W → ∀ (j : Nat) u, (encA (kd, o))[j]? = some u → W.cell? ⟨g, k + i * 10 + j, none⟩ = some u := fun W hb j u hu => (hb.cell (p := ⟨g, k + i * 10 + j, none⟩) hg).trans (hc j u hu)
          have LXO := Lib.hid (fun W (hb : Below w.heap.size w W) => @ldO W g (k + i * 10 + 1) o (fun j u hu => by have := cs W hb (j + 1) u hu; rwa [show k + i * 10 + (j + 1) = k + i * 10 + 1 + j by omega] at this))
          have LKD := Lib.hid (@ld3 wr g (k + i * 10) kd (cs wr PK.out.bel 0 _ rfl))
          have LAT := Lib.hid (fun W (hb : Below w.heap.size w W) => @ld24 W g (k + i * 10 + 1) o.t o.r (cs W hb 1 _ rfl) (cs W hb 2 _ rfl))
          have LND := Lib.hid (fun W (hb : Below w.heap.size w W) => @ld24 W g (k + i * 10 + 1 + 3) o.nt o.nr (cs W hb 4 _ rfl) (cs W hb 5 _ rfl))
          have IX := Lib.hid (fun W => @ix22 g k l.length cap i hlt W)
          clear hx hg hc cs hox hzx
          go_upto_if 35 with (first | (refine Ve.wpList_load_arr rfl (.tmp 33) 3 rfl (.pointer (some ⟨g, k + i * 10, none⟩)) (.int .i64 kd) rfl LKD.out ?_))
          go_cut [35] from 36 to 39 (fun xv wx => xv = .bool (decide (0 ≤ kd ∧ kd ≤ 3)) ∧ wx = wr)
          case first =>
            by_cases k0 : kd = 0
            · subst k0
              go_wp2_with fail
              go_meet
              exact ⟨rfl, rfl⟩
            · by_cases k1 : kd = 1
              · subst k1
                go_wp2_with fail
                go_meet
                exact ⟨rfl, rfl⟩
              · by_cases k2 : kd = 2
                · subst k2
                  go_wp2_with fail
                  go_meet
                  exact ⟨rfl, rfl⟩
                · by_cases k3 : kd = 3
                  · subst k3
                    go_wp2_with fail
                    go_meet
                    exact ⟨rfl, rfl⟩
                  · have b0 := Tb.bneb_ kd 0 k0
                    have b1 := Tb.bneb_ kd 1 k1
                    have b2 := Tb.bneb_ kd 2 k2
                    have b3 := Tb.bneb_ kd 3 k3
                    have e : decide (0 ≤ kd ∧ kd ≤ 3) = false := decide_eq_false (by omega)
                    have E := Lib.hid e
                    clear k0 k1 k2 k3 e
                    go_wp2_with fail
                    go_meet
                    exact ⟨by rw [E.out], rfl⟩
          case rest =>
            obtain ⟨rfl, hw⟩ := hcut
            rw [hw]
            clear hw LKD
            by_cases hk : 0 ≤ kd ∧ kd ≤ 3
            · rw [decide_eq_true hk]
              clear hk
              have AD := Lib.hid (add_any wr (w.heap.size + 1) p q mb T0 ft fr L la lc PK.out.tree FK.out.rise FK.out.okL FK.out.okT (by have := FK.out.len; omega) (by have := PK.out.tree.lo.1; have := PK.out.tree.plt; omega) o OKX.out.1 OKX.out.2)
              obtain ⟨r1, r2⟩ := radd_is FK.out ft fr o
              have LX := Lib.hid (LXO.out wr PK.out.bel)
              obtain ⟨en, hen⟩ : ∃ z, addN ft fr L o = z := ⟨_, rfl⟩
              obtain ⟨ec, hec⟩ : ∃ z, addE ft fr L o = z := ⟨_, rfl⟩
              obtain ⟨L2, hL2⟩ : ∃ z, (if addE ft fr L o = 0 then putO L o else L) = z := ⟨_, rfl⟩
              rw [hL2] at r2
              rw [hen] at r1
              have RR := Lib.hid (And.intro r1 (And.intro r2 hec))
              have HL2 := Lib.hid hL2
              rw [hen] at AD
              clear r1 r2 hen hec hL2
              go_wp2_with (first | (refine Ve.wpList_load_arr rfl (.tmp 45) 34 rfl (.pointer (some ⟨g, k + i * 10 + 1, none⟩)) (oV o) rfl LX.out ?_))
              refine AD.out.mono ?_
              rintro e w5 ⟨rfl, hr⟩
              rw [RR.out.2.2] at hr ⊢
              have Q5 := Lib.hid (show ∃ la2 lc2, P2 w w5 k6 p q mb a b T0 ft fr L2 la2 lc2 T0 ft fr L ba bn bc ra rc ∧ PF T0 L2 (i + 1) from by
                rcases hr with ⟨hne, hb⟩ | ⟨h0, hf, ht⟩
                · rw [← HL2.out, if_neg (by rw [RR.out.2.2]; exact hne)]
                  exact ⟨_, _, PK.out.step hb, FK.out.up⟩
                · have h1 : addE ft fr L o = 0 := RR.out.2.2.trans h0
                  rw [← HL2.out, if_pos h1]
                  obtain ⟨g', lc', hh⟩ := PK.out.add ⟨hf, ht⟩
                  exact ⟨_, _, hh, FK.out.put OKX.out.1 h1⟩)
              clear hr AD LX
              obtain ⟨la2, lc2, p5, f5⟩ := Q5.out
              have P5 := Lib.hid p5
              have F5 := Lib.hid f5
              clear p5 f5 Q5 PK
              have RAD := Lib.hid (fun W (hb : Below w5.heap.size w5 W) => (show Calls Try.prog 12 #[.agg #[.slice ba bn bc, .int .i64 ft, .int .i64 fr, .slice ra L.length rc], oV o] W fun e w' => ∃ a n c, e = .returned (.tuple #[.agg #[.slice ba bn bc, .int .i64 ft, .int .i64 fr, .slice a n c], .int .i64 en, .int .i64 ec]) ∧ OLies w' (.slice a n c) L2 ∧ Below W.heap.size W w' ∧ Spr W.heap.size w' (.slice ra L.length rc) (.slice a n c) from by
                have hh := radd_any W ba bn bc ft fr ra rc L (P5.out.step hb).log (by have := FK.out.len; omega) o OKX.out.2
                rwa [RR.out.1, RR.out.2.1, RR.out.2.2] at hh))
              have LD6 := Lib.hid (fun W (hb : Below w5.heap.size w5 W) => ld32 (P5.out.step hb).b6)
              have LX5 := Lib.hid (fun W (hb : Below w5.heap.size w5 W) => LXO.out W (P5.out.step hb).bel)
              go_upto_region 14 with (fail)
              go_cut [10, 11, 12] from 50 to 60 (fun s10 s11 s12 wq => ∃ kb xra xrc, s10 = .pointer (some ⟨kb, 0, none⟩) ∧ s11 = .int .i64 en ∧ s12 = .int .i64 ec ∧ Hid (AFT w5 wq kb k6 p q mb la2 ba bn bc ft fr xra xrc T0 L2))
              case first =>
                refine wp_region_held_drew (S := fun w' => Below w5.heap.size w5 w') (by kernel_rfl) (Below.refl _ _).drew (fun hHeld => ?_)
                have BV := Lib.hid (show Below w5.heap.size w5 w5.drew from (Below.refl _ _).drew)
                clear hHeld
                refine take_at (i := 0) 51 (.agg #[.slice ba bn bc, .int .i64 ft, .int .i64 fr, .slice ra L.length rc]) rfl rfl (by kernel_rfl) (by kernel_rfl) (by kernel_rfl) (fun _ _ _ h => h) (yields_ld (.tmp 6) 32 (.pointer (some ⟨k6, 0, none⟩)) _ LD6.out rfl rfl rfl) BV.out ?_
                simp only [Act.put, List.setIfInBounds_toArray, List.set_cons_zero, List.set_cons_succ]
                refine take_at (i := 1) 52 ?_ rfl rfl (by kernel_rfl) (by kernel_rfl) (by kernel_rfl) (fun _ _ _ h => h) (.inl ⟨rfl, ?_⟩) BV.out ?_
                rotate_left 1
                · intro w hSw; go_simp; try with_reducible rfl
                simp only [Act.put, List.setIfInBounds_toArray, List.set_cons_zero, List.set_cons_succ]
                refine take_at (i := 2) 53 ?_ rfl rfl (by kernel_rfl) (by kernel_rfl) (by kernel_rfl) (fun _ _ _ h => h) (.inl ⟨rfl, ?_⟩) BV.out ?_
                rotate_left 1
                · intro w hSw; go_simp; try with_reducible rfl
                simp only [Act.put, List.setIfInBounds_toArray, List.set_cons_zero, List.set_cons_succ]
                refine take_at (i := 3) 54 (.pointer (some ⟨g, k + i * 10, none⟩)) rfl rfl (by kernel_rfl) (by kernel_rfl) (by kernel_rfl) (fun _ _ _ h => h) (yields_ix (.tmp 52) (.tmp 53) 22 (.slice (some ⟨g, k, none⟩) l.length cap) (.int .i64 (i : Int)) _ IX.out rfl rfl rfl rfl) BV.out ?_
                simp only [Act.put, List.setIfInBounds_toArray, List.set_cons_zero, List.set_cons_succ]
                refine take_at (i := 4) 55 ?_ rfl rfl (by kernel_rfl) (by kernel_rfl) (by kernel_rfl) (fun _ _ _ h => h) (.inl ⟨rfl, ?_⟩) BV.out ?_
                rotate_left 1
                · intro w hSw; go_simp; try with_reducible rfl
                simp only [Act.put, List.setIfInBounds_toArray, List.set_cons_zero, List.set_cons_succ]
                refine take_at (i := 5) 56 (oV o) rfl rfl (by kernel_rfl) (by kernel_rfl) (by kernel_rfl) (fun _ _ _ h => h) (yields_ld (.tmp 55) 34 (.pointer (some ⟨g, k + i * 10 + 1, none⟩)) _ LX5.out rfl rfl rfl) BV.out ?_
                simp only [Act.put, List.setIfInBounds_toArray, List.set_cons_zero, List.set_cons_succ]
                refine wpAnyH_ready (rs := [6, 11]) (by kernel_rfl) (by simp) (br_call (i := 6) 57 12 #[.agg #[.slice ba bn bc, .int .i64 ft, .int .i64 fr, .slice ra L.length rc], oV o] rfl rfl rfl (by go_simp) ((RAD.out _ BV.out).mono ?_) (br_alloc (i := 11) 10 32 (.pointer (some ⟨w5.drew.heap.size, 0, none⟩)) (w5.drew.alloc (.cells #[.slice none 0 0, .int .i64 0, .int .i64 0, .slice none 0 0] 32)) rfl rfl rfl rfl (alc32 w5.drew) (BV.out.trans ((pl_vstep w5.drew _).mono BV.out.size)) (fun _ => ?_) AllReadyH.nil))
                · rintro e v301 ⟨xra, xn, xrc, rfl, hso, hb, hspl⟩
                  have hsn := slice_len hso
                  subst hsn
                  have PB := Lib.hid (P5.out.step BV.out)
                  have BHB := Lib.hid hb.size
                  have hsb := PB.out.base.step hb
                  have BV := Lib.hid (BV.out.trans (hb.mono BV.out.size))
                  have HBB := Lib.hid hsb
                  have SO := Lib.hid hso
                  have A1 := Lib.hid (PB.out.apB.step BHB.out)
                  have A2 := Lib.hid (PB.out.apL.spr hspl PB.out.lt6 BHB.out)
                  clear hsb hso hspl PB BHB
                  clear hb
                  refine ⟨_, rfl, BV.out, fun _ => ?_⟩
                  simp only [Act.put, List.setIfInBounds_toArray, List.set_cons_zero, List.set_cons_succ]
                  refine take_at (i := 7) 50 ?_ rfl rfl (by kernel_rfl) (by kernel_rfl) (by kernel_rfl) (fun _ _ _ h => h) (.inl ⟨rfl, ?_⟩) BV.out ?_
                  rotate_left 1
                  · intro w hSw; go_simp; try with_reducible rfl
                  simp only [Act.put, List.setIfInBounds_toArray, List.set_cons_zero, List.set_cons_succ]
                  refine take_at (i := 8) 58 (.agg #[.slice ba bn bc, .int .i64 ft, .int .i64 fr, .slice xra L2.length xrc]) rfl rfl (by kernel_rfl) (by kernel_rfl) (by kernel_rfl) (fun _ _ _ h => h) (yields_ext (.tmp 50) 0 (.tuple #[.agg #[.slice ba bn bc, .int .i64 ft, .int .i64 fr, .slice xra L2.length xrc], .int .i64 en, .int .i64 ec]) _ (ex3_0 _ _ _) rfl rfl rfl) BV.out ?_
                  simp only [Act.put, List.setIfInBounds_toArray, List.set_cons_zero, List.set_cons_succ]
                  refine take_at (i := 9) 59 (.int .i64 en) rfl rfl (by kernel_rfl) (by kernel_rfl) (by kernel_rfl) (fun _ _ _ h => h) (yields_ext (.tmp 50) 1 (.tuple #[.agg #[.slice ba bn bc, .int .i64 ft, .int .i64 fr, .slice xra L2.length xrc], .int .i64 en, .int .i64 ec]) _ (ex3_1 _ _ _) rfl rfl rfl) BV.out ?_
                  simp only [Act.put, List.setIfInBounds_toArray, List.set_cons_zero, List.set_cons_succ]
                  refine take_at (i := 10) 60 (.int .i64 ec) rfl rfl (by kernel_rfl) (by kernel_rfl) (by kernel_rfl) (fun _ _ _ h => h) (yields_ext (.tmp 50) 2 (.tuple #[.agg #[.slice ba bn bc, .int .i64 ft, .int .i64 fr, .slice xra L2.length xrc], .int .i64 en, .int .i64 ec]) _ (ex3_2 _ _ _) rfl rfl rfl) BV.out ?_
                  simp only [Act.put, List.setIfInBounds_toArray, List.set_cons_zero, List.set_cons_succ]
                  refine wpAnyH_ready (rs := [11]) (by kernel_rfl) (by simp) (br_alloc (i := 11) 10 32 (.pointer (some ⟨v301.heap.size, 0, none⟩)) (v301.alloc (.cells #[.slice none 0 0, .int .i64 0, .int .i64 0, .slice none 0 0] 32)) rfl rfl rfl rfl (alc32 v301) (BV.out.trans ((pl_vstep v301 _).mono BV.out.size)) (fun _ => ?_) AllReadyH.nil)
                  have KB := Lib.hid (show w5.heap.size ≤ v301.heap.size from BV.out.size)
                  obtain ⟨v302, hv302⟩ : ∃ zz, v301.alloc (.cells #[.slice none 0 0, .int .i64 0, .int .i64 0, .slice none 0 0] 32) = zz := ⟨_, rfl⟩
                  have hb : Below v301.heap.size v301 v302 := by rw [← hv302]; exact pl_vstep v301 _
                  have NB := Lib.hid (show BX4 v302 v301.heap.size 32 (.slice none 0 0) (.int .i64 0) (.int .i64 0) (.slice none 0 0) from ⟨by rw [← hv302]; exact heap_alloc_new v301 _⟩)
                  rw [hv302]
                  obtain ⟨kb, hkb⟩ : ∃ zz, v301.heap.size = zz := ⟨_, rfl⟩
                  rw [hkb] at NB KB ⊢
                  clear hv302
                  try have A1 := Lib.hid (A1.out.step hb.size)
                  try have A2 := Lib.hid (A2.out.step hb.size)
                  have BV := Lib.hid (BV.out.trans (hb.mono BV.out.size))
                  have HBB := Lib.hid (HBB.out.step hb)
                  have SO := Lib.hid (SO.out.step hb)
                  clear hb
                  clear hkb
                  simp only [Act.put, List.setIfInBounds_toArray, List.set_cons_zero, List.set_cons_succ]
                  refine wpAnyH_ready (rs := [12]) (by kernel_rfl) (by simp) (br_store (i := 12) 32 (.tmp 10) (.tmp 58) (.pointer (some ⟨kb, 0, none⟩)) (.agg #[.slice ba bn bc, .int .i64 ft, .int .i64 fr, .slice xra (L2).length xrc]) (set4 v302 kb (.slice ba bn bc) (.int .i64 ft) (.int .i64 fr) (.slice xra (L2).length xrc)) rfl rfl rfl rfl rfl rfl (st32 NB.out.row ba bn bc ft fr xra (L2).length xrc) (set4_below BV.out KB.out) (fun _ => ?_) AllReadyH.nil)
                  have HBB := Lib.hid (liesK_set4 (enc := Tb.enc6) (n := 6) (x := .slice ba bn bc) (y := .int .i64 ft) (z := .int .i64 fr) (v := .slice xra (L2).length xrc) (by decide) Tb.enc6_len HBB.out NB.out.row)
                  have SO := Lib.hid (olies_set4 (x := .slice ba bn bc) (y := .int .i64 ft) (z := .int .i64 fr) (v := .slice xra (L2).length xrc) SO.out NB.out.row)
                  have A1 := Lib.hid (A1.out.step (far_set4 v302 kb (.slice ba bn bc) (.int .i64 ft) (.int .i64 fr) (.slice xra (L2).length xrc)).size)
                  have A2 := Lib.hid (A2.out.step (far_set4 v302 kb (.slice ba bn bc) (.int .i64 ft) (.int .i64 fr) (.slice xra (L2).length xrc)).size)
                  have BV := Lib.hid (show Below w5.heap.size w5 (set4 v302 kb (.slice ba bn bc) (.int .i64 ft) (.int .i64 fr) (.slice xra (L2).length xrc)) from set4_below BV.out KB.out)
                  have N2 := Lib.hid (set4_row (x' := .slice ba bn bc) (y' := .int .i64 ft) (z' := .int .i64 fr) (v' := .slice xra (L2).length xrc) NB.out.row)
                  obtain ⟨v303, hv303⟩ : ∃ zz, set4 v302 kb (.slice ba bn bc) (.int .i64 ft) (.int .i64 fr) (.slice xra (L2).length xrc) = zz := ⟨_, rfl⟩
                  rw [hv303] at HBB SO A1 A2 BV N2 ⊢
                  clear hv303 NB KB
                  simp only [Act.put, List.setIfInBounds_toArray, List.set_cons_zero, List.set_cons_succ]
                  refine take_at (i := 13) 11 ?_ rfl rfl (by kernel_rfl) (by kernel_rfl) (by kernel_rfl) (fun _ _ _ h => h) (.inl ⟨rfl, ?_⟩) BV.out ?_
                  rotate_left 1
                  · intro w hSw; go_simp; try with_reducible rfl
                  simp only [Act.put, List.setIfInBounds_toArray, List.set_cons_zero, List.set_cons_succ]
                  refine take_at (i := 14) 12 ?_ rfl rfl (by kernel_rfl) (by kernel_rfl) (by kernel_rfl) (fun _ _ _ h => h) (.inl ⟨rfl, ?_⟩) BV.out ?_
                  rotate_left 1
                  · intro w hSw; go_simp; try with_reducible rfl
                  simp only [Act.put, List.setIfInBounds_toArray, List.set_cons_zero, List.set_cons_succ]
                  refine wpAnyH_done (by kernel_rfl) ?_ _
                  go_wp2_with fail
                  go_meet
                  exact ⟨_, _, _, rfl, rfl, rfl, Lib.hid ⟨BV.out, N2.out, HBB.out, SO.out, A1.out, A2.out⟩⟩
                · have KB := Lib.hid (show w5.heap.size ≤ w5.drew.heap.size from BV.out.size)
                  obtain ⟨v304, hv304⟩ : ∃ zz, w5.drew.alloc (.cells #[.slice none 0 0, .int .i64 0, .int .i64 0, .slice none 0 0] 32) = zz := ⟨_, rfl⟩
                  have hb : Below w5.drew.heap.size w5.drew v304 := by rw [← hv304]; exact pl_vstep w5.drew _
                  have NB := Lib.hid (show BX4 v304 w5.drew.heap.size 32 (.slice none 0 0) (.int .i64 0) (.int .i64 0) (.slice none 0 0) from ⟨by rw [← hv304]; exact heap_alloc_new w5.drew _⟩)
                  rw [hv304]
                  obtain ⟨kb, hkb⟩ : ∃ zz, w5.drew.heap.size = zz := ⟨_, rfl⟩
                  rw [hkb] at NB KB ⊢
                  clear hv304
                  try have A1 := Lib.hid (A1.out.step hb.size)
                  try have A2 := Lib.hid (A2.out.step hb.size)
                  have BV := Lib.hid (BV.out.trans (hb.mono BV.out.size))
                  clear hb
                  clear hkb
                  simp only [Act.put, List.setIfInBounds_toArray, List.set_cons_zero, List.set_cons_succ]
                  refine wpAnyH_ready (rs := [6]) (by kernel_rfl) (by simp) (br_call (i := 6) 57 12 #[.agg #[.slice ba bn bc, .int .i64 ft, .int .i64 fr, .slice ra L.length rc], oV o] rfl rfl rfl (by go_simp) ((RAD.out _ BV.out).mono ?_) AllReadyH.nil)
                  rintro e v305 ⟨xra, xn, xrc, rfl, hso, hb, hspl⟩
                  have hsn := slice_len hso
                  subst hsn
                  have PB := Lib.hid (P5.out.step BV.out)
                  have BHB := Lib.hid hb.size
                  have hsb := PB.out.base.step hb
                  have BV := Lib.hid (BV.out.trans (hb.mono BV.out.size))
                  have NB := Lib.hid (NB.out.step hb)
                  have HBB := Lib.hid hsb
                  have SO := Lib.hid hso
                  have A1 := Lib.hid (PB.out.apB.step BHB.out)
                  have A2 := Lib.hid (PB.out.apL.spr hspl PB.out.lt6 BHB.out)
                  clear hsb hso hspl PB BHB
                  clear hb
                  refine ⟨_, rfl, BV.out, fun _ => ?_⟩
                  simp only [Act.put, List.setIfInBounds_toArray, List.set_cons_zero, List.set_cons_succ]
                  refine take_at (i := 7) 50 ?_ rfl rfl (by kernel_rfl) (by kernel_rfl) (by kernel_rfl) (fun _ _ _ h => h) (.inl ⟨rfl, ?_⟩) BV.out ?_
                  rotate_left 1
                  · intro w hSw; go_simp; try with_reducible rfl
                  simp only [Act.put, List.setIfInBounds_toArray, List.set_cons_zero, List.set_cons_succ]
                  refine take_at (i := 8) 58 (.agg #[.slice ba bn bc, .int .i64 ft, .int .i64 fr, .slice xra L2.length xrc]) rfl rfl (by kernel_rfl) (by kernel_rfl) (by kernel_rfl) (fun _ _ _ h => h) (yields_ext (.tmp 50) 0 (.tuple #[.agg #[.slice ba bn bc, .int .i64 ft, .int .i64 fr, .slice xra L2.length xrc], .int .i64 en, .int .i64 ec]) _ (ex3_0 _ _ _) rfl rfl rfl) BV.out ?_
                  simp only [Act.put, List.setIfInBounds_toArray, List.set_cons_zero, List.set_cons_succ]
                  refine take_at (i := 9) 59 (.int .i64 en) rfl rfl (by kernel_rfl) (by kernel_rfl) (by kernel_rfl) (fun _ _ _ h => h) (yields_ext (.tmp 50) 1 (.tuple #[.agg #[.slice ba bn bc, .int .i64 ft, .int .i64 fr, .slice xra L2.length xrc], .int .i64 en, .int .i64 ec]) _ (ex3_1 _ _ _) rfl rfl rfl) BV.out ?_
                  simp only [Act.put, List.setIfInBounds_toArray, List.set_cons_zero, List.set_cons_succ]
                  refine take_at (i := 10) 60 (.int .i64 ec) rfl rfl (by kernel_rfl) (by kernel_rfl) (by kernel_rfl) (fun _ _ _ h => h) (yields_ext (.tmp 50) 2 (.tuple #[.agg #[.slice ba bn bc, .int .i64 ft, .int .i64 fr, .slice xra L2.length xrc], .int .i64 en, .int .i64 ec]) _ (ex3_2 _ _ _) rfl rfl rfl) BV.out ?_
                  simp only [Act.put, List.setIfInBounds_toArray, List.set_cons_zero, List.set_cons_succ]
                  refine wpAnyH_ready (rs := [12]) (by kernel_rfl) (by simp) (br_store (i := 12) 32 (.tmp 10) (.tmp 58) (.pointer (some ⟨kb, 0, none⟩)) (.agg #[.slice ba bn bc, .int .i64 ft, .int .i64 fr, .slice xra (L2).length xrc]) (set4 v305 kb (.slice ba bn bc) (.int .i64 ft) (.int .i64 fr) (.slice xra (L2).length xrc)) rfl rfl rfl rfl rfl rfl (st32 NB.out.row ba bn bc ft fr xra (L2).length xrc) (set4_below BV.out KB.out) (fun _ => ?_) AllReadyH.nil)
                  have HBB := Lib.hid (liesK_set4 (enc := Tb.enc6) (n := 6) (x := .slice ba bn bc) (y := .int .i64 ft) (z := .int .i64 fr) (v := .slice xra (L2).length xrc) (by decide) Tb.enc6_len HBB.out NB.out.row)
                  have SO := Lib.hid (olies_set4 (x := .slice ba bn bc) (y := .int .i64 ft) (z := .int .i64 fr) (v := .slice xra (L2).length xrc) SO.out NB.out.row)
                  have A1 := Lib.hid (A1.out.step (far_set4 v305 kb (.slice ba bn bc) (.int .i64 ft) (.int .i64 fr) (.slice xra (L2).length xrc)).size)
                  have A2 := Lib.hid (A2.out.step (far_set4 v305 kb (.slice ba bn bc) (.int .i64 ft) (.int .i64 fr) (.slice xra (L2).length xrc)).size)
                  have BV := Lib.hid (show Below w5.heap.size w5 (set4 v305 kb (.slice ba bn bc) (.int .i64 ft) (.int .i64 fr) (.slice xra (L2).length xrc)) from set4_below BV.out KB.out)
                  have N2 := Lib.hid (set4_row (x' := .slice ba bn bc) (y' := .int .i64 ft) (z' := .int .i64 fr) (v' := .slice xra (L2).length xrc) NB.out.row)
                  obtain ⟨v306, hv306⟩ : ∃ zz, set4 v305 kb (.slice ba bn bc) (.int .i64 ft) (.int .i64 fr) (.slice xra (L2).length xrc) = zz := ⟨_, rfl⟩
                  rw [hv306] at HBB SO A1 A2 BV N2 ⊢
                  clear hv306 NB KB
                  simp only [Act.put, List.setIfInBounds_toArray, List.set_cons_zero, List.set_cons_succ]
                  refine take_at (i := 13) 11 ?_ rfl rfl (by kernel_rfl) (by kernel_rfl) (by kernel_rfl) (fun _ _ _ h => h) (.inl ⟨rfl, ?_⟩) BV.out ?_
                  rotate_left 1
                  · intro w hSw; go_simp; try with_reducible rfl
                  simp only [Act.put, List.setIfInBounds_toArray, List.set_cons_zero, List.set_cons_succ]
                  refine take_at (i := 14) 12 ?_ rfl rfl (by kernel_rfl) (by kernel_rfl) (by kernel_rfl) (fun _ _ _ h => h) (.inl ⟨rfl, ?_⟩) BV.out ?_
                  rotate_left 1
                  · intro w hSw; go_simp; try with_reducible rfl
                  simp only [Act.put, List.setIfInBounds_toArray, List.set_cons_zero, List.set_cons_succ]
                  refine wpAnyH_done (by kernel_rfl) ?_ _
                  go_wp2_with fail
                  go_meet
                  exact ⟨_, _, _, rfl, rfl, rfl, Lib.hid ⟨BV.out, N2.out, HBB.out, SO.out, A1.out, A2.out⟩⟩
              case rest =>
                obtain ⟨kb, xra, xrc, rfl, rfl, rfl, AF⟩ := hcut
                generalize wc = w9 at *
                have P9 := Lib.hid (P5.out.step AF.out.bel)
                clear RAD LD6 LX5 P5
                have L10 := Lib.hid (ld32 AF.out.n2)
                have S6 := Lib.hid (st32 P9.out.b6 ba bn bc ft fr xra L2.length xrc)
                have PQ := Lib.hid (P9.out.put (t := ft) (r := fr) AF.out.hb AF.out.so AF.out.a1 AF.out.a2)
                clear AF P9
                go_upto_region 16 with (first | (refine Ve.wpList_load_arr rfl (.tmp 10) 32 rfl (.pointer (some ⟨kb, 0, none⟩)) (.agg #[.slice ba bn bc, .int .i64 ft, .int .i64 fr, .slice xra L2.length xrc]) rfl L10.out ?_) | (refine Ve.wpList_store_arr rfl (.tmp 6) (.tmp 61) 32 rfl (.pointer (some ⟨k6, 0, none⟩)) (.agg #[.slice ba bn bc, .int .i64 ft, .int .i64 fr, .slice xra L2.length xrc]) rfl rfl _ S6.out ?_))
                obtain ⟨wz, hwz⟩ : ∃ z, set4 w9 k6 (.slice ba bn bc) (.int .i64 ft) (.int .i64 fr) (.slice xra L2.length xrc) = z := ⟨_, rfl⟩
                rw [hwz] at PQ ⊢
                clear hwz L10 S6
                have J := Lib.hid (show ∃ T ft fr L la lc ba bn bc ra rc, P2 w wz k6 p q mb a b T ft fr L la lc T ft fr L ba bn bc ra rc ∧ PF T L (i + 1) from ⟨_, _, _, _, _, _, _, _, _, _, _, PQ.out, F5.out⟩)
                clear PQ F5 RR HL2 FK
                go_upto_region 23 with fail
                obtain ⟨T1, ft1, fr1, L1, la1, lc1, ba1, bn1, bc1, ra1, rc1, pz, fz⟩ := J.out
                have PZ := Lib.hid pz
                have FZ := Lib.hid fz
                clear pz fz J
                have LB := Lib.hid (ld32 PZ.out.b6)
                have TBL := Lib.hid (rtable_any wz ba1 bn1 bc1 T1 ft1 fr1 ra1 L1.length rc1 L1 PZ.out.base FZ.out.riseT PZ.out.log (by have := FZ.out.len; omega))
                go_wp2_with (first | (refine Ve.wpList_load_arr rfl (.tmp 6) 32 rfl (.pointer (some ⟨k6, 0, none⟩)) (.agg #[.slice ba1 bn1 bc1, .int .i64 ft1, .int .i64 fr1, .slice ra1 L1.length rc1]) rfl LB.out ?_))
                refine TBL.out.mono ?_
                rintro e wt ⟨rv, rfl, hrv, hb⟩
                obtain ⟨rva, rvc, hq⟩ := hrv.shape
                subst hq
                have PW := Lib.hid (PZ.out.step hb)
                have RT := Lib.hid (hrv.step (Below.refl _ _).drew)
                have PT := Lib.hid ((PZ.out.step hb).step (Below.refl _ _).drew)
                clear hrv hb TBL LB PZ
                have LP := Lib.hid (show (playF T1 L1).length ≤ 1000 ∧ L1.length ≤ 100000 from by have := FZ.out.len; have := play_len L1 T1; omega)
                obtain ⟨RW1, hRW1⟩ : ∃ z, playF T1 L1 = z := ⟨_, rfl⟩
                have HRW := Lib.hid hRW1
                rw [hRW1] at RT LP ⊢
                have LV4 := Lib.hid (fun W (hb : Below wt.heap.size wt W) => @ld30 W k6 3 _ _ _ (box4 (PW.out.step hb).b6).2.2.2)
                have LV2 := Lib.hid (fun W (hb : Below wt.heap.size wt W) => @ld24 W k6 1 _ _ (box4 (PW.out.step hb).b6).2.1 (box4 (PW.out.step hb).b6).2.2.1)
                have LV0 := Lib.hid (fun W (hb : Below wt.heap.size wt W) => ld32 (PW.out.step hb).b6)
                have LV3 := Lib.hid (fun W (hb : Below wt.heap.size wt W) => ldSt (PW.out.step hb).b3)
                have LVN := Lib.hid (fun W (hb : Below wt.heap.size wt W) => LND.out W (PW.out.step hb).bel)
                have DV := Lib.hid (rdid_did L1 T1 a b FZ.out.rise)
                obtain ⟨dv, hdv⟩ : ∃ z, rdidF T1 L1 a b = z := ⟨_, rfl⟩
                obtain ⟨av, hav⟩ : ∃ z, aboveF RW1 a b RW1.length o.nt o.nr = z := ⟨_, rfl⟩
                have HDV := Lib.hid hdv
                have HAV := Lib.hid hav
                clear hRW1 hdv hav PW
                go_upto_region 24 with (fail)
                refine wp_region_held_drew (S := fun w' => Below wt.heap.size wt w') (by kernel_rfl) (Below.refl _ _).drew (fun hHeld => ?_)
                have BV := Lib.hid (show Below wt.heap.size wt wt.drew from (Below.refl _ _).drew)
                clear hHeld
                refine take_at (i := 0) 96 ?_ rfl rfl (by kernel_rfl) (by kernel_rfl) (by kernel_rfl) (fun _ _ _ h => h) (.inl ⟨rfl, ?_⟩) BV.out ?_
                rotate_left 1
                · intro w hSw; go_simp; try with_reducible rfl
                simp only [Act.put, List.setIfInBounds_toArray, List.set_cons_zero, List.set_cons_succ]
                refine take_at (i := 1) 97 ?_ rfl rfl (by kernel_rfl) (by kernel_rfl) (by kernel_rfl) (fun _ _ _ h => h) (.inl ⟨rfl, ?_⟩) BV.out ?_
                rotate_left 1
                · intro w hSw; go_simp; try with_reducible rfl
                simp only [Act.put, List.setIfInBounds_toArray, List.set_cons_zero, List.set_cons_succ]
                have RWC := Lib.hid (rows_any wt.drew (w.heap.size + 1) p q mb T1 ft1 fr1 L1 la1 lc1 PT.out.tree (play_okT _ FZ.out.okT FZ.out.okL) rva RW1.length rvc (by rw [HRW.out]; exact RT.out) (by rw [HRW.out]; exact LP.out.1))
                refine wpAnyH_ready (rs := [2]) (by kernel_rfl) (by simp) (br_call (i := 2) 98 16 #[pv p, .slice rva RW1.length rvc] rfl rfl rfl (by go_simp) ((RWC.out).mono ?_) AllReadyH.nil)
                rintro e v401 ⟨rfl, hb⟩
                have BV := Lib.hid (BV.out.trans (hb.mono BV.out.size))
                have PT := Lib.hid (PT.out.step hb)
                have RT := Lib.hid (RT.out.step hb)
                clear RWC
                clear hb
                refine ⟨_, rfl, BV.out, fun _ => ?_⟩
                simp only [Act.put, List.setIfInBounds_toArray, List.set_cons_zero, List.set_cons_succ]
                refine take_at (i := 3) 99 ?_ rfl rfl (by kernel_rfl) (by kernel_rfl) (by kernel_rfl) (fun _ _ _ h => h) (.inl ⟨rfl, ?_⟩) BV.out ?_
                rotate_left 1
                · intro w hSw; go_simp; try with_reducible rfl
                simp only [Act.put, List.setIfInBounds_toArray, List.set_cons_zero, List.set_cons_succ]
                refine take_at (i := 4) 100 ?_ rfl rfl (by kernel_rfl) (by kernel_rfl) (by kernel_rfl) (fun _ _ _ h => h) (.inl ⟨rfl, ?_⟩) BV.out ?_
                rotate_left 1
                · intro w hSw; go_simp; try with_reducible rfl
                simp only [Act.put, List.setIfInBounds_toArray, List.set_cons_zero, List.set_cons_succ]
                refine take_at (i := 5) 101 ?_ rfl rfl (by kernel_rfl) (by kernel_rfl) (by kernel_rfl) (fun _ _ _ h => h) (.inl ⟨rfl, ?_⟩) BV.out ?_
                rotate_left 1
                · intro w hSw; go_simp; try with_reducible rfl
                simp only [Act.put, List.setIfInBounds_toArray, List.set_cons_zero, List.set_cons_succ]
                refine take_at (i := 7) 103 ?_ rfl rfl (by kernel_rfl) (by kernel_rfl) (by kernel_rfl) (fun _ _ _ h => h) (.inl ⟨rfl, ?_⟩) BV.out ?_
                rotate_left 1
                · intro w hSw; go_simp; try with_reducible rfl
                simp only [Act.put, List.setIfInBounds_toArray, List.set_cons_zero, List.set_cons_succ]
                refine take_at (i := 8) 104 (.slice ra1 L1.length rc1) rfl rfl (by kernel_rfl) (by kernel_rfl) (by kernel_rfl) (fun _ _ _ h => h) (yields_ld (.tmp 103) 30 (.pointer (some ⟨k6, 3, none⟩)) _ LV4.out rfl rfl rfl) BV.out ?_
                simp only [Act.put, List.setIfInBounds_toArray, List.set_cons_zero, List.set_cons_succ]
                refine take_at (i := 9) 105 ?_ rfl rfl (by kernel_rfl) (by kernel_rfl) (by kernel_rfl) (fun _ _ _ h => h) (.inl ⟨rfl, ?_⟩) BV.out ?_
                rotate_left 1
                · intro w hSw; go_simp; try with_reducible rfl
                simp only [Act.put, List.setIfInBounds_toArray, List.set_cons_zero, List.set_cons_succ]
                refine wpAnyH_ready (rs := [6]) (by kernel_rfl) (by simp) (br_call (i := 6) 102 17 #[pv p] rfl rfl rfl (by go_simp) ((len_of _ (pv p) _ ft1 fr1 la1 L1.length lc1 PT.out.tree.haveL).mono ?_) AllReadyH.nil)
                rintro e v402 ⟨rfl, hb⟩
                have BV := Lib.hid (BV.out.trans (hb.mono BV.out.size))
                have PT := Lib.hid (PT.out.step hb)
                have RT := Lib.hid (RT.out.step hb)
                clear hb
                refine ⟨_, rfl, BV.out, fun _ => ?_⟩
                simp only [Act.put, List.setIfInBounds_toArray, List.set_cons_zero, List.set_cons_succ]
                refine take_at (i := 10) 106 (.bool false) rfl rfl (by kernel_rfl) (by kernel_rfl) (by kernel_rfl) (fun _ _ _ h => h) (yields_bin .neq (.tmp 102) (.tmp 105) 3 3 (.int .i64 (L1.length : Int)) (.int .i64 (L1.length : Int)) _ (ne3 _) (gne3 _ _ _ _) rfl rfl rfl rfl) BV.out ?_
                simp only [Act.put, List.setIfInBounds_toArray, List.set_cons_zero, List.set_cons_succ]
                refine take_at (i := 11) 107 ?_ rfl rfl (by kernel_rfl) (by kernel_rfl) (by kernel_rfl) (fun _ _ _ h => h) (.inl ⟨rfl, ?_⟩) BV.out ?_
                rotate_left 1
                · intro w hSw; go_simp; try with_reducible rfl
                simp only [Act.put, List.setIfInBounds_toArray, List.set_cons_zero, List.set_cons_succ]
                refine take_at (i := 12) 108 ?_ rfl rfl (by kernel_rfl) (by kernel_rfl) (by kernel_rfl) (fun _ _ _ h => h) (.inl ⟨rfl, ?_⟩) BV.out ?_
                rotate_left 1
                · intro w hSw; go_simp; try with_reducible rfl
                simp only [Act.put, List.setIfInBounds_toArray, List.set_cons_zero, List.set_cons_succ]
                refine take_at (i := 13) 109 ?_ rfl rfl (by kernel_rfl) (by kernel_rfl) (by kernel_rfl) (fun _ _ _ h => h) (.inl ⟨rfl, ?_⟩) BV.out ?_
                rotate_left 1
                · intro w hSw; go_simp; try with_reducible rfl
                simp only [Act.put, List.setIfInBounds_toArray, List.set_cons_zero, List.set_cons_succ]
                refine take_at (i := 15) 111 ?_ rfl rfl (by kernel_rfl) (by kernel_rfl) (by kernel_rfl) (fun _ _ _ h => h) (.inl ⟨rfl, ?_⟩) BV.out ?_
                rotate_left 1
                · intro w hSw; go_simp; try with_reducible rfl
                simp only [Act.put, List.setIfInBounds_toArray, List.set_cons_zero, List.set_cons_succ]
                refine take_at (i := 16) 112 (.agg #[.int .i64 ft1, .int .i64 fr1]) rfl rfl (by kernel_rfl) (by kernel_rfl) (by kernel_rfl) (fun _ _ _ h => h) (yields_ld (.tmp 111) 24 (.pointer (some ⟨k6, 1, none⟩)) _ LV2.out rfl rfl rfl) BV.out ?_
                simp only [Act.put, List.setIfInBounds_toArray, List.set_cons_zero, List.set_cons_succ]
                refine wpAnyH_ready (rs := [14]) (by kernel_rfl) (by simp) (br_call (i := 14) 110 18 #[pv p] rfl rfl rfl (by go_simp) ((floor_of _ (pv p) _ ft1 fr1 la1 L1.length lc1 PT.out.tree.haveL).mono ?_) AllReadyH.nil)
                rintro e v403 ⟨rfl, hb⟩
                have BV := Lib.hid (BV.out.trans (hb.mono BV.out.size))
                have PT := Lib.hid (PT.out.step hb)
                have RT := Lib.hid (RT.out.step hb)
                clear hb
                refine ⟨_, rfl, BV.out, fun _ => ?_⟩
                simp only [Act.put, List.setIfInBounds_toArray, List.set_cons_zero, List.set_cons_succ]
                refine take_at (i := 17) 113 (.bool false) rfl rfl (by kernel_rfl) (by kernel_rfl) (by kernel_rfl) (fun _ _ _ h => h) (yields_bin .neq (.tmp 110) (.tmp 112) 24 24 (.agg #[.int .i64 ft1, .int .i64 fr1]) (.agg #[.int .i64 ft1, .int .i64 fr1]) _ (neS24 _ _) (gneS24 _ _ _ _) rfl rfl rfl rfl) BV.out ?_
                simp only [Act.put, List.setIfInBounds_toArray, List.set_cons_zero, List.set_cons_succ]
                refine take_at (i := 18) 114 ?_ rfl rfl (by kernel_rfl) (by kernel_rfl) (by kernel_rfl) (fun _ _ _ h => h) (.inl ⟨rfl, ?_⟩) BV.out ?_
                rotate_left 1
                · intro w hSw; go_simp; try with_reducible rfl
                simp only [Act.put, List.setIfInBounds_toArray, List.set_cons_zero, List.set_cons_succ]
                refine take_at (i := 19) 115 ?_ rfl rfl (by kernel_rfl) (by kernel_rfl) (by kernel_rfl) (fun _ _ _ h => h) (.inl ⟨rfl, ?_⟩) BV.out ?_
                rotate_left 1
                · intro w hSw; go_simp; try with_reducible rfl
                simp only [Act.put, List.setIfInBounds_toArray, List.set_cons_zero, List.set_cons_succ]
                refine take_at (i := 20) 116 ?_ rfl rfl (by kernel_rfl) (by kernel_rfl) (by kernel_rfl) (fun _ _ _ h => h) (.inl ⟨rfl, ?_⟩) BV.out ?_
                rotate_left 1
                · intro w hSw; go_simp; try with_reducible rfl
                simp only [Act.put, List.setIfInBounds_toArray, List.set_cons_zero, List.set_cons_succ]
                refine take_at (i := 21) 117 (.agg #[.int .i64 a, .int .i64 b]) rfl rfl (by kernel_rfl) (by kernel_rfl) (by kernel_rfl) (fun _ _ _ h => h) (yields_ld (.tmp 3) 24 (.pointer (some ⟨w.heap.size, 0, none⟩)) _ LV3.out rfl rfl rfl) BV.out ?_
                simp only [Act.put, List.setIfInBounds_toArray, List.set_cons_zero, List.set_cons_succ]
                refine take_at (i := 23) 119 (.agg #[.slice ba1 bn1 bc1, .int .i64 ft1, .int .i64 fr1, .slice ra1 L1.length rc1]) rfl rfl (by kernel_rfl) (by kernel_rfl) (by kernel_rfl) (fun _ _ _ h => h) (yields_ld (.tmp 6) 32 (.pointer (some ⟨k6, 0, none⟩)) _ LV0.out rfl rfl rfl) BV.out ?_
                simp only [Act.put, List.setIfInBounds_toArray, List.set_cons_zero, List.set_cons_succ]
                refine take_at (i := 24) 120 (.agg #[.int .i64 a, .int .i64 b]) rfl rfl (by kernel_rfl) (by kernel_rfl) (by kernel_rfl) (fun _ _ _ h => h) (yields_ld (.tmp 3) 24 (.pointer (some ⟨w.heap.size, 0, none⟩)) _ LV3.out rfl rfl rfl) BV.out ?_
                simp only [Act.put, List.setIfInBounds_toArray, List.set_cons_zero, List.set_cons_succ]
                have DDC := Lib.hid (did_of v403 (pv p) _ ft1 fr1 la1 L1.length lc1 (stepsF T1 L1) a b PT.out.tree.haveL (lies_log PT.out.tree) (by rw [steps_o]; exact FZ.out.rise) (by rw [steps_len]; exact LP.out.2))
                rw [DV.out, HDV.out] at DDC
                refine wpAnyH_ready (rs := [22]) (by kernel_rfl) (by simp) (br_call (i := 22) 118 19 #[pv p, .agg #[.int .i64 a, .int .i64 b]] rfl rfl rfl (by go_simp) ((DDC.out).mono ?_) AllReadyH.nil)
                rintro e v404 ⟨rfl, hb⟩
                have BV := Lib.hid (BV.out.trans (hb.mono BV.out.size))
                have PT := Lib.hid (PT.out.step hb)
                have RT := Lib.hid (RT.out.step hb)
                clear DDC
                clear hb
                refine ⟨_, rfl, BV.out, fun _ => ?_⟩
                simp only [Act.put, List.setIfInBounds_toArray, List.set_cons_zero, List.set_cons_succ]
                have RDC := Lib.hid (rdid_any v404 ba1 bn1 bc1 T1 ft1 fr1 ra1 rc1 L1 PT.out.base FZ.out.riseT PT.out.log (by have := FZ.out.len; omega) a b)
                rw [HDV.out] at RDC
                refine wpAnyH_ready (rs := [25]) (by kernel_rfl) (by simp) (br_call (i := 25) 121 20 #[.agg #[.slice ba1 bn1 bc1, .int .i64 ft1, .int .i64 fr1, .slice ra1 L1.length rc1], .agg #[.int .i64 a, .int .i64 b]] rfl rfl rfl (by go_simp) ((RDC.out).mono ?_) AllReadyH.nil)
                rintro e v405 ⟨rfl, hb⟩
                have BV := Lib.hid (BV.out.trans (hb.mono BV.out.size))
                have PT := Lib.hid (PT.out.step hb)
                have RT := Lib.hid (RT.out.step hb)
                clear RDC
                clear hb
                refine ⟨_, rfl, BV.out, fun _ => ?_⟩
                simp only [Act.put, List.setIfInBounds_toArray, List.set_cons_zero, List.set_cons_succ]
                refine take_at (i := 26) 122 (.bool false) rfl rfl (by kernel_rfl) (by kernel_rfl) (by kernel_rfl) (fun _ _ _ h => h) (yields_bin .neq (.tmp 118) (.tmp 121) 4 4 (.bool dv) (.bool dv) _ (neB _) (gneB _ _ _ _) rfl rfl rfl rfl) BV.out ?_
                simp only [Act.put, List.setIfInBounds_toArray, List.set_cons_zero, List.set_cons_succ]
                refine take_at (i := 27) 123 ?_ rfl rfl (by kernel_rfl) (by kernel_rfl) (by kernel_rfl) (fun _ _ _ h => h) (.inl ⟨rfl, ?_⟩) BV.out ?_
                rotate_left 1
                · intro w hSw; go_simp; try with_reducible rfl
                simp only [Act.put, List.setIfInBounds_toArray, List.set_cons_zero, List.set_cons_succ]
                refine take_at (i := 28) 124 ?_ rfl rfl (by kernel_rfl) (by kernel_rfl) (by kernel_rfl) (fun _ _ _ h => h) (.inl ⟨rfl, ?_⟩) BV.out ?_
                rotate_left 1
                · intro w hSw; go_simp; try with_reducible rfl
                simp only [Act.put, List.setIfInBounds_toArray, List.set_cons_zero, List.set_cons_succ]
                refine take_at (i := 29) 125 ?_ rfl rfl (by kernel_rfl) (by kernel_rfl) (by kernel_rfl) (fun _ _ _ h => h) (.inl ⟨rfl, ?_⟩) BV.out ?_
                rotate_left 1
                · intro w hSw; go_simp; try with_reducible rfl
                simp only [Act.put, List.setIfInBounds_toArray, List.set_cons_zero, List.set_cons_succ]
                refine take_at (i := 30) 126 (.agg #[.int .i64 a, .int .i64 b]) rfl rfl (by kernel_rfl) (by kernel_rfl) (by kernel_rfl) (fun _ _ _ h => h) (yields_ld (.tmp 3) 24 (.pointer (some ⟨w.heap.size, 0, none⟩)) _ LV3.out rfl rfl rfl) BV.out ?_
                simp only [Act.put, List.setIfInBounds_toArray, List.set_cons_zero, List.set_cons_succ]
                refine take_at (i := 32) 128 ?_ rfl rfl (by kernel_rfl) (by kernel_rfl) (by kernel_rfl) (fun _ _ _ h => h) (.inl ⟨rfl, ?_⟩) BV.out ?_
                rotate_left 1
                · intro w hSw; go_simp; try with_reducible rfl
                simp only [Act.put, List.setIfInBounds_toArray, List.set_cons_zero, List.set_cons_succ]
                refine take_at (i := 33) 129 (.agg #[.int .i64 a, .int .i64 b]) rfl rfl (by kernel_rfl) (by kernel_rfl) (by kernel_rfl) (fun _ _ _ h => h) (yields_ld (.tmp 3) 24 (.pointer (some ⟨w.heap.size, 0, none⟩)) _ LV3.out rfl rfl rfl) BV.out ?_
                simp only [Act.put, List.setIfInBounds_toArray, List.set_cons_zero, List.set_cons_succ]
                have KIC := Lib.hid (kids_of v405 (pv p) _ ft1 fr1 la1 L1.length lc1 a b (fun W v => LiesK encS 2 W v (kidsF RW1 a b)) PT.out.tree.haveL (fun W hW => (Tb.kids_any W q mb RW1 (by have := PT.out.tree.tab.step hW; rwa [HRW.out] at this) (by have := LP.out.1; omega) a b).mono (fun e w' hh => by obtain ⟨v, h1, h2, h3⟩ := hh; exact ⟨v, h1, Tb.own_liesK (enc := encS) (k := 2) (fun _ => rfl) h2, h3⟩)))
                refine wpAnyH_ready (rs := [31]) (by kernel_rfl) (by simp) (br_call (i := 31) 127 22 #[pv p, .agg #[.int .i64 a, .int .i64 b]] rfl rfl rfl (by go_simp) ((KIC.out).mono ?_) AllReadyH.nil)
                rintro e v406 ⟨v1, rfl, hk1, hb⟩
                have BV := Lib.hid (BV.out.trans (hb.mono BV.out.size))
                have PT := Lib.hid (PT.out.step hb)
                have RT := Lib.hid (RT.out.step hb)
                have KA := Lib.hid hk1
                clear hk1 KIC
                clear hb
                refine ⟨_, rfl, BV.out, fun _ => ?_⟩
                simp only [Act.put, List.setIfInBounds_toArray, List.set_cons_zero, List.set_cons_succ]
                have RKC := Lib.hid (Tb.rkids_any v406 _ RW1 RT.out (by have := LP.out.1; omega) a b)
                refine wpAnyH_ready (rs := [34]) (by kernel_rfl) (by simp) (br_call (i := 34) 130 23 #[.slice rva RW1.length rvc, .agg #[.int .i64 a, .int .i64 b]] rfl rfl rfl (by go_simp) ((RKC.out).mono ?_) AllReadyH.nil)
                rintro e v407 ⟨v2, rfl, hk2, hb⟩
                have BV := Lib.hid (BV.out.trans (hb.mono BV.out.size))
                have PT := Lib.hid (PT.out.step hb)
                have RT := Lib.hid (RT.out.step hb)
                have KA := Lib.hid (KA.out.step hb)
                have KBB := Lib.hid (Tb.own_liesK (enc := encS) (k := 2) (fun _ => rfl) hk2)
                clear hk2 RKC
                clear hb
                refine ⟨_, rfl, BV.out, fun _ => ?_⟩
                simp only [Act.put, List.setIfInBounds_toArray, List.set_cons_zero, List.set_cons_succ]
                have SKC := Lib.hid (Tb.same_self v407 v1 v2 _ KA.out KBB.out)
                refine wpAnyH_ready (rs := [35]) (by kernel_rfl) (by simp) (br_call (i := 35) 131 21 #[v1, v2] rfl rfl rfl (by go_simp) ((SKC.out).mono ?_) AllReadyH.nil)
                rintro e v408 ⟨rfl, hb⟩
                have BV := Lib.hid (BV.out.trans (hb.mono BV.out.size))
                have PT := Lib.hid (PT.out.step hb)
                have RT := Lib.hid (RT.out.step hb)
                have KA := Lib.hid (KA.out.step hb)
                have KBB := Lib.hid (KBB.out.step hb)
                clear SKC
                clear hb
                refine ⟨_, rfl, BV.out, fun _ => ?_⟩
                simp only [Act.put, List.setIfInBounds_toArray, List.set_cons_zero, List.set_cons_succ]
                refine take_at (i := 36) 132 ?_ rfl rfl (by kernel_rfl) (by kernel_rfl) (by kernel_rfl) (fun _ _ _ h => h) (.inl ⟨rfl, ?_⟩) BV.out ?_
                rotate_left 1
                · intro w hSw; go_simp; try with_reducible rfl
                simp only [Act.put, List.setIfInBounds_toArray, List.set_cons_zero, List.set_cons_succ]
                refine take_at (i := 37) 133 ?_ rfl rfl (by kernel_rfl) (by kernel_rfl) (by kernel_rfl) (fun _ _ _ h => h) (.inl ⟨rfl, ?_⟩) BV.out ?_
                rotate_left 1
                · intro w hSw; go_simp; try with_reducible rfl
                simp only [Act.put, List.setIfInBounds_toArray, List.set_cons_zero, List.set_cons_succ]
                refine take_at (i := 38) 134 ?_ rfl rfl (by kernel_rfl) (by kernel_rfl) (by kernel_rfl) (fun _ _ _ h => h) (.inl ⟨rfl, ?_⟩) BV.out ?_
                rotate_left 1
                · intro w hSw; go_simp; try with_reducible rfl
                simp only [Act.put, List.setIfInBounds_toArray, List.set_cons_zero, List.set_cons_succ]
                refine take_at (i := 39) 135 ?_ rfl rfl (by kernel_rfl) (by kernel_rfl) (by kernel_rfl) (fun _ _ _ h => h) (.inl ⟨rfl, ?_⟩) BV.out ?_
                rotate_left 1
                · intro w hSw; go_simp; try with_reducible rfl
                simp only [Act.put, List.setIfInBounds_toArray, List.set_cons_zero, List.set_cons_succ]
                refine take_at (i := 40) 136 (.agg #[.int .i64 a, .int .i64 b]) rfl rfl (by kernel_rfl) (by kernel_rfl) (by kernel_rfl) (fun _ _ _ h => h) (yields_ld (.tmp 3) 24 (.pointer (some ⟨w.heap.size, 0, none⟩)) _ LV3.out rfl rfl rfl) BV.out ?_
                simp only [Act.put, List.setIfInBounds_toArray, List.set_cons_zero, List.set_cons_succ]
                refine take_at (i := 41) 137 ?_ rfl rfl (by kernel_rfl) (by kernel_rfl) (by kernel_rfl) (fun _ _ _ h => h) (.inl ⟨rfl, ?_⟩) BV.out ?_
                rotate_left 1
                · intro w hSw; go_simp; try with_reducible rfl
                simp only [Act.put, List.setIfInBounds_toArray, List.set_cons_zero, List.set_cons_succ]
                refine take_at (i := 42) 138 ?_ rfl rfl (by kernel_rfl) (by kernel_rfl) (by kernel_rfl) (fun _ _ _ h => h) (.inl ⟨rfl, ?_⟩) BV.out ?_
                rotate_left 1
                · intro w hSw; go_simp; try with_reducible rfl
                simp only [Act.put, List.setIfInBounds_toArray, List.set_cons_zero, List.set_cons_succ]
                refine take_at (i := 43) 139 (.pointer (some ⟨g, k + i * 10, none⟩)) rfl rfl (by kernel_rfl) (by kernel_rfl) (by kernel_rfl) (fun _ _ _ h => h) (yields_ix (.tmp 137) (.tmp 138) 22 (.slice (some ⟨g, k, none⟩) l.length cap) (.int .i64 (i : Int)) _ IX.out rfl rfl rfl rfl) BV.out ?_
                simp only [Act.put, List.setIfInBounds_toArray, List.set_cons_zero, List.set_cons_succ]
                refine take_at (i := 44) 140 ?_ rfl rfl (by kernel_rfl) (by kernel_rfl) (by kernel_rfl) (fun _ _ _ h => h) (.inl ⟨rfl, ?_⟩) BV.out ?_
                rotate_left 1
                · intro w hSw; go_simp; try with_reducible rfl
                simp only [Act.put, List.setIfInBounds_toArray, List.set_cons_zero, List.set_cons_succ]
                refine take_at (i := 45) 141 ?_ rfl rfl (by kernel_rfl) (by kernel_rfl) (by kernel_rfl) (fun _ _ _ h => h) (.inl ⟨rfl, ?_⟩) BV.out ?_
                rotate_left 1
                · intro w hSw; go_simp; try with_reducible rfl
                simp only [Act.put, List.setIfInBounds_toArray, List.set_cons_zero, List.set_cons_succ]
                refine take_at (i := 46) 142 (.agg #[.int .i64 o.nt, .int .i64 o.nr]) rfl rfl (by kernel_rfl) (by kernel_rfl) (by kernel_rfl) (fun _ _ _ h => h) (yields_ld (.tmp 141) 24 (.pointer (some ⟨g, k + i * 10 + 1 + 3, none⟩)) _ LVN.out rfl rfl rfl) BV.out ?_
                simp only [Act.put, List.setIfInBounds_toArray, List.set_cons_zero, List.set_cons_succ]
                refine take_at (i := 48) 144 ?_ rfl rfl (by kernel_rfl) (by kernel_rfl) (by kernel_rfl) (fun _ _ _ h => h) (.inl ⟨rfl, ?_⟩) BV.out ?_
                rotate_left 1
                · intro w hSw; go_simp; try with_reducible rfl
                simp only [Act.put, List.setIfInBounds_toArray, List.set_cons_zero, List.set_cons_succ]
                refine take_at (i := 49) 145 (.agg #[.int .i64 a, .int .i64 b]) rfl rfl (by kernel_rfl) (by kernel_rfl) (by kernel_rfl) (fun _ _ _ h => h) (yields_ld (.tmp 3) 24 (.pointer (some ⟨w.heap.size, 0, none⟩)) _ LV3.out rfl rfl rfl) BV.out ?_
                simp only [Act.put, List.setIfInBounds_toArray, List.set_cons_zero, List.set_cons_succ]
                refine take_at (i := 50) 146 ?_ rfl rfl (by kernel_rfl) (by kernel_rfl) (by kernel_rfl) (fun _ _ _ h => h) (.inl ⟨rfl, ?_⟩) BV.out ?_
                rotate_left 1
                · intro w hSw; go_simp; try with_reducible rfl
                simp only [Act.put, List.setIfInBounds_toArray, List.set_cons_zero, List.set_cons_succ]
                refine take_at (i := 51) 147 ?_ rfl rfl (by kernel_rfl) (by kernel_rfl) (by kernel_rfl) (fun _ _ _ h => h) (.inl ⟨rfl, ?_⟩) BV.out ?_
                rotate_left 1
                · intro w hSw; go_simp; try with_reducible rfl
                simp only [Act.put, List.setIfInBounds_toArray, List.set_cons_zero, List.set_cons_succ]
                refine take_at (i := 52) 148 (.pointer (some ⟨g, k + i * 10, none⟩)) rfl rfl (by kernel_rfl) (by kernel_rfl) (by kernel_rfl) (fun _ _ _ h => h) (yields_ix (.tmp 146) (.tmp 147) 22 (.slice (some ⟨g, k, none⟩) l.length cap) (.int .i64 (i : Int)) _ IX.out rfl rfl rfl rfl) BV.out ?_
                simp only [Act.put, List.setIfInBounds_toArray, List.set_cons_zero, List.set_cons_succ]
                refine take_at (i := 53) 149 ?_ rfl rfl (by kernel_rfl) (by kernel_rfl) (by kernel_rfl) (fun _ _ _ h => h) (.inl ⟨rfl, ?_⟩) BV.out ?_
                rotate_left 1
                · intro w hSw; go_simp; try with_reducible rfl
                simp only [Act.put, List.setIfInBounds_toArray, List.set_cons_zero, List.set_cons_succ]
                refine take_at (i := 54) 150 ?_ rfl rfl (by kernel_rfl) (by kernel_rfl) (by kernel_rfl) (fun _ _ _ h => h) (.inl ⟨rfl, ?_⟩) BV.out ?_
                rotate_left 1
                · intro w hSw; go_simp; try with_reducible rfl
                simp only [Act.put, List.setIfInBounds_toArray, List.set_cons_zero, List.set_cons_succ]
                refine take_at (i := 55) 151 (.agg #[.int .i64 o.nt, .int .i64 o.nr]) rfl rfl (by kernel_rfl) (by kernel_rfl) (by kernel_rfl) (fun _ _ _ h => h) (yields_ld (.tmp 150) 24 (.pointer (some ⟨g, k + i * 10 + 1 + 3, none⟩)) _ LVN.out rfl rfl rfl) BV.out ?_
                simp only [Act.put, List.setIfInBounds_toArray, List.set_cons_zero, List.set_cons_succ]
                have ABC := Lib.hid (above_of v408 (pv p) _ ft1 fr1 la1 L1.length lc1 a b o.nt o.nr (aboveF RW1 a b RW1.length o.nt o.nr) PT.out.tree.haveL (fun W hW => Tb.above_any W q mb RW1 (by have := PT.out.tree.tab.step hW; rwa [HRW.out] at this) (by have := LP.out.1; omega) a b o.nt o.nr OKX.out.1.nt OKX.out.1.nr))
                rw [HAV.out] at ABC
                refine wpAnyH_ready (rs := [47]) (by kernel_rfl) (by simp) (br_call (i := 47) 143 24 #[pv p, .agg #[.int .i64 a, .int .i64 b], .agg #[.int .i64 o.nt, .int .i64 o.nr]] rfl rfl rfl (by go_simp) ((ABC.out).mono ?_) AllReadyH.nil)
                rintro e v409 ⟨rfl, hb⟩
                have BV := Lib.hid (BV.out.trans (hb.mono BV.out.size))
                have PT := Lib.hid (PT.out.step hb)
                have RT := Lib.hid (RT.out.step hb)
                have KA := Lib.hid (KA.out.step hb)
                have KBB := Lib.hid (KBB.out.step hb)
                clear ABC
                clear hb
                refine ⟨_, rfl, BV.out, fun _ => ?_⟩
                simp only [Act.put, List.setIfInBounds_toArray, List.set_cons_zero, List.set_cons_succ]
                have RBC := Lib.hid (Tb.rabove_any v409 _ RW1 RT.out a b o.nt o.nr)
                rw [HAV.out] at RBC
                refine wpAnyH_ready (rs := [56]) (by kernel_rfl) (by simp) (br_call (i := 56) 152 25 #[.slice rva RW1.length rvc, .agg #[.int .i64 a, .int .i64 b], .agg #[.int .i64 o.nt, .int .i64 o.nr]] rfl rfl rfl (by go_simp) ((RBC.out).mono ?_) AllReadyH.nil)
                rintro e v410 ⟨rfl, hb⟩
                have BV := Lib.hid (BV.out.trans (hb.mono BV.out.size))
                have PT := Lib.hid (PT.out.step hb)
                have RT := Lib.hid (RT.out.step hb)
                have KA := Lib.hid (KA.out.step hb)
                have KBB := Lib.hid (KBB.out.step hb)
                clear RBC
                clear hb
                refine ⟨_, rfl, BV.out, fun _ => ?_⟩
                simp only [Act.put, List.setIfInBounds_toArray, List.set_cons_zero, List.set_cons_succ]
                refine take_at (i := 57) 153 (.bool false) rfl rfl (by kernel_rfl) (by kernel_rfl) (by kernel_rfl) (fun _ _ _ h => h) (yields_bin .neq (.tmp 143) (.tmp 152) 4 4 (.bool av) (.bool av) _ (neB _) (gneB _ _ _ _) rfl rfl rfl rfl) BV.out ?_
                simp only [Act.put, List.setIfInBounds_toArray, List.set_cons_zero, List.set_cons_succ]
                refine take_at (i := 58) 154 ?_ rfl rfl (by kernel_rfl) (by kernel_rfl) (by kernel_rfl) (fun _ _ _ h => h) (.inl ⟨rfl, ?_⟩) BV.out ?_
                rotate_left 1
                · intro w hSw; go_simp; try with_reducible rfl
                simp only [Act.put, List.setIfInBounds_toArray, List.set_cons_zero, List.set_cons_succ]
                refine wpAnyH_done (by kernel_rfl) ?_ _
                have KF := Lib.hid (show ∃ T ft fr L la lc ba bn bc ra rc, P2 w v410 k6 p q mb a b T ft fr L la lc T ft fr L ba bn bc ra rc ∧ PF T L (i + 1) from ⟨_, _, _, _, _, _, _, _, _, _, _, PT.out, FZ.out⟩)
                clear BV PT RT FZ
                go_wp2
                go_roundw
                case rel => exact ⟨i + 1, by first | (rw [HW9.out]; rfl) | go_num, HL1.out, KF⟩
                case measure => first | (rw [HW9.out]; exact HMS.out) | exact HMS.out
            · rw [decide_eq_false hk]
              clear hk
              by_cases hk4 : kd = 4
              · subst hk4
                obtain ⟨ck, hck⟩ : ∃ z, cutK ft fr L o.t o.r = z := ⟨_, rfl⟩
                obtain ⟨TT, hTT⟩ : ∃ z, playF T0 (L.take ck) = z := ⟨_, rfl⟩
                obtain ⟨LD, hLD⟩ : ∃ z, L.drop ck = z := ⟨_, rfl⟩
                obtain ⟨gt, hgt⟩ : ∃ z, cutA ft o.t (St.cmpS o.t o.r ft fr) = z := ⟨_, rfl⟩
                obtain ⟨gr, hgr⟩ : ∃ z, cutA fr o.r (St.cmpS o.t o.r ft fr) = z := ⟨_, rfl⟩
                have HE := Lib.hid (And.intro hck (And.intro hTT (And.intro hLD (And.intro hgt hgr))))
                clear hck hTT hLD hgt hgr
                have RCT := Lib.hid (fun W (hb : Below wr.heap.size wr W) => (show Calls Try.prog 13 #[.agg #[.slice ba bn bc, .int .i64 ft, .int .i64 fr, .slice ra L.length rc], .agg #[.int .i64 o.t, .int .i64 o.r]] W fun e w' => ∃ a n c a2 n2 c2, e = .returned (.tuple #[.agg #[.slice a n c, .int .i64 gt, .int .i64 gr, .slice a2 n2 c2], .int .i64 (ck : Nat)]) ∧ LiesR w' (.slice a n c) TT ∧ OLies w' (.slice a2 n2 c2) LD ∧ Below W.heap.size W w' ∧ Spr W.heap.size w' (.slice ba bn bc) (.slice a n c) ∧ Spr W.heap.size w' (.slice ra L.length rc) (.slice a2 n2 c2) from by
                  have hh := rcut_any W ba bn bc T0 ft fr ra rc L (PK.out.step hb).base FK.out.riseT (PK.out.step hb).log FK.out.rise (by have := FK.out.len; omega) o.t o.r
                  rw [HE.out.1, HE.out.2.2.2.1, HE.out.2.2.2.2] at hh
                  rwa [HE.out.2.1, HE.out.2.2.1] at hh))
                have LD6 := Lib.hid (fun W (hb : Below wr.heap.size wr W) => ld32 (PK.out.step hb).b6)
                have LA5 := Lib.hid (fun W (hb : Below wr.heap.size wr W) => LAT.out W (PK.out.step hb).bel)
                go_upto_region 19 with fail
                go_cut [13, 14] from 72 to 82 (fun s13 s14 wq => ∃ kb xba xbn xbc xra xrc, s13 = .pointer (some ⟨kb, 0, none⟩) ∧ s14 = .int .i64 ((ck : Nat) : Int) ∧ Hid (AFT wr wq kb k6 p q mb la xba xbn xbc gt gr xra xrc TT LD))
                case first =>
                  refine wp_region_held_drew (S := fun w' => Below wr.heap.size wr w') (by kernel_rfl) (Below.refl _ _).drew (fun hHeld => ?_)
                  have BV := Lib.hid (show Below wr.heap.size wr wr.drew from (Below.refl _ _).drew)
                  clear hHeld
                  refine take_at (i := 0) 73 (.agg #[.slice ba bn bc, .int .i64 ft, .int .i64 fr, .slice ra L.length rc]) rfl rfl (by kernel_rfl) (by kernel_rfl) (by kernel_rfl) (fun _ _ _ h => h) (yields_ld (.tmp 6) 32 (.pointer (some ⟨k6, 0, none⟩)) _ LD6.out rfl rfl rfl) BV.out ?_
                  simp only [Act.put, List.setIfInBounds_toArray, List.set_cons_zero, List.set_cons_succ]
                  refine take_at (i := 1) 74 ?_ rfl rfl (by kernel_rfl) (by kernel_rfl) (by kernel_rfl) (fun _ _ _ h => h) (.inl ⟨rfl, ?_⟩) BV.out ?_
                  rotate_left 1
                  · intro w hSw; go_simp; try with_reducible rfl
                  simp only [Act.put, List.setIfInBounds_toArray, List.set_cons_zero, List.set_cons_succ]
                  refine take_at (i := 2) 75 ?_ rfl rfl (by kernel_rfl) (by kernel_rfl) (by kernel_rfl) (fun _ _ _ h => h) (.inl ⟨rfl, ?_⟩) BV.out ?_
                  rotate_left 1
                  · intro w hSw; go_simp; try with_reducible rfl
                  simp only [Act.put, List.setIfInBounds_toArray, List.set_cons_zero, List.set_cons_succ]
                  refine take_at (i := 3) 76 (.pointer (some ⟨g, k + i * 10, none⟩)) rfl rfl (by kernel_rfl) (by kernel_rfl) (by kernel_rfl) (fun _ _ _ h => h) (yields_ix (.tmp 74) (.tmp 75) 22 (.slice (some ⟨g, k, none⟩) l.length cap) (.int .i64 (i : Int)) _ IX.out rfl rfl rfl rfl) BV.out ?_
                  simp only [Act.put, List.setIfInBounds_toArray, List.set_cons_zero, List.set_cons_succ]
                  refine take_at (i := 4) 77 ?_ rfl rfl (by kernel_rfl) (by kernel_rfl) (by kernel_rfl) (fun _ _ _ h => h) (.inl ⟨rfl, ?_⟩) BV.out ?_
                  rotate_left 1
                  · intro w hSw; go_simp; try with_reducible rfl
                  simp only [Act.put, List.setIfInBounds_toArray, List.set_cons_zero, List.set_cons_succ]
                  refine take_at (i := 5) 78 ?_ rfl rfl (by kernel_rfl) (by kernel_rfl) (by kernel_rfl) (fun _ _ _ h => h) (.inl ⟨rfl, ?_⟩) BV.out ?_
                  rotate_left 1
                  · intro w hSw; go_simp; try with_reducible rfl
                  simp only [Act.put, List.setIfInBounds_toArray, List.set_cons_zero, List.set_cons_succ]
                  refine take_at (i := 6) 79 (.agg #[.int .i64 o.t, .int .i64 o.r]) rfl rfl (by kernel_rfl) (by kernel_rfl) (by kernel_rfl) (fun _ _ _ h => h) (yields_ld (.tmp 78) 24 (.pointer (some ⟨g, k + i * 10 + 1, none⟩)) _ LA5.out rfl rfl rfl) BV.out ?_
                  simp only [Act.put, List.setIfInBounds_toArray, List.set_cons_zero, List.set_cons_succ]
                  refine wpAnyH_ready (rs := [7, 11]) (by kernel_rfl) (by simp) (br_call (i := 7) 80 13 #[.agg #[.slice ba bn bc, .int .i64 ft, .int .i64 fr, .slice ra L.length rc], .agg #[.int .i64 o.t, .int .i64 o.r]] rfl rfl rfl (by go_simp) ((RCT.out _ BV.out).mono ?_) (br_alloc (i := 11) 13 32 (.pointer (some ⟨wr.drew.heap.size, 0, none⟩)) (wr.drew.alloc (.cells #[.slice none 0 0, .int .i64 0, .int .i64 0, .slice none 0 0] 32)) rfl rfl rfl rfl (alc32 wr.drew) (BV.out.trans ((pl_vstep wr.drew _).mono BV.out.size)) (fun _ => ?_) AllReadyH.nil))
                  · rintro e v301 ⟨xba, xbn, xbc, xra, xn, xrc, rfl, hsb, hso, hb, hspb, hspl⟩
                    have hsn := slice_len hso
                    subst hsn
                    have PB := Lib.hid (PK.out.step BV.out)
                    have BHB := Lib.hid hb.size
                    have BV := Lib.hid (BV.out.trans (hb.mono BV.out.size))
                    have HBB := Lib.hid hsb
                    have SO := Lib.hid hso
                    have A1 := Lib.hid (PB.out.apB.spr hspb PB.out.lt6 BHB.out)
                    have A2 := Lib.hid (PB.out.apL.spr hspl PB.out.lt6 BHB.out)
                    clear hsb hso hspb hspl PB BHB
                    clear hb
                    refine ⟨_, rfl, BV.out, fun _ => ?_⟩
                    simp only [Act.put, List.setIfInBounds_toArray, List.set_cons_zero, List.set_cons_succ]
                    refine take_at (i := 8) 72 ?_ rfl rfl (by kernel_rfl) (by kernel_rfl) (by kernel_rfl) (fun _ _ _ h => h) (.inl ⟨rfl, ?_⟩) BV.out ?_
                    rotate_left 1
                    · intro w hSw; go_simp; try with_reducible rfl
                    simp only [Act.put, List.setIfInBounds_toArray, List.set_cons_zero, List.set_cons_succ]
                    refine take_at (i := 9) 81 (.agg #[.slice xba xbn xbc, .int .i64 gt, .int .i64 gr, .slice xra (LD).length xrc]) rfl rfl (by kernel_rfl) (by kernel_rfl) (by kernel_rfl) (fun _ _ _ h => h) (yields_ext (.tmp 72) 0 (.tuple #[.agg #[.slice xba xbn xbc, .int .i64 gt, .int .i64 gr, .slice xra (LD).length xrc], .int .i64 ((ck : Nat) : Int)]) _ (ex2_0 _ _) rfl rfl rfl) BV.out ?_
                    simp only [Act.put, List.setIfInBounds_toArray, List.set_cons_zero, List.set_cons_succ]
                    refine take_at (i := 10) 82 (.int .i64 ((ck : Nat) : Int)) rfl rfl (by kernel_rfl) (by kernel_rfl) (by kernel_rfl) (fun _ _ _ h => h) (yields_ext (.tmp 72) 1 (.tuple #[.agg #[.slice xba xbn xbc, .int .i64 gt, .int .i64 gr, .slice xra (LD).length xrc], .int .i64 ((ck : Nat) : Int)]) _ (ex2_1 _ _) rfl rfl rfl) BV.out ?_
                    simp only [Act.put, List.setIfInBounds_toArray, List.set_cons_zero, List.set_cons_succ]
                    refine wpAnyH_ready (rs := [11]) (by kernel_rfl) (by simp) (br_alloc (i := 11) 13 32 (.pointer (some ⟨v301.heap.size, 0, none⟩)) (v301.alloc (.cells #[.slice none 0 0, .int .i64 0, .int .i64 0, .slice none 0 0] 32)) rfl rfl rfl rfl (alc32 v301) (BV.out.trans ((pl_vstep v301 _).mono BV.out.size)) (fun _ => ?_) AllReadyH.nil)
                    have KB := Lib.hid (show wr.heap.size ≤ v301.heap.size from BV.out.size)
                    obtain ⟨v302, hv302⟩ : ∃ zz, v301.alloc (.cells #[.slice none 0 0, .int .i64 0, .int .i64 0, .slice none 0 0] 32) = zz := ⟨_, rfl⟩
                    have hb : Below v301.heap.size v301 v302 := by rw [← hv302]; exact pl_vstep v301 _
                    have NB := Lib.hid (show BX4 v302 v301.heap.size 32 (.slice none 0 0) (.int .i64 0) (.int .i64 0) (.slice none 0 0) from ⟨by rw [← hv302]; exact heap_alloc_new v301 _⟩)
                    rw [hv302]
                    obtain ⟨kb, hkb⟩ : ∃ zz, v301.heap.size = zz := ⟨_, rfl⟩
                    rw [hkb] at NB KB ⊢
                    clear hv302
                    try have A1 := Lib.hid (A1.out.step hb.size)
                    try have A2 := Lib.hid (A2.out.step hb.size)
                    have BV := Lib.hid (BV.out.trans (hb.mono BV.out.size))
                    have HBB := Lib.hid (HBB.out.step hb)
                    have SO := Lib.hid (SO.out.step hb)
                    clear hb
                    clear hkb
                    simp only [Act.put, List.setIfInBounds_toArray, List.set_cons_zero, List.set_cons_succ]
                    refine wpAnyH_ready (rs := [12]) (by kernel_rfl) (by simp) (br_store (i := 12) 32 (.tmp 13) (.tmp 81) (.pointer (some ⟨kb, 0, none⟩)) (.agg #[.slice xba xbn xbc, .int .i64 gt, .int .i64 gr, .slice xra (LD).length xrc]) (set4 v302 kb (.slice xba xbn xbc) (.int .i64 gt) (.int .i64 gr) (.slice xra (LD).length xrc)) rfl rfl rfl rfl rfl rfl (st32 NB.out.row xba xbn xbc gt gr xra (LD).length xrc) (set4_below BV.out KB.out) (fun _ => ?_) AllReadyH.nil)
                    have HBB := Lib.hid (liesK_set4 (enc := Tb.enc6) (n := 6) (x := .slice xba xbn xbc) (y := .int .i64 gt) (z := .int .i64 gr) (v := .slice xra (LD).length xrc) (by decide) Tb.enc6_len HBB.out NB.out.row)
                    have SO := Lib.hid (olies_set4 (x := .slice xba xbn xbc) (y := .int .i64 gt) (z := .int .i64 gr) (v := .slice xra (LD).length xrc) SO.out NB.out.row)
                    have A1 := Lib.hid (A1.out.step (far_set4 v302 kb (.slice xba xbn xbc) (.int .i64 gt) (.int .i64 gr) (.slice xra (LD).length xrc)).size)
                    have A2 := Lib.hid (A2.out.step (far_set4 v302 kb (.slice xba xbn xbc) (.int .i64 gt) (.int .i64 gr) (.slice xra (LD).length xrc)).size)
                    have BV := Lib.hid (show Below wr.heap.size wr (set4 v302 kb (.slice xba xbn xbc) (.int .i64 gt) (.int .i64 gr) (.slice xra (LD).length xrc)) from set4_below BV.out KB.out)
                    have N2 := Lib.hid (set4_row (x' := .slice xba xbn xbc) (y' := .int .i64 gt) (z' := .int .i64 gr) (v' := .slice xra (LD).length xrc) NB.out.row)
                    obtain ⟨v303, hv303⟩ : ∃ zz, set4 v302 kb (.slice xba xbn xbc) (.int .i64 gt) (.int .i64 gr) (.slice xra (LD).length xrc) = zz := ⟨_, rfl⟩
                    rw [hv303] at HBB SO A1 A2 BV N2 ⊢
                    clear hv303 NB KB
                    simp only [Act.put, List.setIfInBounds_toArray, List.set_cons_zero, List.set_cons_succ]
                    refine take_at (i := 13) 14 ?_ rfl rfl (by kernel_rfl) (by kernel_rfl) (by kernel_rfl) (fun _ _ _ h => h) (.inl ⟨rfl, ?_⟩) BV.out ?_
                    rotate_left 1
                    · intro w hSw; go_simp; try with_reducible rfl
                    simp only [Act.put, List.setIfInBounds_toArray, List.set_cons_zero, List.set_cons_succ]
                    refine wpAnyH_done (by kernel_rfl) ?_ _
                    go_wp2_with fail
                    go_meet
                    exact ⟨_, _, _, _, _, _, rfl, rfl, Lib.hid ⟨BV.out, N2.out, HBB.out, SO.out, A1.out, A2.out⟩⟩
                  · have KB := Lib.hid (show wr.heap.size ≤ wr.drew.heap.size from BV.out.size)
                    obtain ⟨v304, hv304⟩ : ∃ zz, wr.drew.alloc (.cells #[.slice none 0 0, .int .i64 0, .int .i64 0, .slice none 0 0] 32) = zz := ⟨_, rfl⟩
                    have hb : Below wr.drew.heap.size wr.drew v304 := by rw [← hv304]; exact pl_vstep wr.drew _
                    have NB := Lib.hid (show BX4 v304 wr.drew.heap.size 32 (.slice none 0 0) (.int .i64 0) (.int .i64 0) (.slice none 0 0) from ⟨by rw [← hv304]; exact heap_alloc_new wr.drew _⟩)
                    rw [hv304]
                    obtain ⟨kb, hkb⟩ : ∃ zz, wr.drew.heap.size = zz := ⟨_, rfl⟩
                    rw [hkb] at NB KB ⊢
                    clear hv304
                    try have A1 := Lib.hid (A1.out.step hb.size)
                    try have A2 := Lib.hid (A2.out.step hb.size)
                    have BV := Lib.hid (BV.out.trans (hb.mono BV.out.size))
                    clear hb
                    clear hkb
                    simp only [Act.put, List.setIfInBounds_toArray, List.set_cons_zero, List.set_cons_succ]
                    refine wpAnyH_ready (rs := [7]) (by kernel_rfl) (by simp) (br_call (i := 7) 80 13 #[.agg #[.slice ba bn bc, .int .i64 ft, .int .i64 fr, .slice ra L.length rc], .agg #[.int .i64 o.t, .int .i64 o.r]] rfl rfl rfl (by go_simp) ((RCT.out _ BV.out).mono ?_) AllReadyH.nil)
                    rintro e v305 ⟨xba, xbn, xbc, xra, xn, xrc, rfl, hsb, hso, hb, hspb, hspl⟩
                    have hsn := slice_len hso
                    subst hsn
                    have PB := Lib.hid (PK.out.step BV.out)
                    have BHB := Lib.hid hb.size
                    have BV := Lib.hid (BV.out.trans (hb.mono BV.out.size))
                    have NB := Lib.hid (NB.out.step hb)
                    have HBB := Lib.hid hsb
                    have SO := Lib.hid hso
                    have A1 := Lib.hid (PB.out.apB.spr hspb PB.out.lt6 BHB.out)
                    have A2 := Lib.hid (PB.out.apL.spr hspl PB.out.lt6 BHB.out)
                    clear hsb hso hspb hspl PB BHB
                    clear hb
                    refine ⟨_, rfl, BV.out, fun _ => ?_⟩
                    simp only [Act.put, List.setIfInBounds_toArray, List.set_cons_zero, List.set_cons_succ]
                    refine take_at (i := 8) 72 ?_ rfl rfl (by kernel_rfl) (by kernel_rfl) (by kernel_rfl) (fun _ _ _ h => h) (.inl ⟨rfl, ?_⟩) BV.out ?_
                    rotate_left 1
                    · intro w hSw; go_simp; try with_reducible rfl
                    simp only [Act.put, List.setIfInBounds_toArray, List.set_cons_zero, List.set_cons_succ]
                    refine take_at (i := 9) 81 (.agg #[.slice xba xbn xbc, .int .i64 gt, .int .i64 gr, .slice xra (LD).length xrc]) rfl rfl (by kernel_rfl) (by kernel_rfl) (by kernel_rfl) (fun _ _ _ h => h) (yields_ext (.tmp 72) 0 (.tuple #[.agg #[.slice xba xbn xbc, .int .i64 gt, .int .i64 gr, .slice xra (LD).length xrc], .int .i64 ((ck : Nat) : Int)]) _ (ex2_0 _ _) rfl rfl rfl) BV.out ?_
                    simp only [Act.put, List.setIfInBounds_toArray, List.set_cons_zero, List.set_cons_succ]
                    refine take_at (i := 10) 82 (.int .i64 ((ck : Nat) : Int)) rfl rfl (by kernel_rfl) (by kernel_rfl) (by kernel_rfl) (fun _ _ _ h => h) (yields_ext (.tmp 72) 1 (.tuple #[.agg #[.slice xba xbn xbc, .int .i64 gt, .int .i64 gr, .slice xra (LD).length xrc], .int .i64 ((ck : Nat) : Int)]) _ (ex2_1 _ _) rfl rfl rfl) BV.out ?_
                    simp only [Act.put, List.setIfInBounds_toArray, List.set_cons_zero, List.set_cons_succ]
                    refine wpAnyH_ready (rs := [12]) (by kernel_rfl) (by simp) (br_store (i := 12) 32 (.tmp 13) (.tmp 81) (.pointer (some ⟨kb, 0, none⟩)) (.agg #[.slice xba xbn xbc, .int .i64 gt, .int .i64 gr, .slice xra (LD).length xrc]) (set4 v305 kb (.slice xba xbn xbc) (.int .i64 gt) (.int .i64 gr) (.slice xra (LD).length xrc)) rfl rfl rfl rfl rfl rfl (st32 NB.out.row xba xbn xbc gt gr xra (LD).length xrc) (set4_below BV.out KB.out) (fun _ => ?_) AllReadyH.nil)
                    have HBB := Lib.hid (liesK_set4 (enc := Tb.enc6) (n := 6) (x := .slice xba xbn xbc) (y := .int .i64 gt) (z := .int .i64 gr) (v := .slice xra (LD).length xrc) (by decide) Tb.enc6_len HBB.out NB.out.row)
                    have SO := Lib.hid (olies_set4 (x := .slice xba xbn xbc) (y := .int .i64 gt) (z := .int .i64 gr) (v := .slice xra (LD).length xrc) SO.out NB.out.row)
                    have A1 := Lib.hid (A1.out.step (far_set4 v305 kb (.slice xba xbn xbc) (.int .i64 gt) (.int .i64 gr) (.slice xra (LD).length xrc)).size)
                    have A2 := Lib.hid (A2.out.step (far_set4 v305 kb (.slice xba xbn xbc) (.int .i64 gt) (.int .i64 gr) (.slice xra (LD).length xrc)).size)
                    have BV := Lib.hid (show Below wr.heap.size wr (set4 v305 kb (.slice xba xbn xbc) (.int .i64 gt) (.int .i64 gr) (.slice xra (LD).length xrc)) from set4_below BV.out KB.out)
                    have N2 := Lib.hid (set4_row (x' := .slice xba xbn xbc) (y' := .int .i64 gt) (z' := .int .i64 gr) (v' := .slice xra (LD).length xrc) NB.out.row)
                    obtain ⟨v306, hv306⟩ : ∃ zz, set4 v305 kb (.slice xba xbn xbc) (.int .i64 gt) (.int .i64 gr) (.slice xra (LD).length xrc) = zz := ⟨_, rfl⟩
                    rw [hv306] at HBB SO A1 A2 BV N2 ⊢
                    clear hv306 NB KB
                    simp only [Act.put, List.setIfInBounds_toArray, List.set_cons_zero, List.set_cons_succ]
                    refine take_at (i := 13) 14 ?_ rfl rfl (by kernel_rfl) (by kernel_rfl) (by kernel_rfl) (fun _ _ _ h => h) (.inl ⟨rfl, ?_⟩) BV.out ?_
                    rotate_left 1
                    · intro w hSw; go_simp; try with_reducible rfl
                    simp only [Act.put, List.setIfInBounds_toArray, List.set_cons_zero, List.set_cons_succ]
                    refine wpAnyH_done (by kernel_rfl) ?_ _
                    go_wp2_with fail
                    go_meet
                    exact ⟨_, _, _, _, _, _, rfl, rfl, Lib.hid ⟨BV.out, N2.out, HBB.out, SO.out, A1.out, A2.out⟩⟩
                case rest =>
                  obtain ⟨kb, xba, xbn, xbc, xra, xrc, rfl, rfl, AF⟩ := hcut
                  generalize wc = w9 at *
                  have P9 := Lib.hid (PK.out.step AF.out.bel)
                  clear RCT LD6 LA5 PK
                  have L10 := Lib.hid (ld32 AF.out.n2)
                  have S6 := Lib.hid (st32 P9.out.b6 xba xbn xbc gt gr xra (LD).length xrc)
                  have PQ := Lib.hid (P9.out.put (t := gt) (r := gr) AF.out.hb AF.out.so AF.out.a1 AF.out.a2)
                  clear AF P9
                  go_upto_region 21 with (first | (refine Ve.wpList_load_arr rfl (.tmp 13) 32 rfl (.pointer (some ⟨kb, 0, none⟩)) (.agg #[.slice xba xbn xbc, .int .i64 gt, .int .i64 gr, .slice xra (LD).length xrc]) rfl L10.out ?_) | (refine Ve.wpList_store_arr rfl (.tmp 6) (.tmp 83) 32 rfl (.pointer (some ⟨k6, 0, none⟩)) (.agg #[.slice xba xbn xbc, .int .i64 gt, .int .i64 gr, .slice xra (LD).length xrc]) rfl rfl _ S6.out ?_))
                  obtain ⟨wy, hwy⟩ : ∃ z, set4 w9 k6 (.slice xba xbn xbc) (.int .i64 gt) (.int .i64 gr) (.slice xra (LD).length xrc) = z := ⟨_, rfl⟩
                  rw [hwy] at PQ ⊢
                  clear hwy L10 S6
                  have CU := Lib.hid (cut2_any wy (w.heap.size + 1) p q mb T0 ft fr L la lc PQ.out.tree FK.out.rise (by have := FK.out.len; omega) PQ.out.tree.ne o.t o.r)
                  have LAY := Lib.hid (LAT.out wy PQ.out.bel)
                  rw [HE.out.1] at CU
                  go_wp2_with (first | (refine Ve.wpList_load_arr rfl (.tmp 89) 24 rfl (.pointer (some ⟨g, k + i * 10 + 1, none⟩)) (.agg #[.int .i64 o.t, .int .i64 o.r]) rfl LAY.out ?_))
                  refine CU.out.mono ?_
                  rintro e wz ⟨rfl, hr⟩
                  have J := Lib.hid (show ∃ T ft fr L la lc ba bn bc ra rc, P2 w wz k6 p q mb a b T ft fr L la lc T ft fr L ba bn bc ra rc ∧ PF T L (i + 1) from by
                    have pq := PQ.out
                    rw [← HE.out.2.1, ← HE.out.2.2.1, ← HE.out.2.2.2.1, ← HE.out.2.2.2.2] at pq
                    rcases hr with ⟨hc, hb⟩ | ⟨hc, hgr, la', lc', ht, hkk⟩
                    · have e0 : ck = 0 := by rw [← HE.out.1]; exact if_pos hc
                      have e1 : cutA ft o.t (St.cmpS o.t o.r ft fr) = ft := if_pos hc
                      have e2 : cutA fr o.r (St.cmpS o.t o.r ft fr) = fr := if_pos hc
                      rw [e1, e2, e0] at pq
                      exact ⟨_, _, _, _, _, _, _, _, _, _, _, pq.step hb, FK.out.up⟩
                    · have hc : ¬ St.cmpS o.t o.r ft fr ≤ 0 := by omega
                      have e1 : cutA ft o.t (St.cmpS o.t o.r ft fr) = o.t := if_neg hc
                      have e2 : cutA fr o.r (St.cmpS o.t o.r ft fr) = o.r := if_neg hc
                      rw [e1, e2] at pq
                      exact ⟨_, _, _, _, _, _, _, _, _, _, _, pq.cut hgr ht hkk, FK.out.cut ck⟩)
                  clear hr CU LAY PQ HE FK
                  go_upto_region 23 with (fail)
                  obtain ⟨T1, ft1, fr1, L1, la1, lc1, ba1, bn1, bc1, ra1, rc1, pz, fz⟩ := J.out
                  have PZ := Lib.hid pz
                  have FZ := Lib.hid fz
                  clear pz fz J
                  have LB := Lib.hid (ld32 PZ.out.b6)
                  have TBL := Lib.hid (rtable_any wz ba1 bn1 bc1 T1 ft1 fr1 ra1 L1.length rc1 L1 PZ.out.base FZ.out.riseT PZ.out.log (by have := FZ.out.len; omega))
                  go_wp2_with (first | (refine Ve.wpList_load_arr rfl (.tmp 6) 32 rfl (.pointer (some ⟨k6, 0, none⟩)) (.agg #[.slice ba1 bn1 bc1, .int .i64 ft1, .int .i64 fr1, .slice ra1 L1.length rc1]) rfl LB.out ?_))
                  refine TBL.out.mono ?_
                  rintro e wt ⟨rv, rfl, hrv, hb⟩
                  obtain ⟨rva, rvc, hq⟩ := hrv.shape
                  subst hq
                  have PW := Lib.hid (PZ.out.step hb)
                  have RT := Lib.hid (hrv.step (Below.refl _ _).drew)
                  have PT := Lib.hid ((PZ.out.step hb).step (Below.refl _ _).drew)
                  clear hrv hb TBL LB PZ
                  have LP := Lib.hid (show (playF T1 L1).length ≤ 1000 ∧ L1.length ≤ 100000 from by have := FZ.out.len; have := play_len L1 T1; omega)
                  obtain ⟨RW1, hRW1⟩ : ∃ z, playF T1 L1 = z := ⟨_, rfl⟩
                  have HRW := Lib.hid hRW1
                  rw [hRW1] at RT LP ⊢
                  have LV4 := Lib.hid (fun W (hb : Below wt.heap.size wt W) => @ld30 W k6 3 _ _ _ (box4 (PW.out.step hb).b6).2.2.2)
                  have LV2 := Lib.hid (fun W (hb : Below wt.heap.size wt W) => @ld24 W k6 1 _ _ (box4 (PW.out.step hb).b6).2.1 (box4 (PW.out.step hb).b6).2.2.1)
                  have LV0 := Lib.hid (fun W (hb : Below wt.heap.size wt W) => ld32 (PW.out.step hb).b6)
                  have LV3 := Lib.hid (fun W (hb : Below wt.heap.size wt W) => ldSt (PW.out.step hb).b3)
                  have LVN := Lib.hid (fun W (hb : Below wt.heap.size wt W) => LND.out W (PW.out.step hb).bel)
                  have DV := Lib.hid (rdid_did L1 T1 a b FZ.out.rise)
                  obtain ⟨dv, hdv⟩ : ∃ z, rdidF T1 L1 a b = z := ⟨_, rfl⟩
                  obtain ⟨av, hav⟩ : ∃ z, aboveF RW1 a b RW1.length o.nt o.nr = z := ⟨_, rfl⟩
                  have HDV := Lib.hid hdv
                  have HAV := Lib.hid hav
                  clear hRW1 hdv hav PW
                  go_upto_region 24 with (fail)
                  refine wp_region_held_drew (S := fun w' => Below wt.heap.size wt w') (by kernel_rfl) (Below.refl _ _).drew (fun hHeld => ?_)
                  have BV := Lib.hid (show Below wt.heap.size wt wt.drew from (Below.refl _ _).drew)
                  clear hHeld
                  refine take_at (i := 0) 96 ?_ rfl rfl (by kernel_rfl) (by kernel_rfl) (by kernel_rfl) (fun _ _ _ h => h) (.inl ⟨rfl, ?_⟩) BV.out ?_
                  rotate_left 1
                  · intro w hSw; go_simp; try with_reducible rfl
                  simp only [Act.put, List.setIfInBounds_toArray, List.set_cons_zero, List.set_cons_succ]
                  refine take_at (i := 1) 97 ?_ rfl rfl (by kernel_rfl) (by kernel_rfl) (by kernel_rfl) (fun _ _ _ h => h) (.inl ⟨rfl, ?_⟩) BV.out ?_
                  rotate_left 1
                  · intro w hSw; go_simp; try with_reducible rfl
                  simp only [Act.put, List.setIfInBounds_toArray, List.set_cons_zero, List.set_cons_succ]
                  have RWC := Lib.hid (rows_any wt.drew (w.heap.size + 1) p q mb T1 ft1 fr1 L1 la1 lc1 PT.out.tree (play_okT _ FZ.out.okT FZ.out.okL) rva RW1.length rvc (by rw [HRW.out]; exact RT.out) (by rw [HRW.out]; exact LP.out.1))
                  refine wpAnyH_ready (rs := [2]) (by kernel_rfl) (by simp) (br_call (i := 2) 98 16 #[pv p, .slice rva RW1.length rvc] rfl rfl rfl (by go_simp) ((RWC.out).mono ?_) AllReadyH.nil)
                  rintro e v401 ⟨rfl, hb⟩
                  have BV := Lib.hid (BV.out.trans (hb.mono BV.out.size))
                  have PT := Lib.hid (PT.out.step hb)
                  have RT := Lib.hid (RT.out.step hb)
                  clear RWC
                  clear hb
                  refine ⟨_, rfl, BV.out, fun _ => ?_⟩
                  simp only [Act.put, List.setIfInBounds_toArray, List.set_cons_zero, List.set_cons_succ]
                  refine take_at (i := 3) 99 ?_ rfl rfl (by kernel_rfl) (by kernel_rfl) (by kernel_rfl) (fun _ _ _ h => h) (.inl ⟨rfl, ?_⟩) BV.out ?_
                  rotate_left 1
                  · intro w hSw; go_simp; try with_reducible rfl
                  simp only [Act.put, List.setIfInBounds_toArray, List.set_cons_zero, List.set_cons_succ]
                  refine take_at (i := 4) 100 ?_ rfl rfl (by kernel_rfl) (by kernel_rfl) (by kernel_rfl) (fun _ _ _ h => h) (.inl ⟨rfl, ?_⟩) BV.out ?_
                  rotate_left 1
                  · intro w hSw; go_simp; try with_reducible rfl
                  simp only [Act.put, List.setIfInBounds_toArray, List.set_cons_zero, List.set_cons_succ]
                  refine take_at (i := 5) 101 ?_ rfl rfl (by kernel_rfl) (by kernel_rfl) (by kernel_rfl) (fun _ _ _ h => h) (.inl ⟨rfl, ?_⟩) BV.out ?_
                  rotate_left 1
                  · intro w hSw; go_simp; try with_reducible rfl
                  simp only [Act.put, List.setIfInBounds_toArray, List.set_cons_zero, List.set_cons_succ]
                  refine take_at (i := 7) 103 ?_ rfl rfl (by kernel_rfl) (by kernel_rfl) (by kernel_rfl) (fun _ _ _ h => h) (.inl ⟨rfl, ?_⟩) BV.out ?_
                  rotate_left 1
                  · intro w hSw; go_simp; try with_reducible rfl
                  simp only [Act.put, List.setIfInBounds_toArray, List.set_cons_zero, List.set_cons_succ]
                  refine take_at (i := 8) 104 (.slice ra1 L1.length rc1) rfl rfl (by kernel_rfl) (by kernel_rfl) (by kernel_rfl) (fun _ _ _ h => h) (yields_ld (.tmp 103) 30 (.pointer (some ⟨k6, 3, none⟩)) _ LV4.out rfl rfl rfl) BV.out ?_
                  simp only [Act.put, List.setIfInBounds_toArray, List.set_cons_zero, List.set_cons_succ]
                  refine take_at (i := 9) 105 ?_ rfl rfl (by kernel_rfl) (by kernel_rfl) (by kernel_rfl) (fun _ _ _ h => h) (.inl ⟨rfl, ?_⟩) BV.out ?_
                  rotate_left 1
                  · intro w hSw; go_simp; try with_reducible rfl
                  simp only [Act.put, List.setIfInBounds_toArray, List.set_cons_zero, List.set_cons_succ]
                  refine wpAnyH_ready (rs := [6]) (by kernel_rfl) (by simp) (br_call (i := 6) 102 17 #[pv p] rfl rfl rfl (by go_simp) ((len_of _ (pv p) _ ft1 fr1 la1 L1.length lc1 PT.out.tree.haveL).mono ?_) AllReadyH.nil)
                  rintro e v402 ⟨rfl, hb⟩
                  have BV := Lib.hid (BV.out.trans (hb.mono BV.out.size))
                  have PT := Lib.hid (PT.out.step hb)
                  have RT := Lib.hid (RT.out.step hb)
                  clear hb
                  refine ⟨_, rfl, BV.out, fun _ => ?_⟩
                  simp only [Act.put, List.setIfInBounds_toArray, List.set_cons_zero, List.set_cons_succ]
                  refine take_at (i := 10) 106 (.bool false) rfl rfl (by kernel_rfl) (by kernel_rfl) (by kernel_rfl) (fun _ _ _ h => h) (yields_bin .neq (.tmp 102) (.tmp 105) 3 3 (.int .i64 (L1.length : Int)) (.int .i64 (L1.length : Int)) _ (ne3 _) (gne3 _ _ _ _) rfl rfl rfl rfl) BV.out ?_
                  simp only [Act.put, List.setIfInBounds_toArray, List.set_cons_zero, List.set_cons_succ]
                  refine take_at (i := 11) 107 ?_ rfl rfl (by kernel_rfl) (by kernel_rfl) (by kernel_rfl) (fun _ _ _ h => h) (.inl ⟨rfl, ?_⟩) BV.out ?_
                  rotate_left 1
                  · intro w hSw; go_simp; try with_reducible rfl
                  simp only [Act.put, List.setIfInBounds_toArray, List.set_cons_zero, List.set_cons_succ]
                  refine take_at (i := 12) 108 ?_ rfl rfl (by kernel_rfl) (by kernel_rfl) (by kernel_rfl) (fun _ _ _ h => h) (.inl ⟨rfl, ?_⟩) BV.out ?_
                  rotate_left 1
                  · intro w hSw; go_simp; try with_reducible rfl
                  simp only [Act.put, List.setIfInBounds_toArray, List.set_cons_zero, List.set_cons_succ]
                  refine take_at (i := 13) 109 ?_ rfl rfl (by kernel_rfl) (by kernel_rfl) (by kernel_rfl) (fun _ _ _ h => h) (.inl ⟨rfl, ?_⟩) BV.out ?_
                  rotate_left 1
                  · intro w hSw; go_simp; try with_reducible rfl
                  simp only [Act.put, List.setIfInBounds_toArray, List.set_cons_zero, List.set_cons_succ]
                  refine take_at (i := 15) 111 ?_ rfl rfl (by kernel_rfl) (by kernel_rfl) (by kernel_rfl) (fun _ _ _ h => h) (.inl ⟨rfl, ?_⟩) BV.out ?_
                  rotate_left 1
                  · intro w hSw; go_simp; try with_reducible rfl
                  simp only [Act.put, List.setIfInBounds_toArray, List.set_cons_zero, List.set_cons_succ]
                  refine take_at (i := 16) 112 (.agg #[.int .i64 ft1, .int .i64 fr1]) rfl rfl (by kernel_rfl) (by kernel_rfl) (by kernel_rfl) (fun _ _ _ h => h) (yields_ld (.tmp 111) 24 (.pointer (some ⟨k6, 1, none⟩)) _ LV2.out rfl rfl rfl) BV.out ?_
                  simp only [Act.put, List.setIfInBounds_toArray, List.set_cons_zero, List.set_cons_succ]
                  refine wpAnyH_ready (rs := [14]) (by kernel_rfl) (by simp) (br_call (i := 14) 110 18 #[pv p] rfl rfl rfl (by go_simp) ((floor_of _ (pv p) _ ft1 fr1 la1 L1.length lc1 PT.out.tree.haveL).mono ?_) AllReadyH.nil)
                  rintro e v403 ⟨rfl, hb⟩
                  have BV := Lib.hid (BV.out.trans (hb.mono BV.out.size))
                  have PT := Lib.hid (PT.out.step hb)
                  have RT := Lib.hid (RT.out.step hb)
                  clear hb
                  refine ⟨_, rfl, BV.out, fun _ => ?_⟩
                  simp only [Act.put, List.setIfInBounds_toArray, List.set_cons_zero, List.set_cons_succ]
                  refine take_at (i := 17) 113 (.bool false) rfl rfl (by kernel_rfl) (by kernel_rfl) (by kernel_rfl) (fun _ _ _ h => h) (yields_bin .neq (.tmp 110) (.tmp 112) 24 24 (.agg #[.int .i64 ft1, .int .i64 fr1]) (.agg #[.int .i64 ft1, .int .i64 fr1]) _ (neS24 _ _) (gneS24 _ _ _ _) rfl rfl rfl rfl) BV.out ?_
                  simp only [Act.put, List.setIfInBounds_toArray, List.set_cons_zero, List.set_cons_succ]
                  refine take_at (i := 18) 114 ?_ rfl rfl (by kernel_rfl) (by kernel_rfl) (by kernel_rfl) (fun _ _ _ h => h) (.inl ⟨rfl, ?_⟩) BV.out ?_
                  rotate_left 1
                  · intro w hSw; go_simp; try with_reducible rfl
                  simp only [Act.put, List.setIfInBounds_toArray, List.set_cons_zero, List.set_cons_succ]
                  refine take_at (i := 19) 115 ?_ rfl rfl (by kernel_rfl) (by kernel_rfl) (by kernel_rfl) (fun _ _ _ h => h) (.inl ⟨rfl, ?_⟩) BV.out ?_
                  rotate_left 1
                  · intro w hSw; go_simp; try with_reducible rfl
                  simp only [Act.put, List.setIfInBounds_toArray, List.set_cons_zero, List.set_cons_succ]
                  refine take_at (i := 20) 116 ?_ rfl rfl (by kernel_rfl) (by kernel_rfl) (by kernel_rfl) (fun _ _ _ h => h) (.inl ⟨rfl, ?_⟩) BV.out ?_
                  rotate_left 1
                  · intro w hSw; go_simp; try with_reducible rfl
                  simp only [Act.put, List.setIfInBounds_toArray, List.set_cons_zero, List.set_cons_succ]
                  refine take_at (i := 21) 117 (.agg #[.int .i64 a, .int .i64 b]) rfl rfl (by kernel_rfl) (by kernel_rfl) (by kernel_rfl) (fun _ _ _ h => h) (yields_ld (.tmp 3) 24 (.pointer (some ⟨w.heap.size, 0, none⟩)) _ LV3.out rfl rfl rfl) BV.out ?_
                  simp only [Act.put, List.setIfInBounds_toArray, List.set_cons_zero, List.set_cons_succ]
                  refine take_at (i := 23) 119 (.agg #[.slice ba1 bn1 bc1, .int .i64 ft1, .int .i64 fr1, .slice ra1 L1.length rc1]) rfl rfl (by kernel_rfl) (by kernel_rfl) (by kernel_rfl) (fun _ _ _ h => h) (yields_ld (.tmp 6) 32 (.pointer (some ⟨k6, 0, none⟩)) _ LV0.out rfl rfl rfl) BV.out ?_
                  simp only [Act.put, List.setIfInBounds_toArray, List.set_cons_zero, List.set_cons_succ]
                  refine take_at (i := 24) 120 (.agg #[.int .i64 a, .int .i64 b]) rfl rfl (by kernel_rfl) (by kernel_rfl) (by kernel_rfl) (fun _ _ _ h => h) (yields_ld (.tmp 3) 24 (.pointer (some ⟨w.heap.size, 0, none⟩)) _ LV3.out rfl rfl rfl) BV.out ?_
                  simp only [Act.put, List.setIfInBounds_toArray, List.set_cons_zero, List.set_cons_succ]
                  have DDC := Lib.hid (did_of v403 (pv p) _ ft1 fr1 la1 L1.length lc1 (stepsF T1 L1) a b PT.out.tree.haveL (lies_log PT.out.tree) (by rw [steps_o]; exact FZ.out.rise) (by rw [steps_len]; exact LP.out.2))
                  rw [DV.out, HDV.out] at DDC
                  refine wpAnyH_ready (rs := [22]) (by kernel_rfl) (by simp) (br_call (i := 22) 118 19 #[pv p, .agg #[.int .i64 a, .int .i64 b]] rfl rfl rfl (by go_simp) ((DDC.out).mono ?_) AllReadyH.nil)
                  rintro e v404 ⟨rfl, hb⟩
                  have BV := Lib.hid (BV.out.trans (hb.mono BV.out.size))
                  have PT := Lib.hid (PT.out.step hb)
                  have RT := Lib.hid (RT.out.step hb)
                  clear DDC
                  clear hb
                  refine ⟨_, rfl, BV.out, fun _ => ?_⟩
                  simp only [Act.put, List.setIfInBounds_toArray, List.set_cons_zero, List.set_cons_succ]
                  have RDC := Lib.hid (rdid_any v404 ba1 bn1 bc1 T1 ft1 fr1 ra1 rc1 L1 PT.out.base FZ.out.riseT PT.out.log (by have := FZ.out.len; omega) a b)
                  rw [HDV.out] at RDC
                  refine wpAnyH_ready (rs := [25]) (by kernel_rfl) (by simp) (br_call (i := 25) 121 20 #[.agg #[.slice ba1 bn1 bc1, .int .i64 ft1, .int .i64 fr1, .slice ra1 L1.length rc1], .agg #[.int .i64 a, .int .i64 b]] rfl rfl rfl (by go_simp) ((RDC.out).mono ?_) AllReadyH.nil)
                  rintro e v405 ⟨rfl, hb⟩
                  have BV := Lib.hid (BV.out.trans (hb.mono BV.out.size))
                  have PT := Lib.hid (PT.out.step hb)
                  have RT := Lib.hid (RT.out.step hb)
                  clear RDC
                  clear hb
                  refine ⟨_, rfl, BV.out, fun _ => ?_⟩
                  simp only [Act.put, List.setIfInBounds_toArray, List.set_cons_zero, List.set_cons_succ]
                  refine take_at (i := 26) 122 (.bool false) rfl rfl (by kernel_rfl) (by kernel_rfl) (by kernel_rfl) (fun _ _ _ h => h) (yields_bin .neq (.tmp 118) (.tmp 121) 4 4 (.bool dv) (.bool dv) _ (neB _) (gneB _ _ _ _) rfl rfl rfl rfl) BV.out ?_
                  simp only [Act.put, List.setIfInBounds_toArray, List.set_cons_zero, List.set_cons_succ]
                  refine take_at (i := 27) 123 ?_ rfl rfl (by kernel_rfl) (by kernel_rfl) (by kernel_rfl) (fun _ _ _ h => h) (.inl ⟨rfl, ?_⟩) BV.out ?_
                  rotate_left 1
                  · intro w hSw; go_simp; try with_reducible rfl
                  simp only [Act.put, List.setIfInBounds_toArray, List.set_cons_zero, List.set_cons_succ]
                  refine take_at (i := 28) 124 ?_ rfl rfl (by kernel_rfl) (by kernel_rfl) (by kernel_rfl) (fun _ _ _ h => h) (.inl ⟨rfl, ?_⟩) BV.out ?_
                  rotate_left 1
                  · intro w hSw; go_simp; try with_reducible rfl
                  simp only [Act.put, List.setIfInBounds_toArray, List.set_cons_zero, List.set_cons_succ]
                  refine take_at (i := 29) 125 ?_ rfl rfl (by kernel_rfl) (by kernel_rfl) (by kernel_rfl) (fun _ _ _ h => h) (.inl ⟨rfl, ?_⟩) BV.out ?_
                  rotate_left 1
                  · intro w hSw; go_simp; try with_reducible rfl
                  simp only [Act.put, List.setIfInBounds_toArray, List.set_cons_zero, List.set_cons_succ]
                  refine take_at (i := 30) 126 (.agg #[.int .i64 a, .int .i64 b]) rfl rfl (by kernel_rfl) (by kernel_rfl) (by kernel_rfl) (fun _ _ _ h => h) (yields_ld (.tmp 3) 24 (.pointer (some ⟨w.heap.size, 0, none⟩)) _ LV3.out rfl rfl rfl) BV.out ?_
                  simp only [Act.put, List.setIfInBounds_toArray, List.set_cons_zero, List.set_cons_succ]
                  refine take_at (i := 32) 128 ?_ rfl rfl (by kernel_rfl) (by kernel_rfl) (by kernel_rfl) (fun _ _ _ h => h) (.inl ⟨rfl, ?_⟩) BV.out ?_
                  rotate_left 1
                  · intro w hSw; go_simp; try with_reducible rfl
                  simp only [Act.put, List.setIfInBounds_toArray, List.set_cons_zero, List.set_cons_succ]
                  refine take_at (i := 33) 129 (.agg #[.int .i64 a, .int .i64 b]) rfl rfl (by kernel_rfl) (by kernel_rfl) (by kernel_rfl) (fun _ _ _ h => h) (yields_ld (.tmp 3) 24 (.pointer (some ⟨w.heap.size, 0, none⟩)) _ LV3.out rfl rfl rfl) BV.out ?_
                  simp only [Act.put, List.setIfInBounds_toArray, List.set_cons_zero, List.set_cons_succ]
                  have KIC := Lib.hid (kids_of v405 (pv p) _ ft1 fr1 la1 L1.length lc1 a b (fun W v => LiesK encS 2 W v (kidsF RW1 a b)) PT.out.tree.haveL (fun W hW => (Tb.kids_any W q mb RW1 (by have := PT.out.tree.tab.step hW; rwa [HRW.out] at this) (by have := LP.out.1; omega) a b).mono (fun e w' hh => by obtain ⟨v, h1, h2, h3⟩ := hh; exact ⟨v, h1, Tb.own_liesK (enc := encS) (k := 2) (fun _ => rfl) h2, h3⟩)))
                  refine wpAnyH_ready (rs := [31]) (by kernel_rfl) (by simp) (br_call (i := 31) 127 22 #[pv p, .agg #[.int .i64 a, .int .i64 b]] rfl rfl rfl (by go_simp) ((KIC.out).mono ?_) AllReadyH.nil)
                  rintro e v406 ⟨v1, rfl, hk1, hb⟩
                  have BV := Lib.hid (BV.out.trans (hb.mono BV.out.size))
                  have PT := Lib.hid (PT.out.step hb)
                  have RT := Lib.hid (RT.out.step hb)
                  have KA := Lib.hid hk1
                  clear hk1 KIC
                  clear hb
                  refine ⟨_, rfl, BV.out, fun _ => ?_⟩
                  simp only [Act.put, List.setIfInBounds_toArray, List.set_cons_zero, List.set_cons_succ]
                  have RKC := Lib.hid (Tb.rkids_any v406 _ RW1 RT.out (by have := LP.out.1; omega) a b)
                  refine wpAnyH_ready (rs := [34]) (by kernel_rfl) (by simp) (br_call (i := 34) 130 23 #[.slice rva RW1.length rvc, .agg #[.int .i64 a, .int .i64 b]] rfl rfl rfl (by go_simp) ((RKC.out).mono ?_) AllReadyH.nil)
                  rintro e v407 ⟨v2, rfl, hk2, hb⟩
                  have BV := Lib.hid (BV.out.trans (hb.mono BV.out.size))
                  have PT := Lib.hid (PT.out.step hb)
                  have RT := Lib.hid (RT.out.step hb)
                  have KA := Lib.hid (KA.out.step hb)
                  have KBB := Lib.hid (Tb.own_liesK (enc := encS) (k := 2) (fun _ => rfl) hk2)
                  clear hk2 RKC
                  clear hb
                  refine ⟨_, rfl, BV.out, fun _ => ?_⟩
                  simp only [Act.put, List.setIfInBounds_toArray, List.set_cons_zero, List.set_cons_succ]
                  have SKC := Lib.hid (Tb.same_self v407 v1 v2 _ KA.out KBB.out)
                  refine wpAnyH_ready (rs := [35]) (by kernel_rfl) (by simp) (br_call (i := 35) 131 21 #[v1, v2] rfl rfl rfl (by go_simp) ((SKC.out).mono ?_) AllReadyH.nil)
                  rintro e v408 ⟨rfl, hb⟩
                  have BV := Lib.hid (BV.out.trans (hb.mono BV.out.size))
                  have PT := Lib.hid (PT.out.step hb)
                  have RT := Lib.hid (RT.out.step hb)
                  have KA := Lib.hid (KA.out.step hb)
                  have KBB := Lib.hid (KBB.out.step hb)
                  clear SKC
                  clear hb
                  refine ⟨_, rfl, BV.out, fun _ => ?_⟩
                  simp only [Act.put, List.setIfInBounds_toArray, List.set_cons_zero, List.set_cons_succ]
                  refine take_at (i := 36) 132 ?_ rfl rfl (by kernel_rfl) (by kernel_rfl) (by kernel_rfl) (fun _ _ _ h => h) (.inl ⟨rfl, ?_⟩) BV.out ?_
                  rotate_left 1
                  · intro w hSw; go_simp; try with_reducible rfl
                  simp only [Act.put, List.setIfInBounds_toArray, List.set_cons_zero, List.set_cons_succ]
                  refine take_at (i := 37) 133 ?_ rfl rfl (by kernel_rfl) (by kernel_rfl) (by kernel_rfl) (fun _ _ _ h => h) (.inl ⟨rfl, ?_⟩) BV.out ?_
                  rotate_left 1
                  · intro w hSw; go_simp; try with_reducible rfl
                  simp only [Act.put, List.setIfInBounds_toArray, List.set_cons_zero, List.set_cons_succ]
                  refine take_at (i := 38) 134 ?_ rfl rfl (by kernel_rfl) (by kernel_rfl) (by kernel_rfl) (fun _ _ _ h => h) (.inl ⟨rfl, ?_⟩) BV.out ?_
                  rotate_left 1
                  · intro w hSw; go_simp; try with_reducible rfl
                  simp only [Act.put, List.setIfInBounds_toArray, List.set_cons_zero, List.set_cons_succ]
                  refine take_at (i := 39) 135 ?_ rfl rfl (by kernel_rfl) (by kernel_rfl) (by kernel_rfl) (fun _ _ _ h => h) (.inl ⟨rfl, ?_⟩) BV.out ?_
                  rotate_left 1
                  · intro w hSw; go_simp; try with_reducible rfl
                  simp only [Act.put, List.setIfInBounds_toArray, List.set_cons_zero, List.set_cons_succ]
                  refine take_at (i := 40) 136 (.agg #[.int .i64 a, .int .i64 b]) rfl rfl (by kernel_rfl) (by kernel_rfl) (by kernel_rfl) (fun _ _ _ h => h) (yields_ld (.tmp 3) 24 (.pointer (some ⟨w.heap.size, 0, none⟩)) _ LV3.out rfl rfl rfl) BV.out ?_
                  simp only [Act.put, List.setIfInBounds_toArray, List.set_cons_zero, List.set_cons_succ]
                  refine take_at (i := 41) 137 ?_ rfl rfl (by kernel_rfl) (by kernel_rfl) (by kernel_rfl) (fun _ _ _ h => h) (.inl ⟨rfl, ?_⟩) BV.out ?_
                  rotate_left 1
                  · intro w hSw; go_simp; try with_reducible rfl
                  simp only [Act.put, List.setIfInBounds_toArray, List.set_cons_zero, List.set_cons_succ]
                  refine take_at (i := 42) 138 ?_ rfl rfl (by kernel_rfl) (by kernel_rfl) (by kernel_rfl) (fun _ _ _ h => h) (.inl ⟨rfl, ?_⟩) BV.out ?_
                  rotate_left 1
                  · intro w hSw; go_simp; try with_reducible rfl
                  simp only [Act.put, List.setIfInBounds_toArray, List.set_cons_zero, List.set_cons_succ]
                  refine take_at (i := 43) 139 (.pointer (some ⟨g, k + i * 10, none⟩)) rfl rfl (by kernel_rfl) (by kernel_rfl) (by kernel_rfl) (fun _ _ _ h => h) (yields_ix (.tmp 137) (.tmp 138) 22 (.slice (some ⟨g, k, none⟩) l.length cap) (.int .i64 (i : Int)) _ IX.out rfl rfl rfl rfl) BV.out ?_
                  simp only [Act.put, List.setIfInBounds_toArray, List.set_cons_zero, List.set_cons_succ]
                  refine take_at (i := 44) 140 ?_ rfl rfl (by kernel_rfl) (by kernel_rfl) (by kernel_rfl) (fun _ _ _ h => h) (.inl ⟨rfl, ?_⟩) BV.out ?_
                  rotate_left 1
                  · intro w hSw; go_simp; try with_reducible rfl
                  simp only [Act.put, List.setIfInBounds_toArray, List.set_cons_zero, List.set_cons_succ]
                  refine take_at (i := 45) 141 ?_ rfl rfl (by kernel_rfl) (by kernel_rfl) (by kernel_rfl) (fun _ _ _ h => h) (.inl ⟨rfl, ?_⟩) BV.out ?_
                  rotate_left 1
                  · intro w hSw; go_simp; try with_reducible rfl
                  simp only [Act.put, List.setIfInBounds_toArray, List.set_cons_zero, List.set_cons_succ]
                  refine take_at (i := 46) 142 (.agg #[.int .i64 o.nt, .int .i64 o.nr]) rfl rfl (by kernel_rfl) (by kernel_rfl) (by kernel_rfl) (fun _ _ _ h => h) (yields_ld (.tmp 141) 24 (.pointer (some ⟨g, k + i * 10 + 1 + 3, none⟩)) _ LVN.out rfl rfl rfl) BV.out ?_
                  simp only [Act.put, List.setIfInBounds_toArray, List.set_cons_zero, List.set_cons_succ]
                  refine take_at (i := 48) 144 ?_ rfl rfl (by kernel_rfl) (by kernel_rfl) (by kernel_rfl) (fun _ _ _ h => h) (.inl ⟨rfl, ?_⟩) BV.out ?_
                  rotate_left 1
                  · intro w hSw; go_simp; try with_reducible rfl
                  simp only [Act.put, List.setIfInBounds_toArray, List.set_cons_zero, List.set_cons_succ]
                  refine take_at (i := 49) 145 (.agg #[.int .i64 a, .int .i64 b]) rfl rfl (by kernel_rfl) (by kernel_rfl) (by kernel_rfl) (fun _ _ _ h => h) (yields_ld (.tmp 3) 24 (.pointer (some ⟨w.heap.size, 0, none⟩)) _ LV3.out rfl rfl rfl) BV.out ?_
                  simp only [Act.put, List.setIfInBounds_toArray, List.set_cons_zero, List.set_cons_succ]
                  refine take_at (i := 50) 146 ?_ rfl rfl (by kernel_rfl) (by kernel_rfl) (by kernel_rfl) (fun _ _ _ h => h) (.inl ⟨rfl, ?_⟩) BV.out ?_
                  rotate_left 1
                  · intro w hSw; go_simp; try with_reducible rfl
                  simp only [Act.put, List.setIfInBounds_toArray, List.set_cons_zero, List.set_cons_succ]
                  refine take_at (i := 51) 147 ?_ rfl rfl (by kernel_rfl) (by kernel_rfl) (by kernel_rfl) (fun _ _ _ h => h) (.inl ⟨rfl, ?_⟩) BV.out ?_
                  rotate_left 1
                  · intro w hSw; go_simp; try with_reducible rfl
                  simp only [Act.put, List.setIfInBounds_toArray, List.set_cons_zero, List.set_cons_succ]
                  refine take_at (i := 52) 148 (.pointer (some ⟨g, k + i * 10, none⟩)) rfl rfl (by kernel_rfl) (by kernel_rfl) (by kernel_rfl) (fun _ _ _ h => h) (yields_ix (.tmp 146) (.tmp 147) 22 (.slice (some ⟨g, k, none⟩) l.length cap) (.int .i64 (i : Int)) _ IX.out rfl rfl rfl rfl) BV.out ?_
                  simp only [Act.put, List.setIfInBounds_toArray, List.set_cons_zero, List.set_cons_succ]
                  refine take_at (i := 53) 149 ?_ rfl rfl (by kernel_rfl) (by kernel_rfl) (by kernel_rfl) (fun _ _ _ h => h) (.inl ⟨rfl, ?_⟩) BV.out ?_
                  rotate_left 1
                  · intro w hSw; go_simp; try with_reducible rfl
                  simp only [Act.put, List.setIfInBounds_toArray, List.set_cons_zero, List.set_cons_succ]
                  refine take_at (i := 54) 150 ?_ rfl rfl (by kernel_rfl) (by kernel_rfl) (by kernel_rfl) (fun _ _ _ h => h) (.inl ⟨rfl, ?_⟩) BV.out ?_
                  rotate_left 1
                  · intro w hSw; go_simp; try with_reducible rfl
                  simp only [Act.put, List.setIfInBounds_toArray, List.set_cons_zero, List.set_cons_succ]
                  refine take_at (i := 55) 151 (.agg #[.int .i64 o.nt, .int .i64 o.nr]) rfl rfl (by kernel_rfl) (by kernel_rfl) (by kernel_rfl) (fun _ _ _ h => h) (yields_ld (.tmp 150) 24 (.pointer (some ⟨g, k + i * 10 + 1 + 3, none⟩)) _ LVN.out rfl rfl rfl) BV.out ?_
                  simp only [Act.put, List.setIfInBounds_toArray, List.set_cons_zero, List.set_cons_succ]
                  have ABC := Lib.hid (above_of v408 (pv p) _ ft1 fr1 la1 L1.length lc1 a b o.nt o.nr (aboveF RW1 a b RW1.length o.nt o.nr) PT.out.tree.haveL (fun W hW => Tb.above_any W q mb RW1 (by have := PT.out.tree.tab.step hW; rwa [HRW.out] at this) (by have := LP.out.1; omega) a b o.nt o.nr OKX.out.1.nt OKX.out.1.nr))
                  rw [HAV.out] at ABC
                  refine wpAnyH_ready (rs := [47]) (by kernel_rfl) (by simp) (br_call (i := 47) 143 24 #[pv p, .agg #[.int .i64 a, .int .i64 b], .agg #[.int .i64 o.nt, .int .i64 o.nr]] rfl rfl rfl (by go_simp) ((ABC.out).mono ?_) AllReadyH.nil)
                  rintro e v409 ⟨rfl, hb⟩
                  have BV := Lib.hid (BV.out.trans (hb.mono BV.out.size))
                  have PT := Lib.hid (PT.out.step hb)
                  have RT := Lib.hid (RT.out.step hb)
                  have KA := Lib.hid (KA.out.step hb)
                  have KBB := Lib.hid (KBB.out.step hb)
                  clear ABC
                  clear hb
                  refine ⟨_, rfl, BV.out, fun _ => ?_⟩
                  simp only [Act.put, List.setIfInBounds_toArray, List.set_cons_zero, List.set_cons_succ]
                  have RBC := Lib.hid (Tb.rabove_any v409 _ RW1 RT.out a b o.nt o.nr)
                  rw [HAV.out] at RBC
                  refine wpAnyH_ready (rs := [56]) (by kernel_rfl) (by simp) (br_call (i := 56) 152 25 #[.slice rva RW1.length rvc, .agg #[.int .i64 a, .int .i64 b], .agg #[.int .i64 o.nt, .int .i64 o.nr]] rfl rfl rfl (by go_simp) ((RBC.out).mono ?_) AllReadyH.nil)
                  rintro e v410 ⟨rfl, hb⟩
                  have BV := Lib.hid (BV.out.trans (hb.mono BV.out.size))
                  have PT := Lib.hid (PT.out.step hb)
                  have RT := Lib.hid (RT.out.step hb)
                  have KA := Lib.hid (KA.out.step hb)
                  have KBB := Lib.hid (KBB.out.step hb)
                  clear RBC
                  clear hb
                  refine ⟨_, rfl, BV.out, fun _ => ?_⟩
                  simp only [Act.put, List.setIfInBounds_toArray, List.set_cons_zero, List.set_cons_succ]
                  refine take_at (i := 57) 153 (.bool false) rfl rfl (by kernel_rfl) (by kernel_rfl) (by kernel_rfl) (fun _ _ _ h => h) (yields_bin .neq (.tmp 143) (.tmp 152) 4 4 (.bool av) (.bool av) _ (neB _) (gneB _ _ _ _) rfl rfl rfl rfl) BV.out ?_
                  simp only [Act.put, List.setIfInBounds_toArray, List.set_cons_zero, List.set_cons_succ]
                  refine take_at (i := 58) 154 ?_ rfl rfl (by kernel_rfl) (by kernel_rfl) (by kernel_rfl) (fun _ _ _ h => h) (.inl ⟨rfl, ?_⟩) BV.out ?_
                  rotate_left 1
                  · intro w hSw; go_simp; try with_reducible rfl
                  simp only [Act.put, List.setIfInBounds_toArray, List.set_cons_zero, List.set_cons_succ]
                  refine wpAnyH_done (by kernel_rfl) ?_ _
                  have KF := Lib.hid (show ∃ T ft fr L la lc ba bn bc ra rc, P2 w v410 k6 p q mb a b T ft fr L la lc T ft fr L ba bn bc ra rc ∧ PF T L (i + 1) from ⟨_, _, _, _, _, _, _, _, _, _, _, PT.out, FZ.out⟩)
                  clear BV PT RT FZ
                  go_wp2
                  go_roundw
                  case rel => exact ⟨i + 1, by first | (rw [HW9.out]; rfl) | go_num, HL1.out, KF⟩
                  case measure => first | (rw [HW9.out]; exact HMS.out) | exact HMS.out
              · have b4 := Tb.bneb_ kd 4 hk4
                clear hk4
                go_upto_region 23 with fail
                have J := Lib.hid (show ∃ T ft fr L la lc ba bn bc ra rc, P2 w wr k6 p q mb a b T ft fr L la lc T ft fr L ba bn bc ra rc ∧ PF T L (i + 1) from ⟨_, _, _, _, _, _, _, _, _, _, _, PK.out, FK.out.up⟩)
                clear PK FK
                generalize wr = wz at *
                obtain ⟨T1, ft1, fr1, L1, la1, lc1, ba1, bn1, bc1, ra1, rc1, pz, fz⟩ := J.out
                have PZ := Lib.hid pz
                have FZ := Lib.hid fz
                clear pz fz J
                have LB := Lib.hid (ld32 PZ.out.b6)
                have TBL := Lib.hid (rtable_any wz ba1 bn1 bc1 T1 ft1 fr1 ra1 L1.length rc1 L1 PZ.out.base FZ.out.riseT PZ.out.log (by have := FZ.out.len; omega))
                go_wp2_with (first | (refine Ve.wpList_load_arr rfl (.tmp 6) 32 rfl (.pointer (some ⟨k6, 0, none⟩)) (.agg #[.slice ba1 bn1 bc1, .int .i64 ft1, .int .i64 fr1, .slice ra1 L1.length rc1]) rfl LB.out ?_))
                refine TBL.out.mono ?_
                rintro e wt ⟨rv, rfl, hrv, hb⟩
                obtain ⟨rva, rvc, hq⟩ := hrv.shape
                subst hq
                have PW := Lib.hid (PZ.out.step hb)
                have RT := Lib.hid (hrv.step (Below.refl _ _).drew)
                have PT := Lib.hid ((PZ.out.step hb).step (Below.refl _ _).drew)
                clear hrv hb TBL LB PZ
                have LP := Lib.hid (show (playF T1 L1).length ≤ 1000 ∧ L1.length ≤ 100000 from by have := FZ.out.len; have := play_len L1 T1; omega)
                obtain ⟨RW1, hRW1⟩ : ∃ z, playF T1 L1 = z := ⟨_, rfl⟩
                have HRW := Lib.hid hRW1
                rw [hRW1] at RT LP ⊢
                have LV4 := Lib.hid (fun W (hb : Below wt.heap.size wt W) => @ld30 W k6 3 _ _ _ (box4 (PW.out.step hb).b6).2.2.2)
                have LV2 := Lib.hid (fun W (hb : Below wt.heap.size wt W) => @ld24 W k6 1 _ _ (box4 (PW.out.step hb).b6).2.1 (box4 (PW.out.step hb).b6).2.2.1)
                have LV0 := Lib.hid (fun W (hb : Below wt.heap.size wt W) => ld32 (PW.out.step hb).b6)
                have LV3 := Lib.hid (fun W (hb : Below wt.heap.size wt W) => ldSt (PW.out.step hb).b3)
                have LVN := Lib.hid (fun W (hb : Below wt.heap.size wt W) => LND.out W (PW.out.step hb).bel)
                have DV := Lib.hid (rdid_did L1 T1 a b FZ.out.rise)
                obtain ⟨dv, hdv⟩ : ∃ z, rdidF T1 L1 a b = z := ⟨_, rfl⟩
                obtain ⟨av, hav⟩ : ∃ z, aboveF RW1 a b RW1.length o.nt o.nr = z := ⟨_, rfl⟩
                have HDV := Lib.hid hdv
                have HAV := Lib.hid hav
                clear hRW1 hdv hav PW
                go_upto_region 24 with (fail)
                refine wp_region_held_drew (S := fun w' => Below wt.heap.size wt w') (by kernel_rfl) (Below.refl _ _).drew (fun hHeld => ?_)
                have BV := Lib.hid (show Below wt.heap.size wt wt.drew from (Below.refl _ _).drew)
                clear hHeld
                refine take_at (i := 0) 96 ?_ rfl rfl (by kernel_rfl) (by kernel_rfl) (by kernel_rfl) (fun _ _ _ h => h) (.inl ⟨rfl, ?_⟩) BV.out ?_
                rotate_left 1
                · intro w hSw; go_simp; try with_reducible rfl
                simp only [Act.put, List.setIfInBounds_toArray, List.set_cons_zero, List.set_cons_succ]
                refine take_at (i := 1) 97 ?_ rfl rfl (by kernel_rfl) (by kernel_rfl) (by kernel_rfl) (fun _ _ _ h => h) (.inl ⟨rfl, ?_⟩) BV.out ?_
                rotate_left 1
                · intro w hSw; go_simp; try with_reducible rfl
                simp only [Act.put, List.setIfInBounds_toArray, List.set_cons_zero, List.set_cons_succ]
                have RWC := Lib.hid (rows_any wt.drew (w.heap.size + 1) p q mb T1 ft1 fr1 L1 la1 lc1 PT.out.tree (play_okT _ FZ.out.okT FZ.out.okL) rva RW1.length rvc (by rw [HRW.out]; exact RT.out) (by rw [HRW.out]; exact LP.out.1))
                refine wpAnyH_ready (rs := [2]) (by kernel_rfl) (by simp) (br_call (i := 2) 98 16 #[pv p, .slice rva RW1.length rvc] rfl rfl rfl (by go_simp) ((RWC.out).mono ?_) AllReadyH.nil)
                rintro e v401 ⟨rfl, hb⟩
                have BV := Lib.hid (BV.out.trans (hb.mono BV.out.size))
                have PT := Lib.hid (PT.out.step hb)
                have RT := Lib.hid (RT.out.step hb)
                clear RWC
                clear hb
                refine ⟨_, rfl, BV.out, fun _ => ?_⟩
                simp only [Act.put, List.setIfInBounds_toArray, List.set_cons_zero, List.set_cons_succ]
                refine take_at (i := 3) 99 ?_ rfl rfl (by kernel_rfl) (by kernel_rfl) (by kernel_rfl) (fun _ _ _ h => h) (.inl ⟨rfl, ?_⟩) BV.out ?_
                rotate_left 1
                · intro w hSw; go_simp; try with_reducible rfl
                simp only [Act.put, List.setIfInBounds_toArray, List.set_cons_zero, List.set_cons_succ]
                refine take_at (i := 4) 100 ?_ rfl rfl (by kernel_rfl) (by kernel_rfl) (by kernel_rfl) (fun _ _ _ h => h) (.inl ⟨rfl, ?_⟩) BV.out ?_
                rotate_left 1
                · intro w hSw; go_simp; try with_reducible rfl
                simp only [Act.put, List.setIfInBounds_toArray, List.set_cons_zero, List.set_cons_succ]
                refine take_at (i := 5) 101 ?_ rfl rfl (by kernel_rfl) (by kernel_rfl) (by kernel_rfl) (fun _ _ _ h => h) (.inl ⟨rfl, ?_⟩) BV.out ?_
                rotate_left 1
                · intro w hSw; go_simp; try with_reducible rfl
                simp only [Act.put, List.setIfInBounds_toArray, List.set_cons_zero, List.set_cons_succ]
                refine take_at (i := 7) 103 ?_ rfl rfl (by kernel_rfl) (by kernel_rfl) (by kernel_rfl) (fun _ _ _ h => h) (.inl ⟨rfl, ?_⟩) BV.out ?_
                rotate_left 1
                · intro w hSw; go_simp; try with_reducible rfl
                simp only [Act.put, List.setIfInBounds_toArray, List.set_cons_zero, List.set_cons_succ]
                refine take_at (i := 8) 104 (.slice ra1 L1.length rc1) rfl rfl (by kernel_rfl) (by kernel_rfl) (by kernel_rfl) (fun _ _ _ h => h) (yields_ld (.tmp 103) 30 (.pointer (some ⟨k6, 3, none⟩)) _ LV4.out rfl rfl rfl) BV.out ?_
                simp only [Act.put, List.setIfInBounds_toArray, List.set_cons_zero, List.set_cons_succ]
                refine take_at (i := 9) 105 ?_ rfl rfl (by kernel_rfl) (by kernel_rfl) (by kernel_rfl) (fun _ _ _ h => h) (.inl ⟨rfl, ?_⟩) BV.out ?_
                rotate_left 1
                · intro w hSw; go_simp; try with_reducible rfl
                simp only [Act.put, List.setIfInBounds_toArray, List.set_cons_zero, List.set_cons_succ]
                refine wpAnyH_ready (rs := [6]) (by kernel_rfl) (by simp) (br_call (i := 6) 102 17 #[pv p] rfl rfl rfl (by go_simp) ((len_of _ (pv p) _ ft1 fr1 la1 L1.length lc1 PT.out.tree.haveL).mono ?_) AllReadyH.nil)
                rintro e v402 ⟨rfl, hb⟩
                have BV := Lib.hid (BV.out.trans (hb.mono BV.out.size))
                have PT := Lib.hid (PT.out.step hb)
                have RT := Lib.hid (RT.out.step hb)
                clear hb
                refine ⟨_, rfl, BV.out, fun _ => ?_⟩
                simp only [Act.put, List.setIfInBounds_toArray, List.set_cons_zero, List.set_cons_succ]
                refine take_at (i := 10) 106 (.bool false) rfl rfl (by kernel_rfl) (by kernel_rfl) (by kernel_rfl) (fun _ _ _ h => h) (yields_bin .neq (.tmp 102) (.tmp 105) 3 3 (.int .i64 (L1.length : Int)) (.int .i64 (L1.length : Int)) _ (ne3 _) (gne3 _ _ _ _) rfl rfl rfl rfl) BV.out ?_
                simp only [Act.put, List.setIfInBounds_toArray, List.set_cons_zero, List.set_cons_succ]
                refine take_at (i := 11) 107 ?_ rfl rfl (by kernel_rfl) (by kernel_rfl) (by kernel_rfl) (fun _ _ _ h => h) (.inl ⟨rfl, ?_⟩) BV.out ?_
                rotate_left 1
                · intro w hSw; go_simp; try with_reducible rfl
                simp only [Act.put, List.setIfInBounds_toArray, List.set_cons_zero, List.set_cons_succ]
                refine take_at (i := 12) 108 ?_ rfl rfl (by kernel_rfl) (by kernel_rfl) (by kernel_rfl) (fun _ _ _ h => h) (.inl ⟨rfl, ?_⟩) BV.out ?_
                rotate_left 1
                · intro w hSw; go_simp; try with_reducible rfl
                simp only [Act.put, List.setIfInBounds_toArray, List.set_cons_zero, List.set_cons_succ]
                refine take_at (i := 13) 109 ?_ rfl rfl (by kernel_rfl) (by kernel_rfl) (by kernel_rfl) (fun _ _ _ h => h) (.inl ⟨rfl, ?_⟩) BV.out ?_
                rotate_left 1
                · intro w hSw; go_simp; try with_reducible rfl
                simp only [Act.put, List.setIfInBounds_toArray, List.set_cons_zero, List.set_cons_succ]
                refine take_at (i := 15) 111 ?_ rfl rfl (by kernel_rfl) (by kernel_rfl) (by kernel_rfl) (fun _ _ _ h => h) (.inl ⟨rfl, ?_⟩) BV.out ?_
                rotate_left 1
                · intro w hSw; go_simp; try with_reducible rfl
                simp only [Act.put, List.setIfInBounds_toArray, List.set_cons_zero, List.set_cons_succ]
                refine take_at (i := 16) 112 (.agg #[.int .i64 ft1, .int .i64 fr1]) rfl rfl (by kernel_rfl) (by kernel_rfl) (by kernel_rfl) (fun _ _ _ h => h) (yields_ld (.tmp 111) 24 (.pointer (some ⟨k6, 1, none⟩)) _ LV2.out rfl rfl rfl) BV.out ?_
                simp only [Act.put, List.setIfInBounds_toArray, List.set_cons_zero, List.set_cons_succ]
                refine wpAnyH_ready (rs := [14]) (by kernel_rfl) (by simp) (br_call (i := 14) 110 18 #[pv p] rfl rfl rfl (by go_simp) ((floor_of _ (pv p) _ ft1 fr1 la1 L1.length lc1 PT.out.tree.haveL).mono ?_) AllReadyH.nil)
                rintro e v403 ⟨rfl, hb⟩
                have BV := Lib.hid (BV.out.trans (hb.mono BV.out.size))
                have PT := Lib.hid (PT.out.step hb)
                have RT := Lib.hid (RT.out.step hb)
                clear hb
                refine ⟨_, rfl, BV.out, fun _ => ?_⟩
                simp only [Act.put, List.setIfInBounds_toArray, List.set_cons_zero, List.set_cons_succ]
                refine take_at (i := 17) 113 (.bool false) rfl rfl (by kernel_rfl) (by kernel_rfl) (by kernel_rfl) (fun _ _ _ h => h) (yields_bin .neq (.tmp 110) (.tmp 112) 24 24 (.agg #[.int .i64 ft1, .int .i64 fr1]) (.agg #[.int .i64 ft1, .int .i64 fr1]) _ (neS24 _ _) (gneS24 _ _ _ _) rfl rfl rfl rfl) BV.out ?_
                simp only [Act.put, List.setIfInBounds_toArray, List.set_cons_zero, List.set_cons_succ]
                refine take_at (i := 18) 114 ?_ rfl rfl (by kernel_rfl) (by kernel_rfl) (by kernel_rfl) (fun _ _ _ h => h) (.inl ⟨rfl, ?_⟩) BV.out ?_
                rotate_left 1
                · intro w hSw; go_simp; try with_reducible rfl
                simp only [Act.put, List.setIfInBounds_toArray, List.set_cons_zero, List.set_cons_succ]
                refine take_at (i := 19) 115 ?_ rfl rfl (by kernel_rfl) (by kernel_rfl) (by kernel_rfl) (fun _ _ _ h => h) (.inl ⟨rfl, ?_⟩) BV.out ?_
                rotate_left 1
                · intro w hSw; go_simp; try with_reducible rfl
                simp only [Act.put, List.setIfInBounds_toArray, List.set_cons_zero, List.set_cons_succ]
                refine take_at (i := 20) 116 ?_ rfl rfl (by kernel_rfl) (by kernel_rfl) (by kernel_rfl) (fun _ _ _ h => h) (.inl ⟨rfl, ?_⟩) BV.out ?_
                rotate_left 1
                · intro w hSw; go_simp; try with_reducible rfl
                simp only [Act.put, List.setIfInBounds_toArray, List.set_cons_zero, List.set_cons_succ]
                refine take_at (i := 21) 117 (.agg #[.int .i64 a, .int .i64 b]) rfl rfl (by kernel_rfl) (by kernel_rfl) (by kernel_rfl) (fun _ _ _ h => h) (yields_ld (.tmp 3) 24 (.pointer (some ⟨w.heap.size, 0, none⟩)) _ LV3.out rfl rfl rfl) BV.out ?_
                simp only [Act.put, List.setIfInBounds_toArray, List.set_cons_zero, List.set_cons_succ]
                refine take_at (i := 23) 119 (.agg #[.slice ba1 bn1 bc1, .int .i64 ft1, .int .i64 fr1, .slice ra1 L1.length rc1]) rfl rfl (by kernel_rfl) (by kernel_rfl) (by kernel_rfl) (fun _ _ _ h => h) (yields_ld (.tmp 6) 32 (.pointer (some ⟨k6, 0, none⟩)) _ LV0.out rfl rfl rfl) BV.out ?_
                simp only [Act.put, List.setIfInBounds_toArray, List.set_cons_zero, List.set_cons_succ]
                refine take_at (i := 24) 120 (.agg #[.int .i64 a, .int .i64 b]) rfl rfl (by kernel_rfl) (by kernel_rfl) (by kernel_rfl) (fun _ _ _ h => h) (yields_ld (.tmp 3) 24 (.pointer (some ⟨w.heap.size, 0, none⟩)) _ LV3.out rfl rfl rfl) BV.out ?_
                simp only [Act.put, List.setIfInBounds_toArray, List.set_cons_zero, List.set_cons_succ]
                have DDC := Lib.hid (did_of v403 (pv p) _ ft1 fr1 la1 L1.length lc1 (stepsF T1 L1) a b PT.out.tree.haveL (lies_log PT.out.tree) (by rw [steps_o]; exact FZ.out.rise) (by rw [steps_len]; exact LP.out.2))
                rw [DV.out, HDV.out] at DDC
                refine wpAnyH_ready (rs := [22]) (by kernel_rfl) (by simp) (br_call (i := 22) 118 19 #[pv p, .agg #[.int .i64 a, .int .i64 b]] rfl rfl rfl (by go_simp) ((DDC.out).mono ?_) AllReadyH.nil)
                rintro e v404 ⟨rfl, hb⟩
                have BV := Lib.hid (BV.out.trans (hb.mono BV.out.size))
                have PT := Lib.hid (PT.out.step hb)
                have RT := Lib.hid (RT.out.step hb)
                clear DDC
                clear hb
                refine ⟨_, rfl, BV.out, fun _ => ?_⟩
                simp only [Act.put, List.setIfInBounds_toArray, List.set_cons_zero, List.set_cons_succ]
                have RDC := Lib.hid (rdid_any v404 ba1 bn1 bc1 T1 ft1 fr1 ra1 rc1 L1 PT.out.base FZ.out.riseT PT.out.log (by have := FZ.out.len; omega) a b)
                rw [HDV.out] at RDC
                refine wpAnyH_ready (rs := [25]) (by kernel_rfl) (by simp) (br_call (i := 25) 121 20 #[.agg #[.slice ba1 bn1 bc1, .int .i64 ft1, .int .i64 fr1, .slice ra1 L1.length rc1], .agg #[.int .i64 a, .int .i64 b]] rfl rfl rfl (by go_simp) ((RDC.out).mono ?_) AllReadyH.nil)
                rintro e v405 ⟨rfl, hb⟩
                have BV := Lib.hid (BV.out.trans (hb.mono BV.out.size))
                have PT := Lib.hid (PT.out.step hb)
                have RT := Lib.hid (RT.out.step hb)
                clear RDC
                clear hb
                refine ⟨_, rfl, BV.out, fun _ => ?_⟩
                simp only [Act.put, List.setIfInBounds_toArray, List.set_cons_zero, List.set_cons_succ]
                refine take_at (i := 26) 122 (.bool false) rfl rfl (by kernel_rfl) (by kernel_rfl) (by kernel_rfl) (fun _ _ _ h => h) (yields_bin .neq (.tmp 118) (.tmp 121) 4 4 (.bool dv) (.bool dv) _ (neB _) (gneB _ _ _ _) rfl rfl rfl rfl) BV.out ?_
                simp only [Act.put, List.setIfInBounds_toArray, List.set_cons_zero, List.set_cons_succ]
                refine take_at (i := 27) 123 ?_ rfl rfl (by kernel_rfl) (by kernel_rfl) (by kernel_rfl) (fun _ _ _ h => h) (.inl ⟨rfl, ?_⟩) BV.out ?_
                rotate_left 1
                · intro w hSw; go_simp; try with_reducible rfl
                simp only [Act.put, List.setIfInBounds_toArray, List.set_cons_zero, List.set_cons_succ]
                refine take_at (i := 28) 124 ?_ rfl rfl (by kernel_rfl) (by kernel_rfl) (by kernel_rfl) (fun _ _ _ h => h) (.inl ⟨rfl, ?_⟩) BV.out ?_
                rotate_left 1
                · intro w hSw; go_simp; try with_reducible rfl
                simp only [Act.put, List.setIfInBounds_toArray, List.set_cons_zero, List.set_cons_succ]
                refine take_at (i := 29) 125 ?_ rfl rfl (by kernel_rfl) (by kernel_rfl) (by kernel_rfl) (fun _ _ _ h => h) (.inl ⟨rfl, ?_⟩) BV.out ?_
                rotate_left 1
                · intro w hSw; go_simp; try with_reducible rfl
                simp only [Act.put, List.setIfInBounds_toArray, List.set_cons_zero, List.set_cons_succ]
                refine take_at (i := 30) 126 (.agg #[.int .i64 a, .int .i64 b]) rfl rfl (by kernel_rfl) (by kernel_rfl) (by kernel_rfl) (fun _ _ _ h => h) (yields_ld (.tmp 3) 24 (.pointer (some ⟨w.heap.size, 0, none⟩)) _ LV3.out rfl rfl rfl) BV.out ?_
                simp only [Act.put, List.setIfInBounds_toArray, List.set_cons_zero, List.set_cons_succ]
                refine take_at (i := 32) 128 ?_ rfl rfl (by kernel_rfl) (by kernel_rfl) (by kernel_rfl) (fun _ _ _ h => h) (.inl ⟨rfl, ?_⟩) BV.out ?_
                rotate_left 1
                · intro w hSw; go_simp; try with_reducible rfl
                simp only [Act.put, List.setIfInBounds_toArray, List.set_cons_zero, List.set_cons_succ]
                refine take_at (i := 33) 129 (.agg #[.int .i64 a, .int .i64 b]) rfl rfl (by kernel_rfl) (by kernel_rfl) (by kernel_rfl) (fun _ _ _ h => h) (yields_ld (.tmp 3) 24 (.pointer (some ⟨w.heap.size, 0, none⟩)) _ LV3.out rfl rfl rfl) BV.out ?_
                simp only [Act.put, List.setIfInBounds_toArray, List.set_cons_zero, List.set_cons_succ]
                have KIC := Lib.hid (kids_of v405 (pv p) _ ft1 fr1 la1 L1.length lc1 a b (fun W v => LiesK encS 2 W v (kidsF RW1 a b)) PT.out.tree.haveL (fun W hW => (Tb.kids_any W q mb RW1 (by have := PT.out.tree.tab.step hW; rwa [HRW.out] at this) (by have := LP.out.1; omega) a b).mono (fun e w' hh => by obtain ⟨v, h1, h2, h3⟩ := hh; exact ⟨v, h1, Tb.own_liesK (enc := encS) (k := 2) (fun _ => rfl) h2, h3⟩)))
                refine wpAnyH_ready (rs := [31]) (by kernel_rfl) (by simp) (br_call (i := 31) 127 22 #[pv p, .agg #[.int .i64 a, .int .i64 b]] rfl rfl rfl (by go_simp) ((KIC.out).mono ?_) AllReadyH.nil)
                rintro e v406 ⟨v1, rfl, hk1, hb⟩
                have BV := Lib.hid (BV.out.trans (hb.mono BV.out.size))
                have PT := Lib.hid (PT.out.step hb)
                have RT := Lib.hid (RT.out.step hb)
                have KA := Lib.hid hk1
                clear hk1 KIC
                clear hb
                refine ⟨_, rfl, BV.out, fun _ => ?_⟩
                simp only [Act.put, List.setIfInBounds_toArray, List.set_cons_zero, List.set_cons_succ]
                have RKC := Lib.hid (Tb.rkids_any v406 _ RW1 RT.out (by have := LP.out.1; omega) a b)
                refine wpAnyH_ready (rs := [34]) (by kernel_rfl) (by simp) (br_call (i := 34) 130 23 #[.slice rva RW1.length rvc, .agg #[.int .i64 a, .int .i64 b]] rfl rfl rfl (by go_simp) ((RKC.out).mono ?_) AllReadyH.nil)
                rintro e v407 ⟨v2, rfl, hk2, hb⟩
                have BV := Lib.hid (BV.out.trans (hb.mono BV.out.size))
                have PT := Lib.hid (PT.out.step hb)
                have RT := Lib.hid (RT.out.step hb)
                have KA := Lib.hid (KA.out.step hb)
                have KBB := Lib.hid (Tb.own_liesK (enc := encS) (k := 2) (fun _ => rfl) hk2)
                clear hk2 RKC
                clear hb
                refine ⟨_, rfl, BV.out, fun _ => ?_⟩
                simp only [Act.put, List.setIfInBounds_toArray, List.set_cons_zero, List.set_cons_succ]
                have SKC := Lib.hid (Tb.same_self v407 v1 v2 _ KA.out KBB.out)
                refine wpAnyH_ready (rs := [35]) (by kernel_rfl) (by simp) (br_call (i := 35) 131 21 #[v1, v2] rfl rfl rfl (by go_simp) ((SKC.out).mono ?_) AllReadyH.nil)
                rintro e v408 ⟨rfl, hb⟩
                have BV := Lib.hid (BV.out.trans (hb.mono BV.out.size))
                have PT := Lib.hid (PT.out.step hb)
                have RT := Lib.hid (RT.out.step hb)
                have KA := Lib.hid (KA.out.step hb)
                have KBB := Lib.hid (KBB.out.step hb)
                clear SKC
                clear hb
                refine ⟨_, rfl, BV.out, fun _ => ?_⟩
                simp only [Act.put, List.setIfInBounds_toArray, List.set_cons_zero, List.set_cons_succ]
                refine take_at (i := 36) 132 ?_ rfl rfl (by kernel_rfl) (by kernel_rfl) (by kernel_rfl) (fun _ _ _ h => h) (.inl ⟨rfl, ?_⟩) BV.out ?_
                rotate_left 1
                · intro w hSw; go_simp; try with_reducible rfl
                simp only [Act.put, List.setIfInBounds_toArray, List.set_cons_zero, List.set_cons_succ]
                refine take_at (i := 37) 133 ?_ rfl rfl (by kernel_rfl) (by kernel_rfl) (by kernel_rfl) (fun _ _ _ h => h) (.inl ⟨rfl, ?_⟩) BV.out ?_
                rotate_left 1
                · intro w hSw; go_simp; try with_reducible rfl
                simp only [Act.put, List.setIfInBounds_toArray, List.set_cons_zero, List.set_cons_succ]
                refine take_at (i := 38) 134 ?_ rfl rfl (by kernel_rfl) (by kernel_rfl) (by kernel_rfl) (fun _ _ _ h => h) (.inl ⟨rfl, ?_⟩) BV.out ?_
                rotate_left 1
                · intro w hSw; go_simp; try with_reducible rfl
                simp only [Act.put, List.setIfInBounds_toArray, List.set_cons_zero, List.set_cons_succ]
                refine take_at (i := 39) 135 ?_ rfl rfl (by kernel_rfl) (by kernel_rfl) (by kernel_rfl) (fun _ _ _ h => h) (.inl ⟨rfl, ?_⟩) BV.out ?_
                rotate_left 1
                · intro w hSw; go_simp; try with_reducible rfl
                simp only [Act.put, List.setIfInBounds_toArray, List.set_cons_zero, List.set_cons_succ]
                refine take_at (i := 40) 136 (.agg #[.int .i64 a, .int .i64 b]) rfl rfl (by kernel_rfl) (by kernel_rfl) (by kernel_rfl) (fun _ _ _ h => h) (yields_ld (.tmp 3) 24 (.pointer (some ⟨w.heap.size, 0, none⟩)) _ LV3.out rfl rfl rfl) BV.out ?_
                simp only [Act.put, List.setIfInBounds_toArray, List.set_cons_zero, List.set_cons_succ]
                refine take_at (i := 41) 137 ?_ rfl rfl (by kernel_rfl) (by kernel_rfl) (by kernel_rfl) (fun _ _ _ h => h) (.inl ⟨rfl, ?_⟩) BV.out ?_
                rotate_left 1
                · intro w hSw; go_simp; try with_reducible rfl
                simp only [Act.put, List.setIfInBounds_toArray, List.set_cons_zero, List.set_cons_succ]
                refine take_at (i := 42) 138 ?_ rfl rfl (by kernel_rfl) (by kernel_rfl) (by kernel_rfl) (fun _ _ _ h => h) (.inl ⟨rfl, ?_⟩) BV.out ?_
                rotate_left 1
                · intro w hSw; go_simp; try with_reducible rfl
                simp only [Act.put, List.setIfInBounds_toArray, List.set_cons_zero, List.set_cons_succ]
                refine take_at (i := 43) 139 (.pointer (some ⟨g, k + i * 10, none⟩)) rfl rfl (by kernel_rfl) (by kernel_rfl) (by kernel_rfl) (fun _ _ _ h => h) (yields_ix (.tmp 137) (.tmp 138) 22 (.slice (some ⟨g, k, none⟩) l.length cap) (.int .i64 (i : Int)) _ IX.out rfl rfl rfl rfl) BV.out ?_
                simp only [Act.put, List.setIfInBounds_toArray, List.set_cons_zero, List.set_cons_succ]
                refine take_at (i := 44) 140 ?_ rfl rfl (by kernel_rfl) (by kernel_rfl) (by kernel_rfl) (fun _ _ _ h => h) (.inl ⟨rfl, ?_⟩) BV.out ?_
                rotate_left 1
                · intro w hSw; go_simp; try with_reducible rfl
                simp only [Act.put, List.setIfInBounds_toArray, List.set_cons_zero, List.set_cons_succ]
                refine take_at (i := 45) 141 ?_ rfl rfl (by kernel_rfl) (by kernel_rfl) (by kernel_rfl) (fun _ _ _ h => h) (.inl ⟨rfl, ?_⟩) BV.out ?_
                rotate_left 1
                · intro w hSw; go_simp; try with_reducible rfl
                simp only [Act.put, List.setIfInBounds_toArray, List.set_cons_zero, List.set_cons_succ]
                refine take_at (i := 46) 142 (.agg #[.int .i64 o.nt, .int .i64 o.nr]) rfl rfl (by kernel_rfl) (by kernel_rfl) (by kernel_rfl) (fun _ _ _ h => h) (yields_ld (.tmp 141) 24 (.pointer (some ⟨g, k + i * 10 + 1 + 3, none⟩)) _ LVN.out rfl rfl rfl) BV.out ?_
                simp only [Act.put, List.setIfInBounds_toArray, List.set_cons_zero, List.set_cons_succ]
                refine take_at (i := 48) 144 ?_ rfl rfl (by kernel_rfl) (by kernel_rfl) (by kernel_rfl) (fun _ _ _ h => h) (.inl ⟨rfl, ?_⟩) BV.out ?_
                rotate_left 1
                · intro w hSw; go_simp; try with_reducible rfl
                simp only [Act.put, List.setIfInBounds_toArray, List.set_cons_zero, List.set_cons_succ]
                refine take_at (i := 49) 145 (.agg #[.int .i64 a, .int .i64 b]) rfl rfl (by kernel_rfl) (by kernel_rfl) (by kernel_rfl) (fun _ _ _ h => h) (yields_ld (.tmp 3) 24 (.pointer (some ⟨w.heap.size, 0, none⟩)) _ LV3.out rfl rfl rfl) BV.out ?_
                simp only [Act.put, List.setIfInBounds_toArray, List.set_cons_zero, List.set_cons_succ]
                refine take_at (i := 50) 146 ?_ rfl rfl (by kernel_rfl) (by kernel_rfl) (by kernel_rfl) (fun _ _ _ h => h) (.inl ⟨rfl, ?_⟩) BV.out ?_
                rotate_left 1
                · intro w hSw; go_simp; try with_reducible rfl
                simp only [Act.put, List.setIfInBounds_toArray, List.set_cons_zero, List.set_cons_succ]
                refine take_at (i := 51) 147 ?_ rfl rfl (by kernel_rfl) (by kernel_rfl) (by kernel_rfl) (fun _ _ _ h => h) (.inl ⟨rfl, ?_⟩) BV.out ?_
                rotate_left 1
                · intro w hSw; go_simp; try with_reducible rfl
                simp only [Act.put, List.setIfInBounds_toArray, List.set_cons_zero, List.set_cons_succ]
                refine take_at (i := 52) 148 (.pointer (some ⟨g, k + i * 10, none⟩)) rfl rfl (by kernel_rfl) (by kernel_rfl) (by kernel_rfl) (fun _ _ _ h => h) (yields_ix (.tmp 146) (.tmp 147) 22 (.slice (some ⟨g, k, none⟩) l.length cap) (.int .i64 (i : Int)) _ IX.out rfl rfl rfl rfl) BV.out ?_
                simp only [Act.put, List.setIfInBounds_toArray, List.set_cons_zero, List.set_cons_succ]
                refine take_at (i := 53) 149 ?_ rfl rfl (by kernel_rfl) (by kernel_rfl) (by kernel_rfl) (fun _ _ _ h => h) (.inl ⟨rfl, ?_⟩) BV.out ?_
                rotate_left 1
                · intro w hSw; go_simp; try with_reducible rfl
                simp only [Act.put, List.setIfInBounds_toArray, List.set_cons_zero, List.set_cons_succ]
                refine take_at (i := 54) 150 ?_ rfl rfl (by kernel_rfl) (by kernel_rfl) (by kernel_rfl) (fun _ _ _ h => h) (.inl ⟨rfl, ?_⟩) BV.out ?_
                rotate_left 1
                · intro w hSw; go_simp; try with_reducible rfl
                simp only [Act.put, List.setIfInBounds_toArray, List.set_cons_zero, List.set_cons_succ]
                refine take_at (i := 55) 151 (.agg #[.int .i64 o.nt, .int .i64 o.nr]) rfl rfl (by kernel_rfl) (by kernel_rfl) (by kernel_rfl) (fun _ _ _ h => h) (yields_ld (.tmp 150) 24 (.pointer (some ⟨g, k + i * 10 + 1 + 3, none⟩)) _ LVN.out rfl rfl rfl) BV.out ?_
                simp only [Act.put, List.setIfInBounds_toArray, List.set_cons_zero, List.set_cons_succ]
                have ABC := Lib.hid (above_of v408 (pv p) _ ft1 fr1 la1 L1.length lc1 a b o.nt o.nr (aboveF RW1 a b RW1.length o.nt o.nr) PT.out.tree.haveL (fun W hW => Tb.above_any W q mb RW1 (by have := PT.out.tree.tab.step hW; rwa [HRW.out] at this) (by have := LP.out.1; omega) a b o.nt o.nr OKX.out.1.nt OKX.out.1.nr))
                rw [HAV.out] at ABC
                refine wpAnyH_ready (rs := [47]) (by kernel_rfl) (by simp) (br_call (i := 47) 143 24 #[pv p, .agg #[.int .i64 a, .int .i64 b], .agg #[.int .i64 o.nt, .int .i64 o.nr]] rfl rfl rfl (by go_simp) ((ABC.out).mono ?_) AllReadyH.nil)
                rintro e v409 ⟨rfl, hb⟩
                have BV := Lib.hid (BV.out.trans (hb.mono BV.out.size))
                have PT := Lib.hid (PT.out.step hb)
                have RT := Lib.hid (RT.out.step hb)
                have KA := Lib.hid (KA.out.step hb)
                have KBB := Lib.hid (KBB.out.step hb)
                clear ABC
                clear hb
                refine ⟨_, rfl, BV.out, fun _ => ?_⟩
                simp only [Act.put, List.setIfInBounds_toArray, List.set_cons_zero, List.set_cons_succ]
                have RBC := Lib.hid (Tb.rabove_any v409 _ RW1 RT.out a b o.nt o.nr)
                rw [HAV.out] at RBC
                refine wpAnyH_ready (rs := [56]) (by kernel_rfl) (by simp) (br_call (i := 56) 152 25 #[.slice rva RW1.length rvc, .agg #[.int .i64 a, .int .i64 b], .agg #[.int .i64 o.nt, .int .i64 o.nr]] rfl rfl rfl (by go_simp) ((RBC.out).mono ?_) AllReadyH.nil)
                rintro e v410 ⟨rfl, hb⟩
                have BV := Lib.hid (BV.out.trans (hb.mono BV.out.size))
                have PT := Lib.hid (PT.out.step hb)
                have RT := Lib.hid (RT.out.step hb)
                have KA := Lib.hid (KA.out.step hb)
                have KBB := Lib.hid (KBB.out.step hb)
                clear RBC
                clear hb
                refine ⟨_, rfl, BV.out, fun _ => ?_⟩
                simp only [Act.put, List.setIfInBounds_toArray, List.set_cons_zero, List.set_cons_succ]
                refine take_at (i := 57) 153 (.bool false) rfl rfl (by kernel_rfl) (by kernel_rfl) (by kernel_rfl) (fun _ _ _ h => h) (yields_bin .neq (.tmp 143) (.tmp 152) 4 4 (.bool av) (.bool av) _ (neB _) (gneB _ _ _ _) rfl rfl rfl rfl) BV.out ?_
                simp only [Act.put, List.setIfInBounds_toArray, List.set_cons_zero, List.set_cons_succ]
                refine take_at (i := 58) 154 ?_ rfl rfl (by kernel_rfl) (by kernel_rfl) (by kernel_rfl) (fun _ _ _ h => h) (.inl ⟨rfl, ?_⟩) BV.out ?_
                rotate_left 1
                · intro w hSw; go_simp; try with_reducible rfl
                simp only [Act.put, List.setIfInBounds_toArray, List.set_cons_zero, List.set_cons_succ]
                refine wpAnyH_done (by kernel_rfl) ?_ _
                have KF := Lib.hid (show ∃ T ft fr L la lc ba bn bc ra rc, P2 w v410 k6 p q mb a b T ft fr L la lc T ft fr L ba bn bc ra rc ∧ PF T L (i + 1) from ⟨_, _, _, _, _, _, _, _, _, _, _, PT.out, FZ.out⟩)
                clear BV PT RT FZ
                go_wp2
                go_roundw
                case rel => exact ⟨i + 1, by first | (rw [HW9.out]; rfl) | go_num, HL1.out, KF⟩
                case measure => first | (rw [HW9.out]; exact HMS.out) | exact HMS.out
        · have hi2 : ¬ (i : Int) < 40 := by omega
          have hd2 : decide ((i : Int) < 40) = false := decide_eq_false hi2
          have LNS := Lib.hid (show L.length ≤ 100000 from by have := FK.out.len; omega)
          have LE4 := Lib.hid (fun W (hb : Below wr.heap.size wr W) => @ld30 W k6 3 _ _ _ (box4 (PK.out.step hb).b6).2.2.2)
          have LE0 := Lib.hid (fun W (hb : Below wr.heap.size wr W) => @ld29 W k6 0 _ _ _ (box4 (PK.out.step hb).b6).1)
          have PK := Lib.hid (PK.out.step (Below.refl _ _).drew)
          go_upto_region 26 with (fail)
          refine wp_region_held_drew (S := fun w' => Below wr.heap.size wr w') (by kernel_rfl) (Below.refl _ _).drew (fun hHeld => ?_)
          have BV := Lib.hid (show Below wr.heap.size wr wr.drew from (Below.refl _ _).drew)
          clear hHeld
          refine take_at (i := 0) 155 ?_ rfl rfl (by kernel_rfl) (by kernel_rfl) (by kernel_rfl) (fun _ _ _ h => h) (.inl ⟨rfl, ?_⟩) BV.out ?_
          rotate_left 1
          · intro w hSw; go_simp; try with_reducible rfl
          simp only [Act.put, List.setIfInBounds_toArray, List.set_cons_zero, List.set_cons_succ]
          refine take_at (i := 2) 157 ?_ rfl rfl (by kernel_rfl) (by kernel_rfl) (by kernel_rfl) (fun _ _ _ h => h) (.inl ⟨rfl, ?_⟩) BV.out ?_
          rotate_left 1
          · intro w hSw; go_simp; try with_reducible rfl
          simp only [Act.put, List.setIfInBounds_toArray, List.set_cons_zero, List.set_cons_succ]
          refine take_at (i := 3) 158 (.slice ra L.length rc) rfl rfl (by kernel_rfl) (by kernel_rfl) (by kernel_rfl) (fun _ _ _ h => h) (yields_ld (.tmp 157) 30 (.pointer (some ⟨k6, 3, none⟩)) _ LE4.out rfl rfl rfl) BV.out ?_
          simp only [Act.put, List.setIfInBounds_toArray, List.set_cons_zero, List.set_cons_succ]
          have OPC := Lib.hid (ops_of wr.drew (pv p) _ ft fr la L.length lc (stepsF T0 L) PK.out.tree.haveL (lies_log PK.out.tree) (by rw [steps_len]; exact LNS.out))
          rw [steps_o] at OPC
          refine wpAnyH_ready (rs := [1]) (by kernel_rfl) (by simp) (br_call (i := 1) 156 27 #[pv p] rfl rfl rfl (by go_simp) ((OPC.out).mono ?_) AllReadyH.nil)
          rintro e v501 ⟨vL, rfl, ho1, hb⟩
          have BV := Lib.hid (BV.out.trans (hb.mono BV.out.size))
          have PK := Lib.hid (PK.out.step hb)
          have LD := Lib.hid (show OLies _ vL L from Tb.own_liesK (enc := oc) (k := 9) oc_len ho1)
          clear ho1 OPC
          clear hb
          refine ⟨_, rfl, BV.out, fun _ => ?_⟩
          simp only [Act.put, List.setIfInBounds_toArray, List.set_cons_zero, List.set_cons_succ]
          have SMC := Lib.hid (rsameO_any v501 vL (.slice ra L.length rc) L L LD.out PK.out.log)
          rw [sameO_self] at SMC
          refine wpAnyH_ready (rs := [4]) (by kernel_rfl) (by simp) (br_call (i := 4) 159 26 #[vL, .slice ra L.length rc] rfl rfl rfl (by go_simp) ((SMC.out).mono ?_) AllReadyH.nil)
          rintro e v502 ⟨rfl, hb⟩
          have BV := Lib.hid (BV.out.trans (hb.mono BV.out.size))
          have PK := Lib.hid (PK.out.step hb)
          have LD := Lib.hid (LD.out.step hb)
          clear SMC
          clear hb
          refine ⟨_, rfl, BV.out, fun _ => ?_⟩
          simp only [Act.put, List.setIfInBounds_toArray, List.set_cons_zero, List.set_cons_succ]
          refine take_at (i := 5) 160 ?_ rfl rfl (by kernel_rfl) (by kernel_rfl) (by kernel_rfl) (fun _ _ _ h => h) (.inl ⟨rfl, ?_⟩) BV.out ?_
          rotate_left 1
          · intro w hSw; go_simp; try with_reducible rfl
          simp only [Act.put, List.setIfInBounds_toArray, List.set_cons_zero, List.set_cons_succ]
          refine take_at (i := 6) 161 ?_ rfl rfl (by kernel_rfl) (by kernel_rfl) (by kernel_rfl) (fun _ _ _ h => h) (.inl ⟨rfl, ?_⟩) BV.out ?_
          rotate_left 1
          · intro w hSw; go_simp; try with_reducible rfl
          simp only [Act.put, List.setIfInBounds_toArray, List.set_cons_zero, List.set_cons_succ]
          refine take_at (i := 8) 163 ?_ rfl rfl (by kernel_rfl) (by kernel_rfl) (by kernel_rfl) (fun _ _ _ h => h) (.inl ⟨rfl, ?_⟩) BV.out ?_
          rotate_left 1
          · intro w hSw; go_simp; try with_reducible rfl
          simp only [Act.put, List.setIfInBounds_toArray, List.set_cons_zero, List.set_cons_succ]
          refine take_at (i := 9) 164 (.slice ba bn bc) rfl rfl (by kernel_rfl) (by kernel_rfl) (by kernel_rfl) (fun _ _ _ h => h) (yields_ld (.tmp 163) 29 (.pointer (some ⟨k6, 0, none⟩)) _ LE0.out rfl rfl rfl) BV.out ?_
          simp only [Act.put, List.setIfInBounds_toArray, List.set_cons_zero, List.set_cons_succ]
          have BSC := Lib.hid (base_of v502 (pv p) _ ft fr la L.length lc (stepsF T0 L) (playF T0 L) PK.out.tree.haveL (clones_tab PK.out.tree.tab (by have := play_len L T0; have := FK.out.len; omega)) (lies_log PK.out.tree) (by rw [steps_len]; have := play_len L T0; have := FK.out.len; omega) (steps_ok L FK.out.okT FK.out.okL))
          rw [back_play L FK.out.riseT] at BSC
          refine wpAnyH_ready (rs := [7]) (by kernel_rfl) (by simp) (br_call (i := 7) 162 29 #[pv p] rfl rfl rfl (by go_simp) ((BSC.out).mono ?_) AllReadyH.nil)
          rintro e v503 ⟨qB, bB, rfl, hB1, _, _, hb⟩
          have BV := Lib.hid (BV.out.trans (hb.mono BV.out.size))
          have PK := Lib.hid (PK.out.step hb)
          have LD := Lib.hid (LD.out.step hb)
          have TB1 := Lib.hid hB1
          clear hB1 BSC
          clear hb
          refine ⟨_, rfl, BV.out, fun _ => ?_⟩
          simp only [Act.put, List.setIfInBounds_toArray, List.set_cons_zero, List.set_cons_succ]
          have ENC := Lib.hid (entries_any v503 qB bB T0 TB1.out FK.out.riseT FK.out.okT ba bn bc PK.out.base (by have := FK.out.len; omega))
          refine wpAnyH_ready (rs := [10]) (by kernel_rfl) (by simp) (br_call (i := 10) 165 28 #[.pointer (some ⟨qB, 0, none⟩), .slice ba bn bc] rfl rfl rfl (by go_simp) ((ENC.out).mono ?_) AllReadyH.nil)
          rintro e v504 ⟨rfl, hb⟩
          have BV := Lib.hid (BV.out.trans (hb.mono BV.out.size))
          have PK := Lib.hid (PK.out.step hb)
          have LD := Lib.hid (LD.out.step hb)
          have TB1 := Lib.hid (TB1.out.step hb)
          clear ENC
          clear hb
          refine ⟨_, rfl, BV.out, fun _ => ?_⟩
          simp only [Act.put, List.setIfInBounds_toArray, List.set_cons_zero, List.set_cons_succ]
          refine take_at (i := 11) 166 ?_ rfl rfl (by kernel_rfl) (by kernel_rfl) (by kernel_rfl) (fun _ _ _ h => h) (.inl ⟨rfl, ?_⟩) BV.out ?_
          rotate_left 1
          · intro w hSw; go_simp; try with_reducible rfl
          simp only [Act.put, List.setIfInBounds_toArray, List.set_cons_zero, List.set_cons_succ]
          refine take_at (i := 12) 167 ?_ rfl rfl (by kernel_rfl) (by kernel_rfl) (by kernel_rfl) (fun _ _ _ h => h) (.inl ⟨rfl, ?_⟩) BV.out ?_
          rotate_left 1
          · intro w hSw; go_simp; try with_reducible rfl
          simp only [Act.put, List.setIfInBounds_toArray, List.set_cons_zero, List.set_cons_succ]
          refine wpAnyH_ready (rs := [13]) (by kernel_rfl) (by simp) (br_call (i := 13) 168 9 #[] rfl rfl rfl (by go_simp) ((AW.out _).mono ?_) AllReadyH.nil)
          rintro e v505 ⟨rfl, hb⟩
          have BV := Lib.hid (BV.out.trans (hb.mono BV.out.size))
          have PK := Lib.hid (PK.out.step hb)
          have LD := Lib.hid (LD.out.step hb)
          have TB1 := Lib.hid (TB1.out.step hb)
          clear hb
          refine ⟨_, rfl, BV.out, fun _ => ?_⟩
          simp only [Act.put, List.setIfInBounds_toArray, List.set_cons_zero, List.set_cons_succ]
          refine take_at (i := 14) 169 ?_ rfl rfl (by kernel_rfl) (by kernel_rfl) (by kernel_rfl) (fun _ _ _ h => h) (.inl ⟨rfl, ?_⟩) BV.out ?_
          rotate_left 1
          · intro w hSw; go_simp; try with_reducible rfl
          simp only [Act.put, List.setIfInBounds_toArray, List.set_cons_zero, List.set_cons_succ]
          refine take_at (i := 15) 4 ?_ rfl rfl (by kernel_rfl) (by kernel_rfl) (by kernel_rfl) (fun _ _ _ h => h) (.inl ⟨rfl, ?_⟩) BV.out ?_
          rotate_left 1
          · intro w hSw; go_simp; try with_reducible rfl
          simp only [Act.put, List.setIfInBounds_toArray, List.set_cons_zero, List.set_cons_succ]
          refine wpAnyH_done (by kernel_rfl) ?_ _
          have FB := Lib.hid PK.out.bel
          clear BV
          go_wp2
          go_returns
          exact ⟨rfl, FB.out⟩
      · have hi1 : ¬ (i : Int) < (l.length : Int) := by omega
        have hd : decide ((i : Int) < (l.length : Int)) = false := decide_eq_false hi1
        have LNS := Lib.hid (show L.length ≤ 100000 from by have := FK.out.len; omega)
        have LE4 := Lib.hid (fun W (hb : Below wr.heap.size wr W) => @ld30 W k6 3 _ _ _ (box4 (PK.out.step hb).b6).2.2.2)
        have LE0 := Lib.hid (fun W (hb : Below wr.heap.size wr W) => @ld29 W k6 0 _ _ _ (box4 (PK.out.step hb).b6).1)
        have PK := Lib.hid (PK.out.step (Below.refl _ _).drew)
        go_upto_region 26 with (fail)
        refine wp_region_held_drew (S := fun w' => Below wr.heap.size wr w') (by kernel_rfl) (Below.refl _ _).drew (fun hHeld => ?_)
        have BV := Lib.hid (show Below wr.heap.size wr wr.drew from (Below.refl _ _).drew)
        clear hHeld
        refine take_at (i := 0) 155 ?_ rfl rfl (by kernel_rfl) (by kernel_rfl) (by kernel_rfl) (fun _ _ _ h => h) (.inl ⟨rfl, ?_⟩) BV.out ?_
        rotate_left 1
        · intro w hSw; go_simp; try with_reducible rfl
        simp only [Act.put, List.setIfInBounds_toArray, List.set_cons_zero, List.set_cons_succ]
        refine take_at (i := 2) 157 ?_ rfl rfl (by kernel_rfl) (by kernel_rfl) (by kernel_rfl) (fun _ _ _ h => h) (.inl ⟨rfl, ?_⟩) BV.out ?_
        rotate_left 1
        · intro w hSw; go_simp; try with_reducible rfl
        simp only [Act.put, List.setIfInBounds_toArray, List.set_cons_zero, List.set_cons_succ]
        refine take_at (i := 3) 158 (.slice ra L.length rc) rfl rfl (by kernel_rfl) (by kernel_rfl) (by kernel_rfl) (fun _ _ _ h => h) (yields_ld (.tmp 157) 30 (.pointer (some ⟨k6, 3, none⟩)) _ LE4.out rfl rfl rfl) BV.out ?_
        simp only [Act.put, List.setIfInBounds_toArray, List.set_cons_zero, List.set_cons_succ]
        have OPC := Lib.hid (ops_of wr.drew (pv p) _ ft fr la L.length lc (stepsF T0 L) PK.out.tree.haveL (lies_log PK.out.tree) (by rw [steps_len]; exact LNS.out))
        rw [steps_o] at OPC
        refine wpAnyH_ready (rs := [1]) (by kernel_rfl) (by simp) (br_call (i := 1) 156 27 #[pv p] rfl rfl rfl (by go_simp) ((OPC.out).mono ?_) AllReadyH.nil)
        rintro e v501 ⟨vL, rfl, ho1, hb⟩
        have BV := Lib.hid (BV.out.trans (hb.mono BV.out.size))
        have PK := Lib.hid (PK.out.step hb)
        have LD := Lib.hid (show OLies _ vL L from Tb.own_liesK (enc := oc) (k := 9) oc_len ho1)
        clear ho1 OPC
        clear hb
        refine ⟨_, rfl, BV.out, fun _ => ?_⟩
        simp only [Act.put, List.setIfInBounds_toArray, List.set_cons_zero, List.set_cons_succ]
        have SMC := Lib.hid (rsameO_any v501 vL (.slice ra L.length rc) L L LD.out PK.out.log)
        rw [sameO_self] at SMC
        refine wpAnyH_ready (rs := [4]) (by kernel_rfl) (by simp) (br_call (i := 4) 159 26 #[vL, .slice ra L.length rc] rfl rfl rfl (by go_simp) ((SMC.out).mono ?_) AllReadyH.nil)
        rintro e v502 ⟨rfl, hb⟩
        have BV := Lib.hid (BV.out.trans (hb.mono BV.out.size))
        have PK := Lib.hid (PK.out.step hb)
        have LD := Lib.hid (LD.out.step hb)
        clear SMC
        clear hb
        refine ⟨_, rfl, BV.out, fun _ => ?_⟩
        simp only [Act.put, List.setIfInBounds_toArray, List.set_cons_zero, List.set_cons_succ]
        refine take_at (i := 5) 160 ?_ rfl rfl (by kernel_rfl) (by kernel_rfl) (by kernel_rfl) (fun _ _ _ h => h) (.inl ⟨rfl, ?_⟩) BV.out ?_
        rotate_left 1
        · intro w hSw; go_simp; try with_reducible rfl
        simp only [Act.put, List.setIfInBounds_toArray, List.set_cons_zero, List.set_cons_succ]
        refine take_at (i := 6) 161 ?_ rfl rfl (by kernel_rfl) (by kernel_rfl) (by kernel_rfl) (fun _ _ _ h => h) (.inl ⟨rfl, ?_⟩) BV.out ?_
        rotate_left 1
        · intro w hSw; go_simp; try with_reducible rfl
        simp only [Act.put, List.setIfInBounds_toArray, List.set_cons_zero, List.set_cons_succ]
        refine take_at (i := 8) 163 ?_ rfl rfl (by kernel_rfl) (by kernel_rfl) (by kernel_rfl) (fun _ _ _ h => h) (.inl ⟨rfl, ?_⟩) BV.out ?_
        rotate_left 1
        · intro w hSw; go_simp; try with_reducible rfl
        simp only [Act.put, List.setIfInBounds_toArray, List.set_cons_zero, List.set_cons_succ]
        refine take_at (i := 9) 164 (.slice ba bn bc) rfl rfl (by kernel_rfl) (by kernel_rfl) (by kernel_rfl) (fun _ _ _ h => h) (yields_ld (.tmp 163) 29 (.pointer (some ⟨k6, 0, none⟩)) _ LE0.out rfl rfl rfl) BV.out ?_
        simp only [Act.put, List.setIfInBounds_toArray, List.set_cons_zero, List.set_cons_succ]
        have BSC := Lib.hid (base_of v502 (pv p) _ ft fr la L.length lc (stepsF T0 L) (playF T0 L) PK.out.tree.haveL (clones_tab PK.out.tree.tab (by have := play_len L T0; have := FK.out.len; omega)) (lies_log PK.out.tree) (by rw [steps_len]; have := play_len L T0; have := FK.out.len; omega) (steps_ok L FK.out.okT FK.out.okL))
        rw [back_play L FK.out.riseT] at BSC
        refine wpAnyH_ready (rs := [7]) (by kernel_rfl) (by simp) (br_call (i := 7) 162 29 #[pv p] rfl rfl rfl (by go_simp) ((BSC.out).mono ?_) AllReadyH.nil)
        rintro e v503 ⟨qB, bB, rfl, hB1, _, _, hb⟩
        have BV := Lib.hid (BV.out.trans (hb.mono BV.out.size))
        have PK := Lib.hid (PK.out.step hb)
        have LD := Lib.hid (LD.out.step hb)
        have TB1 := Lib.hid hB1
        clear hB1 BSC
        clear hb
        refine ⟨_, rfl, BV.out, fun _ => ?_⟩
        simp only [Act.put, List.setIfInBounds_toArray, List.set_cons_zero, List.set_cons_succ]
        have ENC := Lib.hid (entries_any v503 qB bB T0 TB1.out FK.out.riseT FK.out.okT ba bn bc PK.out.base (by have := FK.out.len; omega))
        refine wpAnyH_ready (rs := [10]) (by kernel_rfl) (by simp) (br_call (i := 10) 165 28 #[.pointer (some ⟨qB, 0, none⟩), .slice ba bn bc] rfl rfl rfl (by go_simp) ((ENC.out).mono ?_) AllReadyH.nil)
        rintro e v504 ⟨rfl, hb⟩
        have BV := Lib.hid (BV.out.trans (hb.mono BV.out.size))
        have PK := Lib.hid (PK.out.step hb)
        have LD := Lib.hid (LD.out.step hb)
        have TB1 := Lib.hid (TB1.out.step hb)
        clear ENC
        clear hb
        refine ⟨_, rfl, BV.out, fun _ => ?_⟩
        simp only [Act.put, List.setIfInBounds_toArray, List.set_cons_zero, List.set_cons_succ]
        refine take_at (i := 11) 166 ?_ rfl rfl (by kernel_rfl) (by kernel_rfl) (by kernel_rfl) (fun _ _ _ h => h) (.inl ⟨rfl, ?_⟩) BV.out ?_
        rotate_left 1
        · intro w hSw; go_simp; try with_reducible rfl
        simp only [Act.put, List.setIfInBounds_toArray, List.set_cons_zero, List.set_cons_succ]
        refine take_at (i := 12) 167 ?_ rfl rfl (by kernel_rfl) (by kernel_rfl) (by kernel_rfl) (fun _ _ _ h => h) (.inl ⟨rfl, ?_⟩) BV.out ?_
        rotate_left 1
        · intro w hSw; go_simp; try with_reducible rfl
        simp only [Act.put, List.setIfInBounds_toArray, List.set_cons_zero, List.set_cons_succ]
        refine wpAnyH_ready (rs := [13]) (by kernel_rfl) (by simp) (br_call (i := 13) 168 9 #[] rfl rfl rfl (by go_simp) ((AW.out _).mono ?_) AllReadyH.nil)
        rintro e v505 ⟨rfl, hb⟩
        have BV := Lib.hid (BV.out.trans (hb.mono BV.out.size))
        have PK := Lib.hid (PK.out.step hb)
        have LD := Lib.hid (LD.out.step hb)
        have TB1 := Lib.hid (TB1.out.step hb)
        clear hb
        refine ⟨_, rfl, BV.out, fun _ => ?_⟩
        simp only [Act.put, List.setIfInBounds_toArray, List.set_cons_zero, List.set_cons_succ]
        refine take_at (i := 14) 169 ?_ rfl rfl (by kernel_rfl) (by kernel_rfl) (by kernel_rfl) (fun _ _ _ h => h) (.inl ⟨rfl, ?_⟩) BV.out ?_
        rotate_left 1
        · intro w hSw; go_simp; try with_reducible rfl
        simp only [Act.put, List.setIfInBounds_toArray, List.set_cons_zero, List.set_cons_succ]
        refine take_at (i := 15) 4 ?_ rfl rfl (by kernel_rfl) (by kernel_rfl) (by kernel_rfl) (fun _ _ _ h => h) (.inl ⟨rfl, ?_⟩) BV.out ?_
        rotate_left 1
        · intro w hSw; go_simp; try with_reducible rfl
        simp only [Act.put, List.setIfInBounds_toArray, List.set_cons_zero, List.set_cons_succ]
        refine wpAnyH_done (by kernel_rfl) ?_ _
        have FB := Lib.hid PK.out.bel
        clear BV
        go_wp2
        go_returns
        exact ⟨rfl, FB.out⟩
end Go.Proofs.Ytkmeceoilighiaa
