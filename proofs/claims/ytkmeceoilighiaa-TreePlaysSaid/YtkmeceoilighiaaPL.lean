/- Where the op of a stamp stands: place, BinarySearchFunc over steps. Made by genpl14.py. -/
import Derived.Test.YtkmeceoilighiaaES
import Derived.Test.YtkmeceoilighiaaDR
import Derived.Test.YtkmeceoilighiaaSAll
import Derived.Handy
import Derived.Lib.Walk
import Derived.Lib.Hide
import Derived.LoopTactic
import Derived.RegionTactic
import Derived.Deep.Cut
import Derived.Deep.QuietTactic
set_option linter.unusedVariables false
set_option linter.unusedSimpArgs false
set_option maxRecDepth 100000
namespace Go.Proofs.Ytkmeceoilighiaa
open Go.RowKit
open Tb (LiesK)
theorem pl_vstep (W : World) (o : Obj) : Below W.heap.size W (W.alloc o) := (Below.refl _ _).alloc (Nat.le_refl _) _
theorem pl_lt {w : World} {b : Nat} {o : Obj} (h : w.heap[b]? = some o) : b < w.heap.size := (Array.getElem?_eq_some_iff.1 h).1
/-- A step's load. -/
theorem ldS {W : World} {g o : Nat} {x : Stp} (h : ∀ i u, (stc1 x)[i]? = some u → W.cell? ⟨g, o + i, none⟩ = some u) : (Instr.loadAt 89 (.pointer (some ⟨g, o, none⟩))).run Try.prog W = .ok (stV x) W := by
  have h0 := h 0 _ rfl; have h1 := h 1 _ rfl; have h2 := h 2 _ rfl; have h3 := h 3 _ rfl; have h4 := h 4 _ rfl; have h5 := h 5 _ rfl; have h6 := h 6 _ rfl; have h7 := h 7 _ rfl
  have h8 := h 8 _ rfl; have h9 := h 9 _ rfl; have h10 := h 10 _ rfl; have h11 := h 11 _ rfl; have h12 := h 12 _ rfl; have h13 := h 13 _ rfl; have h14 := h 14 _ rfl
  rw [Nat.add_zero] at h0
  clear h
  go_simp
  rfl
theorem lies_elt {w : World} {ao : Option Addr} {n cap : Nat} {l : List Stp} (h : LiesK stc1 15 w (.slice ao n cap) l) {i : Nat} (hi : i < n) : ∃ g o x, ao = some ⟨g, o, none⟩ ∧ l[i]? = some x ∧ g < w.heap.size ∧ ∀ r u, (stc1 x)[r]? = some u → w.cell? ⟨g, o + i * 15 + r, none⟩ = some u := by
  obtain ⟨g, o, p, e1, e2, e3, e4⟩ := h.at' hi
  exact ⟨g, o, p, e1, e2, e3, e4⟩
set_option maxHeartbeats 1600000 in
theorem place1_any (w : World) (s : Stp) (t r : Int) : Calls Try.prog 66 #[stV s, .agg #[.int .i64 t, .int .i64 r]] w fun e w' => e = .returned (.int .i64 (St.cmpS s.o.t s.o.r t r)) ∧ Below w.heap.size w w' := by
  unfold stV stCells
  have B1 := Lib.hid (pl_vstep w (.cells #[.int .i64 s.o.t, .int .i64 s.o.r, .int .i64 s.o.q, .int .i64 s.o.nt, .int .i64 s.o.nr, .int .i64 s.o.pt, .int .i64 s.o.pr, .string s.o.nm, .bool s.o.d, .bool s.did, .bool s.had, .int .i64 s.wt, .int .i64 s.wr, .string s.wn, .bool s.wd] 89))
  have C := Lib.hid (fun W => St.compare_any W s.o.t s.o.r t r)
  obtain ⟨z, hz⟩ : ∃ z, St.cmpS s.o.t s.o.r t r = z := ⟨_, rfl⟩
  rw [hz] at C ⊢
  clear hz
  go_enter Try.func66, Try.ntmps66
  go_wp2_with fail
  refine (C.out _).mono ?_
  rintro e w1 ⟨rfl, hb⟩
  have B2 := Lib.hid (B1.out.trans (((pl_vstep _ _).trans (hb.mono (pl_vstep _ _).size)).mono B1.out.size))
  clear hb
  go_wp2
  go_returns
  exact ⟨rfl, B2.out⟩

/-- A stamp's box. -/
theorem ldSt {W : World} {g : Nat} {t r : Int} (h : W.heap[g]? = some (.cells #[.int .i64 t, .int .i64 r] 24 (0, 0))) : (Instr.loadAt 24 (.pointer (some ⟨g, 0, none⟩))).run Try.prog W = .ok (.agg #[.int .i64 t, .int .i64 r]) W := by
  have c0 : W.cell? ⟨g, 0, none⟩ = some (.int .i64 t) := by rw [cell_of_row _ _ _ _ _ _ h]; rfl
  have c1 : W.cell? ⟨g, 1, none⟩ = some (.int .i64 r) := by rw [cell_of_row _ _ _ _ _ _ h]; rfl
  clear h
  go_simp
set_option maxHeartbeats 1600000 in
theorem bsearch_any (w : World) (v : Value) (l : List Stp) (t r : Int) (h : LiesK stc1 15 w v l) (hu : RiseO (l.map (·.o))) (hl : l.length ≤ 100000) :
    Calls Try.prog 65 #[v, .agg #[.int .i64 t, .int .i64 r], .func (.func 66) #[] #[]] w fun e w' => e = .returned (.tuple #[.int .i64 (posF (l.map (·.o)) t r : Nat), .bool (hasO (l.map (·.o)) t r)]) ∧ Below w.heap.size w w' := by
  have X := pl_vstep w (.cells #[.int .i64 t, .int .i64 r] 24)
  have N := heap_alloc_new w (.cells #[.int .i64 t, .int .i64 r] 24)
  obtain ⟨W0, hW0⟩ : ∃ W0, w.alloc (.cells #[.int .i64 t, .int .i64 r] 24) = W0 := ⟨_, rfl⟩
  rw [hW0] at X N
  have HW := Lib.hid hW0
  have X := Lib.hid X
  have HU := Lib.hid hu
  have BX := Lib.hid (fun W (hb : Below W0.heap.size W0 W) => ldSt ((hb.block _ (pl_lt N)).trans N))
  have V := Lib.hid (fun W (hb : Below W0.heap.size W0 W) => (h.step X.out).step hb)
  have C := Lib.hid (fun W (s : Stp) => place1_any W s t r)
  have PE := Lib.hid (fun i => @pos_of (l.map (·.o)) t r i)
  have PA := Lib.hid (fun i x => @has_at (l.map (·.o)) hu t r i x)
  have PN := Lib.hid (@has_end (l.map (·.o)) hu t r)
  obtain ⟨ao, cap, rfl⟩ := h.shape
  obtain ⟨ps, hps⟩ : ∃ z, posF (l.map (·.o)) t r = z := ⟨_, rfl⟩
  obtain ⟨hs, hhs⟩ : ∃ z, hasO (l.map (·.o)) t r = z := ⟨_, rfl⟩
  rw [hps] at PE PA PN ⊢
  rw [hhs] at PA PN ⊢
  clear hW0 h hu N hps hhs
  go_enter Try.func65, Try.ntmps65
  go_wp2_with fail
  rw [HW.out]
  go_loopw [9, 10] (fun iv jv wr => ∃ i j : Nat, iv = .int .i64 i ∧ jv = .int .i64 j ∧ i ≤ j ∧ j ≤ l.length ∧ Hid ((∀ (k : Nat) x, (l.map (·.o))[k]? = some x → k < i → ltO x t r = true) ∧ (∀ (k : Nat) x, (l.map (·.o))[k]? = some x → j ≤ k → ltO x t r = false) ∧ Below W0.heap.size W0 wr)) (fun iv jv _ => (intOf jv).toNat - (intOf iv).toNat)
  case atStart => exact ⟨0, l.length, rfl, rfl, Nat.zero_le _, Nat.le_refl _, Lib.hid ⟨fun k x _ hk => absurd hk (Nat.not_lt_zero _), fun k x hk hk2 => absurd (List.getElem?_eq_some_iff.1 hk).1 (by rw [List.length_map]; omega), Below.refl _ _⟩⟩
  case round =>
    obtain ⟨i, j, rfl, rfl, hij, hjl, hI⟩ := hrel
    have B0 := Lib.hid hI.out.2.2
    by_cases hlt : i < j
    · obtain ⟨m, hm⟩ : ∃ m, m = (i + j) / 2 := ⟨_, rfl⟩
      obtain ⟨g, o, p, rfl, hp, hg, hc⟩ := lies_elt (V.out wr B0.out) (i := m) (by omega)
      have HP := Lib.hid (show (l.map (·.o))[m]? = some p.o by rw [List.getElem?_map, hp]; rfl)
      have LX := Lib.hid (fun W (hb : Below wr.heap.size wr W) => @ldS W g (o + m * 15) p (fun i u hu => (hb.cell (p := ⟨g, o + m * 15 + i, none⟩) hg).trans (hc i u hu)))
      have LB := Lib.hid (fun W (hb : Below wr.heap.size wr W) => BX.out W (B0.out.trans (hb.mono B0.out.size)))
      have CP := Lib.hid (fun W => C.out W p)
      have hmi : i ≤ m := by omega
      have hmj : m < j := by omega
      have hm0 : (0 : Int) ≤ (m : Int) := by omega
      have hml : (m : Int) < (l.length : Int) := by omega
      have q1 : ((i : Int) + (j : Int)) / 2 = (m : Int) := by omega
      have HL := Lib.hid (show (St.cmpS p.o.t p.o.r t r < 0 ∧ ltO p.o t r = true) ∨ (¬ St.cmpS p.o.t p.o.r t r < 0 ∧ ltO p.o t r = false) from by
        rcases St.cmp_less p.o.t p.o.r t r with ⟨a, e⟩ | ⟨a, _, e⟩ | ⟨a, _, e⟩
        · exact .inl ⟨by rw [e]; decide, a⟩
        · exact .inr ⟨by rw [e]; decide, a⟩
        · exact .inr ⟨by rw [e]; decide, a⟩)
      have RI := Lib.hid (fun k x (hk : (l.map (·.o))[k]? = some x) => (show (k < m → ltO x p.o.t p.o.r = true) ∧ (m < k → ltO p.o x.t x.r = true) from ⟨fun hkm => by
          have := (List.pairwise_iff_getElem.1 HU.out) k m (List.getElem?_eq_some_iff.1 hk).1 (List.getElem?_eq_some_iff.1 HP.out).1 hkm
          rw [(List.getElem?_eq_some_iff.1 hk).2, (List.getElem?_eq_some_iff.1 HP.out).2] at this; exact this, fun hkm => by
          have := (List.pairwise_iff_getElem.1 HU.out) m k (List.getElem?_eq_some_iff.1 HP.out).1 (List.getElem?_eq_some_iff.1 hk).1 hkm
          rw [(List.getElem?_eq_some_iff.1 hk).2, (List.getElem?_eq_some_iff.1 HP.out).2] at this; exact this⟩))
      obtain ⟨z, hz⟩ : ∃ z, St.cmpS p.o.t p.o.r t r = z := ⟨_, rfl⟩
      rw [hz] at HL CP
      obtain ⟨PV, hPV⟩ : ∃ z, stV p = z := ⟨_, rfl⟩
      rw [hPV] at LX CP
      clear hp hc hm hz hPV
      rcases HL.out with ⟨hz, hlo⟩ | ⟨hz, hlo⟩
      · have c0 := decide_eq_true hz
        have LO := Lib.hid hlo
        clear hz hlo
        go_wp2
        refine wp_region_held_drew (S := fun w' => Below wr.heap.size wr w') (by kernel_rfl) (Below.refl _ _).drew (fun hHeld => ?_)
        have BV := Lib.hid (show Below wr.heap.size wr wr.drew from (Below.refl _ _).drew)
        clear hHeld
        refine take_at (i := 0) 24 ?_ rfl rfl (by kernel_rfl) (by kernel_rfl) (by kernel_rfl) (fun _ _ _ h => h) (.inl ⟨rfl, ?_⟩) BV.out ?_
        rotate_left 1
        · intro w hSw; go_simp; try with_reducible rfl
        simp only [Act.put, List.setIfInBounds_toArray, List.set_cons_zero, List.set_cons_succ]
        refine take_at (i := 1) 25 ?_ rfl rfl (by kernel_rfl) (by kernel_rfl) (by kernel_rfl) (fun _ _ _ h => h) (.inl ⟨rfl, ?_⟩) BV.out ?_
        rotate_left 1
        · intro w hSw; go_simp; try with_reducible rfl
        simp only [Act.put, List.setIfInBounds_toArray, List.set_cons_zero, List.set_cons_succ]
        refine take_at (i := 2) 26 ?_ rfl rfl (by kernel_rfl) (by kernel_rfl) (by kernel_rfl) (fun _ _ _ h => h) (.inl ⟨rfl, ?_⟩) BV.out ?_
        rotate_left 1
        · intro w hSw; go_simp; try with_reducible rfl
        simp only [Act.put, List.setIfInBounds_toArray, List.set_cons_zero, List.set_cons_succ]
        refine take_at (i := 3) 27 ?_ rfl rfl (by kernel_rfl) (by kernel_rfl) (by kernel_rfl) (fun _ _ _ h => h) (.inl ⟨rfl, ?_⟩) BV.out ?_
        rotate_left 1
        · intro w hSw; go_simp; try with_reducible rfl
        simp only [Act.put, List.setIfInBounds_toArray, List.set_cons_zero, List.set_cons_succ]
        refine take_at (i := 4) 28 (PV) rfl rfl (by kernel_rfl) (by kernel_rfl) (by kernel_rfl) (fun _ _ _ h => h) (yields_ld (.tmp 27) 89 (.pointer (some ⟨g, o + m * 15, none⟩)) _ LX.out rfl rfl rfl) BV.out ?_
        simp only [Act.put, List.setIfInBounds_toArray, List.set_cons_zero, List.set_cons_succ]
        refine take_at (i := 5) 29 (.agg #[.int .i64 t, .int .i64 r]) rfl rfl (by kernel_rfl) (by kernel_rfl) (by kernel_rfl) (fun _ _ _ h => h) (yields_ld (.tmp 4) 24 (.pointer (some ⟨w.heap.size, 0, none⟩)) _ LB.out rfl rfl rfl) BV.out ?_
        simp only [Act.put, List.setIfInBounds_toArray, List.set_cons_zero, List.set_cons_succ]
        refine wpAnyH_ready (rs := [6]) (by kernel_rfl) (by simp) (br_call (i := 6) 30 66 #[PV, .agg #[.int .i64 t, .int .i64 r]] rfl rfl rfl (by go_simp) ((CP.out _).mono ?_) AllReadyH.nil)
        rintro e v1 ⟨rfl, hb⟩
        have BV := Lib.hid (BV.out.trans (hb.mono BV.out.size))
        clear hb
        refine ⟨_, rfl, BV.out, fun _ => ?_⟩
        simp only [Act.put, List.setIfInBounds_toArray, List.set_cons_zero, List.set_cons_succ]
        refine take_at (i := 7) 31 ?_ rfl rfl (by kernel_rfl) (by kernel_rfl) (by kernel_rfl) (fun _ _ _ h => h) (.inl ⟨rfl, ?_⟩) BV.out ?_
        rotate_left 1
        · intro w hSw; go_simp; try with_reducible rfl
        simp only [Act.put, List.setIfInBounds_toArray, List.set_cons_zero, List.set_cons_succ]
        refine wpAnyH_done (by kernel_rfl) ?_ _
        have B1 := Lib.hid (B0.out.trans (BV.out.mono B0.out.size))
        clear BV
        go_wp2
        go_roundw
        case rel =>
          refine ⟨m + 1, j, by go_num, rfl, by omega, by omega, Lib.hid ⟨fun k x hk hk2 => ?_, hI.out.2.1, B1.out⟩⟩
          by_cases e : k = m
          · rw [e, HP.out] at hk; injection hk with hk; rw [← hk]; exact LO.out
          · exact ltS_trans ((RI.out k x hk).1 (by omega)) LO.out
        case measure => simp [intOf]; omega

      · have c0 := decide_eq_false hz
        have LO := Lib.hid hlo
        clear hz hlo
        go_wp2
        refine wp_region_held_drew (S := fun w' => Below wr.heap.size wr w') (by kernel_rfl) (Below.refl _ _).drew (fun hHeld => ?_)
        have BV := Lib.hid (show Below wr.heap.size wr wr.drew from (Below.refl _ _).drew)
        clear hHeld
        refine take_at (i := 0) 24 ?_ rfl rfl (by kernel_rfl) (by kernel_rfl) (by kernel_rfl) (fun _ _ _ h => h) (.inl ⟨rfl, ?_⟩) BV.out ?_
        rotate_left 1
        · intro w hSw; go_simp; try with_reducible rfl
        simp only [Act.put, List.setIfInBounds_toArray, List.set_cons_zero, List.set_cons_succ]
        refine take_at (i := 1) 25 ?_ rfl rfl (by kernel_rfl) (by kernel_rfl) (by kernel_rfl) (fun _ _ _ h => h) (.inl ⟨rfl, ?_⟩) BV.out ?_
        rotate_left 1
        · intro w hSw; go_simp; try with_reducible rfl
        simp only [Act.put, List.setIfInBounds_toArray, List.set_cons_zero, List.set_cons_succ]
        refine take_at (i := 2) 26 ?_ rfl rfl (by kernel_rfl) (by kernel_rfl) (by kernel_rfl) (fun _ _ _ h => h) (.inl ⟨rfl, ?_⟩) BV.out ?_
        rotate_left 1
        · intro w hSw; go_simp; try with_reducible rfl
        simp only [Act.put, List.setIfInBounds_toArray, List.set_cons_zero, List.set_cons_succ]
        refine take_at (i := 3) 27 ?_ rfl rfl (by kernel_rfl) (by kernel_rfl) (by kernel_rfl) (fun _ _ _ h => h) (.inl ⟨rfl, ?_⟩) BV.out ?_
        rotate_left 1
        · intro w hSw; go_simp; try with_reducible rfl
        simp only [Act.put, List.setIfInBounds_toArray, List.set_cons_zero, List.set_cons_succ]
        refine take_at (i := 4) 28 (PV) rfl rfl (by kernel_rfl) (by kernel_rfl) (by kernel_rfl) (fun _ _ _ h => h) (yields_ld (.tmp 27) 89 (.pointer (some ⟨g, o + m * 15, none⟩)) _ LX.out rfl rfl rfl) BV.out ?_
        simp only [Act.put, List.setIfInBounds_toArray, List.set_cons_zero, List.set_cons_succ]
        refine take_at (i := 5) 29 (.agg #[.int .i64 t, .int .i64 r]) rfl rfl (by kernel_rfl) (by kernel_rfl) (by kernel_rfl) (fun _ _ _ h => h) (yields_ld (.tmp 4) 24 (.pointer (some ⟨w.heap.size, 0, none⟩)) _ LB.out rfl rfl rfl) BV.out ?_
        simp only [Act.put, List.setIfInBounds_toArray, List.set_cons_zero, List.set_cons_succ]
        refine wpAnyH_ready (rs := [6]) (by kernel_rfl) (by simp) (br_call (i := 6) 30 66 #[PV, .agg #[.int .i64 t, .int .i64 r]] rfl rfl rfl (by go_simp) ((CP.out _).mono ?_) AllReadyH.nil)
        rintro e v1 ⟨rfl, hb⟩
        have BV := Lib.hid (BV.out.trans (hb.mono BV.out.size))
        clear hb
        refine ⟨_, rfl, BV.out, fun _ => ?_⟩
        simp only [Act.put, List.setIfInBounds_toArray, List.set_cons_zero, List.set_cons_succ]
        refine take_at (i := 7) 31 ?_ rfl rfl (by kernel_rfl) (by kernel_rfl) (by kernel_rfl) (fun _ _ _ h => h) (.inl ⟨rfl, ?_⟩) BV.out ?_
        rotate_left 1
        · intro w hSw; go_simp; try with_reducible rfl
        simp only [Act.put, List.setIfInBounds_toArray, List.set_cons_zero, List.set_cons_succ]
        refine wpAnyH_done (by kernel_rfl) ?_ _
        have B1 := Lib.hid (B0.out.trans (BV.out.mono B0.out.size))
        clear BV
        go_wp2
        go_roundw
        case rel =>
          refine ⟨i, m, rfl, rfl, by omega, by omega, Lib.hid ⟨hI.out.1, fun k x hk hk2 => ?_, B1.out⟩⟩
          by_cases e : k = m
          · rw [e, HP.out] at hk; injection hk with hk; rw [← hk]; exact LO.out
          · cases hq : ltO x t r with
            | false => rfl
            | true =>
              have := ltS_trans ((RI.out k x hk).2 (by omega)) hq
              have h2 := LO.out
              unfold ltO at h2
              rw [this] at h2
              cases h2
        case measure => simp [intOf]; omega

    · have hij' : i = j := by omega
      subst hij'
      have HS := Lib.hid (PE.out i (by rw [List.length_map]; exact hjl) hI.out.1 hI.out.2.1)
      by_cases hl2 : i < l.length
      · obtain ⟨g, o, p, rfl, hp, hg, hc⟩ := lies_elt (V.out wr B0.out) (i := i) hl2
        have LX := Lib.hid (fun W (hb : Below wr.heap.size wr W) => @ldS W g (o + i * 15) p (fun i u hu => (hb.cell (p := ⟨g, o + _ * 15 + i, none⟩) hg).trans (hc i u hu)))
        have LB := Lib.hid (fun W (hb : Below wr.heap.size wr W) => BX.out W (B0.out.trans (hb.mono B0.out.size)))
        have CP := Lib.hid (fun W => C.out W p)
        have hm0 : (0 : Int) ≤ (i : Int) := by omega
        have hml : (i : Int) < (l.length : Int) := by omega
        have HE := Lib.hid (show hs = decide (St.cmpS p.o.t p.o.r t r = 0) from by
          rw [PA.out i p.o HS.out (by rw [List.getElem?_map, hp]; rfl)]
          refine decide_eq_decide.2 ?_
          unfold St.cmpS Lib.compareInt
          constructor
          · rintro ⟨e1, e2⟩; simp [e1, e2]
          · intro hz
            split at hz
            · rename_i e
              split at hz
              · cases hz
              · split at hz
                · cases hz
                · exact ⟨e, by omega⟩
            · split at hz
              · cases hz
              · split at hz
                · cases hz
                · omega)
        obtain ⟨z, hz⟩ : ∃ z, St.cmpS p.o.t p.o.r t r = z := ⟨_, rfl⟩
        rw [hz] at HE CP
        obtain ⟨PV, hPV⟩ : ∃ z, stV p = z := ⟨_, rfl⟩
        rw [hPV] at LX CP
        clear hp hc hz hPV hI
        go_wp2
        refine wp_region_held_drew (S := fun w' => Below wr.heap.size wr w') (by kernel_rfl) (Below.refl _ _).drew (fun hHeld => ?_)
        have BV := Lib.hid (show Below wr.heap.size wr wr.drew from (Below.refl _ _).drew)
        clear hHeld
        refine take_at (i := 0) 35 ?_ rfl rfl (by kernel_rfl) (by kernel_rfl) (by kernel_rfl) (fun _ _ _ h => h) (.inl ⟨rfl, ?_⟩) BV.out ?_
        rotate_left 1
        · intro w hSw; go_simp; try with_reducible rfl
        simp only [Act.put, List.setIfInBounds_toArray, List.set_cons_zero, List.set_cons_succ]
        refine take_at (i := 1) 36 ?_ rfl rfl (by kernel_rfl) (by kernel_rfl) (by kernel_rfl) (fun _ _ _ h => h) (.inl ⟨rfl, ?_⟩) BV.out ?_
        rotate_left 1
        · intro w hSw; go_simp; try with_reducible rfl
        simp only [Act.put, List.setIfInBounds_toArray, List.set_cons_zero, List.set_cons_succ]
        refine take_at (i := 2) 37 ?_ rfl rfl (by kernel_rfl) (by kernel_rfl) (by kernel_rfl) (fun _ _ _ h => h) (.inl ⟨rfl, ?_⟩) BV.out ?_
        rotate_left 1
        · intro w hSw; go_simp; try with_reducible rfl
        simp only [Act.put, List.setIfInBounds_toArray, List.set_cons_zero, List.set_cons_succ]
        refine take_at (i := 3) 38 ?_ rfl rfl (by kernel_rfl) (by kernel_rfl) (by kernel_rfl) (fun _ _ _ h => h) (.inl ⟨rfl, ?_⟩) BV.out ?_
        rotate_left 1
        · intro w hSw; go_simp; try with_reducible rfl
        simp only [Act.put, List.setIfInBounds_toArray, List.set_cons_zero, List.set_cons_succ]
        refine take_at (i := 4) 39 ?_ rfl rfl (by kernel_rfl) (by kernel_rfl) (by kernel_rfl) (fun _ _ _ h => h) (.inl ⟨rfl, ?_⟩) BV.out ?_
        rotate_left 1
        · intro w hSw; go_simp; try with_reducible rfl
        simp only [Act.put, List.setIfInBounds_toArray, List.set_cons_zero, List.set_cons_succ]
        refine take_at (i := 5) 40 ?_ rfl rfl (by kernel_rfl) (by kernel_rfl) (by kernel_rfl) (fun _ _ _ h => h) (.inl ⟨rfl, ?_⟩) BV.out ?_
        rotate_left 1
        · intro w hSw; go_simp; try with_reducible rfl
        simp only [Act.put, List.setIfInBounds_toArray, List.set_cons_zero, List.set_cons_succ]
        refine take_at (i := 6) 41 ?_ rfl rfl (by kernel_rfl) (by kernel_rfl) (by kernel_rfl) (fun _ _ _ h => h) (.inl ⟨rfl, ?_⟩) BV.out ?_
        rotate_left 1
        · intro w hSw; go_simp; try with_reducible rfl
        simp only [Act.put, List.setIfInBounds_toArray, List.set_cons_zero, List.set_cons_succ]
        refine take_at (i := 7) 42 ?_ rfl rfl (by kernel_rfl) (by kernel_rfl) (by kernel_rfl) (fun _ _ _ h => h) (.inl ⟨rfl, ?_⟩) BV.out ?_
        rotate_left 1
        · intro w hSw; go_simp; try with_reducible rfl
        simp only [Act.put, List.setIfInBounds_toArray, List.set_cons_zero, List.set_cons_succ]
        refine take_at (i := 8) 43 ?_ rfl rfl (by kernel_rfl) (by kernel_rfl) (by kernel_rfl) (fun _ _ _ h => h) (.inl ⟨rfl, ?_⟩) BV.out ?_
        rotate_left 1
        · intro w hSw; go_simp; try with_reducible rfl
        simp only [Act.put, List.setIfInBounds_toArray, List.set_cons_zero, List.set_cons_succ]
        refine take_at (i := 9) 44 (PV) rfl rfl (by kernel_rfl) (by kernel_rfl) (by kernel_rfl) (fun _ _ _ h => h) (yields_ld (.tmp 43) 89 (.pointer (some ⟨g, o + i * 15, none⟩)) _ LX.out rfl rfl rfl) BV.out ?_
        simp only [Act.put, List.setIfInBounds_toArray, List.set_cons_zero, List.set_cons_succ]
        refine take_at (i := 10) 45 (.agg #[.int .i64 t, .int .i64 r]) rfl rfl (by kernel_rfl) (by kernel_rfl) (by kernel_rfl) (fun _ _ _ h => h) (yields_ld (.tmp 4) 24 (.pointer (some ⟨w.heap.size, 0, none⟩)) _ LB.out rfl rfl rfl) BV.out ?_
        simp only [Act.put, List.setIfInBounds_toArray, List.set_cons_zero, List.set_cons_succ]
        refine wpAnyH_ready (rs := [11]) (by kernel_rfl) (by simp) (br_call (i := 11) 46 66 #[PV, .agg #[.int .i64 t, .int .i64 r]] rfl rfl rfl (by go_simp) ((CP.out _).mono ?_) AllReadyH.nil)
        rintro e v1 ⟨rfl, hb⟩
        have BV := Lib.hid (BV.out.trans (hb.mono BV.out.size))
        clear hb
        refine ⟨_, rfl, BV.out, fun _ => ?_⟩
        simp only [Act.put, List.setIfInBounds_toArray, List.set_cons_zero, List.set_cons_succ]
        refine take_at (i := 12) 47 ?_ rfl rfl (by kernel_rfl) (by kernel_rfl) (by kernel_rfl) (fun _ _ _ h => h) (.inl ⟨rfl, ?_⟩) BV.out ?_
        rotate_left 1
        · intro w hSw; go_simp; try with_reducible rfl
        simp only [Act.put, List.setIfInBounds_toArray, List.set_cons_zero, List.set_cons_succ]
        refine take_at (i := 13) 48 ?_ rfl rfl (by kernel_rfl) (by kernel_rfl) (by kernel_rfl) (fun _ _ _ h => h) (.inl ⟨rfl, ?_⟩) BV.out ?_
        rotate_left 1
        · intro w hSw; go_simp; try with_reducible rfl
        simp only [Act.put, List.setIfInBounds_toArray, List.set_cons_zero, List.set_cons_succ]
        refine take_at (i := 14) 6 ?_ rfl rfl (by kernel_rfl) (by kernel_rfl) (by kernel_rfl) (fun _ _ _ h => h) (.inl ⟨rfl, ?_⟩) BV.out ?_
        rotate_left 1
        · intro w hSw; go_simp; try with_reducible rfl
        simp only [Act.put, List.setIfInBounds_toArray, List.set_cons_zero, List.set_cons_succ]
        refine take_at (i := 15) 7 ?_ rfl rfl (by kernel_rfl) (by kernel_rfl) (by kernel_rfl) (fun _ _ _ h => h) (.inl ⟨rfl, ?_⟩) BV.out ?_
        rotate_left 1
        · intro w hSw; go_simp; try with_reducible rfl
        simp only [Act.put, List.setIfInBounds_toArray, List.set_cons_zero, List.set_cons_succ]
        refine wpAnyH_done (by kernel_rfl) ?_ _
        have B1 := Lib.hid (X.out.trans ((B0.out.trans (BV.out.mono B0.out.size)).mono X.out.size))
        clear BV
        go_wp2
        go_returns
        rw [HS.out]
        refine ⟨?_, B1.out⟩
        rw [HE.out]
        rfl

      · have HE := Lib.hid (PN.out (by rw [HS.out, List.length_map]; omega))
        have hd : decide ((i : Int) < (l.length : Int)) = false := decide_eq_false (by omega)
        clear hI
        go_wp2
        refine wp_region_held_drew (S := fun w' => Below wr.heap.size wr w') (by kernel_rfl) (Below.refl _ _).drew (fun hHeld => ?_)
        have BV := Lib.hid (show Below wr.heap.size wr wr.drew from (Below.refl _ _).drew)
        clear hHeld
        refine take_at (i := 0) 35 ?_ rfl rfl (by kernel_rfl) (by kernel_rfl) (by kernel_rfl) (fun _ _ _ h => h) (.inl ⟨rfl, ?_⟩) BV.out ?_
        rotate_left 1
        · intro w hSw; go_simp; try with_reducible rfl
        simp only [Act.put, List.setIfInBounds_toArray, List.set_cons_zero, List.set_cons_succ]
        refine take_at (i := 1) 36 ?_ rfl rfl (by kernel_rfl) (by kernel_rfl) (by kernel_rfl) (fun _ _ _ h => h) (.inl ⟨rfl, ?_⟩) BV.out ?_
        rotate_left 1
        · intro w hSw; go_simp; try with_reducible rfl
        simp only [Act.put, List.setIfInBounds_toArray, List.set_cons_zero, List.set_cons_succ]
        refine take_at (i := 2) 37 ?_ rfl rfl (by kernel_rfl) (by kernel_rfl) (by kernel_rfl) (fun _ _ _ h => h) (.inl ⟨rfl, ?_⟩) BV.out ?_
        rotate_left 1
        · intro w hSw; go_simp; try with_reducible rfl
        simp only [Act.put, List.setIfInBounds_toArray, List.set_cons_zero, List.set_cons_succ]
        refine take_at (i := 3) 38 ?_ rfl rfl (by kernel_rfl) (by kernel_rfl) (by kernel_rfl) (fun _ _ _ h => h) (.inl ⟨rfl, ?_⟩) BV.out ?_
        rotate_left 1
        · intro w hSw; go_simp; try with_reducible rfl
        simp only [Act.put, List.setIfInBounds_toArray, List.set_cons_zero, List.set_cons_succ]
        refine take_at (i := 4) 39 ?_ rfl rfl (by kernel_rfl) (by kernel_rfl) (by kernel_rfl) (fun _ _ _ h => h) (.inl ⟨rfl, ?_⟩) BV.out ?_
        rotate_left 1
        · intro w hSw; go_simp; try with_reducible rfl
        simp only [Act.put, List.setIfInBounds_toArray, List.set_cons_zero, List.set_cons_succ]
        refine take_at (i := 5) 40 undef rfl rfl (by kernel_rfl) (by kernel_rfl) (by kernel_rfl) (fun _ _ _ h => h) (.inr ⟨rfl, rfl⟩) BV.out ?_
        simp only [Act.put, List.setIfInBounds_toArray, List.set_cons_zero, List.set_cons_succ]
        refine take_at (i := 6) 41 undef rfl rfl (by kernel_rfl) (by kernel_rfl) (by kernel_rfl) (fun _ _ _ h => h) (.inr ⟨rfl, rfl⟩) BV.out ?_
        simp only [Act.put, List.setIfInBounds_toArray, List.set_cons_zero, List.set_cons_succ]
        refine take_at (i := 7) 42 undef rfl rfl (by kernel_rfl) (by kernel_rfl) (by kernel_rfl) (fun _ _ _ h => h) (.inr ⟨rfl, rfl⟩) BV.out ?_
        simp only [Act.put, List.setIfInBounds_toArray, List.set_cons_zero, List.set_cons_succ]
        refine take_at (i := 8) 43 undef rfl rfl (by kernel_rfl) (by kernel_rfl) (by kernel_rfl) (fun _ _ _ h => h) (.inr ⟨rfl, rfl⟩) BV.out ?_
        simp only [Act.put, List.setIfInBounds_toArray, List.set_cons_zero, List.set_cons_succ]
        refine take_at (i := 9) 44 undef rfl rfl (by kernel_rfl) (by kernel_rfl) (by kernel_rfl) (fun _ _ _ h => h) (.inr ⟨rfl, rfl⟩) BV.out ?_
        simp only [Act.put, List.setIfInBounds_toArray, List.set_cons_zero, List.set_cons_succ]
        refine take_at (i := 10) 45 undef rfl rfl (by kernel_rfl) (by kernel_rfl) (by kernel_rfl) (fun _ _ _ h => h) (.inr ⟨rfl, rfl⟩) BV.out ?_
        simp only [Act.put, List.setIfInBounds_toArray, List.set_cons_zero, List.set_cons_succ]
        refine take_at (i := 11) 46 undef rfl rfl (by kernel_rfl) (by kernel_rfl) (by kernel_rfl) (fun _ _ _ h => h) (.inr ⟨rfl, rfl⟩) BV.out ?_
        simp only [Act.put, List.setIfInBounds_toArray, List.set_cons_zero, List.set_cons_succ]
        refine take_at (i := 12) 47 undef rfl rfl (by kernel_rfl) (by kernel_rfl) (by kernel_rfl) (fun _ _ _ h => h) (.inr ⟨rfl, rfl⟩) BV.out ?_
        simp only [Act.put, List.setIfInBounds_toArray, List.set_cons_zero, List.set_cons_succ]
        refine take_at (i := 13) 48 ?_ rfl rfl (by kernel_rfl) (by kernel_rfl) (by kernel_rfl) (fun _ _ _ h => h) (.inl ⟨rfl, ?_⟩) BV.out ?_
        rotate_left 1
        · intro w hSw; go_simp; try with_reducible rfl
        simp only [Act.put, List.setIfInBounds_toArray, List.set_cons_zero, List.set_cons_succ]
        refine take_at (i := 14) 6 ?_ rfl rfl (by kernel_rfl) (by kernel_rfl) (by kernel_rfl) (fun _ _ _ h => h) (.inl ⟨rfl, ?_⟩) BV.out ?_
        rotate_left 1
        · intro w hSw; go_simp; try with_reducible rfl
        simp only [Act.put, List.setIfInBounds_toArray, List.set_cons_zero, List.set_cons_succ]
        refine take_at (i := 15) 7 ?_ rfl rfl (by kernel_rfl) (by kernel_rfl) (by kernel_rfl) (fun _ _ _ h => h) (.inl ⟨rfl, ?_⟩) BV.out ?_
        rotate_left 1
        · intro w hSw; go_simp; try with_reducible rfl
        simp only [Act.put, List.setIfInBounds_toArray, List.set_cons_zero, List.set_cons_succ]
        refine wpAnyH_done (by kernel_rfl) ?_ _
        have B1 := Lib.hid (X.out.trans ((B0.out.trans (BV.out.mono B0.out.size)).mono X.out.size))
        clear BV
        go_wp2
        go_returns
        rw [HS.out]
        refine ⟨?_, B1.out⟩
        rw [HE.out]
        rfl

end Go.Proofs.Ytkmeceoilighiaa
