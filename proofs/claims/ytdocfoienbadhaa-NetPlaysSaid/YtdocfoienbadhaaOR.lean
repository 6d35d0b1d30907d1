/- NetPlays, walked. Made by genor.py. -/
import Derived.Test.YtdocfoienbadhaaOQ
set_option linter.unusedVariables false
namespace Go.Proofs.Ytdocfoienbadhaa
open Go.RowKit

theorem index_act (W : World) (g o n cap i : Nat) (hi : i < n) (hn : n ≤ 9223372036854775807) : (Instr.indexAt 22 (.slice (some ⟨g, o, none⟩) n cap) (.int .i64 (i : Int))).run Try.prog W = .ok (.pointer (some ⟨g, o + i * 7, none⟩)) W := by
  have h1 : (0 : Int) ≤ (i : Int) := by omega
  have h2 : (i : Int) < (n : Int) := by omega
  have hu : Try.prog.underlying 22 = some (.slice 34) := by kernel_rfl
  go_simp
structure A7 (W : World) (g o : Nat) (kd k m b d : Int) (v : Value) (hu : Bool) : Prop where
  c0 : W.cell? ⟨g, o, none⟩ = some (.int .i64 kd)
  c1 : W.cell? ⟨g, o + 1, none⟩ = some (.int .i64 k)
  c2 : W.cell? ⟨g, o + 2, none⟩ = some (.int .i64 m)
  c3 : W.cell? ⟨g, o + 3, none⟩ = some (.int .i64 b)
  c4 : W.cell? ⟨g, o + 4, none⟩ = some (.int .i64 d)
  c5 : W.cell? ⟨g, o + 5, none⟩ = some v
  c6 : W.cell? ⟨g, o + 6, none⟩ = some (.bool hu)
theorem load34 (W : World) (g o : Nat) (kd k m b d : Int) (a : Option Addr) (n c : Nat) (hu : Bool) (h : A7 W g o kd k m b d (.slice a n c) hu) : (Instr.loadAt 34 (.pointer (some ⟨g, o, none⟩))).run Try.prog W = .ok (.agg #[.int .i64 kd, .int .i64 k, .int .i64 m, .int .i64 b, .int .i64 d, .slice a n c, .bool hu]) W := by
  obtain ⟨c0, c1, c2, c3, c4, c5, c6⟩ := h
  go_simp
theorem acts7 {w : World} {v : Value} {l : List Ac} (h : Acts w v l) {i : Nat} {a : Ac} (ha : l[i]? = some a) : ∃ g o cap, v = .slice (some ⟨g, o, none⟩) l.length cap ∧ l.length ≤ 9223372036854775807 ∧ Byt a.f.bs ∧ Lies w a.f.bv a.f.bs ∧ ∀ W, Below w.heap.size w W → A7 W g (o + i * 7) a.kind a.k a.m a.b a.f.dst a.f.bv a.f.hurt := by
  obtain ⟨ao, cap, rfl, hl, hc⟩ := h
  obtain ⟨g, o, rfl, hg, q0, q1, q2, q3, q4, q5, q6, q7, q8⟩ := hc i a ha
  refine ⟨g, o, cap, rfl, hl, q8, q7, fun W hb => ⟨?_, ?_, ?_, ?_, ?_, ?_, ?_⟩⟩
  · exact (hb.cell (p := ⟨g, o + i * 7, none⟩) hg).trans q0
  · exact (hb.cell (p := ⟨g, o + i * 7 + 1, none⟩) hg).trans q1
  · exact (hb.cell (p := ⟨g, o + i * 7 + 2, none⟩) hg).trans q2
  · exact (hb.cell (p := ⟨g, o + i * 7 + 3, none⟩) hg).trans q3
  · exact (hb.cell (p := ⟨g, o + i * 7 + 4, none⟩) hg).trans q4
  · exact (hb.cell (p := ⟨g, o + i * 7 + 5, none⟩) hg).trans q5
  · exact (hb.cell (p := ⟨g, o + i * 7 + 6, none⟩) hg).trans q6
theorem lies_apart {N : Nat → Prop} {w W : World} {v : Value} {bs : List Nat} (hN : ∀ k, N k → w.heap.size ≤ k) (h : Lies w v bs) (hb : Below w.heap.size w W) : LiesN N W v bs := by
  refine ⟨h.later hb, fun k o n c e hne hk => ?_⟩
  obtain ⟨ao, cap, e2, _, _, _, h4⟩ := h
  rw [e] at e2
  injection e2 with e2 _ _
  obtain ⟨k', o', e3, hlt, _⟩ := h4 _ e2.symm hne
  injection e3 with e3 _
  subst e3
  have := hN _ hk
  omega
theorem DS.own_ge {w0 W : World} {p q : Nat} {fv rv : Value} {fl rl : List Fl} {lost : Int} (h : DS w0 W p q fv rv fl rl lost) : ∀ k, Or1 (NOwn p fv fl) q k → w0.heap.size ≤ k :=
  fun k hk => hk.elim (fun hk => (h.net.own_lt hk).1) (fun e => by rw [e]; exact h.qB)
theorem ds_new (w W1 W2 : World) (p q : Nat) (hp : w.heap.size = p) (hq : W1.heap.size = q) (e1 : w.alloc (.cells #[.slice none 0 0, .int .i64 0] 26) = W1) (e2 : W1.alloc (.cells #[.slice none 0 0, .int .i64 0] 29) = W2) : DS w W2 p q (.slice none 0 0) (.slice none 0 0) [] [] 0 := by
  have B1 : Below w.heap.size w W1 := by rw [← e1]; exact vstep w _
  have B2 : Below W1.heap.size W1 W2 := by rw [← e2]; exact vstep W1 _
  have s1 : W1.heap.size = w.heap.size + 1 := by rw [← e1]; exact Array.size_push _
  have N0 := net_new w
  rw [e1] at N0
  have R2 := heap_alloc_new W1 (.cells #[.slice none 0 0, .int .i64 0] 29)
  rw [e2] at R2
  subst hp hq
  refine ⟨N0.step B2, B1.trans (B2.mono B1.size), R2, by omega, ?_, ⟨none, 0, rfl, by decide, fun i f h => by simp at h⟩, rfl⟩
  rintro (e | e | ⟨f, hf, _⟩)
  · omega
  · simp [Value.ownBlock] at e
  · cases hf
/-- What both look up at a number. -/
theorem look_both {w0 W0 : World} {p q : Nat} {fv rv : Value} {fl rl : List Fl} {lost : Int} (h : DS w0 W0 p q fv rv fl rl lost) (k : Int) : ∃ (d1 : Int) (b1 : List Nat) (h1 : Bool) (ec : Int) (a2 : Option Addr) (c2 : Nat),
    (∀ W, Below W0.heap.size W0 W → Calls Try.prog 10 #[.pointer (some ⟨p, 0, none⟩), .int .i64 k] W fun e w' => ∃ r, e = .returned (.tuple #[.agg #[.int .i64 d1, r, .bool h1], .int .i64 ec]) ∧ RowOut W w' r b1) ∧
    (∀ W, Below W0.heap.size W0 W → Calls Try.prog 12 #[.agg #[rv, .int .i64 lost], .int .i64 k] W fun e w' => e = .returned (.tuple #[.agg #[.int .i64 d1, .slice a2 b1.length c2, .bool h1], .int .i64 ec]) ∧ Below W.heap.size W w') ∧
    (∀ W, Below W0.heap.size W0 W → Lies W (.slice a2 b1.length c2) b1) := by
  have hl := pu_len h.pure
  by_cases hk : 0 ≤ k ∧ k < (fl.length : Int)
  · obtain ⟨i, rfl⟩ : ∃ i : Nat, k = (i : Int) := ⟨k.toNat, by omega⟩
    obtain ⟨f, hf⟩ : ∃ f, fl[i]? = some f := ⟨_, List.getElem?_eq_getElem (by omega)⟩
    obtain ⟨g, hg, e1, e2, e3⟩ := pu_at h.pure hf
    obtain ⟨a2, c2, hgv⟩ := (h.rows.fls g (List.mem_iff_getElem?.2 ⟨i, hg⟩)).shape
    obtain ⟨fd, fb, fs, fh⟩ := f
    obtain ⟨gd, gb, gs, gh⟩ := g
    simp only at e1 e2 e3 hgv
    subst e1 e2 e3 hgv
    exact ⟨gd, gs, gh, 0, a2, c2, fun W hb => look_in W p fv fl lost (h.step hb).net i _ hf, fun W hb => rlook_in _ W rv rl lost (h.step hb).rows i _ hg, fun W hb => ((h.step hb).rows.fls _ (List.mem_iff_getElem?.2 ⟨i, hg⟩)).lies.1⟩
  · exact ⟨0, [], false, 8, none, 0, fun W hb => (look_out W p fv fl lost (h.step hb).net k hk).mono fun e w' ⟨h1, h2⟩ => ⟨.slice none 0 0, h1, World.ownsRow_nil _ _ _ _, h2⟩, fun W hb => rlook_out _ W rv rl lost (h.step hb).rows k (by omega), fun W hb => Lies.nil W⟩
set_option maxRecDepth 100000 in
set_option maxHeartbeats 12800000 in
theorem plays_law (w : World) (v0 : Value) (k : Int) (L : List Ac) (hL : Acts w v0 L) :
    Calls Try.prog 3 #[v0, .int .i64 k] w fun e w' => e = .returned (.bool true) ∧ Below w.heap.size w w' := by
  have HLA := Lib.hid (fun i a (ha : L[i]? = some a) => acts7 hL ha)
  obtain ⟨a1, c1, rfl, hLl, _⟩ := hL
  obtain ⟨W1, e1, _, _, s1⟩ := boxed w #[.slice none 0 0, .int .i64 0] 26
  have E1 := Lib.hid e1
  obtain ⟨W2, e2, _, _, _⟩ := boxed W1 #[.slice none 0 0, .int .i64 0] 29
  have E2 := Lib.hid e2
  obtain ⟨p, hp⟩ : ∃ p, w.heap.size = p := ⟨_, rfl⟩
  obtain ⟨q, hq⟩ : ∃ q, W1.heap.size = q := ⟨_, rfl⟩
  have D0 := Lib.hid (ds_new w W1 W2 p q hp hq e1 e2)
  have HP := Lib.hid hp
  have HLl := Lib.hid hLl
  clear e1 e2 s1 hLl
  go_enter Try.func3, Try.ntmps3
  go_upto_region 2 with (fail)
  rw [E1.out]
  go_upto_region 3 with (fail)
  rw [E2.out]
  clear hq
  go_wp2_with fail
  go_loopw [7] (fun iv wr => ∃ i : Nat, iv = .int .i64 i ∧ i ≤ 300 ∧ i ≤ L.length ∧ Hid (∃ fv rv fl rl lost, DS w wr p q fv rv fl rl lost ∧ lost ≤ i)) (fun iv _ => 300 - (intOf iv).toNat)
  case atStart => exact ⟨0, rfl, by omega, by omega, Lib.hid ⟨_, _, _, _, _, D0.out, by decide⟩⟩
  case round =>
    obtain ⟨i, rfl, hi1, hi2, hI⟩ := hrel
    by_cases hlt : i < L.length ∧ i < 300
    · obtain ⟨hl1, hl2⟩ := hlt
      obtain ⟨ac, hac⟩ : ∃ a, L[i]? = some a := ⟨_, List.getElem?_eq_getElem hl1⟩
      obtain ⟨g, o, cap, he, _, hby, hlies, hcells⟩ := HLA.out i ac hac
      injection he with he _ hec
      subst he
      subst hec
      obtain ⟨fv, rv, fl, rl, lost, hD, hlo⟩ := hI.out
      have HD := Lib.hid hD
      have HLO := Lib.hid hlo
      obtain ⟨kd, ak, am, ab, ⟨fd, fb, fs, fh⟩⟩ := ac
      simp only at hby hlies hcells
      have HLI := Lib.hid hlies
      obtain ⟨ba, bc, rfl, _⟩ := hlies
      have CE := Lib.hid hcells
      have q5 := (hcells _ hD.bel).c5
      have HBY := Lib.hid hby
      have h300 : (i : Int) < 300 := by omega
      clear hcells hac hby hD hlo hI
      have hii := HLl.out
      by_cases h60 : 60 < fs.length
      · have h60' : (60 : Int) < (fs.length : Int) := by omega
        have AW := Lib.hid (awake_any wr)
        go_wp2_with fail
        refine AW.out.mono ?_
        rintro e w5 ⟨rfl, hb⟩
        have BB := Lib.hid (HD.out.bel.trans (hb.mono HD.out.bel.size))
        clear hb
        go_wp2_with fail
        go_returns
        have bb := BB.out
        have hp' := HP.out
        first
        | exact ⟨rfl, bb⟩
        | (rw [hp'] at bb; exact ⟨rfl, bb⟩)
      · have h60' : ¬ (60 : Int) < (fs.length : Int) := by omega
        go_upto_region 8 with (fail)
        clear q5
        go_cut [57] from 17 to 56 (fun xv wx => xv = .bool false ∧ Hid (∃ fv rv fl rl lost, DS w wx p q fv rv fl rl lost ∧ lost ≤ (i : Int) + 1))
        case first =>
          have D2 := Lib.hid (HD.out.step (below_drewN wr 1))
          have HFN := Lib.hid (show FlN (Or1 (NOwn p fv fl) q) wr.drew ⟨fd, .slice ba fs.length bc, fs, fh⟩ from ⟨lies_apart D2.out.own_ge HLI.out D2.out.bel, HBY.out, by show fs.length ≤ 1000; omega⟩)
          have DO := Lib.hid (does_any wr.drew p q fv rv fl rl lost D2.out ak am ab fd ba fs bc fh (by have := HLO.out; omega) kd HFN.out)
          have STP := Lib.hid (fun W (h : Below w.heap.size w W) => CE.out W h)
          have LA := Lib.hid (fun (W : World) (h : A7 W g (o + i * 7) kd ak am ab fd (.slice ba fs.length bc) fh) => load34 W g (o + i * 7) kd ak am ab fd ba fs.length bc fh h)
          have IX := Lib.hid (fun W => index_act W g o L.length c1 i hl1 hii)
          have H0 := Lib.hid (STP.out wr.drew D2.out.bel)
          refine wp_region_held_drew (S := fun w' => A7 w' g (o + i * 7) kd ak am ab fd (.slice ba fs.length bc) fh) (by kernel_rfl) H0.out (fun hHeld => ?_)
          refine take_at (i := 0) 36 ?_ rfl rfl (by kernel_rfl) (by kernel_rfl) (by kernel_rfl) (fun _ _ _ h => h) (.inl ⟨rfl, ?_⟩) hHeld ?_
          rotate_left 1
          · intro w hSw; go_simp; try with_reducible rfl
          simp only [Act.put, List.setIfInBounds_toArray, List.set_cons_zero, List.set_cons_succ]
          refine take_at (i := 1) 37 ?_ rfl rfl (by kernel_rfl) (by kernel_rfl) (by kernel_rfl) (fun _ _ _ h => h) (.inl ⟨rfl, ?_⟩) hHeld ?_
          rotate_left 1
          · intro w hSw; go_simp; try with_reducible rfl
          simp only [Act.put, List.setIfInBounds_toArray, List.set_cons_zero, List.set_cons_succ]
          refine take_at (i := 2) 38 ?_ rfl rfl (by kernel_rfl) (by kernel_rfl) (by kernel_rfl) (fun _ _ _ h => h) (.inl ⟨rfl, ?_⟩) hHeld ?_
          rotate_left 1
          · intro w hSw; go_simp; try with_reducible rfl
          simp only [Act.put, List.setIfInBounds_toArray, List.set_cons_zero, List.set_cons_succ]
          refine take_at (i := 3) 39 (.pointer (some ⟨g, o + i * 7, none⟩)) rfl rfl (by kernel_rfl) (by kernel_rfl) (by kernel_rfl) (fun _ _ _ h => h) (yields_ix (.tmp 37) (.tmp 38) 22 (.slice (some ⟨g, o, none⟩) L.length c1) (.int .i64 (i : Int)) _ IX.out rfl rfl rfl rfl) hHeld ?_
          simp only [Act.put, List.setIfInBounds_toArray, List.set_cons_zero, List.set_cons_succ]
          refine take_at (i := 4) 40 (.agg #[.int .i64 kd, .int .i64 ak, .int .i64 am, .int .i64 ab, .int .i64 fd, .slice ba fs.length bc, .bool fh]) rfl rfl (by kernel_rfl) (by kernel_rfl) (by kernel_rfl) (fun _ _ _ h => h) (yields_ld (.tmp 39) 34 (.pointer (some ⟨g, o + i * 7, none⟩)) _ LA.out rfl rfl rfl) hHeld ?_
          simp only [Act.put, List.setIfInBounds_toArray, List.set_cons_zero, List.set_cons_succ]
          refine wpAnyH_ready (rs := [5]) (by kernel_rfl) (by simp) (br_call (i := 5) 41 7 #[.pointer (some ⟨p, 0, none⟩), .pointer (some ⟨q, 0, none⟩), .agg #[.int .i64 kd, .int .i64 ak, .int .i64 am, .int .i64 ab, .int .i64 fd, .slice ba fs.length bc, .bool fh]] rfl rfl rfl (by go_simp) (DO.out.mono ?_) AllReadyH.nil)
          rintro e w8 ⟨rfl, fv', rv', fl', rl', lost', hD, hlo⟩
          obtain ⟨a5, c5, hrv⟩ := hD.rows.shape
          subst hrv
          have D8 := Lib.hid hD
          have FIN := Lib.hid (show ∃ fv rv fl rl lost, DS w w8 p q fv rv fl rl lost ∧ lost ≤ (i : Int) + 1 from ⟨_, _, _, _, _, hD, by have := HLO.out; omega⟩)
          have HS := Lib.hid (STP.out w8 hD.bel)
          have LN := len_any w8 p fv' fl' lost' hD.net
          rw [pu_len hD.pure] at LN
          have LEN := Lib.hid LN
          have LST := Lib.hid (lost_any w8 p fv' fl' lost' hD.net)
          have L27 := Lib.hid (load27 w8 ⟨q, 0, none⟩ a5 rl'.length c5 (cell0 hD.box))
          have L3 := Lib.hid (load3 w8 ⟨q, 1, none⟩ lost' (cell1 hD.box))
          refine ⟨_, rfl, HS.out, fun _ => ?_⟩
          clear hD hlo LN hHeld
          simp only [Act.put, List.setIfInBounds_toArray, List.set_cons_zero, List.set_cons_succ]
          refine take_at (i := 6) 42 ?_ rfl rfl (by kernel_rfl) (by kernel_rfl) (by kernel_rfl) (fun _ _ _ h => h) (.inl ⟨rfl, ?_⟩) HS.out ?_
          rotate_left 1
          · intro w hSw; go_simp; try with_reducible rfl
          simp only [Act.put, List.setIfInBounds_toArray, List.set_cons_zero, List.set_cons_succ]
          refine take_at (i := 7) 43 ?_ rfl rfl (by kernel_rfl) (by kernel_rfl) (by kernel_rfl) (fun _ _ _ h => h) (.inl ⟨rfl, ?_⟩) HS.out ?_
          rotate_left 1
          · intro w hSw; go_simp; try with_reducible rfl
          simp only [Act.put, List.setIfInBounds_toArray, List.set_cons_zero, List.set_cons_succ]
          refine take_at (i := 8) 44 ?_ rfl rfl (by kernel_rfl) (by kernel_rfl) (by kernel_rfl) (fun _ _ _ h => h) (.inl ⟨rfl, ?_⟩) HS.out ?_
          rotate_left 1
          · intro w hSw; go_simp; try with_reducible rfl
          simp only [Act.put, List.setIfInBounds_toArray, List.set_cons_zero, List.set_cons_succ]
          refine take_at (i := 10) 46 ?_ rfl rfl (by kernel_rfl) (by kernel_rfl) (by kernel_rfl) (fun _ _ _ h => h) (.inl ⟨rfl, ?_⟩) HS.out ?_
          rotate_left 1
          · intro w hSw; go_simp; try with_reducible rfl
          simp only [Act.put, List.setIfInBounds_toArray, List.set_cons_zero, List.set_cons_succ]
          refine wpAnyH_ready (rs := [9, 11]) (by kernel_rfl) (by simp) (br_call (i := 9) 45 8 #[.pointer (some ⟨p, 0, none⟩)] rfl rfl rfl (by go_simp) (LEN.out.mono ?_) (br_load2 (i := 11) 47 27 (.tmp 46) (.pointer (some ⟨q, 0, none⟩)) (.slice a5 rl'.length c5) rfl rfl rfl rfl rfl L27.out HS.out (fun _ => ?_) AllReadyH.nil))
          · rintro e w9 ⟨rfl, rfl⟩
            refine ⟨_, rfl, HS.out, fun _ => ?_⟩
            simp only [Act.put, List.setIfInBounds_toArray, List.set_cons_zero, List.set_cons_succ]
            refine wpAnyH_ready (rs := [11]) (by kernel_rfl) (by simp) (br_load2 (i := 11) 47 27 (.tmp 46) (.pointer (some ⟨q, 0, none⟩)) (.slice a5 rl'.length c5) rfl rfl rfl rfl rfl L27.out HS.out (fun _ => ?_) AllReadyH.nil)
            simp only [Act.put, List.setIfInBounds_toArray, List.set_cons_zero, List.set_cons_succ]
            refine take_at (i := 12) 48 ?_ rfl rfl (by kernel_rfl) (by kernel_rfl) (by kernel_rfl) (fun _ _ _ h => h) (.inl ⟨rfl, ?_⟩) HS.out ?_
            rotate_left 1
            · intro w hSw; go_simp; try with_reducible rfl
            simp only [Act.put, List.setIfInBounds_toArray, List.set_cons_zero, List.set_cons_succ]
            refine take_at (i := 13) 49 ?_ rfl rfl (by kernel_rfl) (by kernel_rfl) (by kernel_rfl) (fun _ _ _ h => h) (.inl ⟨rfl, ?_⟩) HS.out ?_
            rotate_left 1
            · intro w hSw; go_simp; try with_reducible rfl
            simp only [Act.put, List.setIfInBounds_toArray, List.set_cons_zero, List.set_cons_succ]
            refine take_at (i := 14) 50 ?_ rfl rfl (by kernel_rfl) (by kernel_rfl) (by kernel_rfl) (fun _ _ _ h => h) (.inl ⟨rfl, ?_⟩) HS.out ?_
            rotate_left 1
            · intro w hSw; go_simp; try with_reducible rfl
            simp only [Act.put, List.setIfInBounds_toArray, List.set_cons_zero, List.set_cons_succ]
            refine take_at (i := 15) 51 ?_ rfl rfl (by kernel_rfl) (by kernel_rfl) (by kernel_rfl) (fun _ _ _ h => h) (.inl ⟨rfl, ?_⟩) HS.out ?_
            rotate_left 1
            · intro w hSw; go_simp; try with_reducible rfl
            simp only [Act.put, List.setIfInBounds_toArray, List.set_cons_zero, List.set_cons_succ]
            refine take_at (i := 16) 52 ?_ rfl rfl (by kernel_rfl) (by kernel_rfl) (by kernel_rfl) (fun _ _ _ h => h) (.inl ⟨rfl, ?_⟩) HS.out ?_
            rotate_left 1
            · intro w hSw; go_simp; try with_reducible rfl
            simp only [Act.put, List.setIfInBounds_toArray, List.set_cons_zero, List.set_cons_succ]
            refine take_at (i := 18) 54 ?_ rfl rfl (by kernel_rfl) (by kernel_rfl) (by kernel_rfl) (fun _ _ _ h => h) (.inl ⟨rfl, ?_⟩) HS.out ?_
            rotate_left 1
            · intro w hSw; go_simp; try with_reducible rfl
            simp only [Act.put, List.setIfInBounds_toArray, List.set_cons_zero, List.set_cons_succ]
            refine wpAnyH_ready (rs := [17, 19]) (by kernel_rfl) (by simp) (br_call (i := 17) 53 9 #[.pointer (some ⟨p, 0, none⟩)] rfl rfl rfl (by go_simp) (LST.out.mono ?_) (br_load2 (i := 19) 55 3 (.tmp 54) (.pointer (some ⟨q, 1, none⟩)) (.int .i64 lost') rfl rfl rfl rfl rfl L3.out HS.out (fun _ => ?_) AllReadyH.nil))
            · rintro e w9 ⟨rfl, rfl⟩
              refine ⟨_, rfl, HS.out, fun _ => ?_⟩
              simp only [Act.put, List.setIfInBounds_toArray, List.set_cons_zero, List.set_cons_succ]
              refine wpAnyH_ready (rs := [19]) (by kernel_rfl) (by simp) (br_load2 (i := 19) 55 3 (.tmp 54) (.pointer (some ⟨q, 1, none⟩)) (.int .i64 lost') rfl rfl rfl rfl rfl L3.out HS.out (fun _ => ?_) AllReadyH.nil)
              simp only [Act.put, List.setIfInBounds_toArray, List.set_cons_zero, List.set_cons_succ]
              refine take_at (i := 20) 56 ?_ rfl rfl (by kernel_rfl) (by kernel_rfl) (by kernel_rfl) (fun _ _ _ h => h) (.inl ⟨rfl, ?_⟩) HS.out ?_
              rotate_left 1
              · intro w hSw; go_simp; try with_reducible rfl
              simp only [Act.put, List.setIfInBounds_toArray, List.set_cons_zero, List.set_cons_succ]
              refine take_at (i := 21) 57 ?_ rfl rfl (by kernel_rfl) (by kernel_rfl) (by kernel_rfl) (fun _ _ _ h => h) (.inl ⟨rfl, ?_⟩) HS.out ?_
              rotate_left 1
              · intro w hSw; go_simp; try with_reducible rfl
              simp only [Act.put, List.setIfInBounds_toArray, List.set_cons_zero, List.set_cons_succ]
              refine wpAnyH_done (by kernel_rfl) ?_ _
              go_wp2_with fail
              go_meet
              exact ⟨rfl, FIN⟩
            · simp only [Act.put, List.setIfInBounds_toArray, List.set_cons_zero, List.set_cons_succ]
              refine wpAnyH_ready (rs := [17]) (by kernel_rfl) (by simp) (br_call (i := 17) 53 9 #[.pointer (some ⟨p, 0, none⟩)] rfl rfl rfl (by go_simp) (LST.out.mono ?_) AllReadyH.nil)
              rintro e w9 ⟨rfl, rfl⟩
              refine ⟨_, rfl, HS.out, fun _ => ?_⟩
              simp only [Act.put, List.setIfInBounds_toArray, List.set_cons_zero, List.set_cons_succ]
              refine take_at (i := 20) 56 ?_ rfl rfl (by kernel_rfl) (by kernel_rfl) (by kernel_rfl) (fun _ _ _ h => h) (.inl ⟨rfl, ?_⟩) HS.out ?_
              rotate_left 1
              · intro w hSw; go_simp; try with_reducible rfl
              simp only [Act.put, List.setIfInBounds_toArray, List.set_cons_zero, List.set_cons_succ]
              refine take_at (i := 21) 57 ?_ rfl rfl (by kernel_rfl) (by kernel_rfl) (by kernel_rfl) (fun _ _ _ h => h) (.inl ⟨rfl, ?_⟩) HS.out ?_
              rotate_left 1
              · intro w hSw; go_simp; try with_reducible rfl
              simp only [Act.put, List.setIfInBounds_toArray, List.set_cons_zero, List.set_cons_succ]
              refine wpAnyH_done (by kernel_rfl) ?_ _
              go_wp2_with fail
              go_meet
              exact ⟨rfl, FIN⟩
          · simp only [Act.put, List.setIfInBounds_toArray, List.set_cons_zero, List.set_cons_succ]
            refine take_at (i := 12) 48 ?_ rfl rfl (by kernel_rfl) (by kernel_rfl) (by kernel_rfl) (fun _ _ _ h => h) (.inl ⟨rfl, ?_⟩) HS.out ?_
            rotate_left 1
            · intro w hSw; go_simp; try with_reducible rfl
            simp only [Act.put, List.setIfInBounds_toArray, List.set_cons_zero, List.set_cons_succ]
            refine wpAnyH_ready (rs := [9]) (by kernel_rfl) (by simp) (br_call (i := 9) 45 8 #[.pointer (some ⟨p, 0, none⟩)] rfl rfl rfl (by go_simp) (LEN.out.mono ?_) AllReadyH.nil)
            rintro e w9 ⟨rfl, rfl⟩
            refine ⟨_, rfl, HS.out, fun _ => ?_⟩
            simp only [Act.put, List.setIfInBounds_toArray, List.set_cons_zero, List.set_cons_succ]
            refine take_at (i := 13) 49 ?_ rfl rfl (by kernel_rfl) (by kernel_rfl) (by kernel_rfl) (fun _ _ _ h => h) (.inl ⟨rfl, ?_⟩) HS.out ?_
            rotate_left 1
            · intro w hSw; go_simp; try with_reducible rfl
            simp only [Act.put, List.setIfInBounds_toArray, List.set_cons_zero, List.set_cons_succ]
            refine take_at (i := 14) 50 ?_ rfl rfl (by kernel_rfl) (by kernel_rfl) (by kernel_rfl) (fun _ _ _ h => h) (.inl ⟨rfl, ?_⟩) HS.out ?_
            rotate_left 1
            · intro w hSw; go_simp; try with_reducible rfl
            simp only [Act.put, List.setIfInBounds_toArray, List.set_cons_zero, List.set_cons_succ]
            refine take_at (i := 15) 51 ?_ rfl rfl (by kernel_rfl) (by kernel_rfl) (by kernel_rfl) (fun _ _ _ h => h) (.inl ⟨rfl, ?_⟩) HS.out ?_
            rotate_left 1
            · intro w hSw; go_simp; try with_reducible rfl
            simp only [Act.put, List.setIfInBounds_toArray, List.set_cons_zero, List.set_cons_succ]
            refine take_at (i := 16) 52 ?_ rfl rfl (by kernel_rfl) (by kernel_rfl) (by kernel_rfl) (fun _ _ _ h => h) (.inl ⟨rfl, ?_⟩) HS.out ?_
            rotate_left 1
            · intro w hSw; go_simp; try with_reducible rfl
            simp only [Act.put, List.setIfInBounds_toArray, List.set_cons_zero, List.set_cons_succ]
            refine take_at (i := 18) 54 ?_ rfl rfl (by kernel_rfl) (by kernel_rfl) (by kernel_rfl) (fun _ _ _ h => h) (.inl ⟨rfl, ?_⟩) HS.out ?_
            rotate_left 1
            · intro w hSw; go_simp; try with_reducible rfl
            simp only [Act.put, List.setIfInBounds_toArray, List.set_cons_zero, List.set_cons_succ]
            refine wpAnyH_ready (rs := [17, 19]) (by kernel_rfl) (by simp) (br_call (i := 17) 53 9 #[.pointer (some ⟨p, 0, none⟩)] rfl rfl rfl (by go_simp) (LST.out.mono ?_) (br_load2 (i := 19) 55 3 (.tmp 54) (.pointer (some ⟨q, 1, none⟩)) (.int .i64 lost') rfl rfl rfl rfl rfl L3.out HS.out (fun _ => ?_) AllReadyH.nil))
            · rintro e w9 ⟨rfl, rfl⟩
              refine ⟨_, rfl, HS.out, fun _ => ?_⟩
              simp only [Act.put, List.setIfInBounds_toArray, List.set_cons_zero, List.set_cons_succ]
              refine wpAnyH_ready (rs := [19]) (by kernel_rfl) (by simp) (br_load2 (i := 19) 55 3 (.tmp 54) (.pointer (some ⟨q, 1, none⟩)) (.int .i64 lost') rfl rfl rfl rfl rfl L3.out HS.out (fun _ => ?_) AllReadyH.nil)
              simp only [Act.put, List.setIfInBounds_toArray, List.set_cons_zero, List.set_cons_succ]
              refine take_at (i := 20) 56 ?_ rfl rfl (by kernel_rfl) (by kernel_rfl) (by kernel_rfl) (fun _ _ _ h => h) (.inl ⟨rfl, ?_⟩) HS.out ?_
              rotate_left 1
              · intro w hSw; go_simp; try with_reducible rfl
              simp only [Act.put, List.setIfInBounds_toArray, List.set_cons_zero, List.set_cons_succ]
              refine take_at (i := 21) 57 ?_ rfl rfl (by kernel_rfl) (by kernel_rfl) (by kernel_rfl) (fun _ _ _ h => h) (.inl ⟨rfl, ?_⟩) HS.out ?_
              rotate_left 1
              · intro w hSw; go_simp; try with_reducible rfl
              simp only [Act.put, List.setIfInBounds_toArray, List.set_cons_zero, List.set_cons_succ]
              refine wpAnyH_done (by kernel_rfl) ?_ _
              go_wp2_with fail
              go_meet
              exact ⟨rfl, FIN⟩
            · simp only [Act.put, List.setIfInBounds_toArray, List.set_cons_zero, List.set_cons_succ]
              refine wpAnyH_ready (rs := [17]) (by kernel_rfl) (by simp) (br_call (i := 17) 53 9 #[.pointer (some ⟨p, 0, none⟩)] rfl rfl rfl (by go_simp) (LST.out.mono ?_) AllReadyH.nil)
              rintro e w9 ⟨rfl, rfl⟩
              refine ⟨_, rfl, HS.out, fun _ => ?_⟩
              simp only [Act.put, List.setIfInBounds_toArray, List.set_cons_zero, List.set_cons_succ]
              refine take_at (i := 20) 56 ?_ rfl rfl (by kernel_rfl) (by kernel_rfl) (by kernel_rfl) (fun _ _ _ h => h) (.inl ⟨rfl, ?_⟩) HS.out ?_
              rotate_left 1
              · intro w hSw; go_simp; try with_reducible rfl
              simp only [Act.put, List.setIfInBounds_toArray, List.set_cons_zero, List.set_cons_succ]
              refine take_at (i := 21) 57 ?_ rfl rfl (by kernel_rfl) (by kernel_rfl) (by kernel_rfl) (fun _ _ _ h => h) (.inl ⟨rfl, ?_⟩) HS.out ?_
              rotate_left 1
              · intro w hSw; go_simp; try with_reducible rfl
              simp only [Act.put, List.setIfInBounds_toArray, List.set_cons_zero, List.set_cons_succ]
              refine wpAnyH_done (by kernel_rfl) ?_ _
              go_wp2_with fail
              go_meet
              exact ⟨rfl, FIN⟩
        case rest =>
          obtain ⟨rfl, hX⟩ := hcut
          go_wp2_with fail
          go_roundw
          case rel => exact ⟨i + 1, by go_num, by omega, by omega, hX⟩
          case measure => simp [intOf]; omega
    · obtain ⟨fv, rv, fl, rl, lost, hD, hlo⟩ := hI.out
      obtain ⟨a5, c5, hrv⟩ := hD.rows.shape
      subst hrv
      have DD := Lib.hid hD
      have hcase : (¬ (i : Int) < (L.length : Int)) ∨ ((i : Int) < (L.length : Int) ∧ ¬ (i : Int) < 300) := by omega
      have h256 := hD.net.len
      have hlen := pu_len hD.pure
      have HB := Lib.hid (And.intro h256 hlen)
      have hr256 : rl.length ≤ 256 := by omega
      clear hD hlo hI D0 hlt HLA h256 hlen
      go_upto_region 4 with (fail)
      go_cut [24] from 17 to 23 (fun xv wx => xv = .bool false ∧ wx = wr)
      case first =>
        rcases hcase with hc | ⟨hc, hc2⟩
        · go_wp2_with fail
          go_meet
          exact ⟨rfl, rfl⟩
        · go_wp2_with fail
          go_meet
          exact ⟨rfl, rfl⟩
      case rest =>
        obtain ⟨rfl, rfl⟩ := hcut
        clear hcase hi1 hi2
        generalize wc = we at *
        go_wp2_with fail
        go_loopw [8] (fun jv w2 => ∃ j : Nat, jv = .int .i64 j ∧ j ≤ rl.length ∧ Hid (Below we.heap.size we w2)) (fun jv _ => rl.length - (intOf jv).toNat)
        case atStart => exact ⟨0, rfl, Nat.zero_le _, Lib.hid (Below.refl _ _)⟩
        case round =>
          obtain ⟨j, rfl, hj, hW2⟩ := hrel
          have D2 := Lib.hid (DD.out.step hW2.out)
          have q0 := cell0 D2.out.box
          have q1 := cell1 D2.out.box
          by_cases hjl : j < rl.length
          · obtain ⟨f, hf⟩ : ∃ f, fl[j]? = some f := ⟨_, List.getElem?_eq_getElem (by have := HB.out; omega)⟩
            obtain ⟨gg, hg, y1, y2, y3⟩ := pu_at D2.out.pure hf
            have HG := Lib.hid (D2.out.rows.fls gg (List.mem_iff_getElem?.2 ⟨j, hg⟩))
            obtain ⟨a2, c2, hgv⟩ := HG.out.shape
            have LK := Lib.hid (look_in _ p fv fl lost D2.out.net j f hf)
            obtain ⟨ar, cr, hrv, _, hx⟩ := D2.out.rows
            injection hrv with hr1 _ hr2
            subst hr1 hr2
            obtain ⟨⟨g1, o1, hao, hg1, _, x0, x1, x2⟩, _⟩ := hx j gg hg
            subst hao
            rw [hgv] at x1
            have HX := Lib.hid (And.intro hg1 (And.intro x0 (And.intro x1 x2)))
            obtain ⟨fd, fb, fs, fh⟩ := f
            obtain ⟨gd, gb, gs, gh⟩ := gg
            simp only at y1 y2 y3 hgv HX
            subst y1 y2 y3 hgv
            unfold flv at LK
            clear hf hg hx hg1 x0 x1 x2
            go_wp2_with fail
            refine LK.out.mono ?_
            rintro e w4 ⟨r, rfl, ro, rb⟩
            obtain ⟨ax, cx, rfl⟩ := own_shape ro
            obtain ⟨W6, e6, B6, R6, s6⟩ := boxed w4 #[.int .i64 gd, .slice ax gs.length cx, .bool gh] 39
            have E6 := Lib.hid e6
            have BX := Lib.hid (rb.trans (B6.mono rb.size))
            have RL := Lib.hid (own_lies (own_kept ro B6))
            obtain ⟨bf, hbf⟩ : ∃ b, w4.heap.size = b := ⟨_, rfl⟩
            rw [hbf] at R6
            have RF := Lib.hid R6
            clear e6 B6 R6 s6 ro rb LK q0 q1
            go_upto_region 14 with (fail)
            rw [E6.out]
            have DN := Lib.hid (show Below W6.heap.size W6 W6.drew from below_drewN W6 1)
            have D6 := Lib.hid ((D2.out.step BX.out).step DN.out)
            have BY := Lib.hid (hW2.out.trans ((BX.out.trans (DN.out.mono BX.out.size)).mono hW2.out.size))
            have HX6 := Lib.hid (And.intro ((BX.out.cell (p := ⟨g1, o1 + j * 3, none⟩) HX.out.1).trans HX.out.2.1) (And.intro ((BX.out.cell (p := ⟨g1, o1 + j * 3 + 1, none⟩) HX.out.1).trans HX.out.2.2.1) ((BX.out.cell (p := ⟨g1, o1 + j * 3 + 2, none⟩) HX.out.1).trans HX.out.2.2.2)))
            have AR := Lib.hid (are_any W6.drew gd _ _ gh gs (RL.out.later DN.out) ((HG.out.step BX.out).step DN.out).lies.1)
            have H0 := Lib.hid (show W6.drew.heap[bf]? = some (.cells #[.int .i64 gd, .slice ax gs.length cx, .bool gh] 39 (0, 0)) ∧ W6.drew.cell? ⟨q, 0, none⟩ = some (.slice (some ⟨g1, o1, none⟩) rl.length c5) ∧ W6.drew.cell? ⟨g1, o1 + j * 3, none⟩ = some (.int .i64 gd) ∧ W6.drew.cell? ⟨g1, o1 + j * 3 + 1, none⟩ = some (.slice a2 gs.length c2) ∧ W6.drew.cell? ⟨g1, o1 + j * 3 + 2, none⟩ = some (.bool gh) from ⟨RF.out, cell0 D6.out.box, HX6.out.1, HX6.out.2.1, HX6.out.2.2⟩)
            have HLT := Lib.hid (show bf < W6.drew.heap.size ∧ q < W6.drew.heap.size ∧ g1 < W6.drew.heap.size from ⟨lt_of_block H0.out.1, lt_of_block D6.out.box, Nat.lt_of_lt_of_le HX.out.1 (BX.out.trans (DN.out.mono BX.out.size)).size⟩)
            have STP := Lib.hid (fun (W : World) (hb : Below W6.drew.heap.size W6.drew W) => show W.heap[bf]? = some (.cells #[.int .i64 gd, .slice ax gs.length cx, .bool gh] 39 (0, 0)) ∧ W.cell? ⟨q, 0, none⟩ = some (.slice (some ⟨g1, o1, none⟩) rl.length c5) ∧ W.cell? ⟨g1, o1 + j * 3, none⟩ = some (.int .i64 gd) ∧ W.cell? ⟨g1, o1 + j * 3 + 1, none⟩ = some (.slice a2 gs.length c2) ∧ W.cell? ⟨g1, o1 + j * 3 + 2, none⟩ = some (.bool gh) from ⟨(hb.block _ HLT.out.1).trans H0.out.1, (hb.cell (p := ⟨q, 0, none⟩) HLT.out.2.1).trans H0.out.2.1, (hb.cell (p := ⟨g1, o1 + j * 3, none⟩) HLT.out.2.2).trans H0.out.2.2.1, (hb.cell (p := ⟨g1, o1 + j * 3 + 1, none⟩) HLT.out.2.2).trans H0.out.2.2.2.1, (hb.cell (p := ⟨g1, o1 + j * 3 + 2, none⟩) HLT.out.2.2).trans H0.out.2.2.2.2⟩)
            have LA := Lib.hid (fun (W : World) (h : W.heap[bf]? = some (.cells #[.int .i64 gd, .slice ax gs.length cx, .bool gh] 39 (0, 0)) ∧ W.cell? ⟨q, 0, none⟩ = some (.slice (some ⟨g1, o1, none⟩) rl.length c5) ∧ W.cell? ⟨g1, o1 + j * 3, none⟩ = some (.int .i64 gd) ∧ W.cell? ⟨g1, o1 + j * 3 + 1, none⟩ = some (.slice a2 gs.length c2) ∧ W.cell? ⟨g1, o1 + j * 3 + 2, none⟩ = some (.bool gh)) => load39 W bf gd ax gs.length cx gh h.1)
            have LB := Lib.hid (fun (W : World) (h : W.heap[bf]? = some (.cells #[.int .i64 gd, .slice ax gs.length cx, .bool gh] 39 (0, 0)) ∧ W.cell? ⟨q, 0, none⟩ = some (.slice (some ⟨g1, o1, none⟩) rl.length c5) ∧ W.cell? ⟨g1, o1 + j * 3, none⟩ = some (.int .i64 gd) ∧ W.cell? ⟨g1, o1 + j * 3 + 1, none⟩ = some (.slice a2 gs.length c2) ∧ W.cell? ⟨g1, o1 + j * 3 + 2, none⟩ = some (.bool gh)) => load27 W ⟨q, 0, none⟩ (some ⟨g1, o1, none⟩) rl.length c5 h.2.1)
            have IX := Lib.hid (fun W => index27o W g1 o1 rl.length c5 j hjl hr256)
            have LC := Lib.hid (fun (W : World) (h : W.heap[bf]? = some (.cells #[.int .i64 gd, .slice ax gs.length cx, .bool gh] 39 (0, 0)) ∧ W.cell? ⟨q, 0, none⟩ = some (.slice (some ⟨g1, o1, none⟩) rl.length c5) ∧ W.cell? ⟨g1, o1 + j * 3, none⟩ = some (.int .i64 gd) ∧ W.cell? ⟨g1, o1 + j * 3 + 1, none⟩ = some (.slice a2 gs.length c2) ∧ W.cell? ⟨g1, o1 + j * 3 + 2, none⟩ = some (.bool gh)) => load32_at W g1 (o1 + j * 3) gd a2 gs.length c2 gh h.2.2.1 h.2.2.2.1 h.2.2.2.2)
            refine wp_region_held_drew (S := fun w' => w'.heap[bf]? = some (.cells #[.int .i64 gd, .slice ax gs.length cx, .bool gh] 39 (0, 0)) ∧ w'.cell? ⟨q, 0, none⟩ = some (.slice (some ⟨g1, o1, none⟩) rl.length c5) ∧ w'.cell? ⟨g1, o1 + j * 3, none⟩ = some (.int .i64 gd) ∧ w'.cell? ⟨g1, o1 + j * 3 + 1, none⟩ = some (.slice a2 gs.length c2) ∧ w'.cell? ⟨g1, o1 + j * 3 + 2, none⟩ = some (.bool gh)) (by kernel_rfl) H0.out (fun hHeld => ?_)
            refine take_at (i := 0) 71 ?_ rfl rfl (by kernel_rfl) (by kernel_rfl) (by kernel_rfl) (fun _ _ _ h => h) (.inl ⟨rfl, ?_⟩) hHeld ?_
            rotate_left 1
            · intro w hSw; go_simp; try with_reducible rfl
            simp only [Act.put, List.setIfInBounds_toArray, List.set_cons_zero, List.set_cons_succ]
            refine take_at (i := 1) 72 ?_ rfl rfl (by kernel_rfl) (by kernel_rfl) (by kernel_rfl) (fun _ _ _ h => h) (.inl ⟨rfl, ?_⟩) hHeld ?_
            rotate_left 1
            · intro w hSw; go_simp; try with_reducible rfl
            simp only [Act.put, List.setIfInBounds_toArray, List.set_cons_zero, List.set_cons_succ]
            refine take_at (i := 2) 73 ?_ rfl rfl (by kernel_rfl) (by kernel_rfl) (by kernel_rfl) (fun _ _ _ h => h) (.inl ⟨rfl, ?_⟩) hHeld ?_
            rotate_left 1
            · intro w hSw; go_simp; try with_reducible rfl
            simp only [Act.put, List.setIfInBounds_toArray, List.set_cons_zero, List.set_cons_succ]
            refine take_at (i := 3) 74 (.agg #[.int .i64 gd, .slice ax gs.length cx, .bool gh]) rfl rfl (by kernel_rfl) (by kernel_rfl) (by kernel_rfl) (fun _ _ _ h => h) (yields_ld (.tmp 9) 39 (.pointer (some ⟨bf, 0, none⟩)) _ LA.out rfl rfl rfl) hHeld ?_
            simp only [Act.put, List.setIfInBounds_toArray, List.set_cons_zero, List.set_cons_succ]
            refine take_at (i := 4) 75 ?_ rfl rfl (by kernel_rfl) (by kernel_rfl) (by kernel_rfl) (fun _ _ _ h => h) (.inl ⟨rfl, ?_⟩) hHeld ?_
            rotate_left 1
            · intro w hSw; go_simp; try with_reducible rfl
            simp only [Act.put, List.setIfInBounds_toArray, List.set_cons_zero, List.set_cons_succ]
            refine take_at (i := 5) 76 (.slice (some ⟨g1, o1, none⟩) rl.length c5) rfl rfl (by kernel_rfl) (by kernel_rfl) (by kernel_rfl) (fun _ _ _ h => h) (yields_ld (.tmp 75) 27 (.pointer (some ⟨q, 0, none⟩)) _ LB.out rfl rfl rfl) hHeld ?_
            simp only [Act.put, List.setIfInBounds_toArray, List.set_cons_zero, List.set_cons_succ]
            refine take_at (i := 6) 77 ?_ rfl rfl (by kernel_rfl) (by kernel_rfl) (by kernel_rfl) (fun _ _ _ h => h) (.inl ⟨rfl, ?_⟩) hHeld ?_
            rotate_left 1
            · intro w hSw; go_simp; try with_reducible rfl
            simp only [Act.put, List.setIfInBounds_toArray, List.set_cons_zero, List.set_cons_succ]
            refine take_at (i := 7) 78 (.pointer (some ⟨g1, o1 + j * 3, none⟩)) rfl rfl (by kernel_rfl) (by kernel_rfl) (by kernel_rfl) (fun _ _ _ h => h) (yields_ix (.tmp 76) (.tmp 77) 27 (.slice (some ⟨g1, o1, none⟩) rl.length c5) (.int .i64 (j : Int)) _ IX.out rfl rfl rfl rfl) hHeld ?_
            simp only [Act.put, List.setIfInBounds_toArray, List.set_cons_zero, List.set_cons_succ]
            refine take_at (i := 8) 79 (.agg #[.int .i64 gd, .slice a2 gs.length c2, .bool gh]) rfl rfl (by kernel_rfl) (by kernel_rfl) (by kernel_rfl) (fun _ _ _ h => h) (yields_ld (.tmp 78) 32 (.pointer (some ⟨g1, o1 + j * 3, none⟩)) _ LC.out rfl rfl rfl) hHeld ?_
            simp only [Act.put, List.setIfInBounds_toArray, List.set_cons_zero, List.set_cons_succ]
            refine wpAnyH_ready (rs := [9]) (by kernel_rfl) (by simp) (br_call (i := 9) 80 11 #[.agg #[.int .i64 gd, .slice ax gs.length cx, .bool gh], .agg #[.int .i64 gd, .slice a2 gs.length c2, .bool gh]] rfl rfl rfl (by go_simp) (AR.out.mono ?_) AllReadyH.nil)
            rintro e w7 ⟨rfl, hb7⟩
            have HS := Lib.hid (STP.out w7 hb7)
            have BF := Lib.hid (BY.out.trans (hb7.mono BY.out.size))
            refine ⟨_, rfl, HS.out, fun _ => ?_⟩
            clear hb7 hHeld
            simp only [Act.put, List.setIfInBounds_toArray, List.set_cons_zero, List.set_cons_succ]
            refine take_at (i := 10) 81 ?_ rfl rfl (by kernel_rfl) (by kernel_rfl) (by kernel_rfl) (fun _ _ _ h => h) (.inl ⟨rfl, ?_⟩) HS.out ?_
            rotate_left 1
            · intro w hSw; go_simp; try with_reducible rfl
            simp only [Act.put, List.setIfInBounds_toArray, List.set_cons_zero, List.set_cons_succ]
            refine take_at (i := 11) 82 ?_ rfl rfl (by kernel_rfl) (by kernel_rfl) (by kernel_rfl) (fun _ _ _ h => h) (.inl ⟨rfl, ?_⟩) HS.out ?_
            rotate_left 1
            · intro w hSw; go_simp; try with_reducible rfl
            simp only [Act.put, List.setIfInBounds_toArray, List.set_cons_zero, List.set_cons_succ]
            refine wpAnyH_done (by kernel_rfl) ?_ _
            go_wp2_with fail
            go_roundw
            case rel => exact ⟨j + 1, by go_num, by omega, BF⟩
            case measure => simp [intOf]; omega
          · obtain ⟨d1, b1, h1, ec, a2, c2, lk1, lk2, lk3⟩ := look_both D2.out k
            have LK1 := Lib.hid lk1
            have LK2 := Lib.hid lk2
            have LK3 := Lib.hid lk3
            have HW3 := Lib.hid (show Below w.heap.size w wr from D2.out.bel)
            have hjl' : ¬ (j : Int) < (rl.length : Int) := by omega
            clear lk1 lk2 lk3 DD
            generalize wr = w3 at *
            go_wp2_with fail
            refine (LK1.out _ (Below.refl _ _)).mono ?_
            rintro e w4 ⟨r, rfl, ro, rb⟩
            obtain ⟨ax, cx, rfl⟩ := own_shape ro
            obtain ⟨W6, e6, B6, R6, s6⟩ := boxed w4 #[.int .i64 d1, .slice ax b1.length cx, .bool h1] 39
            have E6 := Lib.hid e6
            have BX := Lib.hid (rb.trans (B6.mono rb.size))
            have RL := Lib.hid (own_lies (own_kept ro B6))
            obtain ⟨bf, hbf⟩ : ∃ b, w4.heap.size = b := ⟨_, rfl⟩
            rw [hbf] at R6
            have RF := Lib.hid R6
            have D6 := D2.out.step BX.out
            have u0 := cell0 D6.box
            have u1 := cell1 D6.box
            clear e6 B6 R6 s6 ro rb LK1 q0 q1 D6
            go_upto_region 17 with (fail)
            rw [E6.out]
            go_wp2_with fail
            refine (LK2.out _ BX.out).mono ?_
            rintro e w7 ⟨rfl, b7⟩
            obtain ⟨W8, e8, B8, R8, s8⟩ := boxed w7 #[.int .i64 d1, .slice a2 b1.length c2, .bool h1] 32
            have E8 := Lib.hid e8
            have B68 := Lib.hid (b7.trans (B8.mono b7.size))
            have B38 := Lib.hid (BX.out.trans (B68.out.mono BX.out.size))
            obtain ⟨bg, hbg⟩ : ∃ b, w7.heap.size = b := ⟨_, rfl⟩
            rw [hbg] at R8
            have AR := Lib.hid (are_any W8 d1 _ _ h1 b1 (RL.out.later B68.out) (LK3.out W8 B38.out))
            have M6 := (B68.out.block _ (lt_of_block RF.out)).trans RF.out
            have m0 := cell_of_row _ bf 0 _ _ _ M6
            have m1 := cell_of_row _ bf 1 _ _ _ M6
            have m2 := cell_of_row _ bf 2 _ _ _ M6
            have n0 := cell_of_row _ bg 0 _ _ _ R8
            have n1 := cell_of_row _ bg 1 _ _ _ R8
            have n2 := cell_of_row _ bg 2 _ _ _ R8
            simp at m0 m1 m2 n0 n1 n2
            clear b7 e8 B8 R8 s8 M6 u0 u1
            go_upto_region 18 with (fail)
            rw [E8.out]
            go_wp2_with fail
            refine AR.out.mono ?_
            rintro e w9 ⟨rfl, b9⟩
            have AW := Lib.hid (awake_any w9)
            have B9 := Lib.hid (HW3.out.trans ((B38.out.trans (b9.mono B38.out.size)).mono HW3.out.size))
            clear b9 m0 m1 m2 n0 n1 n2
            go_wp2_with fail
            refine AW.out.mono ?_
            rintro e w10 ⟨rfl, b10⟩
            have BB := Lib.hid (B9.out.trans (b10.mono B9.out.size))
            clear b10
            go_wp2_with fail
            go_returns
            have bb := BB.out
            have hp' := HP.out
            first
            | exact ⟨rfl, bb⟩
            | (rw [hp'] at bb; exact ⟨rfl, bb⟩)
end Go.Proofs.Ytdocfoienbadhaa
