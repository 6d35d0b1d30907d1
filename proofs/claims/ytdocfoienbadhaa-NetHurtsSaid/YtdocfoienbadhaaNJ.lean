/- NetHurts: the calls. Made by gennj.py. -/
import Derived.Test.YtdocfoienbadhaaNView
set_option linter.unusedVariables false
namespace Go.Proofs.Ytdocfoienbadhaa
open Go.RowKit

def Good (b : List Nat) (f : Fl) : Prop := (f.hurt = false ∧ f.bs = b) ∨ (f.hurt = true ∧ ∃ a x y, b[a]? = some x ∧ y ≠ x ∧ f.bs = b.set a y)
structure NInv (w0 : World) (b : List Nat) (n : Nat) (w : World) : Prop where
  at' : ∃ fv fl, NetAt w0.heap.size w w0.heap.size fv fl 0 ∧ fl.length ≤ n ∧ ∀ f ∈ fl, Good b f
  bel : Below w0.heap.size w0 w
theorem NInv.step {w0 : World} {b : List Nat} {n : Nat} {w w' : World} (h : NInv w0 b n w) (hb : Below w.heap.size w w') : NInv w0 b n w' := by
  obtain ⟨⟨fv, fl, h1, h2⟩, h3⟩ := h
  exact ⟨⟨fv, fl, h1.step hb, h2⟩, h3.trans (hb.mono h3.size)⟩
theorem inv_take {w0 : World} {b : List Nat} {n : Nat} (w : World) (h : NInv w0 b n w) (k : Int) : Calls Try.prog 14 #[.pointer (some ⟨w0.heap.size, 0, none⟩), .int .i64 k] w fun e w' => ∃ u, e = .returned u ∧ NInv w0 b (n + 1) w' := by
  obtain ⟨⟨fv, fl, h1, h2, h3⟩, h4⟩ := h
  by_cases hk : 0 ≤ k ∧ k < (fl.length : Int)
  · obtain ⟨i, rfl⟩ : ∃ i : Nat, k = (i : Int) := ⟨k.toNat, by omega⟩
    obtain ⟨f, hf⟩ : ∃ f, fl[i]? = some f := ⟨_, List.getElem?_eq_getElem (by omega)⟩
    refine (take_in w _ fv fl 0 h1 h4 i f hf).mono ?_
    rintro e w' ⟨v', r, rfl, hN, hB, _⟩
    exact ⟨_, rfl, ⟨v', _, hN, by have := (takeL_sub fl (i : Int)).length_le; omega, fun g hg => h3 g ((takeL_sub fl _).subset hg)⟩, hB⟩
  · refine (take_out w _ fv fl 0 h1 k hk).mono ?_
    rintro e w' ⟨rfl, hB⟩
    exact ⟨_, rfl, ⟨fv, fl, h1.step hB, by omega, h3⟩, h4.trans (hB.mono h4.size)⟩
theorem inv_twice {w0 : World} {b : List Nat} {n : Nat} (w : World) (h : NInv w0 b n w) (hn : n < 256) (k : Int) : Calls Try.prog 15 #[.pointer (some ⟨w0.heap.size, 0, none⟩), .int .i64 k] w fun e w' => ∃ u, e = .returned u ∧ NInv w0 b (n + 1) w' := by
  obtain ⟨⟨fv, fl, h1, h2, h3⟩, h4⟩ := h
  by_cases hk : 0 ≤ k ∧ k < (fl.length : Int)
  · obtain ⟨i, rfl⟩ : ∃ i : Nat, k = (i : Int) := ⟨k.toNat, by omega⟩
    obtain ⟨f, hf⟩ : ∃ f, fl[i]? = some f := ⟨_, List.getElem?_eq_getElem (by omega)⟩
    refine (twice_in w _ fv fl 0 h1 h4 (by omega) i f hf).mono ?_
    rintro e w' ⟨v', r, rfl, hN, hB⟩
    refine ⟨_, rfl, ⟨v', _, hN, by rw [List.length_append, List.length_singleton]; omega, fun g hg => ?_⟩, hB⟩
    rcases List.mem_append.1 hg with hg | hg
    · exact h3 g hg
    · rw [List.mem_singleton.1 hg]; exact h3 f (List.mem_iff_getElem?.2 ⟨i, hf⟩)
  · refine (twice_out w _ fv fl 0 h1 h4 k hk).mono ?_
    rintro e w' ⟨rfl, hB⟩
    exact ⟨_, rfl, ⟨fv, fl, h1.step hB, by omega, h3⟩, h4.trans (hB.mono h4.size)⟩
theorem inv_swap {w0 : World} {b : List Nat} {n : Nat} (w : World) (h : NInv w0 b n w) (k m : Int) : Calls Try.prog 16 #[.pointer (some ⟨w0.heap.size, 0, none⟩), .int .i64 k, .int .i64 m] w fun e w' => ∃ u, e = .returned u ∧ NInv w0 b (n + 1) w' := by
  obtain ⟨⟨fv, fl, h1, h2, h3⟩, h4⟩ := h
  by_cases hk : (0 ≤ k ∧ k < (fl.length : Int)) ∧ 0 ≤ m ∧ m < (fl.length : Int)
  · obtain ⟨i, rfl⟩ : ∃ i : Nat, k = (i : Int) := ⟨k.toNat, by omega⟩
    obtain ⟨j, rfl⟩ : ∃ j : Nat, m = (j : Int) := ⟨m.toNat, by omega⟩
    obtain ⟨f, hf⟩ : ∃ f, fl[i]? = some f := ⟨_, List.getElem?_eq_getElem (by omega)⟩
    obtain ⟨g, hg⟩ : ∃ f, fl[j]? = some f := ⟨_, List.getElem?_eq_getElem (by omega)⟩
    refine (swap_in w _ fv fl 0 h1 h4 i j f g hf hg).mono ?_
    rintro e w' ⟨rfl, hN, hB⟩
    exact ⟨_, rfl, ⟨fv, _, hN, by rw [swap_len]; omega, fun x hx => h3 x (swap_mem hf hg x hx)⟩, hB⟩
  · refine (swap_out w _ fv fl 0 h1 k m (by omega)).mono ?_
    rintro e w' ⟨rfl, rfl⟩
    exact ⟨_, rfl, ⟨fv, fl, h1, by omega, h3⟩, h4⟩
theorem inv_hurt {w0 : World} {b : List Nat} {n : Nat} (w : World) (h : NInv w0 b n w) (k m y : Int) : Calls Try.prog 17 #[.pointer (some ⟨w0.heap.size, 0, none⟩), .int .i64 k, .int .i64 m, .int .i64 y] w fun e w' => ∃ u, e = .returned u ∧ NInv w0 b (n + 1) w' := by
  obtain ⟨⟨fv, fl, h1, h2, h3⟩, h4⟩ := h
  by_cases hk : 0 ≤ k ∧ k < (fl.length : Int)
  · obtain ⟨i, rfl⟩ : ∃ i : Nat, k = (i : Int) := ⟨k.toNat, by omega⟩
    obtain ⟨f, hf⟩ : ∃ f, fl[i]? = some f := ⟨_, List.getElem?_eq_getElem (by omega)⟩
    by_cases hbad : f.hurt = true ∨ ¬ (0 ≤ m ∧ m < (f.bs.length : Int) ∧ 1 ≤ y ∧ y ≤ 255)
    · refine (hurt_bad w _ fv fl 0 h1 i f hf m y hbad).mono ?_
      rintro e w' ⟨rfl, rfl⟩
      exact ⟨_, rfl, ⟨fv, fl, h1, by omega, h3⟩, h4⟩
    · have hh : f.hurt = false := by
        cases hq : f.hurt with
        | true => exact absurd (.inl hq) hbad
        | false => rfl
      have hr : 0 ≤ m ∧ m < (f.bs.length : Int) ∧ 1 ≤ y ∧ y ≤ 255 := Decidable.byContradiction fun q => hbad (.inr q)
      obtain ⟨a, rfl⟩ : ∃ a : Nat, m = (a : Int) := ⟨m.toNat, by omega⟩
      obtain ⟨c, rfl⟩ : ∃ c : Nat, y = (c : Int) := ⟨y.toNat, by omega⟩
      obtain ⟨x, hx⟩ : ∃ x, f.bs[a]? = some x := ⟨_, List.getElem?_eq_getElem (by omega)⟩
      refine (hurt_in w _ fv fl 0 h1 h4 i f hf hh a c x hx (by omega) (by omega)).mono ?_
      rintro e w' ⟨rfl, hN, hB⟩
      refine ⟨_, rfl, ⟨fv, _, hN, by rw [List.length_set]; omega, fun g hg => ?_⟩, hB⟩
      rcases List.mem_or_eq_of_mem_set hg with hg | rfl
      · exact h3 g hg
      · rcases h3 f (List.mem_iff_getElem?.2 ⟨i, hf⟩) with ⟨_, e⟩ | ⟨e, _⟩
        · exact .inr ⟨rfl, a, x, x ^^^ c, by rw [← e]; exact hx, xor_ne x c (by omega), by unfold hurtF; rw [e]⟩
        · rw [hh] at e; cases e
  · refine (hurt_out w _ fv fl 0 h1 k m y hk).mono ?_
    rintro e w' ⟨rfl, rfl⟩
    exact ⟨_, rfl, ⟨fv, fl, h1, by omega, h3⟩, h4⟩
theorem load3 (W : World) (p : Addr) (n : Int) (h : W.cell? p = some (.int .i64 n)) : (Instr.loadAt 3 (.pointer (some p))).run Try.prog W = .ok (.int .i64 n) W := by go_simp
theorem index_acts (W : World) (g o n cap i : Nat) (hi : i < n) (hn : n ≤ 9223372036854775807) : (Instr.indexAt 22 (.slice (some ⟨g, o, none⟩) n cap) (.int .i64 (i : Int))).run Try.prog W = .ok (.pointer (some ⟨g, o + i * 7, none⟩)) W := by
  have h1 : (0 : Int) ≤ (i : Int) := by omega
  have h2 : (i : Int) < (n : Int) := by omega
  have hu : Try.prog.underlying 22 = some (.slice 34) := by kernel_rfl
  go_simp
/-- A call's numbers, in every world behind. -/
theorem acts_at {w : World} {v : Value} {l : List Ac} (h : Acts w v l) {i : Nat} {a : Ac} (ha : l[i]? = some a) : ∃ g o cap, v = .slice (some ⟨g, o, none⟩) l.length cap ∧ l.length ≤ 9223372036854775807 ∧ ∀ W, Below w.heap.size w W →
    W.cell? ⟨g, o + i * 7, none⟩ = some (.int .i64 a.kind) ∧ W.cell? ⟨g, o + i * 7 + 1, none⟩ = some (.int .i64 a.k) ∧ W.cell? ⟨g, o + i * 7 + 2, none⟩ = some (.int .i64 a.m) ∧ W.cell? ⟨g, o + i * 7 + 3, none⟩ = some (.int .i64 a.b) := by
  obtain ⟨ao, cap, rfl, hl, hc⟩ := h
  obtain ⟨g, o, rfl, hg, q0, q1, q2, q3, _⟩ := hc i a ha
  refine ⟨g, o, cap, rfl, hl, fun W hb => ⟨?_, ?_, ?_, ?_⟩⟩
  · exact (hb.cell (p := ⟨g, o + i * 7, none⟩) hg).trans q0
  · exact (hb.cell (p := ⟨g, o + i * 7 + 1, none⟩) hg).trans q1
  · exact (hb.cell (p := ⟨g, o + i * 7 + 2, none⟩) hg).trans q2
  · exact (hb.cell (p := ⟨g, o + i * 7 + 3, none⟩) hg).trans q3
def dif (a b : List Nat) : Nat → Nat
  | 0 => 0
  | k + 1 => dif a b k + (if a[k]? = b[k]? then 0 else 1)
theorem dif_le (a b : List Nat) : ∀ k, dif a b k ≤ k
  | 0 => Nat.le_refl _
  | k + 1 => by have := dif_le a b k; unfold dif; split <;> omega
theorem dif_self (a : List Nat) : ∀ k, dif a a k = 0
  | 0 => rfl
  | k + 1 => by unfold dif; rw [dif_self a k, if_pos rfl]
theorem dif_set (b : List Nat) (p x y : Nat) (hx : b[p]? = some x) (hy : y ≠ x) : ∀ k, dif (b.set p y) b k = if p < k then 1 else 0
  | 0 => rfl
  | k + 1 => by
    unfold dif
    rw [dif_set b p x y hx hy k, List.getElem?_set]
    have hp := (List.getElem?_eq_some_iff.1 hx).1
    by_cases e : p = k
    · subst e
      rw [if_pos rfl, if_pos hp, hx, if_neg (by omega), if_neg (by intro e; injection e with e; exact hy e), if_pos (by omega)]
    · rw [if_neg e, if_pos rfl]
      by_cases h : p < k
      · rw [if_pos h, if_pos (by omega)]
      · rw [if_neg h, if_neg (by omega)]
theorem good_len {b : List Nat} {f : Fl} (h : Good b f) : f.bs.length = b.length := by
  rcases h with ⟨_, e⟩ | ⟨_, a, x, y, _, _, e⟩
  · rw [e]
  · rw [e, List.length_set]
theorem good_dif {b : List Nat} {f : Fl} (h : Good b f) : dif f.bs b b.length = if f.hurt then 1 else 0 := by
  rcases h with ⟨h1, e⟩ | ⟨h1, a, x, y, hx, hy, e⟩
  · rw [e, h1, dif_self]; rfl
  · rw [e, h1, dif_set b a x y hx hy, if_pos (List.getElem?_eq_some_iff.1 hx).1]; rfl
/-- Where a byte of a slice lies. -/
theorem lies_at {w : World} {ao : Option Addr} {n cap : Nat} {bs : List Nat} (h : Lies w (.slice ao n cap) bs) {k : Nat} (hk : k < bs.length) : ∃ g o, ao = some ⟨g, o, none⟩ ∧ ∀ W, Below w.heap.size w W → ∀ (j x : Nat), bs[j]? = some x → W.cell? ⟨g, o + j, none⟩ = some (.int .u8 (x : Int)) := by
  obtain ⟨a', c', e, _, _, h0, hc⟩ := h
  injection e with e1 e2 e3
  subst e1
  cases ao with
  | none => have := (h0 rfl).1; rw [this] at hk; simp at hk
  | some b =>
    obtain ⟨g, o, rfl, hg, hx⟩ := hc b rfl (ne_of_lt hk)
    exact ⟨g, o, rfl, fun W hb j x hj => (hb.cell (p := ⟨g, o + j, none⟩) hg).trans (hx j x hj)⟩
set_option maxRecDepth 100000 in
set_option maxHeartbeats 6400000 in
theorem hurts_law (w : World) (v0 v1 : Value) (bs : List Nat) (hv : Lies w v0 bs) (hby : Byt bs) (hlen : bs.length ≤ 100) (L : List Ac) (hL : Acts w v1 L) :
    Calls Try.prog 4 #[v0, v1] w fun e w' => e = .returned (.bool true) ∧ Below w.heap.size w w' := by
  have HLA := Lib.hid (fun i a (ha : L[i]? = some a) => acts_at hL ha)
  have HV := Lib.hid hv
  have HBY := Lib.hid hby
  obtain ⟨a1, c1, rfl, hLl, _⟩ := hL
  obtain ⟨a0, c0, rfl, _⟩ := hv
  have X := Lib.hid (vstep w (.cells #[.slice none 0 0, .int .i64 0] 26))
  have N0 := Lib.hid (net_new w)
  obtain ⟨W, hW⟩ : ∃ y, w.alloc (.cells #[.slice none 0 0, .int .i64 0] 26) = y := ⟨_, rfl⟩
  rw [hW] at X N0
  have HW := Lib.hid hW
  have SN := Lib.hid (send_any (w0 := w) W w.heap.size _ [] 0 N0.out X.out (by decide) 0 _ bs false (HV.out.later X.out) HBY.out (by omega))
  have h100 : ¬ (100 : Int) < (bs.length : Int) := by omega
  have HLl := Lib.hid hLl
  clear hW hby hLl
  go_enter Try.func4, Try.ntmps4
  go_upto_region 4 with (fail)
  rw [HW.out]
  go_wp2_with fail
  refine SN.out.mono ?_
  rintro e w1 ⟨v', r, rfl, hN, hB⟩
  have I1 := Lib.hid (show NInv w bs 1 w1 from ⟨⟨v', _, hN, Nat.le_refl _, fun f hf => by rw [List.mem_singleton.1 hf]; exact .inl ⟨rfl, rfl⟩⟩, hB⟩)
  clear hN hB SN
  go_wp2_with fail
  go_loopw [6] (fun iv wr => ∃ i : Nat, iv = .int .i64 i ∧ i ≤ 60 ∧ i ≤ L.length ∧ Hid (NInv w bs (i + 1) wr)) (fun iv _ => 60 - (intOf iv).toNat)
  case atStart => exact ⟨0, rfl, by omega, by omega, I1⟩
  case round =>
    obtain ⟨i, rfl, hi1, hi2, hI⟩ := hrel
    by_cases hlt : i < L.length ∧ i < 60
    · obtain ⟨hl1, hl2⟩ := hlt
      obtain ⟨ac, hac⟩ : ∃ a, L[i]? = some a := ⟨_, List.getElem?_eq_getElem hl1⟩
      obtain ⟨g, o, cap, he, _, hcells⟩ := HLA.out i ac hac
      injection he with he _ hec
      subst he
      subst hec
      have CE := Lib.hid hcells
      obtain ⟨q0, q1, q2, q3⟩ := hcells _ hI.out.bel
      obtain ⟨kd, ak, am, ab, af⟩ := ac
      simp only at q0 q1 q2 q3 CE
      have hii := HLl.out
      clear hcells hac q3
      have h60 : (i : Int) < 60 := by omega
      by_cases e3 : kd = 3
      · subst e3
        have TK := Lib.hid (inv_take wr hI.out ak)
        clear hI q2
        go_wp2_with fail
        refine TK.out.mono ?_
        rintro e w5 ⟨u, rfl, hN⟩
        have HN := Lib.hid hN
        clear hN
        go_wp2_with fail
        go_roundw
        case rel => exact ⟨i + 1, by go_num, by omega, by omega, HN⟩
        case measure => simp [intOf]; omega
      · have n3 : (kd == 3) = false := by simpa using e3
        by_cases e4 : kd = 4
        · subst e4
          have TK := Lib.hid (inv_twice wr hI.out (by omega) ak)
          clear hI q2
          go_wp2_with fail
          refine TK.out.mono ?_
          rintro e w5 ⟨u, rfl, hN⟩
          have HN := Lib.hid hN
          clear hN
          go_wp2_with fail
          go_roundw
          case rel => exact ⟨i + 1, by go_num, by omega, by omega, HN⟩
          case measure => simp [intOf]; omega
        · have n4 : (kd == 4) = false := by simpa using e4
          by_cases e5 : kd = 5
          · subst e5
            clear q1 q2
            go_upto_region 16 with (fail)
            have H0 := Lib.hid (show wr.drew.cell? ⟨g, o + i * 7 + 1, none⟩ = some (.int .i64 ak) ∧ wr.drew.cell? ⟨g, o + i * 7 + 2, none⟩ = some (.int .i64 am) from ⟨(CE.out _ (hI.out.step (below_drewN wr 1)).bel).2.1, (CE.out _ (hI.out.step (below_drewN wr 1)).bel).2.2.1⟩)
            refine wp_region_held_drew (S := fun w' => w'.cell? ⟨g, o + i * 7 + 1, none⟩ = some (.int .i64 ak) ∧ w'.cell? ⟨g, o + i * 7 + 2, none⟩ = some (.int .i64 am)) (by kernel_rfl) H0.out (fun hHeld => ?_)
            have LD1 := Lib.hid (fun (W : World) (h : W.cell? ⟨g, o + i * 7 + 1, none⟩ = some (.int .i64 ak) ∧ W.cell? ⟨g, o + i * 7 + 2, none⟩ = some (.int .i64 am)) => load3 W ⟨g, o + i * 7 + 1, none⟩ _ h.1)
            have LD2 := Lib.hid (fun (W : World) (h : W.cell? ⟨g, o + i * 7 + 1, none⟩ = some (.int .i64 ak) ∧ W.cell? ⟨g, o + i * 7 + 2, none⟩ = some (.int .i64 am)) => load3 W ⟨g, o + i * 7 + 2, none⟩ _ h.2)
            have IX := Lib.hid (fun W => index_acts W g o L.length c1 i hl1 hii)
            have TK := Lib.hid (inv_swap wr.drew (hI.out.step (below_drewN wr 1)) ak am)
            refine take_at (i := 0) 75 ?_ rfl rfl (by kernel_rfl) (by kernel_rfl) (by kernel_rfl) (fun _ _ _ h => h) (.inl ⟨rfl, ?_⟩) hHeld ?_
            rotate_left 1
            · intro w hSw; go_simp; try with_reducible rfl
            simp only [Act.put, List.setIfInBounds_toArray, List.set_cons_zero, List.set_cons_succ]
            refine take_at (i := 1) 76 ?_ rfl rfl (by kernel_rfl) (by kernel_rfl) (by kernel_rfl) (fun _ _ _ h => h) (.inl ⟨rfl, ?_⟩) hHeld ?_
            rotate_left 1
            · intro w hSw; go_simp; try with_reducible rfl
            simp only [Act.put, List.setIfInBounds_toArray, List.set_cons_zero, List.set_cons_succ]
            refine take_at (i := 2) 77 ?_ rfl rfl (by kernel_rfl) (by kernel_rfl) (by kernel_rfl) (fun _ _ _ h => h) (.inl ⟨rfl, ?_⟩) hHeld ?_
            rotate_left 1
            · intro w hSw; go_simp; try with_reducible rfl
            simp only [Act.put, List.setIfInBounds_toArray, List.set_cons_zero, List.set_cons_succ]
            refine take_at (i := 3) 78 (.pointer (some ⟨g, o + i * 7, none⟩)) rfl rfl (by kernel_rfl) (by kernel_rfl) (by kernel_rfl) (fun _ _ _ h => h) (yields_ix (.tmp 76) (.tmp 77) 22 (.slice (some ⟨g, o, none⟩) L.length c1) (.int .i64 (i : Int)) _ IX.out rfl rfl rfl rfl) hHeld ?_
            simp only [Act.put, List.setIfInBounds_toArray, List.set_cons_zero, List.set_cons_succ]
            refine take_at (i := 4) 79 ?_ rfl rfl (by kernel_rfl) (by kernel_rfl) (by kernel_rfl) (fun _ _ _ h => h) (.inl ⟨rfl, ?_⟩) hHeld ?_
            rotate_left 1
            · intro w hSw; go_simp; try with_reducible rfl
            simp only [Act.put, List.setIfInBounds_toArray, List.set_cons_zero, List.set_cons_succ]
            refine take_at (i := 5) 80 (.int .i64 ak) rfl rfl (by kernel_rfl) (by kernel_rfl) (by kernel_rfl) (fun _ _ _ h => h) (yields_ld (.tmp 79) 3 (.pointer (some ⟨g, o + i * 7 + 1, none⟩)) _ LD1.out rfl rfl rfl) hHeld ?_
            simp only [Act.put, List.setIfInBounds_toArray, List.set_cons_zero, List.set_cons_succ]
            refine take_at (i := 6) 81 ?_ rfl rfl (by kernel_rfl) (by kernel_rfl) (by kernel_rfl) (fun _ _ _ h => h) (.inl ⟨rfl, ?_⟩) hHeld ?_
            rotate_left 1
            · intro w hSw; go_simp; try with_reducible rfl
            simp only [Act.put, List.setIfInBounds_toArray, List.set_cons_zero, List.set_cons_succ]
            refine take_at (i := 7) 82 ?_ rfl rfl (by kernel_rfl) (by kernel_rfl) (by kernel_rfl) (fun _ _ _ h => h) (.inl ⟨rfl, ?_⟩) hHeld ?_
            rotate_left 1
            · intro w hSw; go_simp; try with_reducible rfl
            simp only [Act.put, List.setIfInBounds_toArray, List.set_cons_zero, List.set_cons_succ]
            refine take_at (i := 8) 83 (.pointer (some ⟨g, o + i * 7, none⟩)) rfl rfl (by kernel_rfl) (by kernel_rfl) (by kernel_rfl) (fun _ _ _ h => h) (yields_ix (.tmp 81) (.tmp 82) 22 (.slice (some ⟨g, o, none⟩) L.length c1) (.int .i64 (i : Int)) _ IX.out rfl rfl rfl rfl) hHeld ?_
            simp only [Act.put, List.setIfInBounds_toArray, List.set_cons_zero, List.set_cons_succ]
            refine take_at (i := 9) 84 ?_ rfl rfl (by kernel_rfl) (by kernel_rfl) (by kernel_rfl) (fun _ _ _ h => h) (.inl ⟨rfl, ?_⟩) hHeld ?_
            rotate_left 1
            · intro w hSw; go_simp; try with_reducible rfl
            simp only [Act.put, List.setIfInBounds_toArray, List.set_cons_zero, List.set_cons_succ]
            refine take_at (i := 10) 85 (.int .i64 am) rfl rfl (by kernel_rfl) (by kernel_rfl) (by kernel_rfl) (fun _ _ _ h => h) (yields_ld (.tmp 84) 3 (.pointer (some ⟨g, o + i * 7 + 2, none⟩)) _ LD2.out rfl rfl rfl) hHeld ?_
            simp only [Act.put, List.setIfInBounds_toArray, List.set_cons_zero, List.set_cons_succ]
            refine wpAnyH_ready (rs := [11]) (by kernel_rfl) (by simp) (br_call (i := 11) 86 16 #[.pointer (some ⟨w.heap.size, 0, none⟩), .int .i64 ak, .int .i64 am] rfl rfl rfl (by go_simp) (TK.out.mono ?_) AllReadyH.nil)
            rintro e w5 ⟨u, rfl, hN⟩
            refine ⟨_, rfl, ⟨(CE.out _ hN.bel).2.1, (CE.out _ hN.bel).2.2.1⟩, fun hH => ?_⟩
            have HN := Lib.hid hN
            clear hN
            simp only [Act.put]
            refine wpAnyH_done (by kernel_rfl) ?_ _
            go_wp2_with fail
            go_roundw
            case rel => exact ⟨i + 1, by go_num, by omega, by omega, HN⟩
            case measure => simp [intOf]; omega
          · have n5 : (kd == 5) = false := by simpa using e5
            clear q1 q2
            go_upto_region 10 with (fail)
            have H0 := Lib.hid (show wr.drew.cell? ⟨g, o + i * 7 + 1, none⟩ = some (.int .i64 ak) ∧ wr.drew.cell? ⟨g, o + i * 7 + 2, none⟩ = some (.int .i64 am) ∧ wr.drew.cell? ⟨g, o + i * 7 + 3, none⟩ = some (.int .i64 ab) from ⟨(CE.out _ (hI.out.step (below_drewN wr 1)).bel).2.1, (CE.out _ (hI.out.step (below_drewN wr 1)).bel).2.2.1, (CE.out _ (hI.out.step (below_drewN wr 1)).bel).2.2.2⟩)
            refine wp_region_held_drew (S := fun w' => w'.cell? ⟨g, o + i * 7 + 1, none⟩ = some (.int .i64 ak) ∧ w'.cell? ⟨g, o + i * 7 + 2, none⟩ = some (.int .i64 am) ∧ w'.cell? ⟨g, o + i * 7 + 3, none⟩ = some (.int .i64 ab)) (by kernel_rfl) H0.out (fun hHeld => ?_)
            have LD1 := Lib.hid (fun (W : World) (h : W.cell? ⟨g, o + i * 7 + 1, none⟩ = some (.int .i64 ak) ∧ W.cell? ⟨g, o + i * 7 + 2, none⟩ = some (.int .i64 am) ∧ W.cell? ⟨g, o + i * 7 + 3, none⟩ = some (.int .i64 ab)) => load3 W ⟨g, o + i * 7 + 1, none⟩ _ h.1)
            have LD2 := Lib.hid (fun (W : World) (h : W.cell? ⟨g, o + i * 7 + 1, none⟩ = some (.int .i64 ak) ∧ W.cell? ⟨g, o + i * 7 + 2, none⟩ = some (.int .i64 am) ∧ W.cell? ⟨g, o + i * 7 + 3, none⟩ = some (.int .i64 ab)) => load3 W ⟨g, o + i * 7 + 2, none⟩ _ h.2.1)
            have LD3 := Lib.hid (fun (W : World) (h : W.cell? ⟨g, o + i * 7 + 1, none⟩ = some (.int .i64 ak) ∧ W.cell? ⟨g, o + i * 7 + 2, none⟩ = some (.int .i64 am) ∧ W.cell? ⟨g, o + i * 7 + 3, none⟩ = some (.int .i64 ab)) => load3 W ⟨g, o + i * 7 + 3, none⟩ _ h.2.2)
            have IX := Lib.hid (fun W => index_acts W g o L.length c1 i hl1 hii)
            have TK := Lib.hid (inv_hurt wr.drew (hI.out.step (below_drewN wr 1)) ak am ab)
            refine take_at (i := 0) 38 ?_ rfl rfl (by kernel_rfl) (by kernel_rfl) (by kernel_rfl) (fun _ _ _ h => h) (.inl ⟨rfl, ?_⟩) hHeld ?_
            rotate_left 1
            · intro w hSw; go_simp; try with_reducible rfl
            simp only [Act.put, List.setIfInBounds_toArray, List.set_cons_zero, List.set_cons_succ]
            refine take_at (i := 1) 39 ?_ rfl rfl (by kernel_rfl) (by kernel_rfl) (by kernel_rfl) (fun _ _ _ h => h) (.inl ⟨rfl, ?_⟩) hHeld ?_
            rotate_left 1
            · intro w hSw; go_simp; try with_reducible rfl
            simp only [Act.put, List.setIfInBounds_toArray, List.set_cons_zero, List.set_cons_succ]
            refine take_at (i := 2) 40 ?_ rfl rfl (by kernel_rfl) (by kernel_rfl) (by kernel_rfl) (fun _ _ _ h => h) (.inl ⟨rfl, ?_⟩) hHeld ?_
            rotate_left 1
            · intro w hSw; go_simp; try with_reducible rfl
            simp only [Act.put, List.setIfInBounds_toArray, List.set_cons_zero, List.set_cons_succ]
            refine take_at (i := 3) 41 (.pointer (some ⟨g, o + i * 7, none⟩)) rfl rfl (by kernel_rfl) (by kernel_rfl) (by kernel_rfl) (fun _ _ _ h => h) (yields_ix (.tmp 39) (.tmp 40) 22 (.slice (some ⟨g, o, none⟩) L.length c1) (.int .i64 (i : Int)) _ IX.out rfl rfl rfl rfl) hHeld ?_
            simp only [Act.put, List.setIfInBounds_toArray, List.set_cons_zero, List.set_cons_succ]
            refine take_at (i := 4) 42 ?_ rfl rfl (by kernel_rfl) (by kernel_rfl) (by kernel_rfl) (fun _ _ _ h => h) (.inl ⟨rfl, ?_⟩) hHeld ?_
            rotate_left 1
            · intro w hSw; go_simp; try with_reducible rfl
            simp only [Act.put, List.setIfInBounds_toArray, List.set_cons_zero, List.set_cons_succ]
            refine take_at (i := 5) 43 (.int .i64 ak) rfl rfl (by kernel_rfl) (by kernel_rfl) (by kernel_rfl) (fun _ _ _ h => h) (yields_ld (.tmp 42) 3 (.pointer (some ⟨g, o + i * 7 + 1, none⟩)) _ LD1.out rfl rfl rfl) hHeld ?_
            simp only [Act.put, List.setIfInBounds_toArray, List.set_cons_zero, List.set_cons_succ]
            refine take_at (i := 6) 44 ?_ rfl rfl (by kernel_rfl) (by kernel_rfl) (by kernel_rfl) (fun _ _ _ h => h) (.inl ⟨rfl, ?_⟩) hHeld ?_
            rotate_left 1
            · intro w hSw; go_simp; try with_reducible rfl
            simp only [Act.put, List.setIfInBounds_toArray, List.set_cons_zero, List.set_cons_succ]
            refine take_at (i := 7) 45 ?_ rfl rfl (by kernel_rfl) (by kernel_rfl) (by kernel_rfl) (fun _ _ _ h => h) (.inl ⟨rfl, ?_⟩) hHeld ?_
            rotate_left 1
            · intro w hSw; go_simp; try with_reducible rfl
            simp only [Act.put, List.setIfInBounds_toArray, List.set_cons_zero, List.set_cons_succ]
            refine take_at (i := 8) 46 (.pointer (some ⟨g, o + i * 7, none⟩)) rfl rfl (by kernel_rfl) (by kernel_rfl) (by kernel_rfl) (fun _ _ _ h => h) (yields_ix (.tmp 44) (.tmp 45) 22 (.slice (some ⟨g, o, none⟩) L.length c1) (.int .i64 (i : Int)) _ IX.out rfl rfl rfl rfl) hHeld ?_
            simp only [Act.put, List.setIfInBounds_toArray, List.set_cons_zero, List.set_cons_succ]
            refine take_at (i := 9) 47 ?_ rfl rfl (by kernel_rfl) (by kernel_rfl) (by kernel_rfl) (fun _ _ _ h => h) (.inl ⟨rfl, ?_⟩) hHeld ?_
            rotate_left 1
            · intro w hSw; go_simp; try with_reducible rfl
            simp only [Act.put, List.setIfInBounds_toArray, List.set_cons_zero, List.set_cons_succ]
            refine take_at (i := 10) 48 (.int .i64 am) rfl rfl (by kernel_rfl) (by kernel_rfl) (by kernel_rfl) (fun _ _ _ h => h) (yields_ld (.tmp 47) 3 (.pointer (some ⟨g, o + i * 7 + 2, none⟩)) _ LD2.out rfl rfl rfl) hHeld ?_
            simp only [Act.put, List.setIfInBounds_toArray, List.set_cons_zero, List.set_cons_succ]
            refine take_at (i := 11) 49 ?_ rfl rfl (by kernel_rfl) (by kernel_rfl) (by kernel_rfl) (fun _ _ _ h => h) (.inl ⟨rfl, ?_⟩) hHeld ?_
            rotate_left 1
            · intro w hSw; go_simp; try with_reducible rfl
            simp only [Act.put, List.setIfInBounds_toArray, List.set_cons_zero, List.set_cons_succ]
            refine take_at (i := 12) 50 ?_ rfl rfl (by kernel_rfl) (by kernel_rfl) (by kernel_rfl) (fun _ _ _ h => h) (.inl ⟨rfl, ?_⟩) hHeld ?_
            rotate_left 1
            · intro w hSw; go_simp; try with_reducible rfl
            simp only [Act.put, List.setIfInBounds_toArray, List.set_cons_zero, List.set_cons_succ]
            refine take_at (i := 13) 51 (.pointer (some ⟨g, o + i * 7, none⟩)) rfl rfl (by kernel_rfl) (by kernel_rfl) (by kernel_rfl) (fun _ _ _ h => h) (yields_ix (.tmp 49) (.tmp 50) 22 (.slice (some ⟨g, o, none⟩) L.length c1) (.int .i64 (i : Int)) _ IX.out rfl rfl rfl rfl) hHeld ?_
            simp only [Act.put, List.setIfInBounds_toArray, List.set_cons_zero, List.set_cons_succ]
            refine take_at (i := 14) 52 ?_ rfl rfl (by kernel_rfl) (by kernel_rfl) (by kernel_rfl) (fun _ _ _ h => h) (.inl ⟨rfl, ?_⟩) hHeld ?_
            rotate_left 1
            · intro w hSw; go_simp; try with_reducible rfl
            simp only [Act.put, List.setIfInBounds_toArray, List.set_cons_zero, List.set_cons_succ]
            refine take_at (i := 15) 53 (.int .i64 ab) rfl rfl (by kernel_rfl) (by kernel_rfl) (by kernel_rfl) (fun _ _ _ h => h) (yields_ld (.tmp 52) 3 (.pointer (some ⟨g, o + i * 7 + 3, none⟩)) _ LD3.out rfl rfl rfl) hHeld ?_
            simp only [Act.put, List.setIfInBounds_toArray, List.set_cons_zero, List.set_cons_succ]
            refine wpAnyH_ready (rs := [16]) (by kernel_rfl) (by simp) (br_call (i := 16) 54 17 #[.pointer (some ⟨w.heap.size, 0, none⟩), .int .i64 ak, .int .i64 am, .int .i64 ab] rfl rfl rfl (by go_simp) (TK.out.mono ?_) AllReadyH.nil)
            rintro e w5 ⟨u, rfl, hN⟩
            refine ⟨_, rfl, ⟨(CE.out _ hN.bel).2.1, (CE.out _ hN.bel).2.2.1, (CE.out _ hN.bel).2.2.2⟩, fun hH => ?_⟩
            have HN := Lib.hid hN
            clear hN
            simp only [Act.put]
            refine wpAnyH_done (by kernel_rfl) ?_ _
            go_wp2_with fail
            go_roundw
            case rel => exact ⟨i + 1, by go_num, by omega, by omega, HN⟩
            case measure => simp [intOf]; omega
    · have HI := Lib.hid (show NInv w bs 61 wr from by
        obtain ⟨⟨fv, fl, h1, h2, h3⟩, h4⟩ := hI.out
        exact ⟨⟨fv, fl, h1, by omega, h3⟩, h4⟩)
      obtain ⟨⟨fv, fl, hN, hle, hG⟩, hB⟩ := HI.out
      have hN256 := hN.len
      have HN := Lib.hid hN
      have HG := Lib.hid hG
      have HB := Lib.hid hB
      have hcase : (¬ (i : Int) < (L.length : Int)) ∨ ((i : Int) < (L.length : Int) ∧ ¬ (i : Int) < 60) := by omega
      clear hN hG hB hI HI I1 hlt HLA hle
      have hlf := hN256
      generalize wr = we at *
      rcases hcase with hc | ⟨hc, hc2⟩
      all_goals
        go_wp2_with fail
        go_loopw [7] (fun jv w2 => ∃ j : Nat, jv = .int .i64 j ∧ j ≤ fl.length ∧ Hid (Below we.heap.size we w2)) (fun jv _ => fl.length - (intOf jv).toNat)
        case atStart => exact ⟨0, rfl, Nat.zero_le _, Lib.hid (Below.refl _ _)⟩
        case round =>
          obtain ⟨j, rfl, hj, hW2⟩ := hrel
          have NN := Lib.hid (HN.out.step hW2.out)
          have LN := Lib.hid (len_any _ _ _ _ _ NN.out)
          by_cases hjl : j < fl.length
          · obtain ⟨f, hf⟩ : ∃ f, fl[j]? = some f := ⟨_, List.getElem?_eq_getElem hjl⟩
            have LK := Lib.hid (look_in _ _ _ _ _ NN.out j f hf)
            have hgd := HG.out f (List.mem_iff_getElem?.2 ⟨j, hf⟩)
            have hfl := good_len hgd
            have HD := Lib.hid (good_dif hgd)
            unfold flv at LK
            obtain ⟨fd, fb, fs, fh⟩ := f
            simp only at hfl HD LK
            clear hf hgd
            go_wp2_with fail
            refine LN.out.mono ?_
            rintro e w3 ⟨rfl, rfl⟩
            go_wp2_with fail
            refine LK.out.mono ?_
            rintro e w4 ⟨r, rfl, ro, rb⟩
            obtain ⟨ar, cr, rfl⟩ := own_shape ro
            have Y := vstep w4 (.cells #[.int .i64 fd, .slice ar fs.length cr, .bool fh] 39)
            have YB := Lib.hid (heap_alloc_new w4 (.cells #[.int .i64 fd, .slice ar fs.length cr, .bool fh] 39))
            obtain ⟨W6, hW6⟩ : ∃ y, w4.alloc (.cells #[.int .i64 fd, .slice ar fs.length cr, .bool fh] 39) = y := ⟨_, rfl⟩
            rw [hW6] at Y YB
            have B6 := Lib.hid (show Below we.heap.size we W6 from hW2.out.trans ((rb.trans (Y.mono rb.size)).mono hW2.out.size))
            have RL := Lib.hid (own_lies (own_kept ro Y))
            have VL := Lib.hid (HV.out.later (HB.out.trans (B6.out.mono HB.out.size)))
            obtain ⟨bf, hbf⟩ : ∃ b, w4.heap.size = b := ⟨_, rfl⟩
            rw [hbf] at YB
            have k0 := cell_of_row _ bf 0 _ _ _ YB.out
            have k1 := cell_of_row _ bf 1 _ _ _ YB.out
            have k2 := cell_of_row _ bf 2 _ _ _ YB.out
            simp at k0 k1 k2
            have hsz := hbf
            have HFL := Lib.hid hfl
            have HW6 := Lib.hid (show w4.alloc (.cells #[.int .i64 fd, .slice ar bs.length cr, .bool fh] 39) = W6 from by rw [← hfl]; exact hW6)
            rw [hfl] at k1
            rw [hfl]
            clear hW6 Y ro rb LN LK hfl
            go_upto_region 21 with (fail)
            rw [HW6.out]
            go_wp2_with fail
            go_loopw [10, 11] (fun av kv w7 => ∃ k n : Nat, kv = .int .i64 k ∧ av = .int .i64 (dif fs bs k : Nat) ∧ k ≤ bs.length ∧ w7 = W6.drewN n) (fun _ kv _ => bs.length - (intOf kv).toNat)
            case atStart => exact ⟨0, 0, rfl, rfl, Nat.zero_le _, rfl⟩
            case round =>
              obtain ⟨k, n, rfl, rfl, hk, rfl⟩ := hrel
              by_cases hkl : k < bs.length
              · obtain ⟨g1, o1, rfl, d1⟩ := lies_at RL.out (k := k) (by have := HFL.out; omega)
                obtain ⟨g2, o2, rfl, d2⟩ := lies_at VL.out (k := k) (by omega)
                obtain ⟨x, hx⟩ : ∃ x, fs[k]? = some x := ⟨_, List.getElem?_eq_getElem (by have := HFL.out; omega)⟩
                obtain ⟨y, hy⟩ : ∃ y, bs[k]? = some y := ⟨_, List.getElem?_eq_getElem (by omega)⟩
                have c1 := d1 W6 (Below.refl _ _) k x hx
                have c2 := d2 W6 (Below.refl _ _) k y hy
                have HDN := Lib.hid (show dif fs bs (k + 1) = dif fs bs k + (if x = y then 0 else 1) by
                  show dif fs bs k + (if fs[k]? = bs[k]? then 0 else 1) = _
                  rw [hx, hy]
                  simp only [Option.some.injEq])
                have hdl := dif_le fs bs k
                clear d1 d2 hx hy
                obtain ⟨z, hz⟩ : ∃ z, dif fs bs k = z := ⟨_, rfl⟩
                rw [hz] at HDN hdl ⊢
                clear hz
                by_cases hxy : x = y
                · subst hxy
                  rw [if_pos rfl] at HDN
                  go_wp2_with fail
                  go_quiet (fail)
                  go_wp2_with fail
                  go_roundw
                  case rel => exact ⟨k + 1, _, by go_num, by rw [HDN.out]; rfl, by omega, rfl⟩
                  case measure => simp [intOf]; omega
                · rw [if_neg hxy] at HDN
                  have hxy2 : ((x : Int) != (y : Int)) = true := by simp; omega
                  go_wp2_with fail
                  go_quiet (fail)
                  go_wp2_with fail
                  go_roundw
                  case rel => exact ⟨k + 1, _, by go_num, by rw [HDN.out]; go_num, by omega, rfl⟩
                  case measure => simp [intOf]; omega
              · have hke : k = bs.length := by omega
                subst hke
                rw [HD.out]
                clear RL VL hk hkl HD
                cases fh with
                | true =>
                  go_wp2_with fail
                  go_roundw
                  case rel => exact ⟨j + 1, by go_num, by omega, Lib.hid (B6.out.trans ((below_drewN W6 n).mono B6.out.size))⟩
                  case measure => simp [intOf]; omega
                | false =>
                  go_wp2_with fail
                  go_roundw
                  case rel => exact ⟨j + 1, by go_num, by omega, Lib.hid (B6.out.trans ((below_drewN W6 n).mono B6.out.size))⟩
                  case measure => simp [intOf]; omega
          · have hje : j = fl.length := by omega
            subst hje
            have AW := Lib.hid (fun W => awake_any W)
            go_wp2_with fail
            refine LN.out.mono ?_
            rintro e w3 ⟨rfl, rfl⟩
            go_wp2_with fail
            refine (AW.out _).mono ?_
            rintro e w4 ⟨rfl, hb4⟩
            have HF := Lib.hid (HB.out.trans ((hW2.out.trans (hb4.mono hW2.out.size)).mono HB.out.size))
            clear hb4
            go_wp2
            go_returns
            exact ⟨rfl, HF.out⟩
theorem hurts_big (w : World) (v0 v1 : Value) (bs : List Nat) (hv : Lies w v0 bs) (hlen : 100 < bs.length) (L : List Ac) (hL : Acts w v1 L) :
    Calls Try.prog 4 #[v0, v1] w fun e w' => e = .returned (.bool true) ∧ Below w.heap.size w w' := by
  have AW := Lib.hid (awake_any w)
  obtain ⟨a1, c1, rfl, hLl, _⟩ := hL
  obtain ⟨a0, c0, rfl, hcap, hmx, _⟩ := hv
  unfold maxLen at hmx
  have h100 : (100 : Int) < (bs.length : Int) := by omega
  clear hLl
  go_enter Try.func4, Try.ntmps4
  go_wp2_with fail
  refine AW.out.mono ?_
  rintro e w1 ⟨rfl, hb⟩
  have HB := Lib.hid hb
  clear hb
  go_wp2
  go_returns
  exact ⟨rfl, HB.out⟩
end Go.Proofs.Ytdocfoienbadhaa
