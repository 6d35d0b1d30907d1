/- The chapter's example. -/
import Derived.Test.YtgnnpfainoppeaaDoorHP
set_option linter.unusedVariables false
set_option linter.unusedSimpArgs false
set_option maxRecDepth 100000
namespace Go.Proofs.YtgnnpfainoppeaaDoor
open Go.RowKit
open Ve (zs zs_len textF RightP sumW vw va)

/-- A slice's block is none of the hold's. -/
def Apart (b : Nat) (s : HS) (v : Value) : Prop := ∀ k, v.ownBlock = some k → ¬ HasH b s k
theorem Apart.out {B b : Nat} {s t : HS} {w w' : World} {v : Value} (h : Apart b s v) (ho : HOut B b s t w w') (hl : ∀ k, v.ownBlock = some k → k < w.heap.size) : Apart b t v := fun k hk q => by
  rcases ho.sub k q with q | q
  · exact h k hk q
  · have := hl k hk; omega
theorem info30 : (Tryd.prog.info? 30).map (fun i => (i.zero, i.size, i.bytes)) = some (some (.int .i64 0), 1, 8) := by kernel_rfl
theorem u73 : Tryd.prog.underlying 73 = some (.slice 30) := by kernel_rfl
theorem src_e (w : World) (p : Int) : Src Tryd.prog 1 73 (.slice (some ⟨w.heap.size, 0, none⟩) 1 1) 1 [.int .i64 p] (w.alloc (.cells #[.int .i64 p] 30)) := by
  have hg := heap_alloc_new w (.cells #[.int .i64 p] 30)
  refine Src.ofSlice _ u73 _ _ _ _ rfl ?_ (fun u hu => by rw [List.mem_singleton.1 hu]; rfl)
  intro j u hj
  rw [add_addr, Nat.zero_add, cell_of_row _ _ _ _ _ _ hg]
  match j, hj with
  | 0, hj => injection hj with hj; subst hj; rfl
  | j + 1, hj => simp at hj
/-- What stands in the example's loop. -/
structure EX (W0 w : World) (b : Nat) (bs : List Int) (L : Nat → List O) (v : Value) (xs : List Value) : Prop where
  bel : Below W0.heap.size W0 w
  hold : ∃ s, HK w W0.heap.size b s ∧ s.md = true ∧ s.bs = bs ∧ s.L = L ∧ Apart b s v
  row : w.ownsRow W0.heap.size 30 1 v xs.length xs
theorem EX.put {W0 w : World} {b : Nat} {bs : List Int} {L : Nat → List O} {v : Value} {xs : List Value} (h : EX W0 w b bs L v xs) (m : Nat) (g : Gd bs L m) (hm : m ≤ 999) (o : O) (hz : o.nm.size ≤ 1000000) :
    Calls Tryd.prog 13 #[pv b, oV o] w fun e w' => e = .returned (.int .i64 (putI bs L o)) ∧ EX W0 w' b bs (putL bs L o) v xs := by
  obtain ⟨hb, ⟨s, h1, h2, rfl, rfl, h3⟩, hr⟩ := h
  refine (put_any w W0.heap.size b s m h1 h2 g hm hb.size o hz).mono ?_
  rintro e w' ⟨t, rfl, ho, h4, h5, h6⟩
  have hlt := own_lt hr
  exact ⟨rfl, hb.trans (ho.below h1 hb.size), ⟨t, ho.hk, h4, h5, h6, h3.out ho (fun k hk => (hlt k hk).2)⟩, ho.far.row hr (fun j e => h3 j e)⟩
theorem EX.step {W0 w w' : World} {b : Nat} {bs : List Int} {L : Nat → List O} {v : Value} {xs : List Value} (h : EX W0 w b bs L v xs) (hb : Below w.heap.size w w') : EX W0 w' b bs L v xs := by
  obtain ⟨h0, ⟨s, h1, h2, h3, h4, h5⟩, hr⟩ := h
  exact ⟨h0.trans (hb.mono h0.size), ⟨s, h1.step hb, h2, h3, h4, h5⟩, (Far.of_below (P := fun _ => False) hb).row hr (fun _ _ q => q)⟩
theorem EX.push {W0 w w' : World} {b : Nat} {bs : List Int} {L : Nat → List O} {v v' : Value} {xs ys : List Value} (h : EX W0 w b bs L v xs) (n : Nat) (hn : ys.length = n) (hr : w'.ownsRow W0.heap.size 30 1 v' n ys) (hg : w.grownBy w' v.ownBlock) (hs : Wi.Sprung w v v') : EX W0 w' b bs L v' ys := by
  subst hn
  obtain ⟨h0, ⟨s, h1, h2, h3, h4, h5⟩, ho⟩ := h
  have hf : Far (fun k => v.ownBlock = some k) w w' := Far.of_grown hg (fun k e => e)
  refine ⟨h0.trans (hf.below h0.size (fun k q => (own_lt ho k q).1)), ⟨s, h1.still hf (fun k q e => h5 k e q), h2, h3, h4, fun k hk q => ?_⟩, hr⟩
  rcases hs with e | ⟨j, e, hj⟩
  · exact h5 k (by rw [← e]; exact hk) q
  · rw [e] at hk
    injection hk with hk
    have := (h1.base k q).2
    omega
theorem EX.cells {W0 w : World} {b : Nat} {bs : List Int} {L : Nat → List O} {v : Value} {xs : List Value} (h : EX W0 w b bs L v xs) (hne : 0 < xs.length) : ∃ g cap, v = .slice (some ⟨g, 0, none⟩) xs.length cap ∧ ∀ (j : Nat) u, xs[j]? = some u → w.cell? ⟨g, j, none⟩ = some u := by
  rcases h.row.2 with ⟨e, hn⟩ | ⟨g, cap, cur, e, _, hb, h1, h2, h3, h4⟩
  · omega
  · refine ⟨g, cap, e, fun j u hj => ?_⟩
    have := h.row.cells (g := g) (by rw [e]; rfl) j u hj
    rwa [add_addr, Nat.zero_add] at this
theorem exv (n : Int) : oV (exO n) = .agg #[.int .i64 n, .int .i64 0, .int .i64 n, .int .i64 n, .int .i64 0, .int .i64 0, .int .i64 0, .string ⟨#[97]⟩, .bool false] := rfl
set_option maxHeartbeats 3200000 in
theorem awake_any (w : World) (ht : Tab w) : Calls Tryd.prog 8 #[] w fun e w' => e = .returned (.bool true) ∧ Below w.heap.size w w' := by
  obtain ⟨i0, hi0, hz0, hz1, hz2⟩ := Ve.info_parts info30
  have BZ := Lib.hid (fun W => build_va W)
  have NW := Lib.hid (new_ok w zs zs_len right_zs)
  have HT := Lib.hid ht
  have HU := Lib.hid (show vw zs = .agg (va zs) from rfl)
  rw [HU.out] at NW
  have ST := Lib.hid (fun (w' : World) b (h1 : HK w' w.heap.size b (hs0 true zs)) (h2 : Below w.heap.size w w') => (⟨h2, ⟨hs0 true zs, h1, rfl, rfl, rfl, fun k hk => by cases hk⟩, World.ownsRow_nil _ _ _ _⟩ : EX w w' b zs nilL (.slice none 0 0) []))
  have KW := Lib.hid (fun (W : World) B b s (h : HK W B b s) (e1 : s.bs = zs) (e2 : s.L = exL2) => (show Calls Tryd.prog 24 #[pv b] W fun e w' => e = .returned (vw (kn zs exL2)) ∧ Below W.heap.size W w' from by
    have := known_any W B b s 2 h (by rw [e1, e2]; exact gd_ex2) (by omega); rwa [e1, e2] at this))
  have LW := Lib.hid (fun (W : World) B b s (h : HK W B b s) (e1 : s.bs = zs) (e2 : s.L = exL2) => (show Calls Tryd.prog 27 #[pv b] W fun e w' => e = .returned (.int .i64 2) ∧ Below W.heap.size W w' from by
    have := len_any W B b s 2 h (by rw [e1, e2]; exact gd_ex2) (by omega); rwa [e1, e2, ex_len] at this))
  have TW := Lib.hid (fun (W : World) B b s (h : HK W B b s) (e1 : s.bs = zs) (e2 : s.L = exL2) => (show Calls Tryd.prog 28 #[pv b] W fun e w' => e = .returned (.int .i64 2) ∧ W = w' from by
    have := time_any W B b s 2 h (by rw [e1, e2]; exact gd_ex2) (by omega); rwa [e2, ex_time] at this))
  have XW := Lib.hid (fun (W : World) (h : Tab W) => (show Calls Tryd.prog 30 #[vw (kn zs exL2)] W fun e w' => e = .returned (.string ⟨#[48, 58, 50]⟩) ∧ Below W.heap.size W w' from by
    have := Ve.text_any W (kn zs exL2) (kn_len _ _) (fun j x hx => by
      have hj : j < 64 := by have := (List.getElem?_eq_some_iff.1 hx).1; rwa [kn_len] at this
      have h0 := kn_get zs exL2 j hj 0 (by unfold zs; rw [List.getElem?_replicate, if_pos hj])
      rw [hx] at h0
      have := gd_ex2.cnt j hj
      injection h0 with h0
      omega) h; rwa [ex_text] at this))
  obtain ⟨KZ, hKZ⟩ : ∃ KZ, vw (kn zs exL2) = KZ := ⟨_, rfl⟩
  rw [hKZ] at KW XW
  clear hKZ ht HU
  generalize va zs = V at *
  go_enter Tryd.func8, Tryd.ntmps8
  go_wp2_with (first | refine wpList_build_arr rfl 27 rfl _ (BZ.out _) ?_)
  refine NW.out.mono ?_
  rintro e w1 ⟨b, rfl, h1, h2⟩
  have E1 := Lib.hid (ST.out w1 b h1 h2)
  clear h1 h2 NW ST
  go_wp2
  refine wp_loop_rounds 4 ?_
  rw [rounds_succ]
  have P1 := Lib.hid (show Calls Tryd.prog 13 #[pv b, oV (exO 1)] w1 fun e w' => e = .returned (.int .i64 0) ∧ EX w w' b zs exL1 (.slice none 0 0) [] from by
    have := E1.out.put 0 (gd_nil zs_len right_zs) (by omega) (exO 1) (by decide); rwa [ex1.1, ex1.2] at this)
  rw [exv] at P1
  go_wp2_with fail
  refine P1.out.mono ?_
  rintro e u1 ⟨rfl, h1⟩
  have A1 := Lib.hid (h1.step (vstep u1 (.cells #[.int .i64 0] 30)))
  clear h1 P1
  go_wp2_with (at_builtin; refine Wi.wpList_append_src_own rfl (.tmp 22) (.tmp 31) 73 73 rfl w.heap.size 30 i0 (.int .i64 0) 1 8 u73 hi0 hz0 hz1 hz2 rfl (by decide) (.slice none 0 0) 0 [] rfl A1.out.row _ 1 [.int .i64 0] rfl (src_e u1 0) (by decide) (by decide) (A1.out.bel.size) ?_; intro v1 w2 hown hgr hspr)
  have E2 := Lib.hid (A1.out.push 1 rfl hown hgr hspr)
  obtain ⟨a1, c1, rfl⟩ := Ve.own_shape hown
  clear hown hgr hspr A1 E1
  rw [rounds_succ]
  have P2 := Lib.hid (show Calls Tryd.prog 13 #[pv b, oV (exO 2)] w2 fun e w' => e = .returned (.int .i64 0) ∧ EX w w' b zs exL2 (.slice a1 1 c1) [.int .i64 0] from by
    have := E2.out.put 1 gd_ex1 (by omega) (exO 2) (by decide); rwa [ex2.1, ex2.2] at this)
  rw [exv] at P2
  go_wp2_with fail
  refine P2.out.mono ?_
  rintro e u2 ⟨rfl, h1⟩
  have A2 := Lib.hid (h1.step (vstep u2 (.cells #[.int .i64 0] 30)))
  clear h1 P2
  go_wp2_with (at_builtin; refine Wi.wpList_append_src_own rfl (.tmp 22) (.tmp 31) 73 73 rfl w.heap.size 30 i0 (.int .i64 0) 1 8 u73 hi0 hz0 hz1 hz2 rfl (by decide) (.slice a1 1 c1) 1 [.int .i64 0] rfl A2.out.row _ 1 [.int .i64 0] rfl (src_e u2 0) (by decide) (by decide) (A2.out.bel.size) ?_; intro v2 w3 hown hgr hspr)
  have E3 := Lib.hid (A2.out.push 2 rfl hown hgr hspr)
  obtain ⟨a2, c2, rfl⟩ := Ve.own_shape hown
  clear hown hgr hspr A2 E2
  rw [rounds_succ]
  have P3 := Lib.hid (show Calls Tryd.prog 13 #[pv b, oV (exO 4)] w3 fun e w' => e = .returned (.int .i64 10) ∧ EX w w' b zs exL2 (.slice a2 2 c2) [.int .i64 0, .int .i64 0] from by
    have := E3.out.put 2 gd_ex2 (by omega) (exO 4) (by decide); rwa [ex3.1, ex3.2] at this)
  rw [exv] at P3
  go_wp2_with fail
  refine P3.out.mono ?_
  rintro e u3 ⟨rfl, h1⟩
  have A3 := Lib.hid (h1.step (vstep u3 (.cells #[.int .i64 10] 30)))
  clear h1 P3
  go_wp2_with (at_builtin; refine Wi.wpList_append_src_own rfl (.tmp 22) (.tmp 31) 73 73 rfl w.heap.size 30 i0 (.int .i64 0) 1 8 u73 hi0 hz0 hz1 hz2 rfl (by decide) (.slice a2 2 c2) 2 [.int .i64 0, .int .i64 0] rfl A3.out.row _ 1 [.int .i64 10] rfl (src_e u3 10) (by decide) (by decide) (A3.out.bel.size) ?_; intro v3 w4 hown hgr hspr)
  have E4 := Lib.hid (A3.out.push 3 rfl hown hgr hspr)
  obtain ⟨a3, c3, rfl⟩ := Ve.own_shape hown
  clear hown hgr hspr A3 E3
  rw [rounds_succ]
  obtain ⟨gb, cap, hv, hc⟩ := E4.out.cells (by decide)
  have d0 := hc 0 _ rfl
  have d1 := hc 1 _ rfl
  have d2 := hc 2 _ rfl
  obtain ⟨h0, ⟨s, h1, h2, h3, h4, h5⟩, hr⟩ := E4.out
  have X0 := Lib.hid h0
  have K0 := Lib.hid h1
  injection hv with hv1 hv2 hv3
  subst hv1 hv3
  clear hc h0 h1 h2 h5 hr hv2
  have hq0 := beqb_ (0 : Int) 0 rfl
  go_wp2_with fail
  refine (LW.out _ _ _ _ K0.out h3 h4).mono ?_
  rintro e x1 ⟨rfl, hb⟩
  have X1 := Lib.hid (X0.out.trans (hb.mono X0.out.size))
  have K1 := Lib.hid (K0.out.step hb)
  clear hb
  go_wp2_with fail
  refine (TW.out _ _ _ _ K1.out h3 h4).mono ?_
  rintro e x2 ⟨rfl, rfl⟩
  go_wp2_with fail
  refine (KW.out _ _ _ _ K1.out h3 h4).mono ?_
  rintro e x3 ⟨rfl, hb⟩
  have X3 := Lib.hid (X1.out.trans (hb.mono X1.out.size))
  clear hb
  go_wp2_with fail
  refine (XW.out _ (Ve.tab_later HT.out X3.out)).mono ?_
  rintro e x4 ⟨rfl, hb⟩
  have X4 := Lib.hid (X3.out.trans (hb.mono X3.out.size))
  clear hb
  go_wp2
  go_returns
  exact ⟨rfl, X4.out⟩
end Go.Proofs.YtgnnpfainoppeaaDoor
