/- hold: part, Get. -/
import Derived.Test.YtgnnpfainoppeaaDoorHG
set_option linter.unusedVariables false
set_option linter.unusedSimpArgs false
set_option maxRecDepth 100000
namespace Go.Proofs.YtgnnpfainoppeaaDoor
open Go.RowKit
open Ve

theorem OLies.sub {w : World} {ao : Option Addr} {cap : Nat} {l : List O} {g k : Nat} (h : OLies w (.slice (some ⟨g, k, none⟩) l.length cap) l) (a b : Nat) (hab : a ≤ b) (hb : b ≤ l.length) (c : Nat) (hc : b - a ≤ c) (hcm : c ≤ maxLen) :
    OLies w (.slice (some ⟨g, k + a * 9, none⟩) (b - a) c) ((l.take b).drop a) := by
  obtain ⟨ao', cap', e, hn, hm, h0, hcs⟩ := h
  injection e with e1 e2 e3
  subst e1 e3
  have hlen : ((l.take b).drop a).length = b - a := by rw [List.length_drop, List.length_take]; omega
  refine ⟨some ⟨g, k + a * 9, none⟩, c, by rw [hlen], by rw [hlen]; exact hc, hcm, (fun h => by cases h), fun bb hbb hne => ?_⟩
  have hne' : l ≠ [] := by rintro rfl; simp at hne
  obtain ⟨g', k', e, hg, hcs⟩ := hcs _ rfl hne'
  injection e with e1 e2
  subst e1 e2
  injection hbb with hbb
  subst hbb
  refine ⟨g, k + a * 9, rfl, hg, fun j p hj i u hu => ?_⟩
  rw [List.getElem?_drop, List.getElem?_take] at hj
  by_cases hlt : a + j < b
  · rw [if_pos hlt] at hj
    have := hcs (a + j) p hj i u hu
    rwa [show k + a * 9 + j * 9 + i = k + (a + j) * 9 + i by omega]
  · rw [if_neg hlt] at hj; cases hj
set_option maxHeartbeats 1600000 in
theorem part_out (w : World) (B b : Nat) (s : HS) (m : Nat) (h : HK w B b s) (g : Gd s.bs s.L m) (r f t : Int) (hr : ¬ (0 ≤ r ∧ r < 64)) :
    Calls Tryd.prog 42 #[pv b, .agg #[.int .i64 r, .int .i64 f, .int .i64 t]] w fun e w' => ∃ v, e = .returned v ∧ OLies w' v (partF s.L r f t) ∧ Below w.heap.size w w' := by
  have X := Lib.hid ((Below.refl w.heap.size w).alloc (Nat.le_refl _) (.cells #[.int .i64 r, .int .i64 f, .int .i64 t] 70))
  have HP := Lib.hid (part_none g r f t hr)
  have hc : r < 0 ∨ (0 ≤ r ∧ 64 ≤ r) := by omega
  clear h g hr
  rcases hc with hc | ⟨hc, hc2⟩
  all_goals
    go_enter Tryd.func42, Tryd.ntmps42
    go_wp2
    go_returns
    exact ⟨_, rfl, by rw [HP.out]; exact OLies.nil _, X.out⟩
theorem slice_mid (g n cap a c : Nat) (h1 : a < c) (h2 : c ≤ cap) : ∀ W, (Instr.sliceAt 34 (.slice (some ⟨g, 0, none⟩) n cap) (some (.int .i64 (a : Int))) (some (.int .i64 (c : Int))) (some (.int .i64 (c : Int)))).run Tryd.prog W = .ok (.slice (some ⟨g, 0 + a * 9, none⟩) (c - a) (c - a)) W := fun W => by
  have h0 : (0 : Int) ≤ (a : Int) := by omega
  have h3 : (0 : Int) ≤ (c : Int) := by omega
  have h4 : (a : Int) ≤ (c : Int) := by omega
  have h5 : (c : Int) ≤ (cap : Int) := by omega
  have h6 : ¬ (c = a) := by omega
  go_simp
set_option maxHeartbeats 3200000 in
theorem part_in (w : World) (B b : Nat) (s : HS) (m : Nat) (h : HK w B b s) (g : Gd s.bs s.L m) (hm : m ≤ 1000) (i : Nat) (hi : i < 64) (f t : Int) :
    Calls Tryd.prog 42 #[pv b, .agg #[.int .i64 (i : Int), .int .i64 f, .int .i64 t]] w fun e w' => ∃ v, e = .returned v ∧ OLies w' v (partF s.L (i : Int) f t) ∧ Below w.heap.size w w' := by
  have X := Lib.hid ((Below.refl w.heap.size w).alloc (Nat.le_refl _) (.cells #[.int .i64 (i : Int), .int .i64 f, .int .i64 t] 70))
  obtain ⟨x, hx⟩ := h.bx i hi
  have H0 := h.step X.out
  have c1 := H0.cb i x hx
  have c2 := H0.cs i hi
  obtain ⟨ao, cap, e⟩ := h.shape i hi
  rw [e] at c2
  have hb := g.bb i x hx
  have hn := g.cnt i hi
  have hxw : wrap64 (x + 1) = x + 1 := by unfold wrap64; omega
  have hxn : wrap64 (x + ((s.L i).length : Int)) = x + ((s.L i).length : Int) := by unfold wrap64; omega
  have PE := Lib.hid (part_empty g i hi x hx f t)
  have PS := Lib.hid (part_some g i hi x hx f t)
  have OL := Lib.hid (show OLies _ _ _ from H0.olies i hi)
  rw [e] at OL
  have RO := Lib.hid (H0.rows i hi)
  rw [e] at RO
  have hi0 : (0 : Int) ≤ (i : Int) ∧ (i : Int) < 64 := by omega
  obtain ⟨hi0, hi1⟩ := hi0
  have DN := Lib.hid (fun (W : World) (v : Value) (l : List O) (n : Nat) (h : OLies W v l) => h.step (Wi.below_drewN W n))
  obtain ⟨n, hnn⟩ : ∃ n, (s.L i).length = n := ⟨_, rfl⟩
  rw [hnn] at hxn PE PS OL c2 hn RO
  by_cases hlt : min t (x + (n : Int)) < max f (x + 1)
  · have HP := Lib.hid (PE.out hlt)
    clear H0 h g hx PE PS OL e RO hnn
    go_enter Tryd.func42, Tryd.ntmps42
    go_wp2
    go_quiet (fail)
    go_wp2
    go_region
    go_wp2
    go_returns
    exact ⟨_, rfl, by rw [HP.out]; exact OLies.nil _, X.out.trans ((Wi.below_drewN _ _).mono X.out.size)⟩
  · obtain ⟨a, ha⟩ : ∃ a : Nat, max f (x + 1) = x + 1 + (a : Int) := ⟨(max f (x + 1) - (x + 1)).toNat, by omega⟩
    obtain ⟨c, hc⟩ : ∃ c : Nat, min t (x + (n : Int)) = x + (c : Int) := ⟨(min t (x + (n : Int)) - x).toNat, by omega⟩
    have hac : a < c := by omega
    obtain ⟨hp, hcn⟩ := PS.out a c ha hc hac
    have HP := Lib.hid hp
    have HCN := Lib.hid (show c ≤ n from by omega)
    obtain ⟨gb, hao, hcap⟩ : ∃ gb, ao = some ⟨gb, 0, none⟩ ∧ n ≤ cap ∧ cap ≤ maxLen := by
      rcases RO.out.2 with ⟨e1, hn0⟩ | ⟨gb, cap', cur, e1, _, _, e2, e3, _⟩
      · omega
      · injection e1 with e1 e4 e5
        subst e5
        exact ⟨gb, e1, by omega, e3⟩
    subst hao
    have OF := Lib.hid (fun W (h : OLies W (.slice (some ⟨gb, 0, none⟩) (s.L i).length cap) (s.L i)) => show OLies W (.slice (some ⟨gb, a * 9, none⟩) (c - a) (c - a)) _ from by
      have := h.sub (ao := none) a c (by omega) (by omega) (c - a) (Nat.le_refl _) (by omega)
      rwa [Nat.zero_add] at this)
    obtain ⟨M, hM⟩ : ∃ M, max f (x + 1) = M := ⟨_, rfl⟩
    obtain ⟨N, hN⟩ : ∃ N, min t (x + (n : Int)) = N := ⟨_, rfl⟩
    have hge : ¬ (N < M) := by omega
    have s1 : wrap64 (M - x) = M - x := by unfold wrap64; omega
    have s2 : wrap64 (M - x - 1) = M - x - 1 := by unfold wrap64; omega
    have s3 : wrap64 (N - x) = N - x := by unfold wrap64; omega
    have SL := slice_mid gb n cap a c hac (by omega)
    rw [show (a : Int) = M - x - 1 by omega, show (c : Int) = N - x by omega, Nat.zero_add] at SL
    clear ha hc
    rw [← hnn] at OL
    have HNN := Lib.hid hnn
    clear H0 h g hx PE PS e RO hnn hp hcn hlt hcap
    go_enter Tryd.func42, Tryd.ntmps42
    go_wp2
    go_quiet (fail)
    go_wp2
    go_region
    go_wp2
    go_returns
    refine ⟨_, rfl, ?_, X.out.trans ((Wi.below_drewN _ _).mono X.out.size)⟩
    rw [HP.out]
    exact OF.out _ (OL.out.step (Wi.below_drewN _ _))
theorem part_any (w : World) (B b : Nat) (s : HS) (m : Nat) (h : HK w B b s) (g : Gd s.bs s.L m) (hm : m ≤ 1000) (r f t : Int) :
    Calls Tryd.prog 42 #[pv b, .agg #[.int .i64 r, .int .i64 f, .int .i64 t]] w fun e w' => ∃ v, e = .returned v ∧ OLies w' v (partF s.L r f t) ∧ Below w.heap.size w w' := by
  by_cases hr : 0 ≤ r ∧ r < 64
  · obtain ⟨i, rfl⟩ : ∃ i : Nat, r = (i : Int) := ⟨r.toNat, by omega⟩
    exact part_in w B b s m h g hm i (by omega) f t
  · exact part_out w B b s m h g r f t hr
def firstO : List O → O
  | [] => O0
  | o :: _ => o
/-- What Get answers. -/
def getO (L : Nat → List O) (r q : Int) : Value := .tuple #[oV (firstO (partF L r q q)), .bool (!(partF L r q q).isEmpty)]
set_option maxHeartbeats 1600000 in
theorem get_any (w : World) (B b : Nat) (s : HS) (m : Nat) (h : HK w B b s) (g : Gd s.bs s.L m) (hm : m ≤ 1000) (r q : Int) : Calls Tryd.prog 17 #[pv b, .int .i64 r, .int .i64 q] w fun e w' => e = .returned (getO s.L r q) ∧ Below w.heap.size w w' := by
  have X := Lib.hid ((Below.refl w.heap.size w).alloc (Nat.le_refl _) (.cells (oCells O0) 40))
  have P := Lib.hid (part_any (w.alloc (.cells (oCells O0) 40)) B b s m (h.step X.out) g hm r q q)
  have RW := Lib.hid (heap_alloc_new w (.cells (oCells O0) 40))
  have SZ := Lib.hid (show (w.alloc (.cells (oCells O0) 40)).heap.size = w.heap.size + 1 by simp)
  have ST := Lib.hid (fun W o (h : W.heap[w.heap.size]? = some (.cells (oCells O0) 40 (0, 0))) => store_o W w.heap.size O0 o h)
  unfold getO
  clear h g
  generalize partF s.L r q q = l at *
  go_enter Tryd.func17, Tryd.ntmps17
  go_wp2_with fail
  refine P.out.mono ?_
  rintro e w1 ⟨v, rfl, hv, h1⟩
  have X1 := Lib.hid (X.out.trans (h1.mono (by have := SZ.out; exact Nat.le_trans (Nat.le_succ _) (Nat.le_of_eq this.symm))))
  have R1 := Lib.hid ((h1.block w.heap.size (by have := SZ.out; exact Nat.lt_of_lt_of_eq (Nat.lt_succ_self _) this.symm)).trans RW.out)
  have V := Lib.hid hv
  obtain ⟨ao, cap, rfl⟩ := hv.shape
  clear h1 hv P
  cases l with
  | nil =>
    have S1 := Lib.hid (ST.out w1 O0 R1.out)
    have R2 := Lib.hid (setRow_heap _ _ _ (oCells O0) _ _ R1.out)
    have X2 := Lib.hid (below_setRow X1.out (g := w.heap.size) (Nat.le_refl _) (oCells O0))
    have d0 := (cell_of_row _ _ 0 _ _ _ R2.out).trans (show (oCells O0)[0]? = some (.int .i64 0) from rfl)
    have d1 := (cell_of_row _ _ 1 _ _ _ R2.out).trans (show (oCells O0)[1]? = some (.int .i64 0) from rfl)
    have d2 := (cell_of_row _ _ 2 _ _ _ R2.out).trans (show (oCells O0)[2]? = some (.int .i64 0) from rfl)
    have d3 := (cell_of_row _ _ 3 _ _ _ R2.out).trans (show (oCells O0)[3]? = some (.int .i64 0) from rfl)
    have d4 := (cell_of_row _ _ 4 _ _ _ R2.out).trans (show (oCells O0)[4]? = some (.int .i64 0) from rfl)
    have d5 := (cell_of_row _ _ 5 _ _ _ R2.out).trans (show (oCells O0)[5]? = some (.int .i64 0) from rfl)
    have d6 := (cell_of_row _ _ 6 _ _ _ R2.out).trans (show (oCells O0)[6]? = some (.int .i64 0) from rfl)
    have d7 := (cell_of_row _ _ 7 _ _ _ R2.out).trans (show (oCells O0)[7]? = some (.string ⟨#[]⟩) from rfl)
    have d8 := (cell_of_row _ _ 8 _ _ _ R2.out).trans (show (oCells O0)[8]? = some (.bool false) from rfl)
    go_wp2_with (first | refine wpList_store_arr rfl (.tmp 6) (.tmp 18) 40 rfl _ _ rfl rfl _ S1.out ?_ | refine bodyPost_ret (by simp [results, Tryd.results17, go_sem, d0, d1, d2, d3, d4, d5, d6, d7, d8]; try rfl) rfl ⟨rfl, X2.out⟩)
  | cons o l =>
    have S1 := Lib.hid (ST.out w1 o R1.out)
    have R2 := Lib.hid (setRow_heap _ _ _ (oCells o) _ _ R1.out)
    have X2 := Lib.hid (below_setRow X1.out (g := w.heap.size) (Nat.le_refl _) (oCells o))
    obtain ⟨k, off, o', rfl, ho, hk, e0, e1, e2, e3, e4, e5, e6, e7, e8⟩ := V.out.at' (i := 0) (Nat.succ_pos _)
    have ho : o = o' := by simpa using ho
    subst ho
    simp only [Nat.zero_mul, Nat.add_zero] at e0 e1 e2 e3 e4 e5 e6 e7 e8
    have d0 := (cell_of_row _ _ 0 _ _ _ R2.out).trans (show (oCells o)[0]? = some (.int .i64 o.t) from rfl)
    have d1 := (cell_of_row _ _ 1 _ _ _ R2.out).trans (show (oCells o)[1]? = some (.int .i64 o.r) from rfl)
    have d2 := (cell_of_row _ _ 2 _ _ _ R2.out).trans (show (oCells o)[2]? = some (.int .i64 o.q) from rfl)
    have d3 := (cell_of_row _ _ 3 _ _ _ R2.out).trans (show (oCells o)[3]? = some (.int .i64 o.nt) from rfl)
    have d4 := (cell_of_row _ _ 4 _ _ _ R2.out).trans (show (oCells o)[4]? = some (.int .i64 o.nr) from rfl)
    have d5 := (cell_of_row _ _ 5 _ _ _ R2.out).trans (show (oCells o)[5]? = some (.int .i64 o.pt) from rfl)
    have d6 := (cell_of_row _ _ 6 _ _ _ R2.out).trans (show (oCells o)[6]? = some (.int .i64 o.pr) from rfl)
    have d7 := (cell_of_row _ _ 7 _ _ _ R2.out).trans (show (oCells o)[7]? = some (.string o.nm) from rfl)
    have d8 := (cell_of_row _ _ 8 _ _ _ R2.out).trans (show (oCells o)[8]? = some (.bool o.d) from rfl)
    have hl0 : ((o :: l).length : Int) ≠ 0 := by rw [List.length_cons]; omega
    have hl1 := bneb_ ((o :: l).length : Int) 0 hl0
    have hl2 : (0 : Int) < ((o :: l).length : Int) := by rw [List.length_cons]; omega
    clear hl0
    generalize (o :: l).length = n at *
    go_wp2_with (first | refine wpList_store_arr rfl (.tmp 6) (.tmp 21) 40 rfl _ (oV o) rfl rfl _ S1.out ?_ | refine bodyPost_ret (by simp [results, Tryd.results17, go_sem, d0, d1, d2, d3, d4, d5, d6, d7, d8]; try rfl) rfl ⟨rfl, X2.out⟩)
end Go.Proofs.YtgnnpfainoppeaaDoor
