/- fold.has, Vec. Made by genfg15.py. -/
import Derived.Test.YtbeodechhneeeaaGreatDoorFE
set_option linter.unusedVariables false
set_option linter.unusedSimpArgs false
set_option maxRecDepth 100000
namespace Go.Proofs.YtbeodechhneeeaaGreatDoor
open Go.RowKit Go.Shelf
open Tb (Rw setF getF aboveF Rise TabI TM LiesK LiesR ltS encS Sp)
open Vx (va vw zs zs_len va_len va_size cell_va set_va alloc_va load_va store_va z24 v24)

/-! ### plain -/
def numB (S : List O) (rep n : Int) : Bool := S.any (fun o => decide (o.r = rep ∧ o.q = n))
noncomputable def numF (S : List O) : Mn.PF := fun rep n => if numB S rep n = true then some E0 else none
theorem num_look (S : List O) (a b : Int) : (numF S a b).getD E0 = E0 ∧ (numF S a b).isSome = numB S a b := by
  unfold numF
  cases numB S a b <;> exact ⟨rfl, rfl⟩
theorem num_put (u : List O) (x : O) : Mn.upd (numF u) x.r x.q E0 = numF (u ++ [x]) := by
  funext a c
  unfold Mn.upd numF numB
  rw [List.any_append]
  show _ = if (_ || (decide (x.r = a ∧ x.q = c) || false)) = true then _ else _
  by_cases h : a = x.r ∧ c = x.q
  · rw [if_pos h, decide_eq_true (show x.r = a ∧ x.q = c from ⟨h.1.symm, h.2.symm⟩)]
    simp
  · rw [if_neg h, decide_eq_false (show ¬ (x.r = a ∧ x.q = c) from fun e => h ⟨e.1.symm, e.2.symm⟩)]
    simp
theorem num_iff {S : List O} {a b : Int} : numB S a b = true ↔ ∃ o ∈ S, o.r = a ∧ o.q = b := by
  unfold numB
  rw [List.any_eq_true]
  constructor
  · rintro ⟨o, h1, h2⟩; exact ⟨o, h1, of_decide_eq_true h2⟩
  · rintro ⟨o, h1, h2⟩; exact ⟨o, h1, decide_eq_true h2⟩
theorem num_le (j : Int) : ∀ (n : Nat) (S : List O), (∀ m : Nat, 1 ≤ m → m ≤ n → numB S j (m : Int) = true) → n ≤ S.length
  | 0, _, _ => Nat.zero_le _
  | n + 1, S, h => by
    obtain ⟨o, ho, h1, h2⟩ := num_iff.1 (h (n + 1) (by omega) (Nat.le_refl _))
    have hlt : (S.filter (fun o => decide (o.q ≠ ((n + 1 : Nat) : Int)))).length < S.length := by
      rw [List.length_filter_lt_length_iff_exists]
      exact ⟨o, ho, by simp [h2]⟩
    have := num_le j n (S.filter (fun o => decide (o.q ≠ ((n + 1 : Nat) : Int)))) (fun m m1 m2 => by
      obtain ⟨a, a1, a2, a3⟩ := num_iff.1 (h m m1 (by omega))
      exact num_iff.2 ⟨a, List.mem_filter.2 ⟨a1, by simp [a3]; omega⟩, a2, a3⟩)
    omega
def upN (S : List O) (j : Int) : Nat → Nat → Nat
  | 0, n => n
  | k + 1, n => if numB S j ((n : Int) + 1) = true then upN S j k (n + 1) else n
/-- How much of a replica's ops is there without a gap. -/
def vecN (S : List O) (j : Int) : Nat := upN S j (S.length + 1) 0
theorem up_is {S : List O} {j : Int} {n' : Nat} (h2 : numB S j ((n' : Int) + 1) = false) : ∀ (k n : Nat), (∀ m : Nat, n < m → m ≤ n' → numB S j (m : Int) = true) → n ≤ n' → n' < n + k → upN S j k n = n'
  | 0, n, _, h3, h4 => by omega
  | k + 1, n, h1, h3, h4 => by
    show (if numB S j ((n : Int) + 1) = true then upN S j k (n + 1) else n) = n'
    rcases Nat.lt_or_ge n n' with hlt | hge
    · have := h1 (n + 1) (by omega) (by omega)
      rw [show ((n + 1 : Nat) : Int) = (n : Int) + 1 from by omega] at this
      rw [if_pos this]
      exact up_is h2 k (n + 1) (fun m m1 m2 => h1 m (by omega) m2) (by omega) (by omega)
    · have : n = n' := by omega
      subst this
      rw [if_neg (by rw [h2]; simp)]
theorem vec_is {S : List O} {j : Int} {n : Nat} (h1 : ∀ m : Nat, 1 ≤ m → m ≤ n → numB S j (m : Int) = true) (h2 : numB S j ((n : Int) + 1) = false) : vecN S j = n :=
  up_is h2 _ 0 (fun m m1 m2 => h1 m (by omega) m2) (Nat.zero_le _) (by have := num_le j n S h1; omega)
def vecO (S : List O) : List Int := (List.range 64).map (fun (j : Nat) => ((vecN S (j : Int) : Nat) : Int))
theorem vecO_len (S : List O) : (vecO S).length = 64 := by unfold vecO; simp
theorem vecO_at (S : List O) {j : Nat} (h : j < 64) : (vecO S)[j]? = some (vecN S (j : Int) : Int) := by
  unfold vecO
  rw [List.getElem?_map, List.getElem?_range h]
  rfl
/-! ### has -/
theorem und59 : Tryz.prog.underlying 88 = some (.map 90 78) := by kernel_rfl
set_option maxHeartbeats 1600000 in
theorem fhas_any (w : World) (mb n : Nat) (SS : List O) (h : Ms.RR = Ms.RR) (hm : Mn.FM E0 w mb n (numF SS)) (a b : Int) (ha : Tb.I64 a) (hb : Tb.I64 b) :
    Calls Tryz.prog 52 #[.map (some mb), .agg #[.int .i64 a, .int .i64 b]] w fun e w' => e = .returned (.bool (numB SS a b)) ∧ Below w.heap.size w w' := by
  have B1 := pl_vstep w (.cells #[.int .i64 a, .int .i64 b] 90)
  have N1 := heap_alloc_new w (.cells #[.int .i64 a, .int .i64 b] 90)
  have LK := (hm.step B1).look und59 zero54 ha hb
  rw [(num_look SS a b).1, (num_look SS a b).2] at LK
  obtain ⟨w0, hw0⟩ : ∃ z, w.alloc (.cells #[.int .i64 a, .int .i64 b] 90) = z := ⟨_, rfl⟩
  rw [hw0] at B1 N1 LK
  have HW := Lib.hid hw0
  have LK := Lib.hid LK
  have c0 : w0.cell? ⟨w.heap.size, 0, none⟩ = some (.int .i64 a) := by rw [cell_of_row _ _ _ _ _ _ N1]; rfl
  have c1 : w0.cell? ⟨w.heap.size, 1, none⟩ = some (.int .i64 b) := by rw [cell_of_row _ _ _ _ _ _ N1]; rfl
  have FB := Lib.hid (B1.trans ((pl_vstep w0 (.cells #[] 78)).mono B1.size))
  clear hw0 B1 N1 hm h
  go_enter Tryz.func52, Tryz.ntmps52
  go_upto_region 1 with (fail)
  rw [HW.out]
  go_wp2_with (first
    | (refine wpList_look rfl (.tmp 8) (.tmp 9) 88 rfl (.map (some mb)) (.agg #[.int .i64 a, .int .i64 b]) (.tuple #[E0, .bool (numB SS a b)]) rfl rfl LK.out ?_)
    | (refine wpList_alc rfl 78 rfl (.pointer (some ⟨w0.heap.size, 0, none⟩)) (w0.alloc (.cells #[] 78)) (alc54 w0) ?_)
    | (refine wpList_sto rfl (.tmp 5) (.tmp 11) 78 rfl (.pointer (some ⟨w0.heap.size, 0, none⟩)) E0 rfl rfl (w0.alloc (.cells #[] 78)) (sto54 _ E0 _) ?_))
  go_returns
  exact ⟨rfl, FB.out⟩
theorem lies_map {W W' : World} {v : Value} {l : List O} {mb : Nat} (h : OLies W v l) (hg : W.grownBy W' (some mb)) (hm : ∀ {c : Array Value} {T : TypeId} {q : Nat × Nat}, W.heap[mb]? ≠ some (.cells c T q)) : OLies W' v l := by
  obtain ⟨ao, cap, rfl, hn, hx, h0, hc⟩ := h
  refine ⟨ao, cap, rfl, hn, hx, h0, fun b hbb hne => ?_⟩
  obtain ⟨g, k, rfl, hk, hc⟩ := hc b hbb hne
  have hgm : g ≠ mb := by
    intro e
    subst e
    cases l with
    | nil => exact hne rfl
    | cons p l =>
      have h4 := hc 0 p rfl 0 _ rfl
      unfold World.cell? at h4
      cases hq : W.heap[g]? with
      | none => simp [hq] at h4
      | some ob =>
        cases ob with
        | cells c T q => exact hm hq
        | _ => simp [hq] at h4
  exact ⟨g, k, rfl, Nat.lt_of_lt_of_le hk hg.size, fun j p hj i u hi => (World.cell?_of_block (hg.block g hk (fun e => hgm (by injection e)))).trans (hc j p hj i u hi)⟩
/-! ### Vec -/
structure VMI (w W : World) (mb n : Nat) (u : List O) : Prop where
  bel : Below w.heap.size w W
  res : W.heap[w.heap.size]? = some (.cells (va zs) 52 (0, 0))
  map : Mn.FM E0 W mb n (numF u)
  hmb : w.heap.size < mb
theorem VMI.step {w W W' : World} {mb n : Nat} {u : List O} (h : VMI w W mb n u) (hb : Below W.heap.size W W') : VMI w W' mb n u := ⟨h.bel.trans (hb.mono h.bel.size), (hb.block _ (pl_lt h.res)).trans h.res, h.map.step hb, h.hmb⟩
theorem VMI.put {w W : World} {mb n : Nat} {u : List O} (h : VMI w W mb n u) (x : O) (hx : OkO x) (hn : n < 100000) :
    ∃ W', (Instr.mapUpdate 88 (.map (some mb)) (.agg #[.int .i64 x.r, .int .i64 x.q]) E0).run Tryz.prog W = .ok () W' ∧ VMI w W' mb (n + 1) (u ++ [x]) := by
  obtain ⟨W', h1, h2, h3⟩ := h.map.put und59 (by unfold maxLen; omega) hx.r hx.q E0
  rw [num_put] at h2
  exact ⟨W', h1, h.bel.grown h3 h.bel.size (fun k e => by injection e with e; have := h.hmb; omega), (h3.block _ (pl_lt h.res) (fun e => by injection e with e; have := h.hmb; omega)).trans h.res, h2, h.hmb⟩
/-- Vec's second part: the vector's box. -/
structure VBI (w W : World) (mb n vb : Nat) (u : List O) (cur : List Int) : Prop where
  base : VMI w W mb n u
  box : W.heap[vb]? = some (.cells (va cur) 52 (0, 0))
  hv : w.heap.size < vb
  len : cur.length = 64
theorem VBI.step {w W W' : World} {mb n vb : Nat} {u : List O} {cur : List Int} (h : VBI w W mb n vb u cur) (hb : Below W.heap.size W W') : VBI w W' mb n vb u cur := ⟨h.base.step hb, (hb.block _ (pl_lt h.box)).trans h.box, h.hv, h.len⟩
theorem VBI.set {w W : World} {mb n vb : Nat} {u : List O} {cur : List Int} (h : VBI w W mb n vb u cur) (i : Nat) (x : Int) : VBI w (W.setCell ⟨vb, i, none⟩ (.int .i64 x)) mb n vb u (cur.set i x) := by
  have hv := h.hv
  have hg : W.grownBy (W.setCell ⟨vb, i, none⟩ (.int .i64 x)) (some vb) := ⟨rfl, rfl, rfl, by simp [World.setCell], fun k hk hn => Below.heap_setCell _ _ _ _ (fun e => hn (by rw [e]))⟩
  exact ⟨⟨h.base.bel.setCell (p := ⟨vb, i, none⟩) (by show w.heap.size ≤ vb; omega) _, (hg.block _ (pl_lt h.base.res) (fun e => by injection e with e; omega)).trans h.base.res, h.base.map.grown hg (fun e => by injection e with e; exact h.base.map.ismap (e ▸ h.box)), h.base.hmb⟩, set_va h.box i x, hv, by rw [List.length_set]; exact h.len⟩
def cellN (w : World) (b i : Nat) : Nat := match w.cell? ⟨b, i, none⟩ with | some (.int _ x) => x.toNat | _ => 0
theorem cellN_is {w : World} {b i n : Nat} (h : w.cell? ⟨b, i, none⟩ = some (.int .i64 (n : Int))) : cellN w b i = n := by unfold cellN; rw [h]; rfl
/-- So far: the replicas ahead of i are told. -/
structure VEC (S : List O) (cur : List Int) (i : Nat) : Prop where
  done : ∀ j : Nat, j < i → cur[j]? = some (vecN S (j : Int) : Int)
  rest : ∀ j : Nat, i ≤ j → j < 64 → cur[j]? = some 0
theorem VEC.end {S : List O} {cur : List Int} (h : VEC S cur 64) (hl : cur.length = 64) : cur = vecO S := by
  apply List.ext_getElem?
  intro j
  by_cases hj : j < 64
  · rw [h.done j hj, vecO_at S hj]
  · rw [List.getElem?_eq_none (by omega), List.getElem?_eq_none (by rw [vecO_len]; omega)]
theorem VEC.next {S : List O} {cur : List Int} {i n : Nat} (h : VEC S cur i) (hl : cur.length = 64) (hi : i < 64) (hn : vecN S (i : Int) = n) : VEC S (cur.set i (n : Int)) (i + 1) := by
  refine ⟨fun j hj => ?_, fun j h1 h2 => ?_⟩
  · by_cases e : j = i
    · subst e
      rw [List.getElem?_set_self (by omega), hn]
    · rw [List.getElem?_set_ne (fun q => e q.symm)]
      exact h.done j (by omega)
  · rw [List.getElem?_set_ne (by omega)]
    exact h.rest j (by omega) h2
set_option maxHeartbeats 12800000 in
theorem fvec_any (w : World) (v : Value) (l : List O) (h : OLies w v l) (hok : ∀ o ∈ l, OkO o) (hsz : ∀ o ∈ l, o.nm.size ≤ 9223372036854775807) (hl : l.length ≤ 1000) (hu : (uniqF l).length ≤ 79) :
    Calls Tryz.prog 24 #[v] w fun e w' => e = .returned (vw (vecO (setO l))) ∧ Below w.heap.size w w' := by
  have hmm := @run_makeMap Tryz.prog
  have AZ := Lib.hid (fun W => alloc_va z24 W)
  have B1 := pl_vstep w (.cells (va zs) 52)
  have N1 := heap_alloc_new w (.cells (va zs) 52)
  have SZ : (w.alloc (.cells (va zs) 52)).heap.size = w.heap.size + 1 := by simp
  have J0 := Lib.hid (show VMI w ((w.alloc (.cells (va zs) 52)).alloc (.map #[] 0)) (w.alloc (.cells (va zs) 52)).heap.size 0 [] from ⟨B1.trans ((pl_vstep _ _).mono B1.size), ((pl_vstep (w.alloc (.cells (va zs) 52)) (.map #[] 0)).block _ (pl_lt N1)).trans N1, Mn.FM.made _, by rw [SZ]; omega⟩)
  have Cc := Lib.hid (fun W (hW : Below w.heap.size w W) => fset_any W v l (h.step hW) hok hsz hl hu)
  have SLN := Lib.hid (show (setO l).length ≤ 79 from by show (srtO (uniqF l)).length ≤ 79; rw [srtO_len]; exact hu)
  have SOK := Lib.hid (show ∀ x ∈ setO l, OkO x from fun x hx => hok x ((uniq_is l).mem x (srt_mem hx)))
  obtain ⟨ao, cap, rfl⟩ := h.shape
  obtain ⟨SS, hSS⟩ : ∃ z, setO l = z := ⟨_, rfl⟩
  rw [hSS] at Cc SLN SOK ⊢
  clear h hok hsz hu hSS B1 N1
  have LD := Lib.hid (fun W (l' : List Int) (h1 : l'.length = 64) (b : Nat) (h : W.heap[b]? = some (.cells (va l') 52 (0, 0))) => load_va v24 W b l' h1 h)
  have ST := Lib.hid (fun W (l' : List Int) (h1 : l'.length = 64) (h : W.heap[w.heap.size]? = some (.cells (va zs) 52 (0, 0))) => store_va v24 W w.heap.size (va zs) (by rw [va_size, zs_len]) l' h1 h)
  go_enter Tryz.func24, Tryz.ntmps24
  go_upto_region 2 with (first | (refine wpList_alc rfl 52 rfl _ _ (AZ.out _) ?_))
  obtain ⟨wS, hwS⟩ : ∃ z, (w.alloc (.cells (va zs) 52)).alloc (.map #[] 0) = z := ⟨_, rfl⟩
  obtain ⟨mb, hmb⟩ : ∃ z, (w.alloc (.cells (va zs) 52)).heap.size = z := ⟨_, rfl⟩
  rw [hwS, hmb] at J0
  rw [hwS]
  first | rw [hmb] | (rw [SZ] at hmb; rw [hmb])
  clear hwS hmb SZ
  go_wp2_with fail
  refine (Cc.out wS J0.out.bel).mono ?_
  rintro e w1 ⟨rv, rfl, hown, hb⟩
  have J1 := Lib.hid (show VMI w w1 mb 0 (SS.take 0) from J0.out.step hb)
  obtain ⟨ra, rc, rfl⟩ := Ve.own_shape hown
  have SO := Lib.hid (own_olies hown)
  clear hown hb Cc J0
  go_wp2_with fail
  go_loopw [12] (fun iv wr => ∃ i : Nat, iv = .int .i64 i ∧ i ≤ SS.length ∧ Hid (VMI w wr mb i (SS.take i) ∧ Below w1.heap.size w1 wr ∨ VMI w wr mb i (SS.take i) ∧ OLies wr (.slice ra SS.length rc) SS)) (fun iv _ => SS.length - (intOf iv).toNat)
  case atStart => exact ⟨0, rfl, Nat.zero_le _, Lib.hid (.inr ⟨J1.out, SO.out⟩)⟩
  case round =>
    clear J1
    obtain ⟨i, rfl, hi, K⟩ := hrel
    have K := Lib.hid (show VMI w wr mb i (SS.take i) ∧ OLies wr (.slice ra SS.length rc) SS from by
      rcases K.out with ⟨k1, k2⟩ | k
      · exact ⟨k1, SO.out.step k2⟩
      · exact k)
    by_cases hlt : i < SS.length
    · have hi0 : (0 : Int) ≤ (i : Int) := by omega
      have hi1 : (i : Int) < (SS.length : Int) := by omega
      have hd : decide ((i : Int) < (SS.length : Int)) = true := decide_eq_true hi1
      have HL1 := Lib.hid (show i + 1 ≤ SS.length from hlt)
      have HW9 := Lib.hid (wrap_nat hlt (show SS.length ≤ 100000 by have := SLN.out; omega))
      have HMS := Lib.hid (meas_nat hlt)
      obtain ⟨g, k, x, e7, hx, hg, hc⟩ := K.out.2.atK hlt
      subst e7
      have OKX := Lib.hid (SOK.out x (List.mem_of_getElem? hx))
      have LX := Lib.hid (@ldO wr g (k + i * 9) x hc)
      have TS := Lib.hid (show SS.take (i + 1) = SS.take i ++ [x] from by
        obtain ⟨q1, q2⟩ := List.getElem?_eq_some_iff.1 hx
        rw [List.take_succ_eq_append_getElem q1, q2])
      clear hx hg hc
      have N5 := heap_alloc_new wr (.cells #[.int .i64 x.t, .int .i64 x.r, .int .i64 x.q, .int .i64 x.nt, .int .i64 x.nr, .int .i64 x.pt, .int .i64 x.pr, .string x.nm, .bool x.d] 33)
      have K5 := Lib.hid (show VMI w (wr.alloc (.cells #[.int .i64 x.t, .int .i64 x.r, .int .i64 x.q, .int .i64 x.nt, .int .i64 x.nr, .int .i64 x.pt, .int .i64 x.pr, .string x.nm, .bool x.d] 33)) mb i (SS.take i) ∧ OLies (wr.alloc (.cells #[.int .i64 x.t, .int .i64 x.r, .int .i64 x.q, .int .i64 x.nt, .int .i64 x.nr, .int .i64 x.pt, .int .i64 x.pr, .string x.nm, .bool x.d] 33)) (.slice (some ⟨g, k, none⟩) SS.length rc) SS from ⟨K.out.1.step (pl_vstep wr _), K.out.2.step (pl_vstep wr _)⟩)
      go_upto_region 5 with (first
        | (refine Ve.wpList_load_arr rfl (.tmp 14) 33 rfl (.pointer (some ⟨g, k + i * 9, none⟩)) (.agg #[.int .i64 x.t, .int .i64 x.r, .int .i64 x.q, .int .i64 x.nt, .int .i64 x.nr, .int .i64 x.pt, .int .i64 x.pr, .string x.nm, .bool x.d]) rfl LX.out ?_))
      obtain ⟨w5, hw5⟩ : ∃ z, wr.alloc (.cells #[.int .i64 x.t, .int .i64 x.r, .int .i64 x.q, .int .i64 x.nt, .int .i64 x.nr, .int .i64 x.pt, .int .i64 x.pr, .string x.nm, .bool x.d] 33) = z := ⟨_, rfl⟩
      obtain ⟨bx, hbx⟩ : ∃ z, wr.heap.size = z := ⟨_, rfl⟩
      rw [hw5, hbx] at N5
      rw [hw5] at K5
      rw [hw5]
      try rw [hbx]
      have N5 := Lib.hid N5
      clear hw5 hbx LX K
      obtain ⟨c0, c1, c2, c3, c4, c5, c6, c7, c8⟩ := cell9 N5.out
      obtain ⟨w7, hrun, k7⟩ := K5.out.1.put x OKX.out (by have := SLN.out; omega)
      have MU := Lib.hid hrun
      have S7 := Lib.hid (show OLies w7 (.slice (some ⟨g, k, none⟩) SS.length rc) SS from by
        obtain ⟨W', h1, h2, h3⟩ := K5.out.1.map.put und59 (show i < maxLen by have := SLN.out; unfold maxLen; omega) OKX.out.r OKX.out.q E0
        have e : w7 = W' := by rw [hrun] at h1; injection h1
        subst e
        refine lies_map K5.out.2 h3 ?_
        intro c T q hh
        exact K5.out.1.map.ismap hh)
      have KF := Lib.hid (show VMI w w7 mb (i + 1) (SS.take (i + 1)) ∧ Below w1.heap.size w1 w7 ∨ VMI w w7 mb (i + 1) (SS.take (i + 1)) ∧ OLies w7 (.slice (some ⟨g, k, none⟩) SS.length rc) SS from .inr ⟨by rw [TS.out]; exact k7, S7.out⟩)
      clear hrun k7 K5 N5
      go_wp2_with (first
        | (refine wpList_mupd rfl (.tmp 16) (.tmp 22) (.tmp 23) 88 rfl (.map (some mb)) (.agg #[.int .i64 x.r, .int .i64 x.q]) E0 rfl rfl rfl w7 MU.out ?_))
      go_roundw
      case rel => exact ⟨i + 1, by first | (rw [HW9.out]; rfl) | go_num, HL1.out, KF⟩
      case measure => first | (rw [HW9.out]; exact HMS.out) | exact HMS.out
    · have ei : i = SS.length := by omega
      subst ei
      have K1 := Lib.hid (show VMI w wr mb SS.length SS from by have := K.out.1; rwa [List.take_length] at this)
      clear K SO
      generalize wr = wb at *
      have N6 := heap_alloc_new wb (.cells (va zs) 52)
      have J6 := Lib.hid (show VBI w (wb.alloc (.cells (va zs) 52)) mb SS.length wb.heap.size SS zs from ⟨K1.out.step (pl_vstep wb _), N6, Nat.lt_of_lt_of_le K1.out.hmb (by have := K1.out.map.lt; omega), zs_len⟩)
      clear N6
      go_upto_region 8 with (first | (refine wpList_alc rfl 52 rfl _ _ (AZ.out _) ?_))
      obtain ⟨wc, hwc⟩ : ∃ z, wb.alloc (.cells (va zs) 52) = z := ⟨_, rfl⟩
      obtain ⟨vb, hvb⟩ : ∃ z, wb.heap.size = z := ⟨_, rfl⟩
      rw [hwc, hvb] at J6
      rw [hwc]
      rw [hvb]
      clear hwc hvb K1
      have V0 : VEC SS zs 0 := ⟨fun j hj => by omega, fun j _ h2 => by show (List.replicate 64 (0 : Int))[j]? = some 0; rw [List.getElem?_replicate, if_pos h2]⟩
      go_wp2_with fail
      go_loopw [25] (fun iv wr => ∃ i : Nat, iv = .int .i64 i ∧ i ≤ 64 ∧ Hid (∃ cur, VBI w wr mb SS.length vb SS cur ∧ VEC SS cur i)) (fun iv _ => 64 - (intOf iv).toNat)
      case atStart => exact ⟨0, rfl, Nat.zero_le _, Lib.hid ⟨_, J6.out, V0⟩⟩
      case round =>
        clear J6 V0
        obtain ⟨i, rfl, hi, K⟩ := hrel
        obtain ⟨cur, kb, kv⟩ := K.out
        have KB := Lib.hid kb
        have KV := Lib.hid kv
        clear kb kv K
        by_cases hlt : i < 64
        · have hi0 : (0 : Int) ≤ (i : Int) := by omega
          have hi1 : (i : Int) < 64 := by omega
          have hd : decide ((i : Int) < 64) = true := decide_eq_true hi1
          have HL1 := Lib.hid (show i + 1 ≤ 64 from hlt)
          have HW9 := Lib.hid (wrap_nat hlt (by omega))
          have HMS := Lib.hid (meas_nat hlt)
          have I0 := Lib.hid (show VBI w wr mb SS.length vb SS (cur.set i ((0 : Nat) : Int)) from by
            have e : cur.set i ((0 : Nat) : Int) = cur := List.ext_getElem? (fun j => by
              by_cases ej : j = i
              · subst ej
                rw [List.getElem?_set_self (by have := KB.out.len; omega), KV.out.rest j (Nat.le_refl _) hlt]; rfl
              · rw [List.getElem?_set_ne (fun q => ej q.symm)])
            rw [e]; exact KB.out)
          have CLN := Lib.hid KB.out.len
          clear KB
          go_wp2_with fail
          go_loopw [28] (fun _ wi => Hid (∃ n : Nat, VBI w wi mb SS.length vb SS (cur.set i (n : Int)) ∧ ∀ m : Nat, 1 ≤ m → m ≤ n → numB SS (i : Int) (m : Int) = true)) (fun _ wi => SS.length + 1 - cellN wi vb i)
          case atStart => exact Lib.hid ⟨0, I0.out, fun m m1 m2 => by omega⟩
          case round =>
            have KN := hrel
            obtain ⟨n, kb, kn⟩ := KN.out
            have NL := num_le (i : Int) n SS kn
            have hc := cell_va kb.box (show (cur.set i (n : Int))[i]? = some (n : Int) from by rw [List.getElem?_set_self (by have := CLN.out; omega)])
            have HS := Lib.hid (fhas_any wr mb SS.length SS rfl kb.base.map (i : Int) ((n : Int) + 1) ⟨by omega, by omega⟩ ⟨by omega, by have := SLN.out; omega⟩)
            have hwn : wrap64 ((n : Int) + 1) = (n : Int) + 1 := by have := SLN.out; unfold wrap64; omega
            have KB := Lib.hid kb
            have KM := Lib.hid kn
            have HWN := Lib.hid hwn
            have MN := Lib.hid (cellN_is hc)
            obtain ⟨nb, hnb⟩ : ∃ z, numB SS (i : Int) ((n : Int) + 1) = z := ⟨_, rfl⟩
            rw [hnb] at HS
            have HNB := Lib.hid hnb
            obtain ⟨n1, hn1⟩ : ∃ z : Int, (n : Int) + 1 = z := ⟨_, rfl⟩
            rw [hn1] at HS hwn
            have HN1 := Lib.hid hn1
            have hwn2 : wrap64 ((n : Int) + 1) = n1 := by rw [hn1]; exact hwn
            clear kb kn KN hnb hwn I0 hn1
            have hc0 := Lib.hid hc
            go_wp2_with fail
            refine HS.out.mono ?_
            rintro e w3 ⟨rfl, hb⟩
            have K3 := Lib.hid (KB.out.step hb)
            clear hb hc HS KB
            have g1 := cell_va K3.out.box (show (cur.set i (n : Int))[i]? = some (n : Int) from by rw [List.getElem?_set_self (by have := CLN.out; omega)])
            cases nb with
            | true =>
              have f1 := frozen_of_row _ _ i _ _ K3.out.box
              have K4 := K3.out.set i n1
              have es : (cur.set i (n : Int)).set i n1 = cur.set i ((n + 1 : Nat) : Int) := by rw [List.set_set, ← HN1.out]; rfl
              rw [es] at K4
              have K4 := Lib.hid K4
              have M4 := Lib.hid (show cellN (w3.setCell ⟨vb, i, none⟩ (.int .i64 n1)) vb i = n + 1 from cellN_is (cell_va K4.out.box (by rw [List.getElem?_set_self (by have := CLN.out; omega)])))
              clear es
              go_wp2_with fail
              have KF := Lib.hid (show ∃ n : Nat, VBI w (w3.setCell ⟨vb, i, none⟩ (.int .i64 n1)) mb SS.length vb SS (cur.set i (n : Int)) ∧ ∀ m : Nat, 1 ≤ m → m ≤ n → numB SS (i : Int) (m : Int) = true from ⟨n + 1, K4.out, fun m m1 m2 => by
                rcases Nat.lt_or_ge n m with h5 | h5
                · have : m = n + 1 := by omega
                  subst this
                  exact HNB.out
                · exact KM.out m m1 h5⟩)
              go_roundw
              case rel => exact KF
              case measure => rw [MN.out, M4.out]; omega
            | false =>
              have VN := Lib.hid (vec_is KM.out HNB.out)
              have KF := Lib.hid (show ∃ cur, VBI w w3 mb SS.length vb SS cur ∧ VEC SS cur (i + 1) from ⟨_, K3.out, KV.out.next CLN.out hlt VN.out⟩)
              clear K3 KV
              go_wp2_with fail
              go_roundw
              case rel => exact ⟨i + 1, by first | (rw [HW9.out]; rfl) | go_num, HL1.out, KF⟩
              case measure => first | (rw [HW9.out]; exact HMS.out) | exact HMS.out
        · have ei : i = 64 := by omega
          subst ei
          have EC := KV.out.end KB.out.len
          subst EC
          have L6 := Lib.hid (LD.out wr (vecO SS) (vecO_len SS) vb KB.out.box)
          have S6 := Lib.hid (ST.out wr (vecO SS) (vecO_len SS) KB.out.base.res)
          have R6 := Lib.hid (show (wr.setRow w.heap.size (va (vecO SS))).heap[w.heap.size]? = some (.cells (va (vecO SS)) 52 (0, 0)) from setRow_heap _ _ _ _ _ _ KB.out.base.res)
          have FB := Lib.hid (Vx.below_setRow KB.out.base.bel (Nat.le_refl _) (va (vecO SS)))
          clear KB KV
          have HVL := Lib.hid (vecO_len SS)
          obtain ⟨VA, hVA⟩ : ∃ z, va (vecO SS) = z := ⟨_, rfl⟩
          rw [hVA] at L6 S6
          have HVA := Lib.hid hVA
          clear hVA
          go_wp2_with (first
            | (refine Ve.wpList_load_arr rfl (.tmp 6) 52 rfl (.pointer (some ⟨vb, 0, none⟩)) (.agg VA) rfl L6.out ?_)
            | (refine wpList_sto rfl (.tmp 2) (.tmp 42) 52 rfl (.pointer (some ⟨w.heap.size, 0, none⟩)) (.agg VA) rfl rfl _ S6.out ?_))
          rw [← HVA.out]
          refine bodyPost_ret (Vx.ret_va (l := vecO SS) rfl v24 HVL.out rfl R6.out) rfl ⟨rfl, FB.out⟩
end Go.Proofs.YtbeodechhneeeaaGreatDoor

