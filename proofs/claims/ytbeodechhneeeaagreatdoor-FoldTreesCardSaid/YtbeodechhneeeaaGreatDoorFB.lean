/- fold.play, Of, Idle. Made by genfb15.py. -/
import Derived.Test.YtbeodechhneeeaaGreatDoorFR
set_option linter.unusedVariables false
set_option linter.unusedSimpArgs false
set_option maxRecDepth 100000
namespace Go.Proofs.YtbeodechhneeeaaGreatDoor
open Go.RowKit Go.Shelf
open Tb (Rw setF getF aboveF Rise TabI TM TOut LiesK LiesR ltS encS Sp)

theorem row1_set {w : World} {b : Nat} {v u : Value} {t : TypeId} {fz : Nat × Nat} (h : w.heap[b]? = some (.cells #[v] t fz)) : (w.setCell ⟨b, 0, none⟩ u).heap[b]? = some (.cells #[u] t fz) := by
  have hlt := (Array.getElem?_eq_some_iff.1 h).1
  have h' : w.heap[b] = .cells #[v] t fz := by simpa [Array.getElem?_eq_getElem hlt] using h
  show (w.heap.modify b _)[b]? = _
  rw [Array.getElem?_eq_getElem (by simpa using hlt), Array.getElem_modify_self, h']
  rfl
/-- The stamps of the ops that did nothing. -/
noncomputable def idleF (T : List Rw) : List O → List Sp
  | [] => []
  | o :: L => (if skipF T o = true then [(o.t, o.r)] else []) ++ idleF (doF T o) L
theorem idle_append : ∀ (A B : List O) (T : List Rw), idleF T (A ++ B) = idleF T A ++ idleF (playF T A) B
  | [], B, T => rfl
  | o :: A, B, T => by
    show (_ ++ idleF (doF T o) (A ++ B)) = _
    rw [idle_append A B (doF T o), ← List.append_assoc]
    rfl
theorem idle_snoc (T : List Rw) {M : List O} {i : Nat} {o : O} (h : M[i]? = some o) : idleF T (M.take (i + 1)) = idleF T (M.take i) ++ (if skipF (playF T (M.take i)) o = true then [(o.t, o.r)] else []) := by
  obtain ⟨h1, h2⟩ := List.getElem?_eq_some_iff.1 h
  rw [List.take_succ_eq_append_getElem h1, h2, idle_append]
  show _ ++ (_ ++ []) = _
  rw [List.append_nil]
theorem idle_len : ∀ (M : List O) (T : List Rw), (idleF T M).length ≤ M.length
  | [], _ => Nat.le_refl _
  | o :: M, T => by
    show (_ ++ idleF (doF T o) M).length ≤ _
    rw [List.length_append, List.length_cons]
    have := idle_len M (doF T o)
    split <;> simp <;> omega
theorem own_ne_map {W : World} {B e k n m : Nat} {v : Value} {xs : List Value} {l : List Rw} (ho : W.ownsRow B e k v n xs) (hm : TM W m l) : v.ownBlock ≠ some m := fun e1 => by
  rcases ho.2 with ⟨rfl, _⟩ | ⟨g, cap, cur, rfl, hB, hb, h1⟩
  · cases e1
  · have e1 : some g = some m := e1
    injection e1 with e1
    exact map_ne hb hm e1
theorem own_ne_cell {W : World} {B e k n m : Nat} {v : Value} {xs : List Value} {c : Array Value} {t : TypeId} {f : Nat × Nat} (ho : W.ownsRow B e k v n xs) (hm : W.heap[m]? = some (.cells c t f)) (ht : t ≠ e) : v.ownBlock ≠ some m := fun e1 => by
  rcases ho.2 with ⟨rfl, _⟩ | ⟨g, cap, cur, rfl, hB, hb, h1⟩
  · cases e1
  · have e1 : some g = some m := e1
    injection e1 with e1
    subst e1
    rw [hb] at hm
    injection hm with hm
    injection hm with _ hm
    exact ht hm.symm
theorem ne_cells {W : World} {a b : Nat} {c d : Array Value} {s t : TypeId} {f g : Nat × Nat} (h1 : W.heap[a]? = some (.cells c s f)) (h2 : W.heap[b]? = some (.cells d t g)) (h : s ≠ t) : a ≠ b := fun e => by
  subst e
  rw [h1] at h2
  injection h2 with h2
  injection h2 with _ h2
  exact h h2
theorem srt_mem {x : O} {l : List O} (h : x ∈ srtO l) : x ∈ l := by
  have : ∀ (l u : List O), x ∈ l.foldl (fun u x => insO x u) u → x ∈ u ∨ x ∈ l := by
    intro l
    induction l with
    | nil => intro u h; exact .inl h
    | cons a l ih =>
      intro u h
      rw [List.foldl_cons] at h
      rcases ih _ h with h | h
      · rw [insO_ins] at h
        rcases ins_mem a x u h with h | h
        · exact .inr (by rw [h]; exact List.mem_cons_self)
        · exact .inl h
      · exact .inr (List.mem_cons_of_mem _ h)
  rcases this l [] h with h | h
  · cases h
  · exact h
/-- play's loop: the table, the set. -/
structure PLI (w W : World) (q mb : Nat) (T : List Rw) (rv : Value) (S : List O) : Prop where
  bel : Below w.heap.size w W
  tab : TabI W q mb T
  hq : w.heap.size ≤ q ∧ w.heap.size ≤ mb
  set : W.ownsRow w.heap.size 33 9 rv S.length (cs9 S)
section
variable {w W W' : World} {q mb : Nat} {T T' : List Rw} {rv : Value} {S : List O}
theorem PLI.step (h : PLI w W q mb T rv S) (hb : Below W.heap.size W W') : PLI w W' q mb T rv S := ⟨h.bel.trans (hb.mono h.bel.size), h.tab.step hb, h.hq, own_below h.set hb⟩
theorem PLI.put (h : PLI w W q mb T rv S) (ho : TOut W W' q mb T') : PLI w W' q mb T' rv S :=
  ⟨h.bel.trans (ho.below h.hq.2 h.bel.size), ho.tab, h.hq, h.set.kept ho.grow (.inr (own_ne_map h.set h.tab.map))⟩
/-- What a closure keeps: a box with its row. -/
structure IDI (w W : World) (ib : Nat) (iv : Value) (I : List Sp) : Prop where
  box : W.heap[ib]? = some (.cells #[iv] 34 (0, 0))
  row : W.ownsRow w.heap.size 31 2 iv I.length (I.flatMap encS)
  hib : w.heap.size ≤ ib
theorem IDI.step {ib : Nat} {iv : Value} {I : List Sp} (h : IDI w W ib iv I) (hb : Below W.heap.size W W') : IDI w W' ib iv I := ⟨(hb.block _ (pl_lt h.box)).trans h.box, own_below h.row hb, h.hib⟩
theorem IDI.put {ib : Nat} {iv : Value} {I : List Sp} (h : IDI w W ib iv I) (hm : TM W mb T) (ho : TOut W W' q mb T') : IDI w W' ib iv I :=
  ⟨(ho.grow.block _ (pl_lt h.box) (fun e => by injection e with e; exact map_ne h.box hm e)).trans h.box, h.row.kept ho.grow (.inr (own_ne_map h.row hm)), h.hib⟩
end
/-- What the closure turns. -/
structure IDO (E : Nat) (W W' : World) (ib : Nat) (iv : Value) (I : List Sp) : Prop where
  ex : ∃ iv', W'.heap[ib]? = some (.cells #[iv'] 34 (0, 0)) ∧ W'.ownsRow E 31 2 iv' I.length (I.flatMap encS)
  far : Far (fun k => k = ib ∨ iv.ownBlock = some k) W W'
theorem PLI.far {w W W' : World} {q mb ib : Nat} {T : List Rw} {rv iv : Value} {S : List O} {I J : List Sp} (h : PLI w W q mb T rv S) (hi : IDI w W ib iv I) (hf : IDO w.heap.size W W' ib iv J) : PLI w W' q mb T rv S ∧ ∃ iv', IDI w W' ib iv' J := by
  have n1 : ∀ k, (k = ib ∨ iv.ownBlock = some k) → w.heap.size ≤ k := fun k hk => by
    rcases hk with rfl | hk
    · exact hi.hib
    · exact (hi.row.lt k hk).1
  have nq : ¬ (q = ib ∨ iv.ownBlock = some q) := by
    rintro (e | e)
    · exact ne_cells h.tab.box hi.box (by decide) e
    · exact own_ne_cell hi.row h.tab.box (by decide) e
  have nm : ¬ (mb = ib ∨ iv.ownBlock = some mb) := by
    rintro (e | e)
    · exact map_ne hi.box h.tab.map e.symm
    · exact own_ne_map hi.row h.tab.map e
  refine ⟨⟨h.bel.trans (hf.far.below h.bel.size n1), hf.far.tab h.tab nq nm, h.hq, hf.far.row h.set (fun j hj e => ?_)⟩, ?_⟩
  · rcases e with e | e
    · exact own_ne_cell h.set hi.box (by decide) (by rw [hj, e])
    · rcases h.set.2 with ⟨hn, _⟩ | ⟨g, cap, cur, hn, _, hb, _⟩
      · rw [hn] at hj; cases hj
      · rw [hn] at hj
        have hj : some g = some j := hj
        injection hj with hj
        subst hj
        exact own_ne_cell hi.row hb (by decide) e
  · obtain ⟨iv', h1, h2⟩ := hf.ex
    exact ⟨iv', h1, h2, hi.hib⟩
theorem bs_st (W : World) (a b : Int) : (Instr.buildSlice 34 1 #[(0, .agg #[.int .i64 a, .int .i64 b])]).run Tryz.prog W = .ok (.slice (some ⟨W.heap.size, 0, none⟩) 1 1) (W.alloc (.cells #[.int .i64 a, .int .i64 b] 31)) := by kernel_rfl
theorem ldSl {W : World} {k : Nat} {v : Value} {a : Option Addr} {n c : Nat} (h : W.heap[k]? = some (.cells #[v] 34 (0, 0))) (hv : v = .slice a n c) : (Instr.loadAt 34 (.pointer (some ⟨k, 0, none⟩))).run Tryz.prog W = .ok (.slice a n c) W := by
  have c0 : W.cell? ⟨k, 0, none⟩ = some (.slice a n c) := by rw [cell_of_row _ _ _ _ _ _ h, ← hv]; rfl
  clear h hv
  go_simp
theorem stSl {W : World} {k : Nat} {v : Value} {a : Option Addr} {n c : Nat} (h : W.heap[k]? = some (.cells #[v] 34 (0, 0))) : (Instr.storeAt 34 (.pointer (some ⟨k, 0, none⟩)) (.slice a n c)).run Tryz.prog W = .ok () (W.setCell ⟨k, 0, none⟩ (.slice a n c)) := by
  have c0 : W.cell? ⟨k, 0, none⟩ = some v := by rw [cell_of_row _ _ _ _ _ _ h]; rfl
  have f0 := frozen_of_row (j := 0) _ _ _ _ h
  clear h
  go_simp
set_option maxHeartbeats 3200000 in
theorem of1_any (w : World) (x : O) (b : Bool) : Calls Tryz.prog 40 #[oV x, .bool b] w fun e w' => e = .returned (.tuple #[]) ∧ Below w.heap.size w w' := by
  have B1 := Lib.hid (pl_vstep w (.cells (oCells x) 33))
  obtain ⟨t, r, q, nt, nr, pt, pr, nm, d⟩ := x
  unfold oV
  unfold oCells at B1 ⊢
  dsimp only at *
  go_enter Tryz.func40, Tryz.ntmps40
  go_wp2
  go_end0
  exact ⟨rfl, B1.out⟩
set_option maxHeartbeats 6400000 in
theorem idle1_any (w : World) (E ib : Nat) (iv : Value) (I : List Sp) (hE : E ≤ w.heap.size) (hb : w.heap[ib]? = some (.cells #[iv] 34 (0, 0))) (ho : w.ownsRow E 31 2 iv I.length (I.flatMap encS)) (hl : I.length ≤ 1000) (x : O) (b : Bool) :
    Calls Tryz.prog 38 #[oV x, .bool b, .pointer (some ⟨ib, 0, none⟩)] w fun e w' => e = .returned (.tuple #[]) ∧ IDO E w w' ib iv (I ++ if b = true then [] else [(x.t, x.r)]) := by
  obtain ⟨i0, hi9, hz0, hz1, hz2⟩ := info_parts Tb.info24
  have B1 := pl_vstep w (.cells (oCells x) 33)
  have N1 := heap_alloc_new w (.cells (oCells x) 33)
  have H1 := (B1.block _ (pl_lt hb)).trans hb
  have O1 := own_below ho B1
  obtain ⟨ia, ic, hiv⟩ := Tb.own_shapeK ho
  obtain ⟨w0, hw0⟩ : ∃ z, w.alloc (.cells (oCells x) 33) = z := ⟨_, rfl⟩
  rw [hw0] at B1 N1 H1 O1
  have HW := Lib.hid hw0
  have B1 := Lib.hid B1
  have N1 := Lib.hid N1
  have H1 := Lib.hid H1
  have O1 := Lib.hid O1
  have HIV := Lib.hid hiv
  clear hw0 hb ho
  obtain ⟨t, r, q, nt, nr, pt, pr, nm, d⟩ := x
  unfold oV
  unfold oCells at HW N1 ⊢
  dsimp only at *
  go_enter Tryz.func38, Tryz.ntmps38
  go_upto_region 1 with (fail)
  rw [HW.out]
  cases b with
  | true =>
    have FIN := Lib.hid (show IDO E w w0 ib iv I from ⟨⟨iv, H1.out, O1.out⟩, Far.of_below B1.out⟩)
    clear hiv
    go_wp2
    go_end0
    exact ⟨rfl, by simpa using FIN.out⟩
  | false =>
    obtain ⟨c0, c1, c2, c3, c4, c5, c6, c7, c8⟩ := cell9 N1.out
    have L1 := Lib.hid (ldSl H1.out hiv)
    have B5 := pl_vstep w0 (.cells #[.int .i64 t, .int .i64 r] 31)
    have H5 := Lib.hid (show (w0.alloc (.cells #[.int .i64 t, .int .i64 r] 31)).heap[w0.heap.size]? = some (.cells (encS (t, r)).toArray 31 (0, 0)) from heap_alloc_new w0 _)
    have HB5 := Lib.hid ((B5.block _ (pl_lt H1.out)).trans H1.out)
    have O5 := Lib.hid (show (w0.alloc (.cells #[.int .i64 t, .int .i64 r] 31)).ownsRow E 31 2 (.slice ia I.length ic) I.length (I.flatMap encS) from by rw [← hiv]; exact own_below O1.out B5)
    have F5 := Lib.hid (show Far (fun k => k = ib ∨ iv.ownBlock = some k) w (w0.alloc (.cells #[.int .i64 t, .int .i64 r] 31)) from Far.of_below (B1.out.trans (B5.mono B1.out.size)))
    have BS := bs_st w0 t r
    have Q5 := Lib.hid (And.intro (show I.length + 1 ≤ maxLen from by unfold maxLen; omega) (And.intro (show (I.length + 1) * 16 ≤ 140737488355328 from by omega) (show E ≤ (w0.alloc (.cells #[.int .i64 t, .int .i64 r] 31)).heap.size from by have := B1.out.size; simp; omega)))
    have HLN := Lib.hid (show (I ++ [(t, r)]).length = I.length + 1 from by simp)
    clear B5 hiv hE
    go_wp2_with (first
      | (refine Ve.wpList_load_arr rfl (.tmp 2) 34 rfl (.pointer (some ⟨ib, 0, none⟩)) (.slice ia I.length ic) rfl L1.out ?_)
      | (at_builtin; refine Tb.wpList_pushK rfl (.tmp 7) (.tmp 10) 34 rfl Tb.encS_len (by decide) Tb.encS_one E 31 i0 (.agg #[.int .i64 0, .int .i64 0]) 16 Tb.Tryz.u43 hi9 hz0 hz1 hz2 rfl (.slice ia I.length ic) I (t, r) w0.heap.size rfl rfl H5.out O5.out Q5.out.1 Q5.out.2.1 Q5.out.2.2 ?_; intro v6 w6 hown hgr; rw [HLN.out] at hown; obtain ⟨va6, vc6, hv6⟩ := Tb.own_shapeK hown; subst hv6; have HB6 := Lib.hid ((hgr.block _ (pl_lt HB5.out) (fun e => own_ne_cell O5.out HB5.out (by decide) e.symm)).trans HB5.out); have F6 := Lib.hid (F5.out.trans (Far.of_grown (P := fun k => iv.ownBlock = some k) hgr (fun k e => by rw [HIV.out]; exact e)) (fun _ _ e => .inr e)); have O6 := Lib.hid hown; have S6 := Lib.hid (stSl (a := va6) (n := I.length + 1) (c := vc6) HB6.out); clear hown hgr)
      | (refine wpList_sto rfl (.tmp 2) (.tmp 11) 34 rfl (.pointer (some ⟨ib, 0, none⟩)) (.slice va6 (I.length + 1) vc6) rfl rfl _ S6.out ?_))
    have FIN := Lib.hid (show IDO E w (w6.setCell ⟨ib, 0, none⟩ (.slice va6 (I.length + 1) vc6)) ib iv (I ++ [(t, r)]) from by
      have hs : Far (fun k => k = ib) w6 (w6.setCell ⟨ib, 0, none⟩ (.slice va6 (I.length + 1) vc6)) := ⟨rfl, rfl, by simp [World.setCell], by simp [World.setCell], fun k hk hn => Below.heap_setCell _ _ _ _ (fun e => hn e)⟩
      exact ⟨⟨_, row1_set HB6.out, by rw [HLN.out]; exact hs.row O6.out (fun j hj e => own_ne_cell O6.out HB6.out (by decide) (by rw [hj]; exact congrArg some e))⟩, F6.out.trans hs (fun _ _ e => .inl e)⟩)
    go_end0
    exact ⟨rfl, FIN.out⟩

set_option maxHeartbeats 12800000 in
theorem playOf_any (w00 w : World) (h00 : Below w00.heap.size w00 w) (v : Value) (l : List O) (h : OLies w v l) (hok : ∀ o ∈ l, OkO o) (hsz : ∀ o ∈ l, o.nm.size ≤ 9223372036854775807) (hl : l.length ≤ 1000) (hu : (uniqF l).length ≤ 79) :
    Calls Tryz.prog 37 #[v, .func (.func 40) #[] #[]] w fun e w' => ∃ q mb, e = .returned (.pointer (some ⟨q, 0, none⟩)) ∧ TabI w' q mb (playF [] (setO l)) ∧ w00.heap.size ≤ q ∧ w00.heap.size ≤ mb ∧ Below w00.heap.size w00 w' := by
  have H := Lib.hid h
  have NT := Lib.hid (fun W => Tb.new_any W)
  have ST := Lib.hid (fun W (hW : Below w.heap.size w W) => fset_any W v l (h.step hW) hok hsz hl hu)
  obtain ⟨ao, cap, rfl⟩ := h.shape
  have SOK := Lib.hid (show ∀ x ∈ setO l, OkO x from fun x hx => hok x ((uniq_is l).mem x (srt_mem hx)))
  have SLN := Lib.hid (show (setO l).length ≤ 79 from by show (srtO (uniqF l)).length ≤ 79; rw [srtO_len]; exact hu)
  obtain ⟨SS, hSS⟩ : ∃ z, setO l = z := ⟨_, rfl⟩
  rw [hSS] at SOK SLN ST
  try rw [hSS]
  clear h hok hsz hl hu hSS
  go_enter Tryz.func37, Tryz.ntmps37
  go_wp2_with fail
  refine (NT.out w).mono ?_
  rintro e w1 ⟨q, mb, rfl, ht, hq, hm, hb1⟩
  have T1 := Lib.hid (And.intro ht (And.intro hb1 (And.intro hq hm)))
  clear ht hb1 hq hm NT
  go_wp2_with fail
  refine (ST.out w1 T1.out.2.1).mono ?_
  rintro e w2 ⟨rv, rfl, hown, hb2⟩
  have B12 := Lib.hid (T1.out.2.1.trans (hb2.mono T1.out.2.1.size))
  have J0 := Lib.hid (show PLI w00 w2 q mb (playF [] (SS.take 0)) rv SS from ⟨h00.trans (B12.out.mono h00.size), T1.out.1.step hb2, ⟨Nat.le_trans h00.size T1.out.2.2.1, Nat.le_trans h00.size T1.out.2.2.2⟩, own_base hown (Nat.le_trans h00.size T1.out.2.1.size)⟩)
  
  obtain ⟨ra, rc, hrv⟩ := Ve.own_shape hown
  subst hrv
  clear hown hb2 T1 ST B12
  go_wp2_with fail
  go_loopw [13] (fun iv wr => ∃ i : Nat, iv = .int .i64 i ∧ i ≤ SS.length ∧ Hid (PLI w00 wr q mb (playF [] (SS.take i)) (.slice ra SS.length rc) SS)) (fun iv _ => SS.length - (intOf iv).toNat)
  case atStart => exact ⟨0, rfl, Nat.zero_le _, J0⟩
  case round =>
    clear J0
    obtain ⟨i, rfl, hi, K⟩ := hrel
    by_cases hlt : i < SS.length
    · have hi0 : (0 : Int) ≤ (i : Int) := by omega
      have hi1 : (i : Int) < (SS.length : Int) := by omega
      have hd : decide ((i : Int) < (SS.length : Int)) = true := decide_eq_true hi1
      have HL1 := Lib.hid (show i + 1 ≤ SS.length from hlt)
      have HW9 := Lib.hid (wrap_nat hlt (show SS.length ≤ 100000 by have := SLN.out; omega))
      have HMS := Lib.hid (meas_nat hlt)
      obtain ⟨g, k, x, e7, hx, hg, hc⟩ := (own_olies K.out.set).atK hlt
      subst e7
      have OKX := Lib.hid (SOK.out x (List.mem_of_getElem? hx))
      have LX := Lib.hid (@ldO wr g (k + i * 9) x hc)
      have PS := Lib.hid (play_snoc ([] : List Rw) hx)
      
      have LT := Lib.hid (show (playF [] (SS.take i)).length < 1000 from by have := play_len (SS.take i) []; have := SLN.out; rw [List.length_take] at *; simp at *; omega)
      obtain ⟨T, hT⟩ : ∃ z, playF [] (SS.take i) = z := ⟨_, rfl⟩
      rw [hT] at PS LT K
      clear hx hg hc hT
      have N5 := heap_alloc_new wr (.cells #[.int .i64 x.t, .int .i64 x.r, .int .i64 x.q, .int .i64 x.nt, .int .i64 x.nr, .int .i64 x.pt, .int .i64 x.pr, .string x.nm, .bool x.d] 33)
      have B5 := pl_vstep wr (.cells #[.int .i64 x.t, .int .i64 x.r, .int .i64 x.q, .int .i64 x.nt, .int .i64 x.nr, .int .i64 x.pt, .int .i64 x.pr, .string x.nm, .bool x.d] 33)
      have K5 := Lib.hid (K.out.step B5)
      go_upto_region 5 with (first
        | (refine Ve.wpList_load_arr rfl (.tmp 15) 33 rfl (.pointer (some ⟨g, k + i * 9, none⟩)) (.agg #[.int .i64 x.t, .int .i64 x.r, .int .i64 x.q, .int .i64 x.nt, .int .i64 x.nr, .int .i64 x.pt, .int .i64 x.pr, .string x.nm, .bool x.d]) rfl LX.out ?_))
      obtain ⟨w5, hw5⟩ : ∃ z, wr.alloc (.cells #[.int .i64 x.t, .int .i64 x.r, .int .i64 x.q, .int .i64 x.nt, .int .i64 x.nr, .int .i64 x.pt, .int .i64 x.pr, .string x.nm, .bool x.d] 33) = z := ⟨_, rfl⟩
      obtain ⟨bx, hbx⟩ : ∃ z, wr.heap.size = z := ⟨_, rfl⟩
      rw [hw5, hbx] at N5
      rw [hw5] at K5
      rw [hw5]
      try rw [hbx]
      have N5 := Lib.hid N5
      clear hw5 hbx LX K B5
      have SK := Lib.hid (show skipF T x = (decide (x.nt = x.pt ∧ x.nr = x.pr) || aboveF T x.nt x.nr T.length x.pt x.pr) from rfl)
      have DF := Lib.hid (show doF T x = if skipF T x = true then T else setF T (rwO x) from rfl)
      have AB := Lib.hid (Tb.above_any w5 q mb T K5.out.tab (by have := LT.out; omega) x.nt x.nr x.pt x.pr OKX.out.pt OKX.out.pr)
      obtain ⟨sk, hsk⟩ : ∃ z, skipF T x = z := ⟨_, rfl⟩
      have HSK := Lib.hid hsk
      rw [hsk] at SK DF
      clear hsk
      obtain ⟨c0, c1, c2, c3, c4, c5, c6, c7, c8⟩ := cell9 N5.out
      go_cut [8] from 17 to 29 (fun xv wx => xv = .bool sk ∧ Hid (Below w5.heap.size w5 wx))
      case first =>
        by_cases hq : x.nt = x.pt ∧ x.nr = x.pr
        · have E1 := Lib.hid (show sk = true by rw [SK.out, decide_eq_true hq]; rfl)
          obtain ⟨u1, u2⟩ := yes2 hq
          clear hq SK AB
          go_wp2_with fail
          go_meet
          exact ⟨by rw [E1.out], Lib.hid (Below.refl _ _)⟩
        · have E1 := Lib.hid (show sk = aboveF T x.nt x.nr T.length x.pt x.pr by rw [SK.out, decide_eq_false hq]; rfl)
          have hn := no2 hq
          clear hq SK
          rw [← E1.out] at AB
          rcases hn with u1 | ⟨u1, u2⟩
          all_goals
            go_wp2_with fail
            refine AB.out.mono ?_
            rintro e wy ⟨rfl, hb⟩
            have HB := Lib.hid hb
            clear hb
            go_wp2_with fail
            go_meet
            exact ⟨rfl, HB⟩
      case rest =>
        obtain ⟨rfl, HB⟩ := hcut
        clear c0 c1 c2 c3 c4 c5 c6 c7 c8 AB SK
        rename_i wc
        have K6 := Lib.hid (K5.out.step HB.out)
        have N6 := Lib.hid ((HB.out.block _ (pl_lt N5.out)).trans N5.out)
        clear HB K5 N5
        cases sk with
        | true =>
          have E2 := Lib.hid (show playF [] (SS.take (i + 1)) = T from by rw [PS.out, DF.out, if_pos rfl])
          obtain ⟨c0, c1, c2, c3, c4, c5, c6, c7, c8⟩ := cell9 N6.out
          have CL := Lib.hid (of1_any wc x false)
          go_wp2_with fail
          refine CL.out.mono ?_
          rintro e w8 ⟨rfl, hz⟩
          have KF := Lib.hid (show PLI w00 w8 q mb (playF [] (SS.take (i + 1))) (.slice (some ⟨g, k, none⟩) SS.length rc) SS from by rw [E2.out]; exact K6.out.step hz)
          clear hz CL
          go_wp2_with fail
          go_roundw
          case rel => exact ⟨i + 1, by first | (rw [HW9.out]; rfl) | go_num, HL1.out, KF⟩
          case measure => first | (rw [HW9.out]; exact HMS.out) | exact HMS.out
        | false =>
          have SE := Lib.hid (Tb.set_any wc q mb T K6.out.tab (by have := LT.out; omega) (rwO x) ⟨OKX.out.nt, OKX.out.nr, OKX.out.pt, OKX.out.pr⟩)
          unfold rwO at SE
          dsimp only at SE
          have E2 := Lib.hid (show playF [] (SS.take (i + 1)) = setF T (rwO x) from by rw [PS.out, DF.out, if_neg (by simp)])
          obtain ⟨c0, c1, c2, c3, c4, c5, c6, c7, c8⟩ := cell9 N6.out
          go_wp2_with fail
          refine SE.out.mono ?_
          rintro e w7 ⟨rfl, ho⟩
          have N7 := Lib.hid ((ho.grow.block _ (pl_lt N6.out) (fun e => by injection e with e; exact map_ne N6.out K6.out.tab.map e)).trans N6.out)
          have K7 := Lib.hid (K6.out.put ho)
          clear c0 c1 c2 c3 c4 c5 c6 c7 c8 ho SE K6 N6
          obtain ⟨c0, c1, c2, c3, c4, c5, c6, c7, c8⟩ := cell9 N7.out
          have CL := Lib.hid (of1_any w7 x true)
          go_wp2_with fail
          refine CL.out.mono ?_
          rintro e w8 ⟨rfl, hz⟩
          have KF := Lib.hid (show PLI w00 w8 q mb (playF [] (SS.take (i + 1))) (.slice (some ⟨g, k, none⟩) SS.length rc) SS from by rw [E2.out]; exact K7.out.step hz)
          clear hz CL
          go_wp2_with fail
          go_roundw
          case rel => exact ⟨i + 1, by first | (rw [HW9.out]; rfl) | go_num, HL1.out, KF⟩
          case measure => first | (rw [HW9.out]; exact HMS.out) | exact HMS.out
    · have ei : i = SS.length := by omega
      subst ei
      have FIN := Lib.hid K.out
      simp only [List.take_length] at FIN ⊢
      clear K
      go_wp2
      go_returns
      exact ⟨_, _, rfl, FIN.out.tab, FIN.out.hq.1, FIN.out.hq.2, FIN.out.bel⟩
end Go.Proofs.YtbeodechhneeeaaGreatDoor

