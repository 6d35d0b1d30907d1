/- The reference's Lacks. Made by gengq28.py. -/
import Derived.Test.YtgnnpfainoppeaaGP
set_option linter.unusedVariables false
set_option linter.unusedSimpArgs false
set_option maxRecDepth 100000
namespace Go.Proofs.Ytgnnpfainoppeaa
open Go.RowKit Go.WideMaps Go.Maps
open Ve (zs zs_len vw va RightP cs3 cs3_append)

theorem flat_set {α : Type} {enc : α → List Value} {k : Nat} (hk : ∀ x, (enc x).length = k) {l : List α} {i r : Nat} {x y : α} {u : Value} (hx : l[i]? = some x) (hr : r < k) (hy : enc y = (enc x).set r u) : (l.set i y).flatMap enc = (l.flatMap enc).set (i * k + r) u := by
  have hi := (List.getElem?_eq_some_iff.1 hx).1
  apply List.ext_getElem?
  intro j
  by_cases hj : j < l.length * k
  · have hk0 : 0 < k := by omega
    have hd : j / k < l.length := Nat.div_lt_of_lt_mul (by rw [Nat.mul_comm]; exact hj)
    have hm : j % k < k := Nat.mod_lt _ hk0
    have ej : j / k * k + j % k = j := by rw [Nat.mul_comm]; exact Nat.div_add_mod j k
    have L := flat_get hk (l.set i y) (j / k) (j % k)
    have R := flat_get hk l (j / k) (j % k) l[j / k] (List.getElem?_eq_getElem hd) hm
    rw [ej] at L R
    rw [List.getElem?_set]
    by_cases e : j / k = i
    · have hz : (l.set i y)[j / k]? = some y := by rw [e, List.getElem?_set_self hi]
      rw [L y hz hm, hy, List.getElem?_set]
      have hxx : l[j / k] = x := by have := (List.getElem?_eq_some_iff.1 hx).2; subst e; exact this
      rw [hxx] at R
      by_cases e2 : r = j % k
      · have : i * k + r = j := by rw [← e, e2]; exact ej
        rw [if_pos e2, if_pos this, hk, if_pos hr, if_pos (by rw [flat_len hk, this]; exact hj)]
      · have : i * k + r ≠ j := fun q => e2 (by rw [← ej, e] at q; omega)
        rw [if_neg e2, if_neg this, R]
    · have hz : (l.set i y)[j / k]? = some l[j / k] := by rw [List.getElem?_set_ne (fun q => e q.symm)]; exact List.getElem?_eq_getElem hd
      rw [L _ hz hm, R]
      have : i * k + r ≠ j := fun q => e (by
        rw [← q]
        rw [Nat.mul_comm, Nat.mul_add_div hk0, Nat.div_eq_of_lt hr]
        omega)
      rw [if_neg this]
  · rw [List.getElem?_eq_none (by rw [flat_len hk, List.length_set]; omega), List.getElem?_eq_none (by rw [List.length_set, flat_len hk]; omega)]
/-- One cell of a row of one's own set. -/
theorem own_set {α : Type} {enc : α → List Value} {k : Nat} (hk : ∀ x, (enc x).length = k) {w : World} {B : Nat} {e : TypeId} {g cap : Nat} {l : List α} {i r : Nat} {x y : α} {u : Value} (h : w.ownsRow B e k (.slice (some ⟨g, 0, none⟩) l.length cap) l.length (l.flatMap enc)) (hx : l[i]? = some x) (hr : r < k) (hy : enc y = (enc x).set r u) :
    (w.setCell ⟨g, i * k + r, none⟩ u).ownsRow B e k (.slice (some ⟨g, 0, none⟩) (l.set i y).length cap) (l.set i y).length ((l.set i y).flatMap enc) := by
  have hi := (List.getElem?_eq_some_iff.1 hx).1
  have hlt : i * k + r < l.length * k := by
    have h1 : (i + 1) * k ≤ l.length * k := Nat.mul_le_mul_right k (by omega)
    rw [Nat.succ_mul] at h1
    omega
  rcases h.2 with ⟨e1, h0⟩ | ⟨g', cap', cur, e1, hB, hb, h1, h2, h3, h4⟩
  · cases e1
  · injection e1 with e1 e2 e3
    injection e1 with e1
    injection e1 with e1 e4
    subst e1 e3
    refine ⟨by rw [flat_len hk], .inr ⟨g, cap, cur.setIfInBounds (i * k + r) u, rfl, hB, ?_, by rw [List.length_set]; exact h1, h2, by simp [h3], ?_⟩⟩
    · exact heap_setCell_same w g (i * k + r) cur e u hb
    · rw [List.length_set, flat_set hk hx hr hy, Array.toList_setIfInBounds, ← h4, List.take_set]
def enc3 (p : Rg) : List Value := [.int .i64 p.1, .int .i64 p.2.1, .int .i64 p.2.2]
theorem enc3_len (p : Rg) : (enc3 p).length = 3 := rfl
theorem cs3_flat : ∀ l : List Rg, cs3 l = l.flatMap enc3
  | [] => rfl
  | a :: l => by show _ :: _ :: _ :: cs3 l = _; rw [List.flatMap_cons, cs3_flat l]; rfl
theorem setTo_set (o : List Rg) (p : Rg) (n : Int) : setTo (o ++ [p]) n = (o ++ [p]).set o.length (p.1, p.2.1, n) := by
  rw [setTo_snoc, List.set_append_right _ _ (Nat.le_refl _), Nat.sub_self]
  rfl
/-- The reference's Lacks, between two rounds. -/
structure LK2 (w wr : World) (ks : List Int) (ov : Value) (out : List Rg) : Prop where
  bel : Below w.heap.size w wr
  vb : wr.heap[w.heap.size]? = some (.cells (va ks) 28 (0, 0))
  row : wr.ownsRow (w.heap.size + 1) 83 3 ov out.length (cs3 out)
  big : w.heap.size + 1 ≤ wr.heap.size
theorem LK2.step {w wr w' : World} {ks : List Int} {ov : Value} {out : List Rg} (h : LK2 w wr ks ov out) (hb : Below wr.heap.size wr w') : LK2 w w' ks ov out :=
  ⟨h.bel.trans (hb.mono h.bel.size), (hb.block _ (lt_of_block h.vb)).trans h.vb, own_keep h.row hb, Nat.le_trans h.big hb.size⟩
theorem info83 : (Try.prog.info? 83).map (fun i => (i.zero, i.size, i.bytes)) = some (some (.agg #[.int .i64 0, .int .i64 0, .int .i64 0]), 3, 24) := by kernel_rfl
theorem Try.u52 : Try.prog.underlying 52 = some (.slice 83) := by kernel_rfl
theorem src_rg2 (w : World) (p : Rg) : Src Try.prog 3 52 (.slice (some ⟨w.heap.size, 0, none⟩) 1 1) 1 (cs3 [p]) (w.alloc (.cells #[.int .i64 p.1, .int .i64 p.2.1, .int .i64 p.2.2] 83)) := by
  have hg := heap_alloc_new w (.cells #[.int .i64 p.1, .int .i64 p.2.1, .int .i64 p.2.2] 83)
  refine Src.ofSlice _ Try.u52 _ _ _ _ rfl ?_ (Ve.cs3_one _)
  intro j u hj
  rw [Ve.add_addr, Nat.zero_add, cell_of_row _ _ _ _ _ _ hg]
  match j, hj with
  | 0, hj => injection hj with hj; subst hj; rfl
  | 1, hj => injection hj with hj; subst hj; rfl
  | 2, hj => injection hj with hj; subst hj; rfl
  | j + 3, hj => simp [cs3] at hj
/-- The last one's end is another one. -/
theorem LK2.last {w wr : World} {ks : List Int} {ov : Value} {o : List Rg} {p : Rg} (h : LK2 w wr ks ov (o ++ [p])) :
    ∃ g c, ov = .slice (some ⟨g, 0, none⟩) (o.length + 1) c ∧ wr.cell? ⟨g, o.length * 3 + 2, none⟩ = some (.int .i64 p.2.2) ∧ wr.frozen? ⟨g, o.length * 3 + 2, none⟩ = false ∧ ∀ n : Int, LK2 w (wr.setCell ⟨g, o.length * 3 + 2, none⟩ (.int .i64 n)) ks (.slice (some ⟨g, 0, none⟩) (o.length + 1) c) (setTo (o ++ [p]) n) := by
  have hl : (o ++ [p]).length = o.length + 1 := by rw [List.length_append]; rfl
  have hrow := h.row
  rcases hrow.2 with ⟨_, h0⟩ | ⟨g, cap, cur, e1, hB, hb, h1, h2, h3, h4⟩
  · rw [hl] at h0; omega
  · refine ⟨g, cap, by rw [e1, hl], ?_, frozen_of_row _ _ _ _ _ hb, fun n => ?_⟩
    · have hc : (cs3 (o ++ [p]))[o.length * 3 + 2]? = some (.int .i64 p.2.2) := (cs3_get (o ++ [p]) o.length p (by rw [List.getElem?_append_right (Nat.le_refl _), Nat.sub_self]; rfl)).2.2
      rw [e1] at hrow
      have := hrow.cells (g := g) rfl _ _ hc
      rwa [Ve.add_addr, Nat.zero_add] at this
    · rw [e1] at hrow
      rw [cs3_flat] at hrow
      have hs := own_set enc3_len (u := .int .i64 n) (y := (p.1, p.2.1, n)) hrow (i := o.length) (x := p) (r := 2) (by rw [List.getElem?_append_right (Nat.le_refl _), Nat.sub_self]; rfl) (by omega) rfl
      rw [← setTo_set, ← cs3_flat] at hs
      have hl2 : (setTo (o ++ [p]) n).length = o.length + 1 := by rw [setTo_snoc, List.length_append]; rfl
      have hlt := hB
      refine ⟨h.bel.setCell (by show w.heap.size ≤ g; omega) _, (heap_setCell_other wr ⟨g, o.length * 3 + 2, none⟩ _ _ (by show w.heap.size ≠ g; omega)).trans h.vb, ?_, by have := h.big; simp [World.setCell]; omega⟩
      rw [hl2] at hs ⊢
      exact hs
theorem LK2.push {w W : World} {ks : List Int} {ov : Value} {out : List Rg} (h : LK2 w W ks ov out) (hl : out.length ≤ 1000000000000) (p : Rg) :
    ∃ a c W1, (Builtin.append_ #[52, 52] 52 #[ov, .slice (some ⟨W.heap.size, 0, none⟩) 1 1]).run Try.prog (W.alloc (.cells #[.int .i64 p.1, .int .i64 p.2.1, .int .i64 p.2.2] 83)) = .ok (.slice a (out.length + 1) c) W1 ∧ LK2 w W1 ks (.slice a (out.length + 1) c) (out ++ [p]) := by
  obtain ⟨i0, hi0, hz0, hz1, hz2⟩ := Ve.info_parts info83
  have h2 := h.step (vstep W (.cells #[.int .i64 p.1, .int .i64 p.2.1, .int .i64 p.2.2] 83))
  obtain ⟨v', W1, hr, ho, hgr, hsp⟩ := Wi.run_append_src_own (P := Try.prog) (W.alloc (.cells #[.int .i64 p.1, .int .i64 p.2.1, .int .i64 p.2.2] 83)) (w.heap.size + 1) 52 52 52 83 i0 (.agg #[.int .i64 0, .int .i64 0, .int .i64 0]) 3 24 Try.u52 hi0 hz0 hz1 hz2 rfl (by decide) ov out.length (cs3 out) h2.row (.slice (some ⟨W.heap.size, 0, none⟩) 1 1) 1 (cs3 [p]) (src_rg2 W p) (by unfold maxLen; omega) (by omega) h2.big
  obtain ⟨a, c, rfl⟩ := Ve.own_shape ho
  have hlt := own_lt h2.row
  refine ⟨a, c, W1, hr, h2.bel.grown hgr h2.bel.size (fun m e => by have := (hlt m e).1; omega), (hgr.block _ (lt_of_block h2.vb) (fun e => by have := (hlt _ e.symm).1; omega)).trans h2.vb, ?_, Nat.le_trans h2.big hgr.size⟩
  rw [List.length_append, cs3_append]
  exact ho
theorem lastG_take (l : List O) (rep : Int) {i : Nat} {x : O} (h : l[i]? = some x) : lastG (l.take (i + 1)) rep = if x.r = rep ∧ lastG (l.take i) rep < x.q then x.q else lastG (l.take i) rep := by
  unfold lastG
  rw [Ve.take_snoc' l i x h, List.foldl_append]
  rfl
theorem scan_keep (l : List O) (rep : Int) : ∀ (ns : List Int) (s : List Rg × Bool), (s.2 = true → s.1 ≠ []) → ((ns.foldl (scanS l rep) s).2 = true → (ns.foldl (scanS l rep) s).1 ≠ []) ∧ (ns.foldl (scanS l rep) s).1.length ≤ s.1.length + ns.length
  | [], s, h => ⟨h, by simp⟩
  | n :: ns, s, h => by
    rw [List.foldl_cons]
    have h1 : ((scanS l rep s n).2 = true → (scanS l rep s n).1 ≠ []) ∧ (scanS l rep s n).1.length ≤ s.1.length + 1 := by
      unfold scanS
      split
      · exact ⟨(fun h => by cases h), by simp⟩
      · split
        · rename_i h2
          have hne := h h2
          obtain ⟨o, p, e⟩ : ∃ o p, s.1 = o ++ [p] := ⟨s.1.dropLast, s.1.getLast hne, (List.dropLast_concat_getLast hne).symm⟩
          rw [e, setTo_snoc]
          simp
        · simp
    obtain ⟨h2, h3⟩ := scan_keep l rep ns _ h1.1
    exact ⟨h2, by rw [List.length_cons]; omega⟩
theorem nums_len (cur : Int) (n : Nat) : (nums cur n).length = n := by unfold nums; simp
theorem lckR_snoc (l : List O) (kk : Int → Int) (n : Nat) : (List.range (n + 1)).foldl (scanR l kk) [] = scanR l kk ((List.range n).foldl (scanR l kk) []) n := by
  rw [List.range_succ, List.foldl_append]
  rfl
theorem last_ge (l : List O) (hr : OkO l) (rep : Int) : 0 ≤ lastG l rep ∧ lastG l rep ≤ 4294967296 := by
  obtain ⟨h1, h2, h3⟩ := last_max l rep 0
  refine ⟨h1, ?_⟩
  rcases h3 with h3 | ⟨o, ho, _, e⟩
  · have : lastG l rep = 0 := h3
    omega
  · have : o.q = lastG l rep := e
    have := hr o ho
    omega
set_option maxHeartbeats 12800000 in
theorem rlacks_any (w : World) (v : Value) (l : List O) (hv : OLies w v l) (hr : OkO l) (ks : List Int) (hk : ks.length = 64) (hp : RightP ks) :
    Calls Try.prog 20 #[v, vw ks] w fun e w' => ∃ r, e = .returned r ∧ w'.ownsRow w.heap.size 83 3 r (lckR l (knw ks)).length (cs3 (lckR l (knw ks))) ∧ Below w.heap.size w w' := by
  have B1 := vstep w (.cells (va ks) 28)
  have N1 := heap_alloc_new w (.cells (va ks) 28)
  have s1 : (w.alloc (.cells (va ks) 28)).heap.size = w.heap.size + 1 := by simp
  obtain ⟨w0, hw0⟩ : ∃ z, w.alloc (.cells (va ks) 28) = z := ⟨_, rfl⟩
  rw [hw0] at N1 B1 s1
  have K0 := Lib.hid (show LK2 w w0 ks (.slice none 0 0) [] from ⟨B1, N1, World.ownsRow_nil _ _ _ _, by omega⟩)
  have V := Lib.hid (fun W (hb : Below w.heap.size w W) => OLies.step hv hb)
  have HR := Lib.hid hr
  have HK := Lib.hid hk
  have HP := Lib.hid hp
  have hlen := hv.len
  have AT := Lib.hid (fun W (hb : Below w.heap.size w W) r q => at_any W v l (hv.step hb) r q)
  obtain ⟨ao, cap, rfl⟩ := hv.shape
  have HVW := Lib.hid (show vw ks = .agg (va ks) from rfl)
  rw [HVW.out]
  obtain ⟨VA, hVA⟩ : ∃ z, va ks = z := ⟨_, rfl⟩
  rw [hVA] at hw0 ⊢
  clear hVA N1 B1 s1 hv hr hk hp
  go_enter Try.func20, Try.ntmps20
  go_wp2
  clear hw0
  go_loopw [5, 6] (fun ov iv wr => ∃ (k : Nat) (out : List Rg), iv = .int .i64 k ∧ ov = ov ∧ k ≤ 64 ∧ Hid (out = (List.range k).foldl (scanR l (knw ks)) []) ∧ out.length ≤ k * 4294967296 ∧ Hid (LK2 w wr ks ov out)) (fun _ iv _ => 64 - (intOf iv).toNat)
  case atStart => exact ⟨0, [], rfl, rfl, Nat.zero_le _, Lib.hid rfl, Nat.zero_le _, K0⟩
  case round =>
    obtain ⟨k, out, rfl, _, hk64, HO, hol, K⟩ := hrel
    obtain ⟨oa, oc, rfl⟩ := Ve.own_shape K.out.row
    by_cases hlt : k < 64
    · obtain ⟨x, hx⟩ : ∃ x, ks[k]? = some x := ⟨ks[k]'(by rw [HK.out]; exact hlt), List.getElem?_eq_getElem _⟩
      have KX := Lib.hid (show knw ks (k : Int) = x by unfold knw; rw [Int.toNat_natCast, List.getD_eq_getElem?_getD, hx]; rfl)
      have hxs := HP.out k x hx
      have hc := Ve.cell_va K.out.vb hx
      have HX := Lib.hid hx
      have hk0 : (0 : Int) ≤ (k : Int) := by omega
      have hk1 : (k : Int) < 64 := by omega
      clear hx
      go_wp2
      go_loop [7, 8] (fun lv iv => ∃ i : Nat, iv = .int .i64 i ∧ i ≤ l.length ∧ lv = .int .i64 (lastG (l.take i) (k : Int))) (fun _ iv => l.length - (intOf iv).toNat)
      case atStart => exact ⟨0, rfl, Nat.zero_le _, rfl⟩
      case round =>
        obtain ⟨i, rfl, hi, rfl⟩ := hrel
        by_cases hil : i < l.length
        · obtain ⟨g, off, o, rfl, ho, hg, e0, e1, e2, _⟩ := (V.out wr K.out.bel).at' hil
          have HL := Lib.hid (lastG_take l (k : Int) ho)
          obtain ⟨la, hla⟩ : ∃ z, lastG (l.take i) (k : Int) = z := ⟨_, rfl⟩
          rw [hla] at HL ⊢
          have hi0 : (0 : Int) ≤ (i : Int) := by omega
          have hi1 : (i : Int) < (l.length : Int) := by omega
          clear ho hg hla
          by_cases g1 : o.r = (k : Int)
          · have g1' := beqb_ o.r (k : Int) g1
            by_cases g2 : la < o.q
            · have E := Lib.hid (show lastG (l.take (i + 1)) (k : Int) = o.q by rw [HL.out, if_pos ⟨g1, g2⟩])
              clear g1
              go_wp2
              go_round
              case rel => exact ⟨i + 1, by go_num, by omega, by rw [E.out]⟩
              case measure => simp [intOf]; omega
            · have E := Lib.hid (show lastG (l.take (i + 1)) (k : Int) = la by rw [HL.out, if_neg (fun h => g2 h.2)])
              have g2' : ¬ (la < o.q) := g2
              clear g1
              go_wp2
              go_round
              case rel => exact ⟨i + 1, by go_num, by omega, by rw [E.out]⟩
              case measure => simp [intOf]; omega
          · have g1' := bneb_ o.r (k : Int) g1
            have E := Lib.hid (show lastG (l.take (i + 1)) (k : Int) = la by rw [HL.out, if_neg (fun h => g1 h.1)])
            clear g1
            go_wp2
            go_round
            case rel => exact ⟨i + 1, by go_num, by omega, by rw [E.out]⟩
            case measure => simp [intOf]; omega
        · have LG := last_ge l HR.out (k : Int)
          have LT := Lib.hid (show lastG (l.take i) (k : Int) = lastG l (k : Int) by rw [List.take_of_length_le (Nat.le_of_not_lt hil)])
          rw [LT.out]
          obtain ⟨la, hla⟩ : ∃ z, lastG l (k : Int) = z := ⟨_, rfl⟩
          have HLA := Lib.hid hla
          rw [hla] at LG ⊢
          have hw1 : wrap64 (x + 1) = x + 1 := by unfold wrap64; omega
          clear hla
          go_wp2
          go_loopw [5, 9, 10] (fun ov bv nv wx => ∃ (t : Nat) (o2 : List Rg) (bb : Bool) (a2 : Option Addr) (c2 : Nat), nv = .int .i64 (x + 1 + (t : Int)) ∧ bv = .bool bb ∧ ov = .slice a2 o2.length c2 ∧ (t = 0 ∨ x + (t : Int) ≤ la) ∧ o2.length ≤ k * 4294967296 + t ∧ Hid ((nums x t).foldl (scanS l (k : Int)) (out, false) = (o2, bb)) ∧ Hid (LK2 w wx ks (.slice a2 o2.length c2) o2)) (fun _ _ nv _ => (la + 1 - intOf nv).toNat)
          case atStart => exact ⟨0, out, false, oa, oc, by rw [show x + 1 + ((0 : Nat) : Int) = x + 1 by omega], rfl, rfl, .inl rfl, by rw [Nat.add_zero]; exact hol, Lib.hid (by unfold nums; simp), K⟩
          case round =>
            obtain ⟨t, o2, bb, a2, c2, rfl, rfl, rfl, ht, ho2, HF, K2⟩ := hrel
            obtain ⟨n, hn⟩ : ∃ n, x + 1 + (t : Int) = n := ⟨_, rfl⟩
            have NT := Lib.hid hn
            rw [hn]
            by_cases hnl : n ≤ la
            · have A1 := Lib.hid (AT.out wr K2.out.bel (k : Int) n)
              have SC := Lib.hid (show (nums x (t + 1)).foldl (scanS l (k : Int)) (out, false) = scanS l (k : Int) (o2, bb) n by rw [nums_succ, List.foldl_append, HF.out, ← hn]; rfl)
              have NE := Lib.hid (show bb = true → o2 ≠ [] by
                have := (scan_keep l (k : Int) (nums x t) (out, false) (fun h => by cases h)).1
                rw [HF.out] at this
                exact this)
              obtain ⟨ga, hga⟩ : ∃ z, atG l (k : Int) n = z := ⟨_, rfl⟩
              have HGA := Lib.hid hga
              rw [hga] at A1
              have hw3 : wrap64 (n + 1) = n + 1 := by unfold wrap64; omega
              have HT := Lib.hid (show n + 1 = x + 1 + ((t + 1 : Nat) : Int) by omega)
              have hnt : x + ((t + 1 : Nat) : Int) ≤ la := by omega
              clear hga hn HF
              go_wp2_with fail
              refine A1.out.mono ?_
              rintro e w5 ⟨rfl, rfl⟩
              cases ga with
              | true =>
                have S1 := Lib.hid (show (nums x (t + 1)).foldl (scanS l (k : Int)) (out, false) = (o2, false) by rw [SC.out]; unfold scanS; rw [if_pos HGA.out])
                go_wp2
                go_roundw
                case rel => exact ⟨t + 1, o2, false, a2, c2, by rw [← HT.out, hw3], rfl, rfl,   .inr hnt, by omega, S1, K2⟩
                case measure => simp [intOf]; omega
              | false =>
                cases bb with
                | true =>
                  have hne := NE.out rfl
                  obtain ⟨o3, p3, e3⟩ : ∃ o p, o2 = o ++ [p] := ⟨o2.dropLast, o2.getLast hne, (List.dropLast_concat_getLast hne).symm⟩
                  subst e3
                  obtain ⟨g, c, e4, hcl, hfz, hset⟩ := K2.out.last
                  have LN := Lib.hid (show (o3 ++ [p3]).length = o3.length + 1 by rw [List.length_append]; rfl)
                  have LN2 := Lib.hid (show (setTo (o3 ++ [p3]) n).length = o3.length + 1 by rw [setTo_snoc, List.length_append]; rfl)
                  have S1 := Lib.hid (show (nums x (t + 1)).foldl (scanS l (k : Int)) (out, false) = (setTo (o3 ++ [p3]) n, true) by rw [SC.out]; unfold scanS; rw [if_neg (by rw [HGA.out]; simp), if_pos (by rfl)])
                  have KS := Lib.hid (hset n)
                  rw [LN.out] at ho2
                  have e4' := e4
                  rw [LN.out] at e4' ⊢
                  injection e4' with e5 _ e6
                  subst e5 e6
                  obtain ⟨m, hm⟩ : ∃ m, o3.length = m := ⟨_, rfl⟩
                  rw [hm] at hcl hfz LN2 KS ho2 ⊢
                  have hm1 : wrap64 (((m + 1 : Nat) : Int) - 1) = (m : Int) := by unfold wrap64; omega
                  have hm2 : wrap64 ((m : Int) + 1 - 1) = (m : Int) := by unfold wrap64; omega
                  have hm0 : (0 : Int) ≤ (m : Int) := by omega
                  have hm3 : (m : Int) < ((m + 1 : Nat) : Int) := by omega
                  have hm4 : (m : Int) < (m : Int) + 1 := by omega
                  clear hset e4 hm hne K2 NE
                  go_wp2
                  go_roundw
                  case rel => exact ⟨t + 1, setTo (o3 ++ [p3]) n, true, _, _, by rw [← HT.out, hw3], rfl, by rw [LN2.out],   .inr hnt, by rw [LN2.out]; omega, S1, by rw [LN2.out]; exact KS⟩
                  case measure => simp [intOf]; omega
                | false =>
                  have S1 := Lib.hid (show (nums x (t + 1)).foldl (scanS l (k : Int)) (out, false) = (o2 ++ [((k : Int), n, n)], true) by rw [SC.out]; unfold scanS; rw [if_neg (by rw [HGA.out]; simp), if_neg (by simp)])
                  obtain ⟨a6, c6, w6, r6, k6⟩ := K2.out.push (by omega) ((k : Int), n, n)
                  have R6 := Lib.hid r6
                  have LN := Lib.hid (show (o2 ++ [((k : Int), n, n)]).length = o2.length + 1 by rw [List.length_append]; rfl)
                  rw [← LN.out] at k6
                  have K6 := Lib.hid k6
                  clear r6 k6 NE K2
                  go_wp2_with (at_builtin; refine Lib.wpList_append_run _ rfl (.tmp 64) (.tmp 69) 52 52 rfl (.slice a2 o2.length c2) (.slice (some ⟨wr.heap.size, 0, none⟩) 1 1) rfl rfl _ _ R6.out ?_)
                  go_roundw
                  case rel => exact ⟨t + 1, o2 ++ [((k : Int), n, n)], true, a6, c6, by rw [← HT.out, hw3], rfl, by rw [LN.out],   .inr hnt, by rw [LN.out]; omega, S1, K6⟩
                  case measure => simp [intOf]; omega
            · have FS := Lib.hid (show scanR l (knw ks) out k = o2 by
                unfold scanR
                rw [KX.out, HLA.out, show (la - x).toNat = t by omega, HF.out])
              have HO2 := Lib.hid (show o2 = (List.range (k + 1)).foldl (scanR l (knw ks)) [] by rw [lckR_snoc, ← HO.out, FS.out])
              have hb2 : o2.length ≤ (k + 1) * 4294967296 := by omega
              clear hn
              go_wp2
              go_roundw
              case rel => exact ⟨k + 1, o2, by go_num, by first | trivial | rfl, by omega, HO2, hb2, K2⟩
              case measure => simp [intOf]; omega
    · have h64 : k = 64 := by omega
      subst h64
      have FIN := Lib.hid (show lckR l (knw ks) = out from HO.out.symm)
      go_wp2
      go_returns
      refine ⟨_, rfl, ?_, K.out.bel⟩
      rw [FIN.out]
      exact Ve.own_less K.out.row (by omega)
end Go.Proofs.Ytgnnpfainoppeaa
