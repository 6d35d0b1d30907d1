/- Slices of ops; op.Code. Made by genog7.py. -/
import Derived.Test.YtifeakmbeaflgaaDoorOF
set_option linter.unusedVariables false
namespace Go.Proofs.YtifeakmbeaflgaaDoor
open Go.RowKit
open Wi (WrI WrOut Eff RowOut nb)

theorem info25 : (Tryd.prog.info? 25).map (fun i => (i.zero, i.size, i.bytes)) = some (some (oV O0), 9, 80) := by kernel_rfl
theorem Tryd.u27 : Tryd.prog.underlying 27 = some (.slice 25) := by kernel_rfl
theorem add_addr (k o j : Nat) : (⟨k, o, none⟩ : Addr).add j = ⟨k, o + j, none⟩ := by
  unfold Addr.add; split <;> simp_all
def oc (o : O) : List Value := (oCells o).toList
theorem oc_len (o : O) : (oc o).length = 9 := rfl
def cs9 : List O → List Value
  | [] => []
  | p :: r => oc p ++ cs9 r
theorem cs9_length : ∀ l : List O, (cs9 l).length = l.length * 9
  | [] => rfl
  | p :: r => by show (oc p ++ cs9 r).length = (r.length + 1) * 9; rw [List.length_append, oc_len, cs9_length r]; omega
theorem cs9_append : ∀ l m : List O, cs9 (l ++ m) = cs9 l ++ cs9 m
  | [], m => rfl
  | p :: r, m => by show oc p ++ cs9 (r ++ m) = oc p ++ cs9 r ++ cs9 m; rw [cs9_append r m, List.append_assoc]
theorem oc_one (o : O) : ∀ u ∈ oc o, u.oneCell' = true := by
  intro u hu
  simp only [oc, oCells, List.mem_cons, List.not_mem_nil, or_false] at hu
  rcases hu with rfl | rfl | rfl | rfl | rfl | rfl | rfl | rfl | rfl <;> rfl
theorem cs9_one : ∀ (l : List O), ∀ u ∈ cs9 l, u.oneCell' = true
  | [], u, h => by cases h
  | p :: r, u, h => by
    rcases List.mem_append.1 h with h | h
    · exact oc_one p u h
    · exact cs9_one r u h
theorem cs9_get : ∀ (l : List O) (j : Nat) (p : O), l[j]? = some p → ∀ i, i < 9 → (cs9 l)[j * 9 + i]? = (oc p)[i]?
  | [], j, p, h, i, hi => by cases h
  | q :: r, 0, p, h, i, hi => by
    injection h with h
    subst h
    show (oc q ++ cs9 r)[0 * 9 + i]? = _
    rw [List.getElem?_append_left (by rw [oc_len]; omega), Nat.zero_mul, Nat.zero_add]
  | q :: r, j + 1, p, h, i, hi => by
    have ih := cs9_get r j p (by simpa using h) i hi
    show (oc q ++ cs9 r)[(j + 1) * 9 + i]? = _
    rw [List.getElem?_append_right (by rw [oc_len]; omega), oc_len, show (j + 1) * 9 + i - 9 = j * 9 + i by omega]
    exact ih
theorem cs9_at (l : List O) (i : Nat) (u : Value) (h : (cs9 l)[i]? = some u) : ∃ j p r, l[j]? = some p ∧ r < 9 ∧ i = j * 9 + r ∧ (oc p)[r]? = some u := by
  have hlt := (List.getElem?_eq_some_iff.1 h).1
  rw [cs9_length] at hlt
  have hj : i / 9 < l.length := by omega
  have hr : i % 9 < 9 := Nat.mod_lt _ (by omega)
  have e : i = i / 9 * 9 + i % 9 := by omega
  refine ⟨i / 9, _, i % 9, List.getElem?_eq_getElem hj, hr, e, ?_⟩
  have := cs9_get l (i / 9) _ (List.getElem?_eq_getElem hj) (i % 9) hr
  rw [← this, ← e]
  exact h
/-- A slice that holds these ops, wherever. -/
def OLies (w : World) (v : Value) (l : List O) : Prop := ∃ ao cap, v = .slice ao l.length cap ∧ l.length ≤ cap ∧ cap ≤ maxLen ∧ (ao = none → l = [] ∧ cap = 0) ∧
  ∀ b, ao = some b → l ≠ [] → ∃ g k, b = ⟨g, k, none⟩ ∧ g < w.heap.size ∧ ∀ (j : Nat) p, l[j]? = some p → ∀ i u, (oc p)[i]? = some u → w.cell? ⟨g, k + j * 9 + i, none⟩ = some u
theorem OLies.nil (w : World) : OLies w (.slice none 0 0) [] := ⟨none, 0, rfl, Nat.le_refl _, Nat.zero_le _, fun _ => ⟨rfl, rfl⟩, fun b hb => by cases hb⟩
theorem OLies.step {w w' : World} {v : Value} {l : List O} (h : OLies w v l) (hb : Below w.heap.size w w') : OLies w' v l := by
  obtain ⟨ao, cap, rfl, hn, hm, h0, hc⟩ := h
  refine ⟨ao, cap, rfl, hn, hm, h0, fun b hbb hne => ?_⟩
  obtain ⟨g, k, rfl, hk, hc⟩ := hc b hbb hne
  exact ⟨g, k, rfl, Nat.lt_of_lt_of_le hk hb.size, fun j p hj i u hi => (hb.cell (p := ⟨g, k + j * 9 + i, none⟩) hk).trans (hc j p hj i u hi)⟩
theorem OLies.shape {w : World} {v : Value} {l : List O} (h : OLies w v l) : ∃ ao cap, v = .slice ao l.length cap := by
  obtain ⟨ao, cap, e, _⟩ := h; exact ⟨ao, cap, e⟩
theorem OLies.len {w : World} {v : Value} {l : List O} (h : OLies w v l) : l.length ≤ 9223372036854775807 := by
  obtain ⟨ao, cap, e, h1, h2, _⟩ := h
  unfold maxLen at h2
  omega
theorem ne_of_lt {l : List O} {i : Nat} (h : i < l.length) : l ≠ [] := by rintro rfl; simp at h
theorem OLies.at' {w : World} {ao : Option Addr} {n cap : Nat} {l : List O} (h : OLies w (.slice ao n cap) l) {i : Nat} (hi : i < n) : ∃ g k o, ao = some ⟨g, k, none⟩ ∧ l[i]? = some o ∧ g < w.heap.size ∧ (w.cell? ⟨g, k + i * 9, none⟩ = some (.int .i64 o.t) ∧ w.cell? ⟨g, k + i * 9 + 1, none⟩ = some (.int .i64 o.r) ∧ w.cell? ⟨g, k + i * 9 + 2, none⟩ = some (.int .i64 o.q) ∧ w.cell? ⟨g, k + i * 9 + 3, none⟩ = some (.int .i64 o.nt) ∧ w.cell? ⟨g, k + i * 9 + 4, none⟩ = some (.int .i64 o.nr) ∧ w.cell? ⟨g, k + i * 9 + 5, none⟩ = some (.int .i64 o.pt) ∧ w.cell? ⟨g, k + i * 9 + 6, none⟩ = some (.int .i64 o.pr) ∧ w.cell? ⟨g, k + i * 9 + 7, none⟩ = some (.string o.nm) ∧ w.cell? ⟨g, k + i * 9 + 8, none⟩ = some (.bool o.d)) := by
  obtain ⟨ao', cap', e, hn, hm, h0, hc⟩ := h
  injection e with e1 e2 e3
  subst e1 e2 e3
  cases ao with
  | none => obtain ⟨rfl, _⟩ := h0 rfl; simp at hi
  | some b =>
    obtain ⟨g, k, rfl, hg, hc⟩ := hc b rfl (ne_of_lt hi)
    have hp := List.getElem?_eq_getElem hi
    exact ⟨g, k, _, rfl, hp, hg, hc i _ hp 0 _ rfl, hc i _ hp 1 _ rfl, hc i _ hp 2 _ rfl, hc i _ hp 3 _ rfl, hc i _ hp 4 _ rfl, hc i _ hp 5 _ rfl, hc i _ hp 6 _ rfl, hc i _ hp 7 _ rfl, hc i _ hp 8 _ rfl⟩
theorem OLies.src {w : World} {v : Value} {l : List O} (h : OLies w v l) : Src Tryd.prog 9 27 v l.length (cs9 l) w := by
  obtain ⟨ao, cap, rfl, hn, _, h0, hc⟩ := h
  cases ao with
  | none =>
    obtain ⟨rfl, rfl⟩ := h0 rfl
    exact Src.ofNil _ Tryd.u27 0
  | some b =>
    refine Src.ofSlice _ Tryd.u27 _ _ _ _ (cs9_length l) (fun i u hi => ?_) (cs9_one l)
    obtain ⟨j, p, r, hj, hr, rfl, hu⟩ := cs9_at l i u hi
    obtain ⟨g, k, rfl, _, hc⟩ := hc b rfl (ne_of_lt (List.getElem?_eq_some_iff.1 hj).1)
    rw [add_addr, ← Nat.add_assoc]
    exact hc j p hj r u hu
theorem own_olies {w : World} {B : Nat} {v : Value} {l : List O} (h : w.ownsRow B 25 9 v l.length (cs9 l)) : OLies w v l := by
  rcases h.2 with ⟨rfl, hn⟩ | ⟨g, cap, cur, rfl, hB, hg, hn, hm, hs, ht⟩
  · have : l = [] := List.eq_nil_of_length_eq_zero hn
    subst this
    exact OLies.nil w
  · refine ⟨_, cap, rfl, hn, hm, (fun h => by cases h), fun b hb _ => ?_⟩
    cases hb
    refine ⟨g, 0, rfl, (Array.getElem?_eq_some_iff.1 hg).1, fun j p hj i u hi => ?_⟩
    have hi9 : i < 9 := by have := (List.getElem?_eq_some_iff.1 hi).1; rwa [oc_len] at this
    have c := cs9_get l j p hj i hi9
    have h0 := h.cells (g := g) rfl _ _ (c.trans hi)
    rw [add_addr] at h0
    rw [Nat.zero_add] at h0 ⊢
    exact h0
theorem own_mono {w : World} {B B' e size n : Nat} {v : Value} {xs : List Value} (hb : B ≤ B') (h : w.ownsRow B' e size v n xs) : w.ownsRow B e size v n xs :=
  ⟨h.1, h.2.imp id fun ⟨g, cap, cur, h1, h2, h3⟩ => ⟨g, cap, cur, h1, Nat.le_trans hb h2, h3⟩⟩
structure Fit (o : O) : Prop where
  t : o.t ≤ 9223372036854775807
  r : o.r ≤ 9223372036854775807
  q : o.q ≤ 9223372036854775807
  nt : o.nt ≤ 9223372036854775807
  nr : o.nr ≤ 9223372036854775807
  pt : o.pt ≤ 9223372036854775807
  pr : o.pr ≤ 9223372036854775807
def bodyB (l : List O) : List Int := l.flatMap oB
def codeB (l : List O) : List Int := nb l.length ++ bodyB l
theorem bodyB_snoc (l : List O) (k : Nat) (o : O) (h : l[k]? = some o) : bodyB (l.take (k + 1)) = bodyB (l.take k) ++ oB o := by
  obtain ⟨hlt, e⟩ := List.getElem?_eq_some_iff.1 h
  unfold bodyB
  rw [List.take_succ_eq_append_getElem hlt, List.flatMap_append, e]
  simp
theorem oB_len (o : O) (h : Fit o) (hz : o.nm.size ≤ 1000) : (oB o).length ≤ o.nm.size + 73 := opB_len o.t o.r o.q o.nt o.nr o.pt o.pr o.nm o.d h.t h.r h.q h.nt h.nr h.pt h.pr hz
theorem bodyB_len : ∀ (l : List O), (∀ o ∈ l, Fit o ∧ o.nm.size ≤ 300) → (bodyB l).length ≤ 373 * l.length
  | [], _ => by simp [bodyB]
  | o :: l, h => by
    have ih := bodyB_len l (fun x hx => h x (List.mem_cons_of_mem _ hx))
    obtain ⟨h1, h2⟩ := h o (List.mem_cons_self ..)
    have := oB_len o h1 (by omega)
    show (oB o ++ bodyB l).length ≤ _
    rw [List.length_append, List.length_cons]
    omega
set_option maxRecDepth 100000 in
set_option maxHeartbeats 6400000 in
theorem code_any (w : World) (v : Value) (l : List O) (h : OLies w v l) (hl : l.length ≤ 100) (hf : ∀ o ∈ l, Fit o ∧ o.nm.size ≤ 300) :
    Calls Tryd.prog 29 #[v] w fun e w' => ∃ r, e = .returned r ∧ RowOut w w' r (codeB l) := by
  have W0 := Lib.hid (show WrI (w.alloc (.cells #[.slice none 0 0] 39)) w.heap.size w.heap.size (.slice none 0 0) [] from ⟨Nat.le_refl _, heap_alloc_new w _, World.ownsRow_nil _ _ _ _⟩)
  have X0 := Lib.hid ((Below.refl w.heap.size w).alloc (Nat.le_refl _) (.cells #[.slice none 0 0] 39))
  have N0 : Calls Tryd.prog 49 #[.pointer (some ⟨w.heap.size, 0, none⟩), .int .i64 (l.length : Int)] (w.alloc (.cells #[.slice none 0 0] 39)) fun e w' => e = .returned (.tuple #[]) ∧ WrOut (w.alloc (.cells #[.slice none 0 0] 39)) w' w.heap.size w.heap.size (.slice none 0 0) (nb l.length) := by
    have := Wi.wnum_any (w.alloc (.cells #[.slice none 0 0] 39)) w.heap.size w.heap.size (.slice none 0 0) [] (l.length : Int) (by omega) W0.out (by simp) (by simp)
    rwa [List.nil_append, Int.toNat_natCast] at this
  have NN := Lib.hid N0
  have H := Lib.hid h
  have HF := Lib.hid hf
  have hnl := Wi.nb_len9 l.length (by omega)
  have BL := Lib.hid (fun k => show (nb l.length ++ bodyB (l.take k)).length ≤ 40000 from by
    have := bodyB_len (l.take k) (fun o ho => hf o (List.mem_of_mem_take ho))
    rw [List.length_append]
    rw [List.length_take] at this
    omega)
  have EB := Lib.hid (show codeB l = nb l.length ++ bodyB l from rfl)
  obtain ⟨ao, cap, rfl⟩ := h.shape
  clear h hf N0 hnl
  obtain ⟨W1, hW1⟩ : ∃ x, w.alloc (.cells #[.slice none 0 0] 39) = x := ⟨_, rfl⟩
  rw [hW1] at W0 X0 NN
  have HW1 := Lib.hid hW1
  clear hW1
  go_enter Tryd.func29, Tryd.ntmps29
  go_upto_region 2 with (fail)
  rw [HW1.out]
  go_wp2_with fail
  refine NN.out.mono ?_
  rintro e w1 ⟨rfl, v1, hw1, he1⟩
  have P1 := Lib.hid hw1
  have B1 := Lib.hid (X0.out.trans (he1.below W0.out X0.out.size))
  clear hw1 he1 NN
  go_wp2_with fail
  go_loopw [11] (fun kv wr => ∃ k : Nat, kv = .int .i64 k ∧ k ≤ l.length ∧ Hid ((∃ v', WrI wr w.heap.size w.heap.size v' (nb l.length ++ bodyB (l.take k))) ∧ Below w.heap.size w wr)) (fun kv _ => l.length - (intOf kv).toNat)
  case atStart => exact ⟨0, rfl, Nat.zero_le _, Lib.hid ⟨⟨v1, by simpa [bodyB] using P1.out⟩, B1.out⟩⟩
  case round =>
    obtain ⟨k, rfl, hk, hI⟩ := hrel
    by_cases hlt : k < l.length
    · obtain ⟨g, o, p, rfl, hp, hg, hc⟩ := (H.out.step hI.out.2).at' hlt
      obtain ⟨c0, c1, c2, c3, c4, c5, c6, c7, c8⟩ := hc
      obtain ⟨v', hw⟩ := hI.out.1
      obtain ⟨hf1, hf2⟩ := HF.out p (List.mem_of_getElem? hp)
      have SN := Lib.hid (bodyB_snoc l k p hp)
      have hX := (Below.refl wr.heap.size wr).alloc (Nat.le_refl _) (.cells #[.int .i64 p.t, .int .i64 p.r, .int .i64 p.q, .int .i64 p.nt, .int .i64 p.nr, .int .i64 p.pt, .int .i64 p.pr, .string p.nm, .bool p.d] 25)
      have BX := Lib.hid (hI.out.2.trans (hX.mono hI.out.2.size))
      have PU := Lib.hid (put_any (wr.alloc (.cells #[.int .i64 p.t, .int .i64 p.r, .int .i64 p.q, .int .i64 p.nt, .int .i64 p.nr, .int .i64 p.pt, .int .i64 p.pr, .string p.nm, .bool p.d] 25)) w.heap.size w.heap.size v' _ p.t p.r p.q p.nt p.nr p.pt p.pr p.nm p.d hf1.t hf1.r hf1.q hf1.nt hf1.nr hf1.pt hf1.pr (by omega) (hw.old hX) BX.out.size (by have := BL.out k; omega))
      have HW := Lib.hid (hw.old hX)
      clear hp hg hI hX hw hf1 hf2
      go_wp2_with fail
      refine PU.out.mono ?_
      rintro e w2 ⟨rfl, v2, hw2, he2⟩
      have FIN := Lib.hid (show (∃ v', WrI w2 w.heap.size w.heap.size v' (nb l.length ++ bodyB (l.take (k + 1)))) ∧ Below w.heap.size w w2 from ⟨⟨v2, by rw [SN.out, ← List.append_assoc]; exact hw2⟩, BX.out.trans (he2.below HW.out BX.out.size)⟩)
      clear hw2 he2 c0 c1 c2 c3 c4 c5 c6 c7 c8
      go_wp2_with fail
      go_roundw
      case rel => exact ⟨k + 1, by go_num, by omega, FIN⟩
      case measure => simp [intOf]; omega
    · obtain ⟨v', hw⟩ := hI.out.1
      rw [show l.take k = l from List.take_of_length_le (by omega), ← EB.out] at hw
      have BW := Lib.hid hI.out.2
      have WB := Lib.hid (Wi.wbytes_any wr w.heap.size w.heap.size v' (codeB l) hw (by have := BL.out k; rw [show l.take k = l from List.take_of_length_le (by omega), ← EB.out] at this; omega))
      clear hw hI
      obtain ⟨cb, hcb⟩ : ∃ x, codeB l = x := ⟨_, rfl⟩
      rw [hcb] at WB
      have HCB := Lib.hid hcb
      clear hcb
      go_wp2_with fail
      refine WB.out.mono ?_
      rintro e w2 ⟨r, rfl, ho⟩
      have RO := Lib.hid (show RowOut w w2 r cb from ⟨own_mono BW.out.size ho.1, BW.out.trans (ho.2.mono BW.out.size)⟩)
      obtain ⟨ra, rc, rfl⟩ := Wi.own_shape ho.1
      clear ho
      go_wp2
      go_returns
      exact ⟨.slice ra cb.length rc, rfl, by rw [HCB.out]; exact RO.out⟩
end Go.Proofs.YtifeakmbeaflgaaDoor
