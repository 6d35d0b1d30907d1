/- Going up, plain: where Top ends. -/
import Derived.Test.YtegmlekeielmoaaFE
set_option linter.unusedVariables false
set_option maxRecDepth 100000
namespace Go.Proofs.Ytegmlekeielmoaa
open Go.RowKit Go.WideMaps Go.Maps

def upF (l : List Rw) (s : Sp) : Sp := match getF l s.1 s.2 with | some x => (x.pt, x.pr) | none => s
def nthF (l : List Rw) : Nat → Sp → Sp
  | 0, s => s
  | i + 1, s => nthF l i (upF l s)
theorem nth_add (l : List Rw) : ∀ (a b : Nat) (s : Sp), nthF l (a + b) s = nthF l b (nthF l a s)
  | 0, b, s => by rw [Nat.zero_add]; rfl
  | a + 1, b, s => by
    rw [Nat.add_right_comm]
    exact nth_add l a b (upF l s)
theorem fate_get {l : List Rw} {s : Sp} (h : fateF l s.1 s.2 = 3) : ∃ x, getF l s.1 s.2 = some x := fate_some h
theorem top_nth (l : List Rw) : ∀ (k : Nat) (s : Sp), ∃ i, i ≤ k ∧ topF l k s.1 s.2 = nthF l i s ∧ (∀ j, j < i → fateF l (nthF l j s).1 (nthF l j s).2 = 3) ∧ (fateF l (nthF l i s).1 (nthF l i s).2 ≠ 3 ∨ i = k)
  | 0, s => ⟨0, Nat.le_refl _, rfl, fun j h => absurd h (Nat.not_lt_zero _), .inr rfl⟩
  | k + 1, s => by
    by_cases hf : fateF l s.1 s.2 = 3
    · obtain ⟨x, hx⟩ := fate_get hf
      obtain ⟨i, h1, h2, h3, h4⟩ := top_nth l k (upF l s)
      have hu : upF l s = (x.pt, x.pr) := by unfold upF; rw [hx]
      refine ⟨i + 1, by omega, ?_, fun j hj => ?_, ?_⟩
      · show (if fateF l s.1 s.2 = 3 then (match getF l s.1 s.2 with | some x => topF l k x.pt x.pr | none => (s.1, s.2)) else (s.1, s.2)) = nthF l i (upF l s)
        rw [if_pos hf, hx, ← h2, hu]
      · cases j with
        | zero => exact hf
        | succ j => exact h3 j (by omega)
      · rcases h4 with h4 | h4
        · exact .inl h4
        · exact .inr (by omega)
    · refine ⟨0, Nat.zero_le _, ?_, fun j h => absurd h (Nat.not_lt_zero _), .inl hf⟩
      show (if fateF l s.1 s.2 = 3 then _ else (s.1, s.2)) = s
      rw [if_neg hf]
theorem above_nth (l : List Rw) : ∀ (k i : Nat) (s : Sp), 1 ≤ i → i ≤ k → (∀ j, j < i → ∃ x, getF l (nthF l j s).1 (nthF l j s).2 = some x) → aboveF l (nthF l i s).1 (nthF l i s).2 k s.1 s.2 = true
  | 0, i, s, h1, h2, _ => by omega
  | k + 1, i, s, h1, h2, h3 => by
    obtain ⟨x, hx⟩ := h3 0 (by omega)
    have hx : getF l s.1 s.2 = some x := hx
    have hu : upF l s = (x.pt, x.pr) := by unfold upF; rw [hx]
    show (match getF l s.1 s.2 with | none => false | some x => if x.pt = (nthF l i s).1 ∧ x.pr = (nthF l i s).2 then true else aboveF l (nthF l i s).1 (nthF l i s).2 k x.pt x.pr) = true
    rw [hx]
    by_cases hq : x.pt = (nthF l i s).1 ∧ x.pr = (nthF l i s).2
    · simp only [if_pos hq]
    · simp only [if_neg hq]
      obtain ⟨i', rfl⟩ : ∃ i', i = i' + 1 := ⟨i - 1, by omega⟩
      have hi' : 1 ≤ i' := by
        rcases Nat.eq_zero_or_pos i' with e | e
        · subst e
          exact absurd (show x.pt = (upF l s).1 ∧ x.pr = (upF l s).2 by rw [hu]; exact ⟨rfl, rfl⟩) hq
        · exact e
      have := above_nth l k i' (upF l s) hi' (by omega) (fun j hj => h3 (j + 1) (by omega))
      rw [hu] at this
      show aboveF l (nthF l i' (upF l s)).1 (nthF l i' (upF l s)).2 k x.pt x.pr = true
      rw [hu]
      exact this
def loopF (l : List Rw) : Bool := l.any (fun x => aboveF l x.t x.r l.length x.t x.r)
theorem get_node {l : List Rw} (hr : Rise l) {s : Sp} {x : Rw} (h : getF l s.1 s.2 = some x) : x ∈ l ∧ s = stOf x := by
  obtain ⟨h1, h2, h3⟩ := (get_some hr).1 h
  exact ⟨h1, Prod.ext h2.symm h3.symm⟩
theorem top_ends {l : List Rw} (hr : Rise l) (hl : loopF l = false) (s : Sp) : ∃ i, i ≤ l.length ∧ topF l l.length s.1 s.2 = nthF l i s ∧ (∀ j, j < i → fateF l (nthF l j s).1 (nthF l j s).2 = 3) ∧ fateF l (nthF l i s).1 (nthF l i s).2 ≠ 3 := by
  obtain ⟨i, h1, h2, h3, h4⟩ := top_nth l l.length s
  refine ⟨i, h1, h2, h3, fun h5 => ?_⟩
  rcases h4 with h4 | rfl
  · exact h4 h5
  have hall : ∀ j, j ≤ l.length → ∃ x, getF l (nthF l j s).1 (nthF l j s).2 = some x := fun j hj => by
    rcases Nat.lt_or_ge j l.length with h | h
    · exact fate_get (h3 j h)
    · have e : j = l.length := by omega
      subst e
      exact fate_get h5
  have hnd : ¬ ((List.range (l.length + 1)).map (fun j => nthF l j s)).Nodup := fun hn => by
    have hs : ((List.range (l.length + 1)).map (fun j => nthF l j s)) ⊆ nodesF l := fun y hy => by
      obtain ⟨j, hj, rfl⟩ := List.mem_map.1 hy
      obtain ⟨x, hx⟩ := hall j (by have := List.mem_range.1 hj; omega)
      obtain ⟨hm, e⟩ := get_node hr hx
      rw [e]
      exact List.mem_map.2 ⟨x, hm, rfl⟩
    have := List.Nodup.length_le_of_subset hn hs
    rw [List.length_map, List.length_range] at this
    unfold nodesF at this
    rw [List.length_map] at this
    omega
  apply hnd
  unfold List.Nodup
  rw [List.pairwise_map]
  refine List.Pairwise.imp_of_mem (R := fun a b => a < b) (fun {a b} ha hb hab he => ?_) List.pairwise_lt_range
  have hb := List.mem_range.1 hb
  obtain ⟨x, hx⟩ := hall a (by omega)
  obtain ⟨hm, e⟩ := get_node hr hx
  have hback : nthF l (b - a) (nthF l a s) = nthF l a s := by
    rw [← nth_add, show a + (b - a) = b by omega]
    exact he.symm
  have := above_nth l l.length (b - a) (nthF l a s) (by omega) (by omega) (fun j hj => by
    rw [← nth_add]
    exact hall (a + j) (by omega))
  rw [hback, e] at this
  have : loopF l = true := List.any_eq_true.2 ⟨x, hm, this⟩
  rw [hl] at this
  cases this
/-- Behind a node that is here: the root, or a node that is not gone and not missing. -/
theorem here_up {l : List Rw} {s : Sp} (h : fateF l s.1 s.2 = 3) (hroot : getF l 0 0 = none) : upF l s = (0, 0) ∨ fateF l (upF l s).1 (upF l s).2 = 2 ∨ fateF l (upF l s).1 (upF l s).2 = 3 := by
  obtain ⟨x, hx⟩ := fate_get h
  have hu : upF l s = (x.pt, x.pr) := by unfold upF; rw [hx]
  rw [hu]
  unfold fateF at h
  rw [hx] at h
  dsimp only at h
  split at h
  · cases h
  · split at h
    · rename_i hq
      exact .inl (Prod.ext hq.1 hq.2)
    · split at h
      · cases h
      · rename_i y hy
        split at h
        · rename_i hd
          right
          show fateF l x.pt x.pr = 2 ∨ fateF l x.pt x.pr = 3
          unfold fateF
          rw [hy]
          dsimp only
          rw [if_neg hd.2]
          split
          · exact .inr rfl
          · split
            · exact .inl rfl
            · split
              · exact .inr rfl
              · exact .inl rfl
        · cases h
theorem top_here {l : List Rw} (hr : Rise l) (hl : loopF l = false) (hroot : getF l 0 0 = none) (s : Sp) (h : fateF l s.1 s.2 = 3) :
    (topF l l.length s.1 s.2 = (0, 0) ∨ fateF l (topF l l.length s.1 s.2).1 (topF l l.length s.1 s.2).2 = 2) ∧ aboveF l (topF l l.length s.1 s.2).1 (topF l l.length s.1 s.2).2 l.length s.1 s.2 = true := by
  obtain ⟨i, h1, h2, h3, h4⟩ := top_ends hr hl s
  rw [h2]
  have hi : 1 ≤ i := by
    rcases Nat.eq_zero_or_pos i with e | e
    · subst e; exact absurd h h4
    · exact e
  refine ⟨?_, above_nth l l.length i s hi h1 (fun j hj => fate_get (h3 j hj))⟩
  obtain ⟨j, rfl⟩ : ∃ j, i = j + 1 := ⟨i - 1, by omega⟩
  have hup : nthF l (j + 1) s = upF l (nthF l j s) := nth_add l j 1 s
  rw [hup] at h4 ⊢
  rcases here_up (h3 j (by omega)) hroot with q | q | q
  · exact .inl q
  · exact .inr q
  · exact absurd q h4
theorem top_not {l : List Rw} {s : Sp} (h : fateF l s.1 s.2 ≠ 3) : ∀ k, topF l k s.1 s.2 = s
  | 0 => rfl
  | k + 1 => by
    show (if fateF l s.1 s.2 = 3 then _ else (s.1, s.2)) = s
    rw [if_neg h]
theorem mem_fold : ∀ (l m : List Rw) (y : Rw), y ∈ l.foldl setF m → y ∈ m ∨ y ∈ l
  | [], m, y, h => .inl h
  | x :: l, m, y, h => by
    rcases mem_fold l (setF m x) y h with q | q
    · rcases mem_set.1 q with e | e
      · exact .inr (by rw [e]; exact List.mem_cons_self ..)
      · exact .inl e.1
    · exact .inr (List.mem_cons_of_mem _ q)
theorem mem_made {l : List Rw} {y : Rw} (h : y ∈ madeF l) : y ∈ l := by
  rcases mem_fold l [] y h with q | q
  · cases q
  · exact q
theorem may_root {l : List Rw} (h : mayB l = true) : getF (madeF l) 0 0 = none := by
  rw [get_none]
  intro x hx hq
  have := List.all_eq_true.1 h x (mem_made hx)
  unfold rightB at this
  have := of_decide_eq_true this
  omega
set_option maxHeartbeats 3200000 in
theorem loop_any (w : World) (v : Value) (l : List Rw) (h : LiesR w v l) : Calls Try.prog 39 #[v] w fun e w' => e = .returned (.bool (loopF l)) ∧ Below w.heap.size w w' := by
  have L := Lib.hid h
  have hlm := h.len
  obtain ⟨ao, cap, rfl⟩ := h.shape
  clear h
  obtain ⟨res, hres⟩ : ∃ y, loopF l = y := ⟨_, rfl⟩
  rw [hres]
  have HR := Lib.hid hres
  clear hres
  go_enter Try.func39, Try.ntmps39
  go_wp2_with fail
  go_loopw [3] (fun kv wr => ∃ i : Nat, kv = .int .i64 i ∧ i ≤ l.length ∧ Hid (Below w.heap.size w wr ∧ ∀ (j : Nat) x, j < i → l[j]? = some x → aboveF l x.t x.r l.length x.t x.r = false)) (fun kv _ => l.length - (intOf kv).toNat)
  case atStart => exact ⟨0, rfl, Nat.zero_le _, Lib.hid ⟨Below.refl _ _, fun j x h => absurd h (Nat.not_lt_zero _)⟩⟩
  case round =>
    obtain ⟨i, rfl, hi, hK⟩ := hrel
    have K0 := Lib.hid hK.out.1
    have J0 := Lib.hid hK.out.2
    clear hK
    by_cases hlt : i < l.length
    · obtain ⟨g, o, x, rfl, hx, hg, a0, a1, a2, a3, a4, a5⟩ := (L.out.step K0.out).row hlt
      have HX := Lib.hid hx
      have CF := Lib.hid (fun W (hb : Below wr.heap.size wr W) => (show W.cell? ⟨g, o + i * 6, none⟩ = some (.int .i64 x.t) ∧ W.cell? ⟨g, o + i * 6 + 1, none⟩ = some (.int .i64 x.r) from ⟨(hb.cell (p := ⟨g, o + i * 6, none⟩) hg).trans a0, (hb.cell (p := ⟨g, o + i * 6 + 1, none⟩) hg).trans a1⟩))
      have AB := Lib.hid (fun W (hb : Below wr.heap.size wr W) => rabove_any W _ l ((L.out.step K0.out).step hb) x.t x.r x.t x.r)
      have BB := Lib.hid ((Below.refl wr.heap.size wr).drew)
      obtain ⟨bb, hbb⟩ : ∃ y, aboveF l x.t x.r l.length x.t x.r = y := ⟨_, rfl⟩
      rw [hbb] at AB
      have HB := Lib.hid hbb
      clear hx hg a2 a3 a4 a5 hbb a0 a1
      cases bb
      all_goals
        go_upto_region 4 with (fail)
        go_region_held3 (fun W => W.cell? ⟨g, o + i * 6, none⟩ = some (.int .i64 x.t) ∧ W.cell? ⟨g, o + i * 6 + 1, none⟩ = some (.int .i64 x.r)) (exact CF.out _ BB.out)
          (first
          | (go_at_call 28; refine (AB.out _ BB.out).mono ?_; rintro e w4 ⟨rfl, hb⟩; have BB := Lib.hid (BB.out.trans (hb.mono BB.out.size)); clear hb))
      · have K2 := Lib.hid (K0.out.trans (BB.out.mono K0.out.size))
        have HQ := Lib.hid (show ∀ (j : Nat) y, j < i + 1 → l[j]? = some y → aboveF l y.t y.r l.length y.t y.r = false from fun j y hj hy => by
          by_cases e : j = i
          · subst e; rw [HX.out] at hy; injection hy with hy; subst hy; exact HB.out
          · exact J0.out j y (by omega) hy)
        go_wp2
        go_roundw
        case rel => exact ⟨i + 1, by go_num, by omega, Lib.hid ⟨K2.out, HQ.out⟩⟩
        case measure => simp [intOf]; omega
      · have K2 := Lib.hid (K0.out.trans (BB.out.mono K0.out.size))
        have NO := Lib.hid (show res = true from by
          rw [← HR.out]
          exact List.any_eq_true.2 ⟨x, List.mem_of_getElem? HX.out, HB.out⟩)
        go_wp2
        go_returns
        exact ⟨ret_b' NO.out, K2.out⟩
    · have FIN := Lib.hid (show res = false from by
        rw [← HR.out]
        unfold loopF
        rw [List.any_eq_false]
        intro x hx
        obtain ⟨j, hj⟩ := List.mem_iff_getElem?.1 hx
        rw [J0.out j x (by have := (List.getElem?_eq_some_iff.1 hj).1; omega) hj]
        simp)
      clear J0
      go_wp2
      go_returns
      exact ⟨ret_b' FIN.out, K0.out⟩
end Go.Proofs.Ytegmlekeielmoaa
