/- Same in general; long; path.Parse, path.Text. Made by genpf.py. -/
import Derived.Test.YtgiiddcjepjgcaaDoorPE
import Derived.Test.YtgiiddcjepjgcaaDoorChecks
import Derived.Lib.SplitLaws
import Derived.Lib.Join
set_option linter.unusedVariables false
namespace Go.Proofs.YtgiiddcjepjgcaaDoor
open Go.RowKit

set_option maxRecDepth 100000 in
set_option maxHeartbeats 1600000 in
theorem rsame_gen (w : World) (v1 v2 : Value) (l m : List ByteArray) (h1 : SLies w v1 l) (h2 : SLies w v2 m) (b : Bool) (hb : b = true ↔ l = m) :
    Calls Tryd.prog 12 #[v1, v2] w fun e w' => e = .returned (.bool b) ∧ Below w.heap.size w w' := by
  have H1 := Lib.hid h1
  have H2 := Lib.hid h2
  have HB := Lib.hid hb
  have hl := h1.len
  have hl2 := h2.len
  obtain ⟨a1, p1, rfl, -⟩ := h1
  obtain ⟨a2, p2, rfl, -⟩ := h2
  clear hb
  by_cases hlen : l.length = m.length
  · have hle : (l.length : Int) = (m.length : Int) := by omega
    have HLE := Lib.hid hlen
    have t0 := eqb_ (l.length : Int) (m.length : Int) hle
    go_enter Tryd.func12, Tryd.ntmps12
    go_wp2
    clear hle hlen t0
    go_loopw [5] (fun kv wr => ∃ k : Nat, kv = .int .i64 k ∧ k ≤ l.length ∧ Hid (∀ j, j < k → l[j]? = m[j]?) ∧ ∃ n, wr = w.drewN n) (fun kv _ => l.length - (intOf kv).toNat)
    case atStart => exact ⟨0, rfl, Nat.zero_le _, Lib.hid (fun j hj => by omega), 0, rfl⟩
    case round =>
      obtain ⟨k, rfl, hk, hJ, n, rfl⟩ := hrel
      by_cases hlt : k < l.length
      · obtain ⟨g1, o1, x, rfl, hx, _, c1⟩ := H1.out.at' hlt
        obtain ⟨g2, o2, y, rfl, hy, _, c2⟩ := H2.out.at' (show k < m.length by have := HLE.out; omega)
        have hi2 : (k : Int) < (m.length : Int) := by have := HLE.out; omega
        by_cases e : x = y
        · have t1 := tl_eq e
          have HN := Lib.hid (show ∀ j, j < k + 1 → l[j]? = m[j]? from fun j hj => by
            by_cases q : j = k
            · rw [q, hx, hy, e]
            · exact hJ.out j (by omega))
          clear hx hy e hJ
          go_wp2
          go_quiet (fail)
          go_wp2
          go_roundw
          case rel => exact ⟨k + 1, by go_num, by omega, HN, _, rfl⟩
          case measure => simp [intOf]; omega
        · have t1 := tl_ne e
          have HF := Lib.hid (show b = false from by
            cases hb : b with
            | false => rfl
            | true => exact absurd (by have q := HB.out.1 hb; rw [q, hy] at hx; injection hx with hx; exact hx.symm) e)
          clear hx hy e hJ
          go_wp2
          go_quiet (fail)
          go_wp2
          go_returns
          exact ⟨ret_b HF.out.symm, ⟨rfl, rfl, rfl, Nat.le_refl _, fun _ _ => rfl⟩⟩
      · have HT := Lib.hid (show b = true from HB.out.2 (List.ext_getElem? fun j => by
          by_cases q : j < k
          · exact hJ.out j q
          · rw [List.getElem?_eq_none (by omega), List.getElem?_eq_none (by have := HLE.out; omega)]))
        clear hJ
        go_wp2
        go_returns
        exact ⟨ret_b HT.out.symm, ⟨rfl, rfl, rfl, Nat.le_refl _, fun _ _ => rfl⟩⟩
  · have t0 := neb_ (l.length : Int) (m.length : Int) (by omega)
    have HF := Lib.hid (show b = false from by
      cases hb : b with
      | false => rfl
      | true => exact absurd (by rw [HB.out.1 hb]) hlen)
    clear hlen
    go_enter Tryd.func12, Tryd.ntmps12
    go_wp2
    go_returns
    exact ⟨ret_b HF.out.symm, Below.refl _ _⟩
noncomputable def longB (l : List ByteArray) (most : Nat) : Bool := @decide (16 < l.length ∨ ∃ s ∈ l.take 20, most < s.size) (Classical.propDecidable _)
theorem longB_false {l : List ByteArray} {most : Nat} (h : longB l most = false) : l.length ≤ 16 ∧ ∀ s ∈ l, s.size ≤ most := by
  unfold longB at h
  have h' := @of_decide_eq_false _ (Classical.propDecidable _) h
  have h1 : l.length ≤ 16 := Nat.le_of_not_lt fun x => h' (.inl x)
  refine ⟨h1, fun s hs => Nat.le_of_not_lt fun x => h' (.inr ⟨s, ?_, x⟩)⟩
  rw [List.take_of_length_le (by omega)]
  exact hs
set_option maxRecDepth 100000 in
set_option maxHeartbeats 1600000 in
theorem long_any (w : World) (v : Value) (l : List ByteArray) (most : Nat) (hmo : most ≤ 1000) (h : SLies w v l) :
    Calls Tryd.prog 5 #[v, .int .i64 (most : Int)] w fun e w' => e = .returned (.bool (longB l most)) ∧ w = w' := by
  have H := Lib.hid h
  have hl := h.len
  have YES := Lib.hid (show (16 < l.length ∨ ∃ s ∈ l.take 20, most < s.size) → longB l most = true from fun h => by unfold longB; exact @decide_eq_true _ (Classical.propDecidable _) h)
  have NO := Lib.hid (show ¬ (16 < l.length ∨ ∃ s ∈ l.take 20, most < s.size) → longB l most = false from fun h => by unfold longB; exact @decide_eq_false _ (Classical.propDecidable _) h)
  obtain ⟨ao, cap, rfl, -⟩ := h
  generalize longB l most = q at *
  go_enter Tryd.func5, Tryd.ntmps5
  go_wp2
  go_loop [5] (fun kv => ∃ k : Nat, kv = .int .i64 k ∧ k ≤ l.length ∧ k ≤ 20 ∧ Hid (∀ s ∈ l.take k, s.size ≤ most)) (fun kv => 20 - (intOf kv).toNat)
  case atStart => exact ⟨0, rfl, Nat.zero_le _, by omega, Lib.hid (by simp)⟩
  case round =>
    obtain ⟨k, rfl, hk, hk40, hN⟩ := hrel
    by_cases hlt : k < l.length ∧ k < 20
    · obtain ⟨hl1, hl2⟩ := hlt
      obtain ⟨g, o, x, rfl, hx, hg, hc⟩ := H.out.at' hl1
      have h40 : (k : Int) < 20 := by omega
      by_cases e : most < x.size
      · have e' : (most : Int) < (x.size : Int) := by omega
        have HM := Lib.hid (YES.out (.inr ⟨x, idx_mem_take hl2 hx, e⟩))
        clear hx hg
        go_wp2
        go_returns
        exact ⟨ret_b HM.out.symm, rfl⟩
      · have e' : ¬ (most : Int) < (x.size : Int) := by omega
        have HM := Lib.hid (show ∀ s ∈ l.take (k + 1), s.size ≤ most from fun s hs => by
          obtain ⟨he, hee⟩ := List.getElem?_eq_some_iff.1 hx
          rw [List.take_succ_eq_append_getElem he, hee] at hs
          rcases List.mem_append.1 hs with q | q
          · exact hN.out s q
          · rw [List.mem_singleton.1 q]; omega)
        clear hx hg
        go_wp2
        go_round
        case rel => exact ⟨k + 1, by go_num, by omega, by omega, HM⟩
        case measure => simp [intOf]; omega
    · have hcase : (¬ (k : Int) < (l.length : Int)) ∨ ((k : Int) < (l.length : Int) ∧ ¬ (k : Int) < 20) := by omega
      by_cases hb : 16 < l.length
      · have hb' : (16 : Int) < (l.length : Int) := by omega
        have HM := Lib.hid (YES.out (.inl hb))
        clear hlt
        rcases hcase with hc | ⟨hc, hc2⟩
        · go_wp2
          go_returns
          exact ⟨ret_b HM.out.symm, rfl⟩
        · go_wp2
          go_returns
          exact ⟨ret_b HM.out.symm, rfl⟩
      · have hb' : ¬ (16 : Int) < (l.length : Int) := by omega
        have HM := Lib.hid (NO.out (by
          rintro (x | ⟨s, hs, x⟩)
          · exact hb x
          · have := hN.out s (by
              rw [show k = l.length by omega, List.take_length]
              exact List.mem_of_mem_take hs)
            omega))
        clear hlt
        rcases hcase with hc | ⟨hc, hc2⟩
        · go_wp2
          go_returns
          exact ⟨ret_b HM.out.symm, rfl⟩
        · go_wp2
          go_returns
          exact ⟨ret_b HM.out.symm, rfl⟩
/-- Cut at each slash. -/
theorem index_in : ∀ (p r : List UInt8), (∀ x ∈ p, x ≠ 47) → Lib.index (p ++ 47 :: r) [47] = p.length
  | [], r, _ => by
    show (if [47].isPrefixOf (47 :: r) then (0 : Int) else _) = _
    rw [if_pos (by simp [List.isPrefixOf])]
    rfl
  | b :: l, r, h => by
    have ih := index_in l r (fun x hx => h x (List.mem_cons_of_mem _ hx))
    have hb := h b (List.mem_cons_self ..)
    show (if [47].isPrefixOf (b :: (l ++ 47 :: r)) then (0 : Int) else if Lib.index (l ++ 47 :: r) [47] == -1 then -1 else Lib.index (l ++ 47 :: r) [47] + 1) = _
    rw [if_neg (by simp [List.isPrefixOf, Ne.symm hb]), ih, if_neg (by simp)]
    simp
theorem split_join : ∀ (p : List UInt8) (r : List (List UInt8)), (∀ q ∈ p :: r, ∀ x ∈ q, x ≠ 47) → Lib.splitK [47] 0 (Lib.count (Lib.join (p :: r) [47]) [47]) (Lib.join (p :: r) [47]) = p :: r
  | p, [], h => by
    have hp := h p (List.mem_cons_self ..)
    rw [Lib.join_one, Lib.count_one, List.count_eq_zero_of_not_mem (fun q => hp 47 q rfl)]
    rfl
  | p, q :: r, h => by
    have hp := h p (List.mem_cons_self ..)
    have ih := split_join q r (fun y hy => h y (List.mem_cons_of_mem _ hy))
    have e : Lib.join (p :: q :: r) [47] = p ++ 47 :: Lib.join (q :: r) [47] := by
      rw [Lib.join_cons, Lib.join_cons]
      unfold Lib.joinTail
      simp
    rw [e, Lib.count_one, List.count_append, List.count_eq_zero_of_not_mem (fun y => hp 47 y rfl), List.count_cons_self, Nat.zero_add, ← Lib.count_one]
    show (if Lib.index (p ++ 47 :: Lib.join (q :: r) [47]) [47] == -1 then _ else _) = _
    rw [index_in p _ hp, if_neg (by simp)]
    show (p ++ 47 :: Lib.join (q :: r) [47]).take (p.length + 0) :: Lib.splitK [47] 0 _ ((p ++ 47 :: Lib.join (q :: r) [47]).drop (p.length + 1)) = _
    rw [Nat.add_zero, List.take_left, show (p ++ 47 :: Lib.join (q :: r) [47]).drop (p.length + 1) = Lib.join (q :: r) [47] from by rw [← List.drop_drop, List.drop_left]; rfl, ih]
end Go.Proofs.YtgiiddcjepjgcaaDoor
